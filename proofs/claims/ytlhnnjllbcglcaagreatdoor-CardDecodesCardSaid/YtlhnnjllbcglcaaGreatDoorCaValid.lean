/- Which cards are valid. -/
import Derived.Test.YtlhnnjllbcglcaaGreatDoorCaEqual
import Derived.Deep.RegionWith
namespace Go.Proofs.YtlhnnjllbcglcaaGreatDoor.caFn
open Go.ChangeShapes Go.WideShapes Go.ChangeAt Go.RowKit drMem efFn
set_option linter.unusedVariables false

theorem str_beq (s t : ByteArray) : (s.toList == t.toList) = decide (s.data.toList = t.data.toList) := by
  rw [Bool.eq_iff_iff, ByteArray.toList_eq, ByteArray.toList_eq]
  simp
theorem str_same (s : ByteArray) : (s.toList == s.toList) = true := by simp
theorem EfsAt.zero (w : World) (sp : Option Addr) : EfsAt w sp 0 [] := EfsAt.nil w sp

/- the empty card but for some of its parts, as Equal compares it -/
def srcV (kd a b c d x ml pw tg kw : Int) (ef : List Ef) (tr : List Tr) : Bool :=
  maFn.eq5 a b c d x 0 0 0 0 0 && ((pw == 0) && ((tg == 0) && ((kw == 0) && (sameB ef [] && sameT tr []))))
set_option maxRecDepth 100000 in
set_option maxHeartbeats 4000000 in
theorem validSource_any (s : ByteArray) (kd a b c d x m p t k : Int) (es : Option Addr) (en ec : Nat) (ts : Option Addr) (tn tc : Nat) (r : Int) (e : List Ef) (l : List Tr) (w : World) (h : CdAt w es en e ts tn l) :
    Calls Tryz.prog 43 #[cV s kd a b c d x m p t k es en ec ts tn tc r] w fun v w' => v = .returned (.bool (srcB ⟨s.data.toList, kd, a, b, c, d, x, m, p, t, k, e, l, r⟩)) ∧ Below w.heap.size w w' := by
  have er : srcB ⟨s.data.toList, kd, a, b, c, d, x, m, p, t, k, e, l, r⟩ = (maFn.okN 3 m && (maFn.eq5 a b c d x 0 0 0 0 0 && ((p == 0) && ((t == 0) && ((k == 0) && (sameB e [] && sameT l [])))))) := rfl
  rw [er]
  clear er
  have B0 : Below w.heap.size w (w.alloc (.cells #[.string s, .int .i64 kd, .int .i64 a, .int .i64 b, .int .i64 c, .int .i64 d, .int .i64 x, .int .i64 m, .int .i64 p, .int .i64 t, .int .i64 k, .slice es en ec, .slice ts tn tc, .int .i64 r] 32)) := (Below.refl _ _).alloc (Nat.le_refl _) _
  have HQ := EqualV_any s kd a b c d x m p t k es en ec ts tn tc r e l s kd 0 0 0 0 0 m 0 0 0 none 0 0 none 0 0 r [] [] _ (h.below B0 (Nat.le_refl _)) ⟨EfsAt.nil _ _, TrsAt.nil _ _⟩
  rw [str_same, beq_self_eq_true, beq_self_eq_true, beq_self_eq_true] at HQ
  simp only [Bool.true_and] at HQ
  have HB0 := Lib.hid B0
  clear h B0
  generalize (maFn.eq5 a b c d x 0 0 0 0 0 && ((p == 0) && ((t == 0) && ((k == 0) && (sameB e [] && sameT l []))))) = z at *
  cases hk : maFn.okN 3 m
  · have HL := maFn.Letter_no m (w.alloc (.cells #[.string s, .int .i64 kd, .int .i64 a, .int .i64 b, .int .i64 c, .int .i64 d, .int .i64 x, .int .i64 m, .int .i64 p, .int .i64 t, .int .i64 k, .slice es en ec, .slice ts tn tc, .int .i64 r] 32)) hk
    go_enter Tryz.func43, Tryz.ntmps43
    go_wp2_with fail
    refine HL.mono ?_; rintro v w1 ⟨rfl, rfl⟩
    go_wp2_with fail
    go_ret
    exact ⟨rfl, HB0.out⟩
  · have HL := maFn.Letter_yes m (w.alloc (.cells #[.string s, .int .i64 kd, .int .i64 a, .int .i64 b, .int .i64 c, .int .i64 d, .int .i64 x, .int .i64 m, .int .i64 p, .int .i64 t, .int .i64 k, .slice es en ec, .slice ts tn tc, .int .i64 r] 32)) hk
    go_enter Tryz.func43, Tryz.ntmps43
    go_wp2_with fail
    refine HL.mono ?_; rintro v w1 ⟨rfl, rfl⟩
    go_wp2_with fail
    refine HQ.mono ?_; rintro v w2 ⟨rfl, hb2⟩
    have HB2 := Lib.hid (next HB0.out hb2)
    clear hb2
    go_wp2_with fail
    go_ret
    exact ⟨rfl, HB2.out⟩
end Go.Proofs.YtlhnnjllbcglcaaGreatDoor.caFn
