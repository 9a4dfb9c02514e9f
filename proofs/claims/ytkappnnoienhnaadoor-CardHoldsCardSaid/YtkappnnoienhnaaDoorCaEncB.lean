/- The bytes of a card: what Encode returns. -/
import Derived.Test.YtkappnnoienhnaaDoorCaBytes
namespace Go.Proofs.YtkappnnoienhnaaDoor.caFn
open Go.ChangeShapes Go.WideShapes Go.ChangeAt Go.RowKit drMem efFn
set_option linter.unusedVariables false

def encPostC (l : List UInt8) (w : World) (e : Ending) (w' : World) : Prop := ∃ sp n cap, e = .returned (.tuple #[.slice sp n cap, .int .i64 0]) ∧ BsAt w' sp n l ∧ n ≤ cap ∧ Below w.heap.size w w'
def byPost (l : List UInt8) (w : World) (e : Ending) (w' : World) : Prop := ∃ b off n cap, e = .returned (.slice (some ⟨b, off, none⟩) n cap) ∧ l.length = n ∧ b < w'.heap.size ∧ (∀ j u, (bys l)[j]? = some u → w'.cell? ⟨b, off + j, none⟩ = some u) ∧ Below w.heap.size w w'
theorem effectBytes_any (sp : Option Addr) (n cap : Nat) (l : List Ef) (w : World) (h : EfsAt w sp n l) (ha : allB l = true) :
    Calls Tryd.prog 30 #[.slice sp n cap] w (byPost (encB l) w) := by
  have HE := Encode_yes sp n cap l w h ha
  go_enter Tryd.func30, Tryd.ntmps30
  go_wp2_with fail
  refine HE.mono ?_; rintro e w1 ⟨sp, n', cap', rfl, hB, hb1⟩
  have HX := Lib.hid hB
  have HB := Lib.hid hb1
  clear hB hb1
  go_wp2_with fail
  go_ret
  obtain ⟨b, off, rfl, hl, hc⟩ := HX.out.c (by rw [bys_len, encB_len]; omega)
  exact ⟨b, off, n', cap', rfl, HX.out.n, hl, hc, HB.out⟩
set_option maxRecDepth 100000 in
theorem Encode_no (s : ByteArray) (kd a b c d x m p t k : Int) (es : Option Addr) (en ec : Nat) (ts : Option Addr) (tn tc : Nat) (r : Int) (e : List Ef) (l : List Tr) (w : World) (h : CdAt w es en e ts tn l) (htc : tn ≤ tc) (ho : okCd ⟨s.data.toList, kd, a, b, c, d, x, m, p, t, k, e, l, r⟩ = false) :
    Calls Tryd.prog 13 #[cV s kd a b c d x m p t k es en ec ts tn tc r] w fun v w' => v = .returned (.tuple #[.slice none 0 0, .int .i64 2]) ∧ Below w.heap.size w w' := by
  have B0 : Below w.heap.size w (w.alloc (.cells #[.string s, .int .i64 kd, .int .i64 a, .int .i64 b, .int .i64 c, .int .i64 d, .int .i64 x, .int .i64 m, .int .i64 p, .int .i64 t, .int .i64 k, .slice es en ec, .slice ts tn tc, .int .i64 r] 34)) := (Below.refl _ _).alloc (Nat.le_refl _) _
  have HV := ValidV_any s kd a b c d x m p t k es en ec ts tn tc r e l _ (h.below B0 (Nat.le_refl _)) htc
  rw [ho] at HV
  have HB0 := Lib.hid B0
  clear h B0
  go_enter Tryd.func13, Tryd.ntmps13
  go_wp2_with fail
  refine HV.mono ?_; rintro v w1 ⟨rfl, hb⟩
  have HB1 := Lib.hid (next HB0.out hb)
  clear hb
  go_wp2_with fail
  go_ret2
  exact ⟨rfl, HB1.out⟩

end Go.Proofs.YtkappnnoienhnaaDoor.caFn
