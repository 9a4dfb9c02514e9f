/- The kind of a card, as text. -/
import Derived.Test.YtkappnnoienhnaaDoorCaLineM
namespace Go.Proofs.YtkappnnoienhnaaDoor.caFn
open Go.ChangeShapes Go.WideShapes Go.ChangeAt Go.RowKit drMem efFn
set_option linter.unusedVariables false

def kdS (kd m : Int) (co : List UInt8) : List UInt8 :=
  if kd = 1 then [115, 111, 117, 114, 99, 101, 32, 111, 102, 32] ++ letT m else
  (if kd = 2 then [99, 114, 101, 97, 116, 117, 114, 101, 32] else if kd = 3 then [115, 112, 101, 108, 108, 32] else [116, 114, 105, 99, 107, 32]) ++ co
theorem letT_len (k : Int) : (letT k).length ≤ 1 := by unfold letT; (repeat' split) <;> decide
theorem bs_cat (a : ByteArray) (x b : List UInt8) (h : a = bs x) : a ++ bs b = bs (x ++ b) := by rw [h, bs_app]
set_option maxRecDepth 100000 in
set_option maxHeartbeats 4000000 in
theorem kindText_any (s : ByteArray) (kd m p t k : Int) (ka kb kc kdd kx : Nat) (es : Option Addr) (en ec : Nat) (ts : Option Addr) (tn tc : Nat) (r : Int) (w : World) (hc : maFn.okC ka kb kc kdd kx = true) (hm : kd = 1 → maFn.okN 3 m = true) :
    Calls Tryd.prog 31 #[cV s kd (ka : Nat) (kb : Nat) (kc : Nat) (kdd : Nat) (kx : Nat) m p t k es en ec ts tn tc r] w fun v w' => v = .returned (.string (bs (kdS kd m (maFn.textL ka kb kc kdd kx)))) ∧ Below w.heap.size w w' := by
  have HM0 := Lib.hid (new0 w 34 (cL s kd (ka : Nat) (kb : Nat) (kc : Nat) (kdd : Nat) (kx : Nat) m p t k es en ec ts tn tc r))
  have B0 : Below w.heap.size w (w.alloc (.cells #[.string s, .int .i64 kd, .int .i64 (ka : Nat), .int .i64 (kb : Nat), .int .i64 (kc : Nat), .int .i64 (kdd : Nat), .int .i64 (kx : Nat), .int .i64 m, .int .i64 p, .int .i64 t, .int .i64 k, .slice es en ec, .slice ts tn tc, .int .i64 r] 34)) := (Below.refl _ _).alloc (Nat.le_refl _) _
  have HB0 := Lib.hid B0
  have HT := maFn.Text_yes ka kb kc kdd kx (w.alloc (.cells #[.string s, .int .i64 kd, .int .i64 (ka : Nat), .int .i64 (kb : Nat), .int .i64 (kc : Nat), .int .i64 (kdd : Nat), .int .i64 (kx : Nat), .int .i64 m, .int .i64 p, .int .i64 t, .int .i64 k, .slice es en ec, .slice ts tn tc, .int .i64 r] 34)) hc
  have hco : (maFn.textL ka kb kc kdd kx).length ≤ 82 := by have := costT_len (q := ⟨[], 0, ka, kb, kc, kdd, kx, 0, 0, 0, 0, [], [], 0⟩) hc; simpa [costT] using this
  generalize maFn.textL ka kb kc kdd kx = co at *
  have hcs : (bs co).size ≤ 82 := by rw [bs_size]; exact hco
  rw [show maFn.bs co = bs co from rfl] at HT
  clear hc B0 hco
  go_enter Tryd.func31, Tryd.ntmps31
  go_wp2_with fail
  refine HT.mono ?_; rintro v w1 ⟨rfl, hb⟩
  have HM1 := Lib.hid (HM0.out.below hb HM0.out.lt)
  have HB1 := Lib.hid (next HB0.out hb)
  clear hb
  obtain ⟨-, u1, -, -, -, -, -, u7, -, -, -, -, -, -, -⟩ := card14 HM1.out
  by_cases k1 : kd = 1
  · have HL := maFn.Letter_yes m w1 (hm k1)
    have c1 := maFn.cat_run ⟨#[115, 111, 117, 114, 99, 101, 32, 111, 102, 32]⟩ (bs (letT m)) (by rw [bs_size]; have := letT_len m; simp [ByteArray.size]; omega)
    have HK : Hid (kdS kd m co = [115, 111, 117, 114, 99, 101, 32, 111, 102, 32] ++ letT m) := Lib.hid (if_pos k1)
    rw [letT_eq] at HL
    subst k1
    go_wp2_with fail
    refine HL.mono ?_; rintro v w2 ⟨rfl, hw⟩
    subst hw
    go_wp2_with fail
    go_ret
    exact ⟨by rw [HK.out, ← bs_app]; rfl, HB1.out⟩
  · by_cases k2 : kd = 2
    · have c1 := maFn.cat_run ⟨#[99, 114, 101, 97, 116, 117, 114, 101, 32]⟩ (bs co) (Nat.le_trans (Nat.add_le_add (show ByteArray.size _ ≤ 10 by decide) hcs) (by decide))
      have HK : Hid (kdS kd m co = [99, 114, 101, 97, 116, 117, 114, 101, 32] ++ co) := Lib.hid (by unfold kdS; rw [if_neg k1, if_pos k2])
      subst k2
      go_wp2_with fail
      go_ret
      exact ⟨by rw [HK.out, ← bs_app]; rfl, HB1.out⟩
    · by_cases k3 : kd = 3
      · have c1 := maFn.cat_run ⟨#[115, 112, 101, 108, 108, 32]⟩ (bs co) (Nat.le_trans (Nat.add_le_add (show ByteArray.size _ ≤ 10 by decide) hcs) (by decide))
        have HK : Hid (kdS kd m co = [115, 112, 101, 108, 108, 32] ++ co) := Lib.hid (by unfold kdS; rw [if_neg k1, if_neg k2, if_pos k3])
        subst k3
        go_wp2_with fail
        go_ret
        exact ⟨by rw [HK.out, ← bs_app]; rfl, HB1.out⟩
      · have c1 := maFn.cat_run ⟨#[116, 114, 105, 99, 107, 32]⟩ (bs co) (Nat.le_trans (Nat.add_le_add (show ByteArray.size _ ≤ 10 by decide) hcs) (by decide))
        have HK : Hid (kdS kd m co = [116, 114, 105, 99, 107, 32] ++ co) := Lib.hid (by unfold kdS; rw [if_neg k1, if_neg k2, if_neg k3])
        have e1 : (kd == 1) = false := by rw [beq_eq_false_iff_ne]; exact k1
        have e2 : (kd == 2) = false := by rw [beq_eq_false_iff_ne]; exact k2
        have e3 : (kd == 3) = false := by rw [beq_eq_false_iff_ne]; exact k3
        go_wp2_with fail
        go_ret
        exact ⟨by rw [HK.out, ← bs_app]; rfl, HB1.out⟩
end Go.Proofs.YtkappnnoienhnaaDoor.caFn
