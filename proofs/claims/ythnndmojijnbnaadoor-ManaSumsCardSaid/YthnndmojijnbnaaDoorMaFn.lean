/- What the functions of package mana that only look return: which numbers are pools and costs, sums, the colour of which there is most. -/
import Derived.Test.YthnndmojijnbnaaDoorMaSat
import Derived.Outline
import Derived.Deep.RegionHeld3
namespace Go.Proofs.YthnndmojijnbnaaDoor.maFn
open Go.ChangeShapes Go.WideShapes Go.ChangeAt Go.RowKit
set_option linter.unusedVariables false
def okN (k x : Int) : Bool := decide (0 ≤ x ∧ x ≤ k)
def okM (k a b c d : Int) : Bool := okN k a && okN k b && okN k c && okN k d
def okC (a b c d x : Int) : Bool := okM 20 a b c d && okN 20 x
theorem okN_iff (k x : Int) : okN k x = true ↔ 0 ≤ x ∧ x ≤ k := by simp [okN]
theorem okM_iff (k a b c d : Int) : okM k a b c d = true ↔ (0 ≤ a ∧ a ≤ k) ∧ (0 ≤ b ∧ b ≤ k) ∧ (0 ≤ c ∧ c ≤ k) ∧ (0 ≤ d ∧ d ≤ k) := by simp [okM, okN_iff, and_assoc]
theorem okC_iff (a b c d x : Int) : okC a b c d x = true ↔ ((0 ≤ a ∧ a ≤ 20) ∧ (0 ≤ b ∧ b ≤ 20) ∧ (0 ≤ c ∧ c ≤ 20) ∧ (0 ≤ d ∧ d ≤ 20)) ∧ (0 ≤ x ∧ x ≤ 20) := by simp [okC, okN_iff, okM_iff]
theorem bcell {W w1 : World} (hb : Below W.heap.size W w1) : (∀ b o, b < W.heap.size → w1.cell? ⟨b, o, none⟩ = W.cell? ⟨b, o, none⟩) ∧ (∀ b o, b < W.heap.size → w1.frozen? ⟨b, o, none⟩ = W.frozen? ⟨b, o, none⟩) :=
  ⟨fun b o h => hb.cell (p := ⟨b, o, none⟩) h, fun b o h => hb.frozen (p := ⟨b, o, none⟩) h⟩

theorem ix0 (a b c d : Int) : ∀ w, (Instr.index 23 (.agg #[.int .i64 a, .int .i64 b, .int .i64 c, .int .i64 d]) (.int .i64 0)).run Tryd.prog w = .ok (.int .i64 a) w := fun _ => by kernel_rfl
theorem ix1 (a b c d : Int) : ∀ w, (Instr.index 23 (.agg #[.int .i64 a, .int .i64 b, .int .i64 c, .int .i64 d]) (.int .i64 1)).run Tryd.prog w = .ok (.int .i64 b) w := fun _ => by kernel_rfl
theorem ix2 (a b c d : Int) : ∀ w, (Instr.index 23 (.agg #[.int .i64 a, .int .i64 b, .int .i64 c, .int .i64 d]) (.int .i64 2)).run Tryd.prog w = .ok (.int .i64 c) w := fun _ => by kernel_rfl
theorem ix3 (a b c d : Int) : ∀ w, (Instr.index 23 (.agg #[.int .i64 a, .int .i64 b, .int .i64 c, .int .i64 d]) (.int .i64 3)).run Tryd.prog w = .ok (.int .i64 d) w := fun _ => by kernel_rfl

set_option maxRecDepth 100000 in
set_option maxHeartbeats 1000000 in
theorem within_any (a b c d k : Int) (w : World) :
    Calls Tryd.prog 30 #[.agg #[.int .i64 a, .int .i64 b, .int .i64 c, .int .i64 d], .int .i64 k] w fun e w' => e = .returned (.bool (okM k a b c d)) ∧ Below w.heap.size w w' := by
  have i0 := ix0 a b c d; have i1 := ix1 a b c d; have i2 := ix2 a b c d; have i3 := ix3 a b c d
  go_enter Tryd.func30, Tryd.ntmps30
  go_wp2
  go_rounds 5
  all_goals (go_ret; refine ⟨ret_bool (by unfold okM okN; simp [*] <;> omega), (Below.refl _ _).alloc (Nat.le_refl _) _⟩)

theorem Valid_any (a b c d : Int) (w : World) :
    Calls Tryd.prog 12 #[.agg #[.int .i64 a, .int .i64 b, .int .i64 c, .int .i64 d]] w fun e w' => e = .returned (.bool (okM 99 a b c d)) ∧ Below w.heap.size w w' := by
  go_enter Tryd.func12, Tryd.ntmps12
  go_wp2_with (go_at_call 30; refine (within_any _ _ _ _ _ _).mono ?_; rintro e w1 ⟨rfl, hb⟩)
  go_ret
  exact ⟨rfl, ((Below.refl _ _).alloc (Nat.le_refl _) _).trans (hb.mono (by simp))⟩

theorem sum_any (a b c d : Int) (w : World) (h : okM 99 a b c d = true) :
    Calls Tryd.prog 31 #[.agg #[.int .i64 a, .int .i64 b, .int .i64 c, .int .i64 d]] w fun e w' => e = .returned (.int .i64 (a + b + c + d)) ∧ Below w.heap.size w w' := by
  obtain ⟨⟨a0, a1⟩, ⟨b0, b1⟩, ⟨c0, c1⟩, ⟨d0, d1⟩⟩ := (okM_iff _ _ _ _ _).1 h
  clear h
  have i0 := ix0 a b c d; have i1 := ix1 a b c d; have i2 := ix2 a b c d; have i3 := ix3 a b c d
  go_enter Tryd.func31, Tryd.ntmps31
  go_wp2
  go_rounds 5
  all_goals (go_ret; refine ⟨ret_int (by omega), (Below.refl _ _).alloc (Nat.le_refl _) _⟩)

theorem isColour_any (c : Int) (w : World) :
    Calls Tryd.prog 35 #[.int .i64 c] w fun e w' => e = .returned (.bool (okN 3 c)) ∧ w = w' := by
  go_enter Tryd.func35, Tryd.ntmps35
  go_wp2
  all_goals (go_ret; refine ⟨ret_bool (by unfold okN; simp [*] <;> omega), rfl⟩)

/- the colour of which there is most, the lowest one of several -/
def gt (a b c d : Int) : Nat := if b ≤ a ∧ c ≤ a ∧ d ≤ a then 0 else if c ≤ b ∧ d ≤ b then 1 else if d ≤ c then 2 else 3

end Go.Proofs.YthnndmojijnbnaaDoor.maFn
