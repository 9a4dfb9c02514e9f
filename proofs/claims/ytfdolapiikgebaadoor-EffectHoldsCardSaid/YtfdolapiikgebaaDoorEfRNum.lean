/- What the reference says of numbers. -/
import Derived.Test.YtfdolapiikgebaaDoorEfAll
import Derived.Deep.QuietTactic
import Derived.BigQuiet
namespace Go.Proofs.YtfdolapiikgebaaDoor.efFn
open Go.ChangeShapes Go.WideShapes Go.ChangeAt Go.RowKit drMem
set_option linter.unusedVariables false

theorem dN {B : Nat} {a b : World} (h : Below B a b) (n : Nat) : Below B a (b.drewN n) := h.trans ⟨rfl, rfl, rfl, Nat.le_refl _, fun _ _ => rfl⟩
set_option maxRecDepth 100000 in
set_option maxHeartbeats 4000000 in
theorem rnum_1 (t n m k : Int) (w : World) :
    Calls Tryd.prog 33 #[eV 1 t n m k] w fun e w' => e = .returned (.bool (okN 1 n m k)) ∧ Below w.heap.size w w' := by
  cases hm : (m == 0) <;> cases hk : (k == 0)
  all_goals
    have jm := hm
    have jk := hk
    simp only [beq_iff_eq, beq_eq_false_iff_ne] at jm jk
    go_enter Tryd.func33, Tryd.ntmps33
    go_wp2
    go_quiet (fail)
    go_wp2
    all_goals (go_ret; exact ⟨ret_bool (by first | exact (decide_eq_true (by omega)).symm | exact (decide_eq_false (by omega)).symm), dN (by go_grown) _⟩)
set_option maxRecDepth 100000 in
set_option maxHeartbeats 4000000 in
theorem rnum_2 (t n m k : Int) (w : World) :
    Calls Tryd.prog 33 #[eV 2 t n m k] w fun e w' => e = .returned (.bool (okN 2 n m k)) ∧ Below w.heap.size w w' := by
  cases hm : (m == 0) <;> cases hk : (k == 0)
  all_goals
    have jm := hm
    have jk := hk
    simp only [beq_iff_eq, beq_eq_false_iff_ne] at jm jk
    go_enter Tryd.func33, Tryd.ntmps33
    go_wp2
    go_quiet (fail)
    go_wp2
    all_goals (go_ret; exact ⟨ret_bool (by first | exact (decide_eq_true (by omega)).symm | exact (decide_eq_false (by omega)).symm), dN (by go_grown) _⟩)
set_option maxRecDepth 100000 in
set_option maxHeartbeats 4000000 in
theorem rnum_3 (t n m k : Int) (w : World) :
    Calls Tryd.prog 33 #[eV 3 t n m k] w fun e w' => e = .returned (.bool (okN 3 n m k)) ∧ Below w.heap.size w w' := by
  cases hm : (m == 0) <;> cases hk : (k == 0)
  all_goals
    have jm := hm
    have jk := hk
    simp only [beq_iff_eq, beq_eq_false_iff_ne] at jm jk
    go_enter Tryd.func33, Tryd.ntmps33
    go_wp2
    go_quiet (fail)
    go_wp2
    all_goals (go_ret; exact ⟨ret_bool (by first | exact (decide_eq_true (by omega)).symm | exact (decide_eq_false (by omega)).symm), dN (by go_grown) _⟩)
set_option maxRecDepth 100000 in
set_option maxHeartbeats 4000000 in
theorem rnum_4 (t n m k : Int) (w : World) :
    Calls Tryd.prog 33 #[eV 4 t n m k] w fun e w' => e = .returned (.bool (okN 4 n m k)) ∧ Below w.heap.size w w' := by
  cases hm : (m == 0) <;> cases hk : (k == 0)
  all_goals
    have jm := hm
    have jk := hk
    simp only [beq_iff_eq, beq_eq_false_iff_ne] at jm jk
    go_enter Tryd.func33, Tryd.ntmps33
    go_wp2
    go_quiet (fail)
    go_wp2
    all_goals (go_ret; exact ⟨ret_bool (by first | exact (decide_eq_true (by omega)).symm | exact (decide_eq_false (by omega)).symm), dN (by go_grown) _⟩)
set_option maxRecDepth 100000 in
set_option maxHeartbeats 4000000 in
theorem rnum_5 (t n m k : Int) (w : World) :
    Calls Tryd.prog 33 #[eV 5 t n m k] w fun e w' => e = .returned (.bool (okN 5 n m k)) ∧ Below w.heap.size w w' := by
  cases hn : (n == 0) <;> cases hm : (m == 0) <;> cases hk : (k == 0)
  all_goals
    have jn := hn
    have jm := hm
    have jk := hk
    simp only [beq_iff_eq, beq_eq_false_iff_ne] at jn jm jk
    go_enter Tryd.func33, Tryd.ntmps33
    go_wp2
    go_quiet (fail)
    go_wp2
    all_goals (go_ret; exact ⟨ret_bool (by first | exact (decide_eq_true (by omega)).symm | exact (decide_eq_false (by omega)).symm), dN (by go_grown) _⟩)
set_option maxRecDepth 100000 in
set_option maxHeartbeats 4000000 in
theorem rnum_6 (t n m k : Int) (w : World) :
    Calls Tryd.prog 33 #[eV 6 t n m k] w fun e w' => e = .returned (.bool (okN 6 n m k)) ∧ Below w.heap.size w w' := by
  cases hn : (n == 0) <;> cases hm : (m == 0) <;> cases hk : (k == 0)
  all_goals
    have jn := hn
    have jm := hm
    have jk := hk
    simp only [beq_iff_eq, beq_eq_false_iff_ne] at jn jm jk
    go_enter Tryd.func33, Tryd.ntmps33
    go_wp2
    go_quiet (fail)
    go_wp2
    all_goals (go_ret; exact ⟨ret_bool (by first | exact (decide_eq_true (by omega)).symm | exact (decide_eq_false (by omega)).symm), dN (by go_grown) _⟩)
end Go.Proofs.YtfdolapiikgebaaDoor.efFn
