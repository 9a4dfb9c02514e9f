/- What the reference says of numbers. -/
import Derived.Test.YtfdolapiikgebaaDoorEfRNum
import Derived.Deep.QuietTactic
import Derived.BigQuiet
namespace Go.Proofs.YtfdolapiikgebaaDoor.efFn
open Go.ChangeShapes Go.WideShapes Go.ChangeAt Go.RowKit drMem
set_option linter.unusedVariables false

set_option maxRecDepth 100000 in
set_option maxHeartbeats 4000000 in
theorem rnum_7 (t n m k : Int) (w : World) :
    Calls Tryd.prog 33 #[eV 7 t n m k] w fun e w' => e = .returned (.bool (okN 7 n m k)) ∧ Below w.heap.size w w' := by
  cases hn : (n == 0) <;> cases hm : (m == 0) <;> cases hk : (k == 0)
  all_goals
    have jn := hn
    have jm := hm
    have jk := hk
    simp only [beq_iff_eq, beq_eq_false_iff_ne] at jn jm jk
    go_enter Tryd.func33, Tryd.ntmps33
    go_wp2
    go_quiet (fail)
    go_wp2
    all_goals (go_ret; exact ⟨ret_bool (by first | exact (decide_eq_true (by omega)).symm | exact (decide_eq_false (by omega)).symm | exact decide_eq_decide.2 (by omega)), dN (by go_grown) _⟩)
set_option maxRecDepth 100000 in
set_option maxHeartbeats 4000000 in
theorem rnum_8 (t n m k : Int) (w : World) :
    Calls Tryd.prog 33 #[eV 8 t n m k] w fun e w' => e = .returned (.bool (okN 8 n m k)) ∧ Below w.heap.size w w' := by
  cases hk : (k == 0)
  all_goals
    have jk := hk
    simp only [beq_iff_eq, beq_eq_false_iff_ne] at jk
    go_enter Tryd.func33, Tryd.ntmps33
    go_wp2
    go_quiet (fail)
    go_wp2
    all_goals (go_ret; exact ⟨ret_bool (by first | exact (decide_eq_true (by omega)).symm | exact (decide_eq_false (by omega)).symm | exact decide_eq_decide.2 (by omega)), dN (by go_grown) _⟩)
set_option maxRecDepth 100000 in
set_option maxHeartbeats 4000000 in
theorem rnum_9 (t n m k : Int) (w : World) :
    Calls Tryd.prog 33 #[eV 9 t n m k] w fun e w' => e = .returned (.bool (okN 9 n m k)) ∧ Below w.heap.size w w' := by
  cases hm : (m == 0) <;> cases hk : (k == 0)
  all_goals
    have jm := hm
    have jk := hk
    simp only [beq_iff_eq, beq_eq_false_iff_ne] at jm jk
    go_enter Tryd.func33, Tryd.ntmps33
    go_wp2
    go_quiet (fail)
    go_wp2
    all_goals (go_ret; exact ⟨ret_bool (by first | exact (decide_eq_true (by omega)).symm | exact (decide_eq_false (by omega)).symm | exact decide_eq_decide.2 (by omega)), dN (by go_grown) _⟩)
set_option maxRecDepth 100000 in
set_option maxHeartbeats 4000000 in
theorem rnum_10 (t n m k : Int) (w : World) :
    Calls Tryd.prog 33 #[eV 10 t n m k] w fun e w' => e = .returned (.bool (okN 10 n m k)) ∧ Below w.heap.size w w' := by
  cases hk : (k == 0)
  all_goals
    have jk := hk
    simp only [beq_iff_eq, beq_eq_false_iff_ne] at jk
    go_enter Tryd.func33, Tryd.ntmps33
    go_wp2
    go_quiet (fail)
    go_wp2
    all_goals (go_ret; exact ⟨ret_bool (by first | exact (decide_eq_true (by omega)).symm | exact (decide_eq_false (by omega)).symm | exact decide_eq_decide.2 (by omega)), dN (by go_grown) _⟩)
set_option maxRecDepth 100000 in
set_option maxHeartbeats 4000000 in
theorem rnum_11 (t n m k : Int) (w : World) :
    Calls Tryd.prog 33 #[eV 11 t n m k] w fun e w' => e = .returned (.bool (okN 11 n m k)) ∧ Below w.heap.size w w' := by
  cases hn : (n == 0) <;> cases hm : (m == 0) <;> cases hk : (k == 0)
  all_goals
    have jn := hn
    have jm := hm
    have jk := hk
    simp only [beq_iff_eq, beq_eq_false_iff_ne] at jn jm jk
    go_enter Tryd.func33, Tryd.ntmps33
    go_wp2
    go_quiet (fail)
    go_wp2
    all_goals (go_ret; exact ⟨ret_bool (by first | exact (decide_eq_true (by omega)).symm | exact (decide_eq_false (by omega)).symm | exact decide_eq_decide.2 (by omega)), dN (by go_grown) _⟩)
set_option maxRecDepth 100000 in
set_option maxHeartbeats 4000000 in
theorem rnum_12 (t n m k : Int) (w : World) :
    Calls Tryd.prog 33 #[eV 12 t n m k] w fun e w' => e = .returned (.bool (okN 12 n m k)) ∧ Below w.heap.size w w' := by
  cases hm : (m == 0)
  all_goals
    have jm := hm
    simp only [beq_iff_eq, beq_eq_false_iff_ne] at jm
    go_enter Tryd.func33, Tryd.ntmps33
    go_wp2
    go_quiet (fail)
    go_wp2
    all_goals (go_ret; exact ⟨ret_bool (by first | exact (decide_eq_true (by omega)).symm | exact (decide_eq_false (by omega)).symm | exact decide_eq_decide.2 (by omega)), dN (by go_grown) _⟩)
set_option maxRecDepth 100000 in
set_option maxHeartbeats 4000000 in
theorem rnum_no (c t n m k : Int) (h : ¬ (1 ≤ c ∧ c ≤ 12)) (w : World) :
    Calls Tryd.prog 33 #[eV c t n m k] w fun e w' => e = .returned (.bool (okN c n m k)) ∧ Below w.heap.size w w' := by
  have he : okN c n m k = decide (n = 0 ∧ m = 0 ∧ k = 0) := by
    unfold okN
    rw [if_neg (by omega), if_neg (by omega), if_neg (by omega), if_neg (by omega), if_neg (by omega), if_neg (by omega)]
  rw [he]
  clear he
  have n1 : (c == 1) = false := by rw [beq_eq_false_iff_ne]; omega
  have n2 : (c == 2) = false := by rw [beq_eq_false_iff_ne]; omega
  have n3 : (c == 3) = false := by rw [beq_eq_false_iff_ne]; omega
  have n4 : (c == 4) = false := by rw [beq_eq_false_iff_ne]; omega
  have n5 : (c == 5) = false := by rw [beq_eq_false_iff_ne]; omega
  have n6 : (c == 6) = false := by rw [beq_eq_false_iff_ne]; omega
  have n7 : (c == 7) = false := by rw [beq_eq_false_iff_ne]; omega
  have n8 : (c == 8) = false := by rw [beq_eq_false_iff_ne]; omega
  have n9 : (c == 9) = false := by rw [beq_eq_false_iff_ne]; omega
  have n10 : (c == 10) = false := by rw [beq_eq_false_iff_ne]; omega
  have n11 : (c == 11) = false := by rw [beq_eq_false_iff_ne]; omega
  have n12 : (c == 12) = false := by rw [beq_eq_false_iff_ne]; omega
  clear h
  cases hn : (n == 0) <;> cases hm : (m == 0) <;> cases hk : (k == 0)
  all_goals
    have jn := hn
    have jm := hm
    have jk := hk
    simp only [beq_iff_eq, beq_eq_false_iff_ne] at jn jm jk
    go_enter Tryd.func33, Tryd.ntmps33
    go_wp2
    go_quiet (fail)
    go_wp2
    all_goals (go_ret; exact ⟨ret_bool (by first | exact (decide_eq_true (by omega)).symm | exact (decide_eq_false (by omega)).symm | exact decide_eq_decide.2 (by omega)), dN (by go_grown) _⟩)
theorem rnum_any (c t n m k : Int) (w : World) :
    Calls Tryd.prog 33 #[eV c t n m k] w fun e w' => e = .returned (.bool (okN c n m k)) ∧ Below w.heap.size w w' := by
  rcases codes c with rfl | rfl | rfl | rfl | rfl | rfl | rfl | rfl | rfl | rfl | rfl | rfl | h
  · exact rnum_1 t n m k w
  · exact rnum_2 t n m k w
  · exact rnum_3 t n m k w
  · exact rnum_4 t n m k w
  · exact rnum_5 t n m k w
  · exact rnum_6 t n m k w
  · exact rnum_7 t n m k w
  · exact rnum_8 t n m k w
  · exact rnum_9 t n m k w
  · exact rnum_10 t n m k w
  · exact rnum_11 t n m k w
  · exact rnum_12 t n m k w
  · exact rnum_no c t n m k h w
end Go.Proofs.YtfdolapiikgebaaDoor.efFn
