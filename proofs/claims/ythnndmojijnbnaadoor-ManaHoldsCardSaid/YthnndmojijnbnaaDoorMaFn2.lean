/- What the functions of package mana that only look return: costs, sums, the colour of which there is most, what is missing. -/
import Derived.Test.YthnndmojijnbnaaDoorMaFn
namespace Go.Proofs.YthnndmojijnbnaaDoor.maFn
open Go.ChangeShapes Go.WideShapes Go.ChangeAt Go.RowKit
set_option linter.unusedVariables false

theorem next {w W w1 : World} (h : Below w.heap.size w W) (hb : Below W.heap.size W w1) : Below w.heap.size w w1 := h.trans (hb.mono h.size)

theorem ValidCost_any (a b c d x : Int) (w : World) :
    Calls Tryd.prog 13 #[.agg #[.int .i64 a, .int .i64 b, .int .i64 c, .int .i64 d, .int .i64 x]] w fun e w' => e = .returned (.bool (okC a b c d x)) ∧ Below w.heap.size w w' := by
  go_enter Tryd.func13, Tryd.ntmps13
  go_wp2_with (go_at_call 30; refine (within_any _ _ _ _ _ _).mono ?_; rintro e w1 ⟨rfl, hb⟩; obtain ⟨hc, hf⟩ := bcell hb)
  all_goals
    go_ret
    refine ⟨ret_bool ?_, ((Below.refl _ _).alloc (Nat.le_refl _) _).trans (hb.mono (by simp))⟩
    simp [okC, okN, *]
    try omega

theorem Total_yes (a b c d : Int) (w : World) (h : okM 99 a b c d = true) :
    Calls Tryd.prog 14 #[.agg #[.int .i64 a, .int .i64 b, .int .i64 c, .int .i64 d]] w fun e w' => e = .returned (.int .i64 (a + b + c + d)) ∧ Below w.heap.size w w' := by
  have HS := sum_any a b c d
  have hd : (!okM 99 a b c d) = false := by rw [h]; rfl
  go_enter Tryd.func14, Tryd.ntmps14
  go_wp2_with fail
  refine (Valid_any _ _ _ _ _).mono ?_; rintro e w1 ⟨rfl, hb1⟩; obtain ⟨hc1, hf1⟩ := bcell hb1
  have B1 : Below w.heap.size w w1 := next (by go_grown) hb1
  go_wp2_with fail
  refine (HS _ h).mono ?_; rintro e w2 ⟨rfl, hb2⟩
  go_wp2_with fail
  go_ret
  exact ⟨rfl, next B1 hb2⟩

theorem Total_no (a b c d : Int) (w : World) (h : okM 99 a b c d = false) :
    Calls Tryd.prog 14 #[.agg #[.int .i64 a, .int .i64 b, .int .i64 c, .int .i64 d]] w fun e w' => e = .returned (.int .i64 0) ∧ Below w.heap.size w w' := by
  have hd : (!okM 99 a b c d) = true := by rw [h]; rfl
  go_enter Tryd.func14, Tryd.ntmps14
  go_wp2_with fail
  refine (Valid_any _ _ _ _ _).mono ?_; rintro e w1 ⟨rfl, hb1⟩; obtain ⟨hc1, hf1⟩ := bcell hb1
  have B1 : Below w.heap.size w w1 := next (by go_grown) hb1
  go_wp2_with fail
  go_ret
  exact ⟨rfl, B1⟩

theorem Value_no (a b c d x : Int) (w : World) (h : okC a b c d x = false) :
    Calls Tryd.prog 15 #[.agg #[.int .i64 a, .int .i64 b, .int .i64 c, .int .i64 d, .int .i64 x]] w fun e w' => e = .returned (.int .i64 0) ∧ Below w.heap.size w w' := by
  have hd : (!okC a b c d x) = true := by rw [h]; rfl
  go_enter Tryd.func15, Tryd.ntmps15
  go_wp2_with fail
  refine (ValidCost_any _ _ _ _ _ _).mono ?_; rintro e w1 ⟨rfl, hb1⟩; obtain ⟨hc1, hf1⟩ := bcell hb1
  have B1 : Below w.heap.size w w1 := next (by go_grown) hb1
  go_wp2_with fail
  go_ret
  exact ⟨rfl, B1⟩

theorem okM_up (a b c d : Int) (h : okM 20 a b c d = true) : okM 99 a b c d = true := by rw [okM_iff] at *; omega
theorem Value_yes (a b c d x : Int) (w : World) (h : okC a b c d x = true) :
    Calls Tryd.prog 15 #[.agg #[.int .i64 a, .int .i64 b, .int .i64 c, .int .i64 d, .int .i64 x]] w fun e w' => e = .returned (.int .i64 (a + b + c + d + x)) ∧ Below w.heap.size w w' := by
  have hm : okM 99 a b c d = true := by rw [okC_iff] at h; rw [okM_iff]; omega
  have HS := fun w => sum_any a b c d w hm
  have hd : (!okC a b c d x) = false := by rw [h]; rfl
  obtain ⟨⟨⟨a0, a1⟩, ⟨b0, b1⟩, ⟨c0, c1⟩, ⟨d0, d1⟩⟩, x0, x1⟩ := (okC_iff _ _ _ _ _).1 h
  clear h hm
  go_enter Tryd.func15, Tryd.ntmps15
  go_wp2_with fail
  refine (ValidCost_any _ _ _ _ _ _).mono ?_; rintro e w1 ⟨rfl, hb1⟩; obtain ⟨hc1, hf1⟩ := bcell hb1
  have B1 : Below w.heap.size w w1 := next (by go_grown) hb1
  have hz : w.heap.size < w1.heap.size := by have := hb1.size; simp at this; omega
  have k0 : w1.cell? ⟨w.heap.size, 0, none⟩ = some (.int .i64 a) := by rw [hc1 _ _ (by simp)]; simp [go_sem]
  have k1 : w1.cell? ⟨w.heap.size, 1, none⟩ = some (.int .i64 b) := by rw [hc1 _ _ (by simp)]; simp [go_sem]
  have k2 : w1.cell? ⟨w.heap.size, 2, none⟩ = some (.int .i64 c) := by rw [hc1 _ _ (by simp)]; simp [go_sem]
  have k3 : w1.cell? ⟨w.heap.size, 3, none⟩ = some (.int .i64 d) := by rw [hc1 _ _ (by simp)]; simp [go_sem]
  have k4 : w1.cell? ⟨w.heap.size, 4, none⟩ = some (.int .i64 x) := by rw [hc1 _ _ (by simp)]; simp [go_sem]
  clear hc1 hf1 hb1
  go_wp2_with fail
  have B1' : Below w.heap.size w w1.drew := B1.drew
  go_region_held3 (fun w' => w'.cell? ⟨w.heap.size, 0, none⟩ = some (.int .i64 a) ∧ w'.cell? ⟨w.heap.size, 1, none⟩ = some (.int .i64 b) ∧ w'.cell? ⟨w.heap.size, 2, none⟩ = some (.int .i64 c) ∧ w'.cell? ⟨w.heap.size, 3, none⟩ = some (.int .i64 d) ∧ w'.cell? ⟨w.heap.size, 4, none⟩ = some (.int .i64 x) ∧ Below w.heap.size w w') (first | assumption | (refine ⟨?_, ?_, ?_, ?_, ?_, ?_⟩ <;> assumption) | go_keep) (first | (go_at_call 31; refine (HS _).mono ?_; rintro e w3 ⟨rfl, hb3⟩; have e0 := (hb3.cell (p := ⟨w.heap.size, 0, none⟩) hz).trans k0; have e1 := (hb3.cell (p := ⟨w.heap.size, 1, none⟩) hz).trans k1; have e2 := (hb3.cell (p := ⟨w.heap.size, 2, none⟩) hz).trans k2; have e3 := (hb3.cell (p := ⟨w.heap.size, 3, none⟩) hz).trans k3; have e4 := (hb3.cell (p := ⟨w.heap.size, 4, none⟩) hz).trans k4; have B3 := B1'.trans (hb3.mono (Nat.le_of_lt hz))))
  all_goals
    go_wp2
    go_ret
    exact ⟨ret_int (IntWalk.i64_in _ (by omega)), by assumption⟩

theorem greatest_any (a b c d : Int) (w : World) :
    Calls Tryd.prog 40 #[.agg #[.int .i64 a, .int .i64 b, .int .i64 c, .int .i64 d]] w fun e w' => e = .returned (.int .i64 (gt a b c d : Nat)) ∧ Below w.heap.size w w' := by
  have i0 := ix0 a b c d; have i1 := ix1 a b c d; have i2 := ix2 a b c d; have i3 := ix3 a b c d
  go_enter Tryd.func40, Tryd.ntmps40
  go_wp2
  go_rounds 5
  all_goals (go_ret; refine ⟨ret_int (by unfold gt; (repeat' split) <;> omega), (Below.refl _ _).alloc (Nat.le_refl _) _⟩)

end Go.Proofs.YthnndmojijnbnaaDoor.maFn
