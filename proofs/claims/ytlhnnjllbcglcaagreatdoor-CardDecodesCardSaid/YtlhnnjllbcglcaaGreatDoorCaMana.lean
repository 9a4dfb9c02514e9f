/- What the functions of package mana that package card calls return: costs, sums, letters. -/
import Derived.Test.YtlhnnjllbcglcaaGreatDoorRows
import Derived.WalkKit
import Derived.ProofKit
import Derived.OpenShut
import Derived.IntWalk
import Derived.Lib.Hide
import Derived.WalkLawsBesides
import Derived.Handy
import Derived.Below
import Derived.Outline
import Derived.Deep.RegionHeld3
namespace Go.Proofs.YtlhnnjllbcglcaaGreatDoor.maFn
open Go.ChangeShapes Go.WideShapes Go.ChangeAt Go.RowKit
set_option linter.unusedVariables false

theorem ret_int {k : IntKind} {a b : Int} (h : a = b) : Ending.returned (.int k a) = .returned (.int k b) := by rw [h]
theorem ret_bool {a b : Bool} (h : a = b) : Ending.returned (.bool a) = .returned (.bool b) := by rw [h]
def okN (k x : Int) : Bool := decide (0 ≤ x ∧ x ≤ k)
def okM (k a b c d : Int) : Bool := okN k a && okN k b && okN k c && okN k d
def okC (a b c d x : Int) : Bool := okM 20 a b c d && okN 20 x
theorem okN_iff (k x : Int) : okN k x = true ↔ 0 ≤ x ∧ x ≤ k := by simp [okN]
theorem okM_iff (k a b c d : Int) : okM k a b c d = true ↔ (0 ≤ a ∧ a ≤ k) ∧ (0 ≤ b ∧ b ≤ k) ∧ (0 ≤ c ∧ c ≤ k) ∧ (0 ≤ d ∧ d ≤ k) := by simp [okM, okN_iff, and_assoc]
theorem okC_iff (a b c d x : Int) : okC a b c d x = true ↔ ((0 ≤ a ∧ a ≤ 20) ∧ (0 ≤ b ∧ b ≤ 20) ∧ (0 ≤ c ∧ c ≤ 20) ∧ (0 ≤ d ∧ d ≤ 20)) ∧ (0 ≤ x ∧ x ≤ 20) := by simp [okC, okN_iff, okM_iff]
theorem bcell {W w1 : World} (hb : Below W.heap.size W w1) : (∀ b o, b < W.heap.size → w1.cell? ⟨b, o, none⟩ = W.cell? ⟨b, o, none⟩) ∧ (∀ b o, b < W.heap.size → w1.frozen? ⟨b, o, none⟩ = W.frozen? ⟨b, o, none⟩) :=
  ⟨fun b o h => hb.cell (p := ⟨b, o, none⟩) h, fun b o h => hb.frozen (p := ⟨b, o, none⟩) h⟩
theorem ix0 (a b c d : Int) : ∀ w, (Instr.index 24 (.agg #[.int .i64 a, .int .i64 b, .int .i64 c, .int .i64 d]) (.int .i64 0)).run Tryz.prog w = .ok (.int .i64 a) w := fun _ => by kernel_rfl
theorem ix1 (a b c d : Int) : ∀ w, (Instr.index 24 (.agg #[.int .i64 a, .int .i64 b, .int .i64 c, .int .i64 d]) (.int .i64 1)).run Tryz.prog w = .ok (.int .i64 b) w := fun _ => by kernel_rfl
theorem ix2 (a b c d : Int) : ∀ w, (Instr.index 24 (.agg #[.int .i64 a, .int .i64 b, .int .i64 c, .int .i64 d]) (.int .i64 2)).run Tryz.prog w = .ok (.int .i64 c) w := fun _ => by kernel_rfl
theorem ix3 (a b c d : Int) : ∀ w, (Instr.index 24 (.agg #[.int .i64 a, .int .i64 b, .int .i64 c, .int .i64 d]) (.int .i64 3)).run Tryz.prog w = .ok (.int .i64 d) w := fun _ => by kernel_rfl
set_option maxRecDepth 100000 in
set_option maxHeartbeats 1000000 in
theorem within_any (a b c d k : Int) (w : World) :
    Calls Tryz.prog 81 #[.agg #[.int .i64 a, .int .i64 b, .int .i64 c, .int .i64 d], .int .i64 k] w fun e w' => e = .returned (.bool (okM k a b c d)) ∧ Below w.heap.size w w' := by
  have i0 := ix0 a b c d; have i1 := ix1 a b c d; have i2 := ix2 a b c d; have i3 := ix3 a b c d
  go_enter Tryz.func81, Tryz.ntmps81
  go_wp2
  go_rounds 5
  all_goals (go_ret; refine ⟨ret_bool (by unfold okM okN; simp [*] <;> omega), (Below.refl _ _).alloc (Nat.le_refl _) _⟩)
theorem sum_any (a b c d : Int) (w : World) (h : okM 99 a b c d = true) :
    Calls Tryz.prog 86 #[.agg #[.int .i64 a, .int .i64 b, .int .i64 c, .int .i64 d]] w fun e w' => e = .returned (.int .i64 (a + b + c + d)) ∧ Below w.heap.size w w' := by
  obtain ⟨⟨a0, a1⟩, ⟨b0, b1⟩, ⟨c0, c1⟩, ⟨d0, d1⟩⟩ := (okM_iff _ _ _ _ _).1 h
  clear h
  have i0 := ix0 a b c d; have i1 := ix1 a b c d; have i2 := ix2 a b c d; have i3 := ix3 a b c d
  go_enter Tryz.func86, Tryz.ntmps86
  go_wp2
  go_rounds 5
  all_goals (go_ret; refine ⟨ret_int (by omega), (Below.refl _ _).alloc (Nat.le_refl _) _⟩)
theorem isColour_any (c : Int) (w : World) :
    Calls Tryz.prog 69 #[.int .i64 c] w fun e w' => e = .returned (.bool (okN 3 c)) ∧ w = w' := by
  go_enter Tryz.func69, Tryz.ntmps69
  go_wp2
  all_goals (go_ret; refine ⟨ret_bool (by unfold okN; simp [*] <;> omega), rfl⟩)
theorem next {w W w1 : World} (h : Below w.heap.size w W) (hb : Below W.heap.size W w1) : Below w.heap.size w w1 := h.trans (hb.mono h.size)
theorem ValidCost_any (a b c d x : Int) (w : World) :
    Calls Tryz.prog 62 #[.agg #[.int .i64 a, .int .i64 b, .int .i64 c, .int .i64 d, .int .i64 x]] w fun e w' => e = .returned (.bool (okC a b c d x)) ∧ Below w.heap.size w w' := by
  go_enter Tryz.func62, Tryz.ntmps62
  go_wp2_with (go_at_call 81; refine (within_any _ _ _ _ _ _).mono ?_; rintro e w1 ⟨rfl, hb⟩; obtain ⟨hc, hf⟩ := bcell hb)
  all_goals
    go_ret
    refine ⟨ret_bool ?_, ((Below.refl _ _).alloc (Nat.le_refl _) _).trans (hb.mono (by simp))⟩
    simp [okC, okN, *]
    try omega
theorem Value_no (a b c d x : Int) (w : World) (h : okC a b c d x = false) :
    Calls Tryz.prog 67 #[.agg #[.int .i64 a, .int .i64 b, .int .i64 c, .int .i64 d, .int .i64 x]] w fun e w' => e = .returned (.int .i64 0) ∧ Below w.heap.size w w' := by
  have hd : (!okC a b c d x) = true := by rw [h]; rfl
  go_enter Tryz.func67, Tryz.ntmps67
  go_wp2_with fail
  refine (ValidCost_any _ _ _ _ _ _).mono ?_; rintro e w1 ⟨rfl, hb1⟩; obtain ⟨hc1, hf1⟩ := bcell hb1
  have B1 : Below w.heap.size w w1 := next (by go_grown) hb1
  go_wp2_with fail
  go_ret
  exact ⟨rfl, B1⟩
theorem okM_up (a b c d : Int) (h : okM 20 a b c d = true) : okM 99 a b c d = true := by rw [okM_iff] at *; omega
theorem Value_yes (a b c d x : Int) (w : World) (h : okC a b c d x = true) :
    Calls Tryz.prog 67 #[.agg #[.int .i64 a, .int .i64 b, .int .i64 c, .int .i64 d, .int .i64 x]] w fun e w' => e = .returned (.int .i64 (a + b + c + d + x)) ∧ Below w.heap.size w w' := by
  have hm : okM 99 a b c d = true := by rw [okC_iff] at h; rw [okM_iff]; omega
  have HS := fun w => sum_any a b c d w hm
  have hd : (!okC a b c d x) = false := by rw [h]; rfl
  obtain ⟨⟨⟨a0, a1⟩, ⟨b0, b1⟩, ⟨c0, c1⟩, ⟨d0, d1⟩⟩, x0, x1⟩ := (okC_iff _ _ _ _ _).1 h
  clear h hm
  go_enter Tryz.func67, Tryz.ntmps67
  go_wp2_with fail
  refine (ValidCost_any _ _ _ _ _ _).mono ?_; rintro e w1 ⟨rfl, hb1⟩; obtain ⟨hc1, hf1⟩ := bcell hb1
  have B1 : Below w.heap.size w w1 := next (by go_grown) hb1
  have hz : w.heap.size < w1.heap.size := by have := hb1.size; simp at this; omega
  have k0 : w1.cell? ⟨w.heap.size, 0, none⟩ = some (.int .i64 a) := by rw [hc1 _ _ (by simp)]; simp [go_sem]
  have k1 : w1.cell? ⟨w.heap.size, 1, none⟩ = some (.int .i64 b) := by rw [hc1 _ _ (by simp)]; simp [go_sem]
  have k2 : w1.cell? ⟨w.heap.size, 2, none⟩ = some (.int .i64 c) := by rw [hc1 _ _ (by simp)]; simp [go_sem]
  have k3 : w1.cell? ⟨w.heap.size, 3, none⟩ = some (.int .i64 d) := by rw [hc1 _ _ (by simp)]; simp [go_sem]
  have k4 : w1.cell? ⟨w.heap.size, 4, none⟩ = some (.int .i64 x) := by rw [hc1 _ _ (by simp)]; simp [go_sem]
  clear hc1 hf1 hb1
  go_wp2_with fail
  have B1' : Below w.heap.size w w1.drew := B1.drew
  go_region_held3 (fun w' => w'.cell? ⟨w.heap.size, 0, none⟩ = some (.int .i64 a) ∧ w'.cell? ⟨w.heap.size, 1, none⟩ = some (.int .i64 b) ∧ w'.cell? ⟨w.heap.size, 2, none⟩ = some (.int .i64 c) ∧ w'.cell? ⟨w.heap.size, 3, none⟩ = some (.int .i64 d) ∧ w'.cell? ⟨w.heap.size, 4, none⟩ = some (.int .i64 x) ∧ Below w.heap.size w w') (first | assumption | (refine ⟨?_, ?_, ?_, ?_, ?_, ?_⟩ <;> assumption) | go_keep) (first | (go_at_call 86; refine (HS _).mono ?_; rintro e w3 ⟨rfl, hb3⟩; have e0 := (hb3.cell (p := ⟨w.heap.size, 0, none⟩) hz).trans k0; have e1 := (hb3.cell (p := ⟨w.heap.size, 1, none⟩) hz).trans k1; have e2 := (hb3.cell (p := ⟨w.heap.size, 2, none⟩) hz).trans k2; have e3 := (hb3.cell (p := ⟨w.heap.size, 3, none⟩) hz).trans k3; have e4 := (hb3.cell (p := ⟨w.heap.size, 4, none⟩) hz).trans k4; have B3 := B1'.trans (hb3.mono (Nat.le_of_lt hz))))
  all_goals
    go_wp2
    go_ret
    exact ⟨ret_int (IntWalk.i64_in _ (by omega)), by assumption⟩
/- the letters -/
def letB (k : Int) : ByteArray := if k = 0 then ⟨#[69]⟩ else if k = 1 then ⟨#[84]⟩ else if k = 2 then ⟨#[76]⟩ else ⟨#[83]⟩
theorem Letter_no (k : Int) (w : World) (h : okN 3 k = false) :
    Calls Tryz.prog 52 #[.int .i64 k] w fun e w' => e = .returned (.tuple #[.string ⟨#[]⟩, .int .i64 2]) ∧ w = w' := by
  have d1 : (!okN 3 k) = true := by rw [h]; rfl
  go_enter Tryz.func52, Tryz.ntmps52
  go_wp2_with (go_at_call 69; refine (isColour_any _ _).mono ?_; rintro e w' ⟨rfl, rfl⟩)
  go_ret2
  exact ⟨rfl, rfl⟩
theorem Letter_yes (k : Int) (w : World) (h : okN 3 k = true) :
    Calls Tryz.prog 52 #[.int .i64 k] w fun e w' => e = .returned (.tuple #[.string (letB k), .int .i64 0]) ∧ w = w' := by
  have hk := (okN_iff 3 k).1 h
  have hk' : k = 0 ∨ k = 1 ∨ k = 2 ∨ k = 3 := by omega
  clear hk
  rcases hk' with rfl | rfl | rfl | rfl
  all_goals
    have d1 := (congrArg not h).trans (rfl : (!true) = false)
    go_enter Tryz.func52, Tryz.ntmps52
    go_wp2_with (go_at_call 69; refine (isColour_any _ _).mono ?_; rintro e w' ⟨rfl, rfl⟩)
    go_ret2
    exact ⟨rfl, rfl⟩
end Go.Proofs.YtlhnnjllbcglcaaGreatDoor.maFn
