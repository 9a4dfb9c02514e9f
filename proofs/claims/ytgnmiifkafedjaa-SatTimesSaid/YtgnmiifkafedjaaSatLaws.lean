/- The walks of the statements of stage 1: each returns true, at any numbers. -/
import Derived.Test.YtgnmiifkafedjaaSatFn2
namespace Go.Proofs.Ytgnmiifkafedjaa.satFn
open Go.ChangeShapes Go.WideShapes Go.ChangeAt Go.RowKit
set_option linter.unusedVariables false

theorem clamps (a b m : Int) (w : World) (a0 : -9223372036854775808 ≤ a ∧ a ≤ 9223372036854775807) (b0 : -9223372036854775808 ≤ b ∧ b ≤ 9223372036854775807) (m0 : -9223372036854775808 ≤ m ∧ m ≤ 9223372036854775807) :
    Calls Try.prog 3 #[.int .i64 a, .int .i64 b, .int .i64 m] w fun e w' => e = .returned (.bool true) ∧ Grown w w' := by
  obtain ⟨a0, a1⟩ := a0; obtain ⟨b0, b1⟩ := b0; obtain ⟨m0, m1⟩ := m0
  go_enter Try.func3, Try.ntmps3
  go_wp2_with (first | (go_at_call 9; refine (Clamp_any _ _ _).mono ?_; rintro e w' ⟨rfl, rfl⟩) | (go_at_call 10; refine (rClamp_any _ _ _).mono ?_; rintro e w' ⟨rfl, rfl⟩) | (go_at_call 11; refine (Add_any _ _ _ _ a0 a1 b0 b1 m0 m1).mono ?_; rintro e w' ⟨rfl, rfl⟩) | (go_at_call 12; refine (rAdd_any _ _ _ _ a0 a1 b0 b1 m0 m1).mono ?_; rintro e w' ⟨rfl, rfl⟩) | (go_at_call 13; refine (known_any _).mono ?_; rintro e w' ⟨rfl, hg⟩))
  go_ret
  exact ⟨rfl, hg⟩

theorem subs (a b m : Int) (w : World) (a0 : -9223372036854775808 ≤ a ∧ a ≤ 9223372036854775807) (b0 : -9223372036854775808 ≤ b ∧ b ≤ 9223372036854775807) (m0 : -9223372036854775808 ≤ m ∧ m ≤ 9223372036854775807) :
    Calls Try.prog 4 #[.int .i64 a, .int .i64 b, .int .i64 m] w fun e w' => e = .returned (.bool true) ∧ Grown w w' := by
  obtain ⟨a0, a1⟩ := a0; obtain ⟨b0, b1⟩ := b0; obtain ⟨m0, m1⟩ := m0
  go_enter Try.func4, Try.ntmps4
  go_wp2_with (first | (go_at_call 14; refine (Sub_any _ _ _ _ a0 a1 b0 b1 m0 m1).mono ?_; rintro e w' ⟨rfl, rfl⟩) | (go_at_call 15; refine (rSub_any _ _ _ _ a0 a1 b0 b1 m0 m1).mono ?_; rintro e w' ⟨rfl, rfl⟩) | (go_at_call 13; refine (known_any _).mono ?_; rintro e w' ⟨rfl, hg⟩))
  go_ret
  exact ⟨rfl, hg⟩

theorem times (a b m : Int) (w : World) (a0 : -9223372036854775808 ≤ a ∧ a ≤ 9223372036854775807) (b0 : -9223372036854775808 ≤ b ∧ b ≤ 9223372036854775807) (m0 : -9223372036854775808 ≤ m ∧ m ≤ 9223372036854775807) :
    Calls Try.prog 5 #[.int .i64 a, .int .i64 b, .int .i64 m] w fun e w' => e = .returned (.bool true) ∧ Grown w w' := by
  obtain ⟨a0, a1⟩ := a0; obtain ⟨b0, b1⟩ := b0; obtain ⟨m0, m1⟩ := m0
  go_enter Try.func5, Try.ntmps5
  go_wp2_with (first | (go_at_call 16; refine (Times_any _ _ _ _ a0 a1 b0 b1 m0 m1).mono ?_; rintro e w' ⟨rfl, rfl⟩) | (go_at_call 17; refine (rTimes_any _ _ _ _ a0 a1 b0 b1 m0 m1).mono ?_; rintro e w' ⟨rfl, rfl⟩) | (go_at_call 13; refine (known_any _).mono ?_; rintro e w' ⟨rfl, hg⟩))
  go_ret
  exact ⟨rfl, hg⟩

theorem drops (a b m : Int) (w : World) (a0 : -9223372036854775808 ≤ a ∧ a ≤ 9223372036854775807) (b0 : -9223372036854775808 ≤ b ∧ b ≤ 9223372036854775807) (m0 : -9223372036854775808 ≤ m ∧ m ≤ 9223372036854775807) :
    Calls Try.prog 6 #[.int .i64 a, .int .i64 b, .int .i64 m] w fun e w' => e = .returned (.bool true) ∧ Grown w w' := by
  obtain ⟨a0, a1⟩ := a0; obtain ⟨b0, b1⟩ := b0; obtain ⟨m0, m1⟩ := m0
  go_enter Try.func6, Try.ntmps6
  go_wp2_with (first | (go_at_call 18; refine (Dropped_any _ _ _ _ a0 a1 b0 b1 m0 m1).mono ?_; rintro e w' ⟨rfl, rfl⟩) | (go_at_call 19; refine (rDropped_any _ _ _ _ a0 a1 b0 b1 m0 m1).mono ?_; rintro e w' ⟨rfl, rfl⟩) | (go_at_call 13; refine (known_any _).mono ?_; rintro e w' ⟨rfl, hg⟩))
  go_ret
  exact ⟨rfl, hg⟩

end Go.Proofs.Ytgnmiifkafedjaa.satFn
