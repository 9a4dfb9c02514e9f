/- What the rules of package effect say of target kinds and numbers. -/
import Derived.Test.YtlhnnjllbcglcaaGreatDoorEfFn
import Derived.WalkSmall
namespace Go.Proofs.YtlhnnjllbcglcaaGreatDoor.efFn
open Go.ChangeShapes Go.WideShapes Go.ChangeAt Go.RowKit drMem
set_option linter.unusedVariables false

theorem ix0 (a b c : Int) : ∀ w, (Instr.index 116 (.agg #[.int .i64 a, .int .i64 b, .int .i64 c]) (.int .i64 0)).run Tryz.prog w = .ok (.int .i64 a) w := fun _ => by kernel_rfl
theorem ix1 (a b c : Int) : ∀ w, (Instr.index 116 (.agg #[.int .i64 a, .int .i64 b, .int .i64 c]) (.int .i64 1)).run Tryz.prog w = .ok (.int .i64 b) w := fun _ => by kernel_rfl
theorem ix2 (a b c : Int) : ∀ w, (Instr.index 116 (.agg #[.int .i64 a, .int .i64 b, .int .i64 c]) (.int .i64 2)).run Tryz.prog w = .ok (.int .i64 c) w := fun _ => by kernel_rfl

/- a target kind is in a set of them -/
def aimB (k t : Int) : Bool := decide (0 ≤ t) && (k / 2 ^ min t.toNat 64 % 2 == 1)
theorem div_bd (k : Int) (n : Nat) (k0 : 0 ≤ k) (k1 : k < 128) : 0 ≤ k / 2 ^ n ∧ k / 2 ^ n < 128 := by
  have h1 : (0 : Int) < 2 ^ n := Int.pow_pos (by omega)
  refine ⟨Int.ediv_nonneg k0 (Int.le_of_lt h1), ?_⟩
  exact Int.lt_of_le_of_lt (Int.ediv_le_self _ k0) k1
theorem aims_any (nm : ByteArray) (k t : Int) (w : World) (k0 : 0 ≤ k) (k1 : k < 128) :
    Calls Tryz.prog 127 #[.agg #[.string nm, .int .u64 k], .int .i64 t] w fun r w' => r = .returned (.bool (aimB k t)) ∧ Below w.heap.size w w' := by
  by_cases t0 : 0 ≤ t
  all_goals
    go_enter Tryz.func127, Tryz.ntmps127
    go_wp2
    go_ret
    refine ⟨ret_bool ?_, by go_grown⟩
    have := div_bd k (min t.toNat 64) k0 k1
    first
      | (rw [and_one_u64 _ this.1 (by omega)]; unfold aimB; rw [decide_eq_true t0, Bool.true_and])
      | (unfold aimB; rw [decide_eq_false (Int.not_le.2 t0), Bool.false_and])

/- a number is from a least to a greatest one -/
def inB (a x n : Int) : Bool := !decide (n < a) && n == cl n x
def fitB (a b c x y z p q r : Int) : Bool := inB a x p && (inB b y q && inB c z r)
theorem inB_f {a x n : Int} (h : n < a ∨ (n != cl n x) = true) : inB a x n = false := by
  unfold inB
  rcases h with h | h
  · rw [decide_eq_true h]; rfl
  · have : (n == cl n x) = false := by simpa [bne] using h
    rw [this, Bool.and_false]
theorem inB_g {a x n : Int} (h : n < a) : inB a x n = false := inB_f (.inl h)
theorem inB_t {a x n : Int} (h : a ≤ n ∧ (n != cl n x) = false) : inB a x n = true := by
  unfold inB
  have : (n == cl n x) = true := by simpa [bne] using h.2
  rw [this, decide_eq_false (Int.not_lt.2 h.1)]; rfl
set_option maxRecDepth 100000 in
set_option maxHeartbeats 2000000 in
theorem fits_any (nm : ByteArray) (k a b c x y z p q r : Int) (w : World) : 
    Calls Tryz.prog 129 #[.agg #[.string nm, .int .u64 k, .int .i64 a, .int .i64 b, .int .i64 c, .int .i64 x, .int .i64 y, .int .i64 z], .agg #[.int .i64 p, .int .i64 q, .int .i64 r]] w fun r' w' => r' = .returned (.bool (fitB a b c x y z p q r)) ∧ Below w.heap.size w w' := by
  have i0 := ix0 p q r; have i1 := ix1 p q r; have i2 := ix2 p q r
  go_enter Tryz.func129, Tryz.ntmps129
  go_wp2
  refine wp_loop_rounds 4 ?_
  rw [rounds_succ]
  go_wp2_with (go_at_call 131; refine (clamp_any _ _ _).mono ?_; rintro e w' ⟨rfl, rfl⟩)
  all_goals first
    | (go_ret; exact ⟨ret_bool (by unfold fitB; repeat (first | rw [inB_t (by assumption), Bool.true_and] | (rw [inB_t (by assumption)]; done) | (rw [inB_f (by assumption), Bool.false_and]; done) | (rw [inB_g (by assumption), Bool.false_and]; done) | (rw [inB_f (by assumption)]; done) | (rw [inB_g (by assumption)]; done))), by go_grown⟩)
    | skip
  rw [rounds_succ]
  go_wp2_with (go_at_call 131; refine (clamp_any _ _ _).mono ?_; rintro e w' ⟨rfl, rfl⟩)
  all_goals first
    | (go_ret; exact ⟨ret_bool (by unfold fitB; repeat (first | rw [inB_t (by assumption), Bool.true_and] | (rw [inB_t (by assumption)]; done) | (rw [inB_f (by assumption), Bool.false_and]; done) | (rw [inB_g (by assumption), Bool.false_and]; done) | (rw [inB_f (by assumption)]; done) | (rw [inB_g (by assumption)]; done))), by go_grown⟩)
    | skip
  rw [rounds_succ]
  go_wp2_with (go_at_call 131; refine (clamp_any _ _ _).mono ?_; rintro e w' ⟨rfl, rfl⟩)
  all_goals first
    | (go_ret; exact ⟨ret_bool (by unfold fitB; repeat (first | rw [inB_t (by assumption), Bool.true_and] | (rw [inB_t (by assumption)]; done) | (rw [inB_f (by assumption), Bool.false_and]; done) | (rw [inB_g (by assumption), Bool.false_and]; done) | (rw [inB_f (by assumption)]; done) | (rw [inB_g (by assumption)]; done))), by go_grown⟩)
    | skip
  rw [rounds_succ]
  go_wp2
  all_goals (go_ret; exact ⟨ret_bool (by unfold fitB; repeat (first | rw [inB_t (by assumption), Bool.true_and] | (rw [inB_t (by assumption)]; done) | (rw [inB_f (by assumption), Bool.false_and]; done) | (rw [inB_g (by assumption), Bool.false_and]; done) | (rw [inB_f (by assumption)]; done) | (rw [inB_g (by assumption)]; done))), by go_grown⟩)
end Go.Proofs.YtlhnnjllbcglcaaGreatDoor.efFn
