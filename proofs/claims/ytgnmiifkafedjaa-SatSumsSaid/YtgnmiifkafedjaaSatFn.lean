/- What the functions of package sat and of its reference return, at any numbers of their types. -/
import Derived.Test.YtgnmiifkafedjaaRows
import Derived.WalkKit
import Derived.ProofKit
import Derived.OpenShut
import Derived.IntWalk
import Derived.Lib.Hide
import Derived.WalkLawsBesides
import Derived.Lib.Mul64
import Derived.Laws.Bits64b
namespace Go.Proofs.Ytgnmiifkafedjaa.satFn
open Go.ChangeShapes Go.WideShapes Go.ChangeAt Go.RowKit
set_option linter.unusedVariables false

/- a number, clamped to a maximum -/
def cl (n m : Int) : Int := max 0 (min n m)
/- by how much a sum is above a maximum -/
def dr (a b m : Int) : Int := min 9223372036854775807 (max 0 (a + b - max 0 m))
theorem ret_int {k : IntKind} {a b : Int} (h : a = b) : Ending.returned (.int k a) = .returned (.int k b) := by rw [h]

theorem cl_lo (n m : Int) : 0 ≤ cl n m := by unfold cl; omega
theorem cl_hi (n m : Int) : cl n m ≤ max 0 m := by unfold cl; omega

theorem natural_any (n : Int) (w : World) (h0 : -9223372036854775808 ≤ n) (h1 : n ≤ 9223372036854775807) :
    Calls Try.prog 27 #[.int .i64 n] w fun e w' => e = .returned (.int .u64 (max 0 n)) ∧ w = w' := by
  go_enter Try.func27, Try.ntmps27
  go_wp2
  all_goals (go_ret; exact ⟨ret_int (by omega), rfl⟩)

theorem cut_any (n m : Int) (w : World) (h0 : 0 ≤ n) (h1 : n ≤ 18446744073709551615) (m0 : -9223372036854775808 ≤ m) (m1 : m ≤ 9223372036854775807) :
    Calls Try.prog 22 #[.int .u64 n, .int .i64 m] w fun e w' => e = .returned (.int .i64 (cl n m)) ∧ w = w' := by
  by_cases hm : 0 ≤ m
  · by_cases hn : n ≤ m
    · go_enter Try.func22, Try.ntmps22
      go_wp2
      all_goals (go_ret; exact ⟨ret_int (by unfold cl; omega), rfl⟩)
    · go_enter Try.func22, Try.ntmps22
      go_wp2
      all_goals (go_ret; exact ⟨ret_int (by unfold cl; omega), rfl⟩)
  · go_enter Try.func22, Try.ntmps22
    go_wp2
    all_goals (go_ret; exact ⟨ret_int (by unfold cl; omega), rfl⟩)

theorem magnitude_any (n : Int) (w : World) (h0 : -9223372036854775808 ≤ n) (h1 : n ≤ 9223372036854775807) :
    Calls Try.prog 25 #[.int .i64 n] w fun e w' => e = .returned (.int .u64 n.natAbs) ∧ w = w' := by
  by_cases hn : n < 0
  · go_enter Try.func25, Try.ntmps25
    go_wp2
    all_goals (go_ret; exact ⟨ret_int (by simp only [IntKind.wrap_u64]; omega), rfl⟩)
  · go_enter Try.func25, Try.ntmps25
    go_wp2
    all_goals (go_ret; exact ⟨ret_int (by omega), rfl⟩)

theorem total_any (a b : Int) (w : World) (a0 : -9223372036854775808 ≤ a) (a1 : a ≤ 9223372036854775807) (b0 : -9223372036854775808 ≤ b) (b1 : b ≤ 9223372036854775807) :
    Calls Try.prog 23 #[.int .i64 a, .int .i64 b] w fun e w' => e = .returned (.int .u64 (max 0 (a + b))) ∧ w = w' := by
  by_cases ha : 0 ≤ a <;> by_cases hb : 0 ≤ b
  all_goals
    go_enter Try.func23, Try.ntmps23
    go_wp2_with (go_at_call 27; refine (natural_any _ _ (by omega) (by omega)).mono ?_; rintro e w' ⟨rfl, rfl⟩)
    all_goals (go_ret; exact ⟨ret_int (by omega), rfl⟩)

theorem Clamp_any (n m : Int) (w : World) :
    Calls Try.prog 9 #[.int .i64 n, .int .i64 m] w fun e w' => e = .returned (.int .i64 (cl n m)) ∧ w = w' := by
  go_enter Try.func9, Try.ntmps9
  go_wp2
  all_goals (go_ret; exact ⟨ret_int (by unfold cl; omega), rfl⟩)

theorem Add_any (a b m : Int) (w : World) (a0 : -9223372036854775808 ≤ a) (a1 : a ≤ 9223372036854775807) (b0 : -9223372036854775808 ≤ b) (b1 : b ≤ 9223372036854775807) (m0 : -9223372036854775808 ≤ m) (m1 : m ≤ 9223372036854775807) :
    Calls Try.prog 11 #[.int .i64 a, .int .i64 b, .int .i64 m] w fun e w' => e = .returned (.int .i64 (cl (a + b) m)) ∧ w = w' := by
  go_enter Try.func11, Try.ntmps11
  go_wp2_with (first | (go_at_call 23; refine (total_any _ _ _ (by omega) (by omega) (by omega) (by omega)).mono ?_; rintro e w' ⟨rfl, rfl⟩) | (go_at_call 22; refine (cut_any _ _ _ (by omega) (by omega) (by omega) (by omega)).mono ?_; rintro e w' ⟨rfl, rfl⟩))
  go_ret; exact ⟨ret_int (by unfold cl; omega), rfl⟩

theorem Sub_any (a b m : Int) (w : World) (a0 : -9223372036854775808 ≤ a) (a1 : a ≤ 9223372036854775807) (b0 : -9223372036854775808 ≤ b) (b1 : b ≤ 9223372036854775807) (m0 : -9223372036854775808 ≤ m) (m1 : m ≤ 9223372036854775807) :
    Calls Try.prog 14 #[.int .i64 a, .int .i64 b, .int .i64 m] w fun e w' => e = .returned (.int .i64 (cl (a - b) m)) ∧ w = w' := by
  by_cases h : a ≤ b
  · go_enter Try.func14, Try.ntmps14
    go_wp2
    go_ret; exact ⟨ret_int (by unfold cl; omega), rfl⟩
  · go_enter Try.func14, Try.ntmps14
    go_wp2_with fail
    have e : IntKind.u64.wrap (IntKind.u64.wrap a - IntKind.u64.wrap b) = a - b := by simp only [IntKind.wrap_u64]; omega
    rw [e]
    refine (cut_any _ _ _ (by omega) (by omega) (by omega) (by omega)).mono ?_; rintro e w' ⟨rfl, rfl⟩
    go_wp2
    go_ret; exact ⟨rfl, rfl⟩

theorem maskN (a : Nat) (ha : a < 18446744073709551616) : bits .and .u64 (a : Int) 4294967295 = ((a % 4294967296 : Nat) : Int) := by
  have h := bits_and_u64_nat a 4294967295 ha (by omega)
  have e : a &&& 4294967295 = a % 4294967296 := Nat.and_two_pow_sub_one_eq_mod a 32
  rw [e] at h
  exact h
theorem divN (a : Nat) : (a : Int) / 4294967296 = ((a / 4294967296 : Nat) : Int) := by omega
theorem mulN (a b : Nat) : (a : Int) * (b : Int) = ((a * b : Nat) : Int) := (Int.natCast_mul a b).symm
theorem addN (a b : Nat) : (a : Int) + (b : Int) = ((a + b : Nat) : Int) := (Int.natCast_add a b).symm
theorem wrapN (a : Nat) (ha : a < 18446744073709551616) : IntKind.u64.wrap (a : Int) = (a : Int) := by rw [IntKind.wrap_u64]; omega
theorem wrapM (a : Nat) : IntKind.u64.wrap (a : Int) = ((a % 18446744073709551616 : Nat) : Int) := by rw [IntKind.wrap_u64]; omega

set_option maxHeartbeats 1000000 in
theorem Mul64_any (x y : Nat) (hx : x < 18446744073709551616) (hy : y < 18446744073709551616) (w : World) :
    Calls Try.prog 24 #[.int .u64 x, .int .u64 y] w fun e w' => e = .returned (.tuple #[.int .u64 ((x * y / 18446744073709551616 : Nat) : Int), .int .u64 ((x * y % 18446744073709551616 : Nat) : Int)]) ∧ w = w' := by
  obtain ⟨bd, bt, bw, hhi⟩ := Lib.mul64_hi x y hx hy
  have ba := Lib.half_mul_le (a := x / 4294967296) (b := y / 4294967296) (by omega) (by omega)
  have bb := Lib.half_mul_le (a := x / 4294967296) (b := y % 4294967296) (by omega) (by omega)
  have bc := Lib.half_mul_le (a := x % 4294967296) (b := y / 4294967296) (by omega) (by omega)
  have ba' : x / 4294967296 * (y / 4294967296) < 18446744073709551616 := by omega
  have bb' : x / 4294967296 * (y % 4294967296) < 18446744073709551616 := by omega
  have bc' : x % 4294967296 * (y / 4294967296) < 18446744073709551616 := by omega
  have bh1 : x / 4294967296 * (y / 4294967296) + (x / 4294967296 * (y % 4294967296) + x % 4294967296 * (y % 4294967296) / 4294967296) / 4294967296 < 18446744073709551616 := by omega
  have bh : x / 4294967296 * (y / 4294967296) + (x / 4294967296 * (y % 4294967296) + x % 4294967296 * (y % 4294967296) / 4294967296) / 4294967296 + ((x / 4294967296 * (y % 4294967296) + x % 4294967296 * (y % 4294967296) / 4294967296) % 4294967296 + x % 4294967296 * (y / 4294967296)) / 4294967296 < 18446744073709551616 := by omega
  go_enter Try.func24, Try.ntmps24
  go_wp2
  simp only [maskN x hx, maskN y hy, divN, mulN, addN, wrapN _ bd, wrapN _ bb', wrapN _ bt, maskN _ bt, wrapN _ bc', wrapN _ bw, wrapN _ ba', wrapN _ bh1, wrapN _ bh, wrapM (x * y)]
  rw [hhi]
  go_ret2
  exact ⟨rfl, rfl⟩

/- products of numbers without their signs -/
theorem abs_mul (a b : Int) (h : 0 ≤ a ∧ 0 ≤ b ∨ a < 0 ∧ b < 0) : ((a.natAbs * b.natAbs : Nat) : Int) = a * b := by
  rcases h with ⟨ha, hb⟩ | ⟨ha, hb⟩
  · rw [Int.natCast_mul, Int.natAbs_of_nonneg ha, Int.natAbs_of_nonneg hb]
  · rw [Int.natCast_mul, show ((a.natAbs : Nat) : Int) = -a from by omega, show ((b.natAbs : Nat) : Int) = -b from by omega, Int.neg_mul_neg]
theorem neg_mul_le (a b : Int) (ha : a < 0) (hb : 0 ≤ b) : a * b ≤ 0 := by
  have := Int.mul_nonneg (show 0 ≤ -a by omega) hb
  rw [Int.neg_mul] at this; omega

theorem Times_no (a b m : Int) (w : World) (h : a < 0 ∧ 0 ≤ b ∨ 0 ≤ a ∧ b < 0) :
    Calls Try.prog 16 #[.int .i64 a, .int .i64 b, .int .i64 m] w fun e w' => e = .returned (.int .i64 (cl (a * b) m)) ∧ w = w' := by
  have hz : a * b ≤ 0 := by
    rcases h with ⟨ha, hb⟩ | ⟨ha, hb⟩
    · exact neg_mul_le a b ha hb
    · rw [Int.mul_comm]; exact neg_mul_le b a hb ha
  rcases h with ⟨ha, hb⟩ | ⟨ha, hb⟩
  · have da : decide (a < 0) = true := by simpa using ha
    have db : decide (b < 0) = false := by simpa using hb
    go_enter Try.func16, Try.ntmps16
    go_wp2
    go_ret; exact ⟨ret_int (by unfold cl; omega), rfl⟩
  · have da : decide (a < 0) = false := by simpa using ha
    have db : decide (b < 0) = true := by simpa using hb
    go_enter Try.func16, Try.ntmps16
    go_wp2
    go_ret; exact ⟨ret_int (by unfold cl; omega), rfl⟩

theorem Times_yes (a b m : Int) (w : World) (a0 : -9223372036854775808 ≤ a) (a1 : a ≤ 9223372036854775807) (b0 : -9223372036854775808 ≤ b) (b1 : b ≤ 9223372036854775807) (m0 : -9223372036854775808 ≤ m) (m1 : m ≤ 9223372036854775807)
    (s : Bool) (da : decide (a < 0) = s) (db : decide (b < 0) = s) :
    Calls Try.prog 16 #[.int .i64 a, .int .i64 b, .int .i64 m] w fun e w' => e = .returned (.int .i64 (cl (a * b) m)) ∧ w = w' := by
  have h : 0 ≤ a ∧ 0 ≤ b ∨ a < 0 ∧ b < 0 := by
    cases s
    · exact Or.inl ⟨by simpa using da, by simpa using db⟩
    · exact Or.inr ⟨by simpa using da, by simpa using db⟩
  have hab := abs_mul a b h
  rw [← hab]
  clear h hab
  generalize hx : a.natAbs = x
  generalize hy : b.natAbs = y
  have x1 : x < 18446744073709551616 := by omega
  have y1 : y < 18446744073709551616 := by omega
  have Hx := Lib.hid hx; have Hy := Lib.hid hy
  clear hx hy
  cases s
  all_goals
    go_enter Try.func16, Try.ntmps16
    go_wp2_with fail
    refine (magnitude_any _ _ a0 a1).mono ?_; rintro e w' ⟨rfl, rfl⟩
    rw [Hx.out]
    go_wp2_with fail
    refine (magnitude_any _ _ b0 b1).mono ?_; rintro e w' ⟨rfl, rfl⟩
    rw [Hy.out]
    go_wp2_with fail
    refine (Mul64_any _ _ x1 y1 _).mono ?_; rintro e w' ⟨rfl, rfl⟩
    generalize hp : x * y = p
    have Hp := Lib.hid hp
    clear hp
    generalize hq : p / 18446744073709551616 = q
    generalize hr : p % 18446744073709551616 = r
    have r1 : r < 18446744073709551616 := by omega
    have Hq := Lib.hid hq; have Hr := Lib.hid hr
    clear hq hr
    by_cases hz : q = 0
    · subst hz
      go_wp2_with (go_at_call 22; refine (cut_any _ _ _ (by omega) (by omega) (by omega) (by omega)).mono ?_; rintro e w' ⟨rfl, rfl⟩)
      go_ret; exact ⟨ret_int (by have := Hq.out; have := Hr.out; rw [Hp.out, show p = r by omega]), rfl⟩
    · have hne : ((q : Int) != 0) = true := by rw [bne_iff_ne]; omega
      go_wp2_with (go_at_call 22; refine (cut_any _ _ _ (by omega) (by omega) (by omega) (by omega)).mono ?_; rintro e w' ⟨rfl, rfl⟩)
      go_ret; exact ⟨ret_int (by have := Hq.out; rw [Hp.out]; unfold cl; omega), rfl⟩

theorem Times_any (a b m : Int) (w : World) (a0 : -9223372036854775808 ≤ a) (a1 : a ≤ 9223372036854775807) (b0 : -9223372036854775808 ≤ b) (b1 : b ≤ 9223372036854775807) (m0 : -9223372036854775808 ≤ m) (m1 : m ≤ 9223372036854775807) :
    Calls Try.prog 16 #[.int .i64 a, .int .i64 b, .int .i64 m] w fun e w' => e = .returned (.int .i64 (cl (a * b) m)) ∧ w = w' := by
  by_cases h : decide (a < 0) = decide (b < 0)
  · exact Times_yes a b m w a0 a1 b0 b1 m0 m1 _ h rfl
  · exact Times_no a b m w (by by_cases ha : a < 0 <;> by_cases hb : b < 0 <;> simp_all <;> omega)

theorem Dropped_any (a b m : Int) (w : World) (a0 : -9223372036854775808 ≤ a) (a1 : a ≤ 9223372036854775807) (b0 : -9223372036854775808 ≤ b) (b1 : b ≤ 9223372036854775807) (m0 : -9223372036854775808 ≤ m) (m1 : m ≤ 9223372036854775807) :
    Calls Try.prog 18 #[.int .i64 a, .int .i64 b, .int .i64 m] w fun e w' => e = .returned (.int .i64 (dr a b m)) ∧ w = w' := by
  by_cases h : max 0 (a + b) ≤ max 0 m
  all_goals
    go_enter Try.func18, Try.ntmps18
    go_wp2_with (first | (go_at_call 23; refine (total_any _ _ _ (by omega) (by omega) (by omega) (by omega)).mono ?_; rintro e w' ⟨rfl, rfl⟩) | (go_at_call 27; refine (natural_any _ _ (by omega) (by omega)).mono ?_; rintro e w' ⟨rfl, rfl⟩) | (go_at_call 22; refine (cut_any _ _ _ (by omega) (by omega) (by omega) (by omega)).mono ?_; rintro e w' ⟨rfl, rfl⟩))
    go_ret; exact ⟨ret_int (by unfold dr; (try unfold cl); omega), rfl⟩

/-! ### the reference -/
theorem rClamp_any (n m : Int) (w : World) :
    Calls Try.prog 10 #[.int .i64 n, .int .i64 m] w fun e w' => e = .returned (.int .i64 (cl n m)) ∧ w = w' := by
  by_cases h1 : m < 0
  · go_enter Try.func10, Try.ntmps10
    go_wp2
    all_goals (go_ret; exact ⟨ret_int (by unfold cl; omega), rfl⟩)
  · by_cases h2 : n < 0
    all_goals
      go_enter Try.func10, Try.ntmps10
      go_wp2
      all_goals (go_ret; exact ⟨ret_int (by unfold cl; omega), rfl⟩)

theorem rAdd_any (a b m : Int) (w : World) (a0 : -9223372036854775808 ≤ a) (a1 : a ≤ 9223372036854775807) (b0 : -9223372036854775808 ≤ b) (b1 : b ≤ 9223372036854775807) (m0 : -9223372036854775808 ≤ m) (m1 : m ≤ 9223372036854775807) :
    Calls Try.prog 12 #[.int .i64 a, .int .i64 b, .int .i64 m] w fun e w' => e = .returned (.int .i64 (cl (a + b) m)) ∧ w = w' := by
  by_cases hm : m < 0
  · go_enter Try.func12, Try.ntmps12
    go_wp2
    all_goals (go_ret; exact ⟨ret_int (by unfold cl; omega), rfl⟩)
  · by_cases ha : a < 0 <;> by_cases hb : b < 0
    · go_enter Try.func12, Try.ntmps12
      go_wp2
      all_goals (go_ret; exact ⟨ret_int (by unfold cl; omega), rfl⟩)
    · go_enter Try.func12, Try.ntmps12
      go_wp2_with (go_at_call 10; refine (rClamp_any _ _ _).mono ?_; rintro e w' ⟨rfl, rfl⟩)
      all_goals (go_ret; exact ⟨ret_int (by unfold cl; omega), rfl⟩)
    · go_enter Try.func12, Try.ntmps12
      go_wp2_with (go_at_call 10; refine (rClamp_any _ _ _).mono ?_; rintro e w' ⟨rfl, rfl⟩)
      all_goals (go_ret; exact ⟨ret_int (by unfold cl; omega), rfl⟩)
    · by_cases hx : m < a
      · go_enter Try.func12, Try.ntmps12
        go_wp2
        all_goals (go_ret; exact ⟨ret_int (by unfold cl; omega), rfl⟩)
      · by_cases hy : m - a < b
        all_goals
          go_enter Try.func12, Try.ntmps12
          go_wp2
          all_goals (go_ret; exact ⟨ret_int (by unfold cl; omega), rfl⟩)

theorem rSub_any (a b m : Int) (w : World) (a0 : -9223372036854775808 ≤ a) (a1 : a ≤ 9223372036854775807) (b0 : -9223372036854775808 ≤ b) (b1 : b ≤ 9223372036854775807) (m0 : -9223372036854775808 ≤ m) (m1 : m ≤ 9223372036854775807) :
    Calls Try.prog 15 #[.int .i64 a, .int .i64 b, .int .i64 m] w fun e w' => e = .returned (.int .i64 (cl (a - b) m)) ∧ w = w' := by
  by_cases hm : m < 0
  · go_enter Try.func15, Try.ntmps15
    go_wp2
    all_goals (go_ret; exact ⟨ret_int (by unfold cl; omega), rfl⟩)
  · by_cases ha : a < 0 <;> by_cases hb : b < 0
    · go_enter Try.func15, Try.ntmps15
      go_wp2_with (go_at_call 10; refine (rClamp_any _ _ _).mono ?_; rintro e w' ⟨rfl, rfl⟩)
      all_goals (go_ret; exact ⟨ret_int (by unfold cl; omega), rfl⟩)
    · go_enter Try.func15, Try.ntmps15
      go_wp2
      all_goals (go_ret; exact ⟨ret_int (by unfold cl; omega), rfl⟩)
    · by_cases hx : m < a
      · go_enter Try.func15, Try.ntmps15
        go_wp2
        all_goals (go_ret; exact ⟨ret_int (by unfold cl; omega), rfl⟩)
      · by_cases hy : b < a - m
        all_goals
          go_enter Try.func15, Try.ntmps15
          go_wp2
          all_goals (go_ret; exact ⟨ret_int (by unfold cl; omega), rfl⟩)
    · go_enter Try.func15, Try.ntmps15
      go_wp2_with (go_at_call 10; refine (rClamp_any _ _ _).mono ?_; rintro e w' ⟨rfl, rfl⟩)
      all_goals (go_ret; exact ⟨ret_int (by unfold cl; omega), rfl⟩)

theorem size_any (n : Int) (w : World) (h0 : -9223372036854775808 ≤ n) (h1 : n ≤ 9223372036854775807) :
    Calls Try.prog 26 #[.int .i64 n] w fun e w' => e = .returned (.int .u64 n.natAbs) ∧ w = w' := by
  by_cases hn : n < 0
  · go_enter Try.func26, Try.ntmps26
    go_wp2
    all_goals (go_ret; exact ⟨ret_int (by first | omega | (simp only [IntKind.wrap_u64]; omega)), rfl⟩)
  · go_enter Try.func26, Try.ntmps26
    go_wp2
    all_goals (go_ret; exact ⟨ret_int (by omega), rfl⟩)

theorem rDropped_any (a b m : Int) (w : World) (a0 : -9223372036854775808 ≤ a) (a1 : a ≤ 9223372036854775807) (b0 : -9223372036854775808 ≤ b) (b1 : b ≤ 9223372036854775807) (m0 : -9223372036854775808 ≤ m) (m1 : m ≤ 9223372036854775807) :
    Calls Try.prog 19 #[.int .i64 a, .int .i64 b, .int .i64 m] w fun e w' => e = .returned (.int .i64 (dr a b m)) ∧ w = w' := by
  by_cases hm : m < 0 <;> by_cases ha : a < 0 <;> by_cases hb : b < 0
  all_goals
    go_enter Try.func19, Try.ntmps19
    go_wp2
    all_goals (go_ret; exact ⟨ret_int (by unfold dr; omega), rfl⟩)

end Go.Proofs.Ytgnmiifkafedjaa.satFn
