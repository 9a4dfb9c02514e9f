/- Contracts of the products of the reference, of the sums of lists, and that the examples of the chapter hold. -/
import Derived.Test.YtgnmiifkafedjaaSatFn
import Derived.LoopTactic
import Derived.Outline
namespace Go.Proofs.Ytgnmiifkafedjaa.satFn
open Go.ChangeShapes Go.WideShapes Go.ChangeAt Go.RowKit
set_option linter.unusedVariables false

theorem div_room (x y m : Nat) (hy : 0 < y) (h : m / y < x) : m < x * y := (Nat.div_lt_iff_lt_mul hy).1 h
theorem room_div (x y m : Nat) (hy : 0 < y) (h : ¬ m / y < x) : x * y ≤ m := by
  have := mt (Nat.div_lt_iff_lt_mul hy).2 h; omega

theorem rTimes_no (a b m : Int) (w : World) (h : m < 0 ∨ a = 0 ∨ b = 0 ∨ a < 0 ∧ 0 < b ∨ 0 < a ∧ b < 0) :
    Calls Try.prog 17 #[.int .i64 a, .int .i64 b, .int .i64 m] w fun e w' => e = .returned (.int .i64 (cl (a * b) m)) ∧ w = w' := by
  by_cases hm : m < 0
  · go_enter Try.func17, Try.ntmps17
    go_wp2
    go_ret; exact ⟨ret_int (by unfold cl; omega), rfl⟩
  · have hz : a * b ≤ 0 := by
      rcases h with h | h | h | h | h
      · omega
      · simp [h]
      · simp [h]
      · exact neg_mul_le a b h.1 (by omega)
      · rw [Int.mul_comm]; exact neg_mul_le b a h.2 (by omega)
    by_cases ha : a = 0
    · subst ha
      go_enter Try.func17, Try.ntmps17
      go_wp2
      go_ret; exact ⟨ret_int (by unfold cl; omega), rfl⟩
    · by_cases hb : b = 0
      · subst hb
        have a0 : (a == 0) = false := by simpa using ha
        go_enter Try.func17, Try.ntmps17
        go_wp2
        go_ret; exact ⟨ret_int (by unfold cl; omega), rfl⟩
      · have a0 : (a == 0) = false := by simpa using ha
        have b0 : (b == 0) = false := by simpa using hb
        by_cases sa : a < 0
        · have sb : 0 < b := by omega
          go_enter Try.func17, Try.ntmps17
          go_wp2
          go_ret; exact ⟨ret_int (by unfold cl; omega), rfl⟩
        · have sa' : 0 < a := by omega
          have sb : b < 0 := by omega
          go_enter Try.func17, Try.ntmps17
          go_wp2
          go_ret; exact ⟨ret_int (by unfold cl; omega), rfl⟩

theorem rTimes_yes (a b m : Int) (w : World) (a0 : -9223372036854775808 ≤ a) (a1 : a ≤ 9223372036854775807) (b0 : -9223372036854775808 ≤ b) (b1 : b ≤ 9223372036854775807) (m0 : 0 ≤ m) (m1 : m ≤ 9223372036854775807)
    (h : 0 < a ∧ 0 < b ∨ a < 0 ∧ b < 0) :
    Calls Try.prog 17 #[.int .i64 a, .int .i64 b, .int .i64 m] w fun e w' => e = .returned (.int .i64 (cl (a * b) m)) ∧ w = w' := by
  have hab := abs_mul a b (by omega)
  rw [← hab]
  clear hab
  obtain ⟨m, rfl⟩ := Int.eq_ofNat_of_zero_le m0
  have ea : (a == 0) = false := by simp; omega
  have eb : (b == 0) = false := by simp; omega
  generalize hx : a.natAbs = x
  generalize hy : b.natAbs = y
  have x1 : x < 18446744073709551616 := by omega
  have y1 : y < 18446744073709551616 := by omega
  have y0 : 0 < y := by omega
  have Hx := Lib.hid hx; have Hy := Lib.hid hy
  clear hx hy
  generalize hq : m / y = q
  have q1 : q ≤ m := by rw [← hq]; exact Nat.div_le_self _ _
  have hqq : (m : Int) / (y : Int) = (q : Int) := by rw [← hq]; exact (Int.natCast_ediv m y).symm
  by_cases hr : q < x
  · have hb := div_room x y m y0 (by omega)
    generalize hp : x * y = p at hb ⊢
    have Hp := Lib.hid hp; have Hq := Lib.hid hq
    clear hp hq
    rcases h with ⟨ha, hb'⟩ | ⟨ha, hb'⟩
    all_goals
      go_enter Try.func17, Try.ntmps17
      go_wp2_with fail
      refine (size_any _ _ b0 b1).mono ?_; rintro e w' ⟨rfl, rfl⟩
      rw [Hy.out]
      go_wp2_with fail
      refine (size_any _ _ a0 a1).mono ?_; rintro e w' ⟨rfl, rfl⟩
      rw [Hx.out]
      go_wp2_with fail
      go_ret; exact ⟨ret_int (by unfold cl; omega), rfl⟩
  · have hb := room_div x y m y0 (by omega)
    generalize hp : x * y = p at hb ⊢
    have hpp : (x : Int) * (y : Int) = (p : Int) := by rw [← hp]; exact (Int.natCast_mul x y).symm
    have Hp := Lib.hid hp; have Hq := Lib.hid hq
    clear hp hq
    rcases h with ⟨ha, hb'⟩ | ⟨ha, hb'⟩
    all_goals
      go_enter Try.func17, Try.ntmps17
      go_wp2_with fail
      refine (size_any _ _ b0 b1).mono ?_; rintro e w' ⟨rfl, rfl⟩
      rw [Hy.out]
      go_wp2_with fail
      refine (size_any _ _ a0 a1).mono ?_; rintro e w' ⟨rfl, rfl⟩
      rw [Hx.out]
      go_wp2_with fail
      refine (size_any _ _ a0 a1).mono ?_; rintro e w' ⟨rfl, rfl⟩
      rw [Hx.out]
      go_wp2_with fail
      refine (size_any _ _ b0 b1).mono ?_; rintro e w' ⟨rfl, rfl⟩
      rw [Hy.out]
      go_wp2_with fail
      go_ret; exact ⟨ret_int (by unfold cl; omega), rfl⟩

theorem rTimes_any (a b m : Int) (w : World) (a0 : -9223372036854775808 ≤ a) (a1 : a ≤ 9223372036854775807) (b0 : -9223372036854775808 ≤ b) (b1 : b ≤ 9223372036854775807) (m0 : -9223372036854775808 ≤ m) (m1 : m ≤ 9223372036854775807) :
    Calls Try.prog 17 #[.int .i64 a, .int .i64 b, .int .i64 m] w fun e w' => e = .returned (.int .i64 (cl (a * b) m)) ∧ w = w' := by
  by_cases h : m < 0 ∨ a = 0 ∨ b = 0 ∨ a < 0 ∧ 0 < b ∨ 0 < a ∧ b < 0
  · exact rTimes_no a b m w h
  · exact rTimes_yes a b m w a0 a1 b0 b1 (by omega) m1 (by omega)

/-! ### sums of lists -/
/- the sum of the first numbers of a list, clamped after each of them -/
def su (zs : List Int) (m : Int) : Nat → Int
  | 0 => 0
  | k + 1 => cl (su zs m k + zs.getD k 0) m
theorem su_lo (zs : List Int) (m : Int) (k : Nat) : 0 ≤ su zs m k := by
  cases k with
  | zero => exact Int.le_refl _
  | succ k => exact cl_lo _ _
theorem su_hi (zs : List Int) (m : Int) (k : Nat) : su zs m k ≤ max 0 m := by
  cases k with
  | zero => show 0 ≤ max 0 m; omega
  | succ k => exact cl_hi _ _

theorem Sum_any (b off len cap : Nat) (zs : List Int) (m : Int) (w : World) (hl : len ≤ 9223372036854775807) (m0 : -9223372036854775808 ≤ m) (m1 : m ≤ 9223372036854775807)
    (hc : ∀ k, k < len → w.cell? ⟨b, off + k, none⟩ = some (.int .i64 (zs.getD k 0))) (hz : ∀ k, k < len → -9223372036854775808 ≤ zs.getD k 0 ∧ zs.getD k 0 ≤ 9223372036854775807) :
    Calls Try.prog 20 #[.slice (some ⟨b, off, none⟩) len cap, .int .i64 m] w fun e w' => e = .returned (.int .i64 (su zs m len)) ∧ w = w' := by
  have HC := Lib.hid hc; have HZ := Lib.hid hz
  clear hc hz
  go_enter Try.func20, Try.ntmps20
  go_wp2
  go_loop [5, 10] (fun s i => ∃ k : Nat, k ≤ len ∧ i = .int .i64 k ∧ s = .int .i64 (su zs m k)) (fun _ i => len - (intOf i).toNat)
  case atStart => exact ⟨0, Nat.zero_le _, rfl, rfl⟩
  case round =>
    obtain ⟨k, hk, rfl, rfl⟩ := hrel
    have l1 := su_lo zs m k
    have l2 := su_hi zs m k
    by_cases hlt : k < len
    · have hcell := HC.out k hlt
      obtain ⟨z0, z1⟩ := HZ.out k hlt
      have e1 : su zs m (k + 1) = cl (su zs m k + zs.getD k 0) m := rfl
      have E1 := Lib.hid e1
      clear e1
      generalize hs : su zs m k = s at *
      generalize hzk : zs.getD k 0 = z at *
      clear hs hzk
      go_wp2_with (go_at_call 11; refine (Add_any _ _ _ _ (by omega) (by omega) (by omega) (by omega) (by omega) (by omega)).mono ?_; rintro e w' ⟨rfl, rfl⟩)
      go_round
      case rel => exact ⟨k + 1, by omega, by go_num, by rw [E1.out]⟩
      case measure => simp [intOf]; omega
    · obtain rfl : k = len := by omega
      go_wp2
      go_ret
      exact ⟨rfl, rfl⟩

theorem rSum_any (b off len cap : Nat) (zs : List Int) (m : Int) (w : World) (hl : len ≤ 9223372036854775807) (m0 : -9223372036854775808 ≤ m) (m1 : m ≤ 9223372036854775807)
    (hc : ∀ k, k < len → w.cell? ⟨b, off + k, none⟩ = some (.int .i64 (zs.getD k 0))) (hz : ∀ k, k < len → -9223372036854775808 ≤ zs.getD k 0 ∧ zs.getD k 0 ≤ 9223372036854775807) :
    Calls Try.prog 21 #[.slice (some ⟨b, off, none⟩) len cap, .int .i64 m] w fun e w' => e = .returned (.int .i64 (su zs m len)) ∧ w = w' := by
  have HC := Lib.hid hc; have HZ := Lib.hid hz
  clear hc hz
  go_enter Try.func21, Try.ntmps21
  go_wp2
  go_loop [5, 6] (fun s i => ∃ k : Nat, k ≤ len ∧ i = .int .i64 k ∧ s = .int .i64 (su zs m k)) (fun _ i => len - (intOf i).toNat)
  case atStart => exact ⟨0, Nat.zero_le _, rfl, rfl⟩
  case round =>
    obtain ⟨k, hk, rfl, rfl⟩ := hrel
    have l1 := su_lo zs m k
    have l2 := su_hi zs m k
    by_cases hlt : k < len
    · have hcell := HC.out k hlt
      obtain ⟨z0, z1⟩ := HZ.out k hlt
      have e1 : su zs m (k + 1) = cl (su zs m k + zs.getD k 0) m := rfl
      have E1 := Lib.hid e1
      clear e1
      generalize hs : su zs m k = s at *
      generalize hzk : zs.getD k 0 = z at *
      clear hs hzk
      go_wp2_with (go_at_call 12; refine (rAdd_any _ _ _ _ (by omega) (by omega) (by omega) (by omega) (by omega) (by omega)).mono ?_; rintro e w' ⟨rfl, rfl⟩)
      go_round
      case rel => exact ⟨k + 1, by omega, by go_num, by rw [E1.out]⟩
      case measure => simp [intOf]; omega
    · obtain rfl : k = len := by omega
      go_wp2
      go_ret
      exact ⟨rfl, rfl⟩

theorem three (n : Nat) (x y z : Int) (w : World) (hn : n = w.heap.size) (k : Nat) (hk : k < 3) : (w.alloc (.cells #[.int .i64 x, .int .i64 y, .int .i64 z] 3)).cell? ⟨n, 0 + k, none⟩ = some (.int .i64 ([x, y, z].getD k 0)) := by
  subst hn
  match k, hk with
  | 0, _ => go_simp; done
  | 1, _ => go_simp; done
  | 2, _ => go_simp; done
theorem three_in (x y z : Int) (hx : -9223372036854775808 ≤ x ∧ x ≤ 9223372036854775807) (hy : -9223372036854775808 ≤ y ∧ y ≤ 9223372036854775807) (hz : -9223372036854775808 ≤ z ∧ z ≤ 9223372036854775807) (k : Nat) (hk : k < 3) : -9223372036854775808 ≤ [x, y, z].getD k 0 ∧ [x, y, z].getD k 0 ≤ 9223372036854775807 := by
  match k, hk with
  | 0, _ => exact hx
  | 1, _ => exact hy
  | 2, _ => exact hz
theorem Sum3 (n : Nat) (x y z m : Int) (w : World) (hn : n = w.heap.size) (hx : -9223372036854775808 ≤ x ∧ x ≤ 9223372036854775807) (hy : -9223372036854775808 ≤ y ∧ y ≤ 9223372036854775807) (hz : -9223372036854775808 ≤ z ∧ z ≤ 9223372036854775807) (m0 : -9223372036854775808 ≤ m) (m1 : m ≤ 9223372036854775807) :
    Calls Try.prog 20 #[.slice (some ⟨n, 0, none⟩) 3 3, .int .i64 m] (w.alloc (.cells #[.int .i64 x, .int .i64 y, .int .i64 z] 3)) fun e w' => e = .returned (.int .i64 (su [x, y, z] m 3)) ∧ w.alloc (.cells #[.int .i64 x, .int .i64 y, .int .i64 z] 3) = w' :=
  Sum_any _ 0 3 3 [x, y, z] m _ (by omega) m0 m1 (three n x y z w hn) (three_in x y z hx hy hz)

theorem known_exact (w : World) :
    Calls Try.prog 13 #[] w fun e w' => e = .returned (.bool true) ∧ (w.alloc (.cells #[.int .i64 60, .int .i64 50, .int .i64 (-9)] 3)).alloc (.cells #[.int .i64 (-9), .int .i64 60, .int .i64 50] 3) = w' := by
  have k1 : cl (-3) 99 = 0 := by decide
  have k2 : cl 100 99 = 99 := by decide
  have k3 : cl 5 (-1) = 0 := by decide
  have k4 : cl 105 99 = 99 := by decide
  have k5 : cl (-2) 99 = 0 := by decide
  have k6 : cl 140 99 = 99 := by decide
  have k7 : dr 95 10 99 = 6 := by decide
  have k8 : dr 95 4 99 = 0 := by decide
  have k9 : cl 18446744073709551614 9999 = 9999 := by decide
  have k10 : cl 9223372036854775808 9999 = 9999 := by decide
  have k11 : cl 20 99 = 20 := by decide
  have k12 : su [60, 50, -9] 99 3 = 90 := by decide
  have k13 : su [-9, 60, 50] 99 3 = 99 := by decide
  have k14 : dr 9223372036854775807 9223372036854775807 0 = 9223372036854775807 := by decide
  go_enter Try.func13, Try.ntmps13
  go_wp2_with (first | (go_at_call 9; refine (Clamp_any _ _ _).mono ?_; rintro e w' ⟨rfl, rfl⟩) | (go_at_call 11; refine (Add_any _ _ _ _ (by decide) (by decide) (by decide) (by decide) (by decide) (by decide)).mono ?_; rintro e w' ⟨rfl, rfl⟩) | (go_at_call 14; refine (Sub_any _ _ _ _ (by decide) (by decide) (by decide) (by decide) (by decide) (by decide)).mono ?_; rintro e w' ⟨rfl, rfl⟩) | (go_at_call 16; refine (Times_any _ _ _ _ (by decide) (by decide) (by decide) (by decide) (by decide) (by decide)).mono ?_; rintro e w' ⟨rfl, rfl⟩) | (go_at_call 18; refine (Dropped_any _ _ _ _ (by decide) (by decide) (by decide) (by decide) (by decide) (by decide)).mono ?_; rintro e w' ⟨rfl, rfl⟩) | (go_at_call 20; refine (Sum3 _ _ _ _ _ _ (by simp) (by decide) (by decide) (by decide) (by decide) (by decide)).mono ?_; rintro e w' ⟨rfl, rfl⟩))
  go_ret
  exact ⟨rfl, rfl⟩
theorem known_any (w : World) :
    Calls Try.prog 13 #[] w fun e w' => e = .returned (.bool true) ∧ Grown w w' :=
  (known_exact w).mono fun e w' ⟨he, hw⟩ => ⟨he, by subst hw; repeat (first | exact Grown.refl _ | apply Grown.drew | apply Grown.alloc)⟩
theorem known_below (B : Nat) (w : World) (hB : B ≤ w.heap.size) :
    Calls Try.prog 13 #[] w fun e w' => e = .returned (.bool true) ∧ Below B w w' :=
  (known_exact w).mono fun e w' ⟨he, hw⟩ => ⟨he, by subst hw; exact ((Below.refl _ _).alloc hB _).alloc (by simp; omega) _⟩

end Go.Proofs.Ytgnmiifkafedjaa.satFn
