/- Words that tell of flags: which bit is whose, one flag turned, how many are set, the first that is not. -/
import Derived.Test.YtefncefmolphfaaDoorIdBits
import Derived.Lib.TrailingZeros
namespace Go.Proofs.YtefncefmolphfaaDoor.idBits

def wds (fl : List Bool) : List Nat := (List.range ((fl.length + 63) / 64)).map fun i => ofB ((fl.drop (64 * i)).take 64)
theorem wds_len (fl : List Bool) : (wds fl).length = (fl.length + 63) / 64 := by simp [wds]
theorem wds_get (fl : List Bool) (i : Nat) (h : i < (fl.length + 63) / 64) : (wds fl).getD i 0 = ofB ((fl.drop (64 * i)).take 64) := by simp [wds, List.getD_eq_getElem?_getD, h]
theorem chunk_len (fl : List Bool) (i : Nat) : ((fl.drop (64 * i)).take 64).length ≤ 64 := by simp; omega
theorem chunk_lt (fl : List Bool) (i : Nat) : ofB ((fl.drop (64 * i)).take 64) < 18446744073709551616 := by
  have h1 := ofB_lt ((fl.drop (64 * i)).take 64)
  have h3 : 2 ^ ((fl.drop (64 * i)).take 64).length ≤ 2 ^ 64 := Nat.pow_le_pow_right (by decide) (chunk_len fl i)
  omega
theorem wds_lt (fl : List Bool) : ∀ x ∈ wds fl, x < 18446744073709551616 := by
  intro x hx
  obtain ⟨i, _, rfl⟩ := List.mem_map.1 hx
  exact chunk_lt fl i
theorem chunk_bit (fl : List Bool) (i j : Nat) : (ofB ((fl.drop (64 * i)).take 64)).testBit j = (decide (j < 64) && fl.getD (64 * i + j) false) := by
  rw [ofB_bit]
  simp only [List.getD_eq_getElem?_getD, List.getElem?_take, List.getElem?_drop]
  split <;> simp [*]
theorem getD_set (fl : List Bool) (k p : Nat) (v : Bool) (hk : k < fl.length) : (fl.set k v).getD p false = if p = k then v else fl.getD p false := by
  simp only [List.getD_eq_getElem?_getD, List.getElem?_set]
  by_cases h : k = p
  · subst h; simp [hk]
  · rw [if_neg h, if_neg (fun e => h e.symm)]
/- one flag turned -/
theorem wds_turn (fl : List Bool) (k : Nat) (hk : k < fl.length) : wds (fl.set k (!fl.getD k false)) = (wds fl).set (k / 64) ((wds fl).getD (k / 64) 0 ^^^ 2 ^ (k % 64)) := by
  rw [wds_get fl (k / 64) (by omega)]
  apply List.ext_getElem
  · simp [wds]
  · intro i h1 h2
    have hi : i < (fl.length + 63) / 64 := by rw [wds_len, List.length_set] at h1; exact h1
    have e1 : (wds (fl.set k (!fl.getD k false)))[i] = ofB (((fl.set k (!fl.getD k false)).drop (64 * i)).take 64) := by simp [wds]
    rw [e1, List.getElem_set]
    have e2 : (wds fl)[i]'(by rw [wds_len]; exact hi) = ofB ((fl.drop (64 * i)).take 64) := by simp [wds]
    apply Nat.eq_of_testBit_eq
    intro j
    rw [chunk_bit, getD_set _ _ _ _ hk]
    by_cases hik : k / 64 = i
    · rw [if_pos hik]
      subst hik
      rw [Nat.testBit_xor, chunk_bit, Nat.testBit_two_pow]
      by_cases hj : k % 64 = j
      · subst hj
        have hj64 : k % 64 < 64 := Nat.mod_lt _ (by decide)
        have hk2 : 64 * (k / 64) + k % 64 = k := Nat.div_add_mod k 64
        simp only [hk2, hj64, decide_true, Bool.true_and, if_true]
        cases fl.getD k false <;> rfl
      · by_cases hj64 : j < 64
        · rw [if_neg (by omega)]; simp [hj]
        · simp [hj64, hj]
    · rw [if_neg hik, e2, chunk_bit]
      by_cases hj64 : j < 64
      · rw [if_neg (by omega)]
      · simp [hj64]
theorem turn_true (fl : List Bool) (k : Nat) (h : fl.getD k false = false) : fl.set k (!fl.getD k false) = fl.set k true := by rw [h]; rfl
theorem turn_false (fl : List Bool) (k : Nat) (h : fl.getD k false = true) : fl.set k (!fl.getD k false) = fl.set k false := by rw [h]; rfl
theorem and_bit (x j : Nat) : x &&& 2 ^ j = if x.testBit j then 2 ^ j else 0 := by
  apply Nat.eq_of_testBit_eq
  intro i
  rw [Nat.testBit_and, Nat.testBit_two_pow]
  by_cases h : j = i
  · subst h
    cases hx : x.testBit j <;> simp
  · cases hx : x.testBit j <;> simp [h]
/- one flag's bit -/
theorem wds_bit (fl : List Bool) (k : Nat) (hk : k < fl.length) : (wds fl).getD (k / 64) 0 &&& 2 ^ (k % 64) = if fl.getD k false then 2 ^ (k % 64) else 0 := by
  rw [wds_get fl _ (by omega), and_bit, chunk_bit]
  have hj64 : k % 64 < 64 := Nat.mod_lt _ (by decide)
  have hk2 : 64 * (k / 64) + k % 64 = k := Nat.div_add_mod k 64
  rw [hk2]
  cases fl.getD k false <;> simp [hj64]
/- how many are set -/
theorem wds_pop (fl : List Bool) (i : Nat) (h : i < (fl.length + 63) / 64) : popN 64 ((wds fl).getD i 0) = ((fl.drop (64 * i)).take 64).count true := by
  rw [wds_get fl i h, ofB_pop _ _ (chunk_len fl i)]
theorem count_next (fl : List Bool) (i : Nat) : (fl.take (64 * (i + 1))).count true = (fl.take (64 * i)).count true + ((fl.drop (64 * i)).take 64).count true := by
  rw [show 64 * (i + 1) = 64 * i + 64 by omega, List.take_add, List.count_append]
theorem count_all (fl : List Bool) (n : Nat) (h : (fl.length + 63) / 64 ≤ n) : (fl.take (64 * n)).count true = fl.count true := by
  rw [List.take_of_length_le (by omega)]
/- the first that is not -/
def isFF (fl : List Bool) (n : Nat) : Prop := (∀ j, j < n → fl.getD j false = true) ∧ fl.getD n false = false
theorem lt_of_getD {fl : List Bool} {j : Nat} (h : fl.getD j false = true) : j < fl.length := by
  rcases Nat.lt_or_ge j fl.length with h1 | h1
  · exact h1
  · rw [List.getD_eq_getElem?_getD, List.getElem?_eq_none h1] at h; cases h
theorem isFF.le {fl : List Bool} {n : Nat} (h : isFF fl n) : n ≤ fl.length := by
  rcases Nat.eq_zero_or_pos n with h0 | h0
  · omega
  · have := lt_of_getD (h.1 (n - 1) (by omega)); omega
theorem isFF.eq {fl : List Bool} {n m : Nat} (h : isFF fl n) (k : isFF fl m) : n = m := by
  rcases Nat.lt_trichotomy n m with h1 | h1 | h1
  · have := k.1 n h1; rw [h.2] at this; cases this
  · exact h1
  · have := h.1 m h1; rw [k.2] at this; cases this
theorem full_word (fl : List Bool) (i : Nat) (hi : i < (fl.length + 63) / 64) (h : (wds fl).getD i 0 = 18446744073709551615) (j : Nat) (hj : j < 64) : fl.getD (64 * i + j) false = true := by
  rw [wds_get fl i hi] at h
  have h1 := chunk_bit fl i j
  rw [h, show 18446744073709551615 = 2 ^ 64 - 1 from rfl, Nat.testBit_two_pow_sub_one] at h1
  simpa [hj] using h1.symm
theorem ctz_bits (x : Nat) (h0 : x ≠ 0) (hx : x < 18446744073709551616) : Lib.ctz 64 x < 64 ∧ x.testBit (Lib.ctz 64 x) = true ∧ ∀ j, j < Lib.ctz 64 x → x.testBit j = false := by
  have e : Lib.ctz 64 x = Lib.ctzFrom 64 x := by unfold Lib.ctz; rw [if_neg h0]
  rw [e]
  obtain ⟨m, hm, hk⟩ := Lib.ctzFrom_spec 64 x (by omega) (by simpa using hx)
  generalize Lib.ctzFrom 64 x = c at *
  refine ⟨hk, ?_, fun j hj => ?_⟩
  · rw [hm, Nat.mul_comm, Nat.testBit_mul_two_pow]; simp
  · rw [hm, Nat.mul_comm, Nat.testBit_mul_two_pow]
    have : ¬ c ≤ j := by omega
    simp [this]
theorem free_word (fl : List Bool) (i : Nat) (hi : i < (fl.length + 63) / 64) (hb : ∀ j, j < 64 * i → fl.getD j false = true) (h : (wds fl).getD i 0 ≠ 18446744073709551615) :
    isFF fl (64 * i + Lib.ctz 64 (18446744073709551615 - (wds fl).getD i 0)) := by
  rw [wds_get fl i hi] at h ⊢
  have hlt := chunk_lt fl i
  have hbit := chunk_bit fl i
  generalize ofB ((fl.drop (64 * i)).take 64) = x at *
  obtain ⟨h1, h2, h3⟩ := ctz_bits (18446744073709551615 - x) (by omega) (by omega)
  have e : ∀ j, (18446744073709551615 - x).testBit j = (decide (j < 64) && !x.testBit j) := fun j => by
    have := Nat.testBit_two_pow_sub_succ (x := x) (n := 64) (by simpa using hlt) j
    rw [← this, show 18446744073709551615 - x = 2 ^ 64 - (x + 1) by omega]
  generalize Lib.ctz 64 (18446744073709551615 - x) = c at *
  refine ⟨fun j hj => ?_, ?_⟩
  · rcases Nat.lt_or_ge j (64 * i) with hji | hji
    · exact hb j hji
    · have h4 := h3 (j - 64 * i) (by omega)
      have h64 : j - 64 * i < 64 := by omega
      rw [e, hbit, show 64 * i + (j - 64 * i) = j by omega] at h4
      simpa [h64] using h4
  · rw [e, hbit] at h2
    simpa [h1] using h2
theorem full_all (fl : List Bool) (n : Nat) (h : (fl.length + 63) / 64 ≤ n) (hb : ∀ j, j < 64 * n → j < fl.length → fl.getD j false = true) : isFF fl fl.length :=
  ⟨fun j hj => hb j (by omega) hj, by rw [List.getD_eq_getElem?_getD, List.getElem?_eq_none (Nat.le_refl _)]; rfl⟩
end Go.Proofs.YtefncefmolphfaaDoor.idBits
