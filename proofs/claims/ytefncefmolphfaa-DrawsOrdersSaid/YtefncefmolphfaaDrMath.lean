/- Numbers and lists: what goes on in the same way, and what is picked. -/
import Derived.Test.YtefncefmolphfaaDrPick2
namespace Go.Proofs.Ytefncefmolphfaa.drFn
open Go.RowKit drMem
set_option linter.unusedVariables false

theorem getD_drop (l : List Nat) (u k : Nat) : (l.drop u).getD k 0 = l.getD (u + k) 0 := by
  simp [List.getD_eq_getElem?_getD, List.getElem?_drop]
theorem pick1_drop (l : List Nat) (u v b : Nat) : pick1 (l.drop u) v b = pick1 l (u + v) b := by unfold pick1; rw [getD_drop]
theorem nextE_drop (l : List Nat) (u : Nat) (n : Int) : nextE (l.drop u) 0 n = nextE l u n := by
  unfold nextE
  have : (l.drop u).length ≤ 0 ↔ l.length ≤ u := by rw [List.length_drop]; omega
  simp only [this]
theorem nextN_drop (l : List Nat) (u : Nat) (n : Int) : nextN (l.drop u) 0 n = nextN l u n := by
  unfold nextN; rw [nextE_drop, pick1_drop, Nat.add_zero]
theorem nextU_drop (l : List Nat) (u : Nat) (n : Int) : nextU (l.drop u) 0 n = nextU l u n - u := by
  unfold nextU; rw [nextE_drop]; split <;> omega
theorem nextU_ge (l : List Nat) (u : Nat) (n : Int) : u ≤ nextU l u n := by unfold nextU; split <;> omega
theorem next_in (l : List Nat) (u : Nat) (n : Int) (h : nextE l u n = 0) : 0 ≤ nextN l u n ∧ nextN l u n < n := by
  have h1 : 1 ≤ n := by
    unfold nextE at h
    split at h
    · cases h
    · omega
  unfold nextN; rw [if_pos h]; unfold pick1
  have := Nat.mod_lt (l.getD u 0) (show n.toNat > 0 by omega)
  omega
theorem shufL_drop (l : List Nat) (u : Nat) : ∀ (i v : Nat) (xs : List Int), shufL (l.drop u) v i xs = shufL l (u + v) i xs
  | 0, _, _ => rfl
  | i + 1, v, xs => by rw [shufL, shufL, pick1_drop, shufL_drop l u i, Nat.add_assoc]
theorem shE_drop (l : List Nat) (u n : Nat) : shE (l.drop u) 0 n = shE l u n := by unfold shE; rw [List.length_drop, Nat.sub_zero]
theorem shOut_drop (l : List Nat) (u : Nat) (xs : List Int) : shOut (l.drop u) 0 xs = shOut l u xs := by unfold shOut; rw [shE_drop, shufL_drop, Nat.add_zero]
theorem shU_drop (l : List Nat) (u n : Nat) : shU (l.drop u) 0 n = shU l u n - u := by unfold shU; rw [shE_drop]; split <;> omega
theorem shU_ge (l : List Nat) (u n : Nat) : u ≤ shU l u n := by unfold shU; split <;> omega
theorem pickGo_drop (l : List Nat) (u : Nat) : ∀ (k v : Nat) (opn : List Int), pickGo (l.drop u) v k opn = pickGo l (u + v) k opn
  | 0, _, _ => rfl
  | k + 1, v, opn => by rw [pickGo, pickGo, pick1_drop, pickGo_drop l u k, Nat.add_assoc]
theorem pkE_drop (l : List Nat) (u : Nat) (m n : Int) : pkE (l.drop u) 0 m n = pkE l u m n := by unfold pkE; rw [List.length_drop, Nat.sub_zero]
theorem pkOut_drop (l : List Nat) (u : Nat) (m n : Int) : pkOut (l.drop u) 0 m n = pkOut l u m n := by unfold pkOut; rw [pkE_drop, pickGo_drop, Nat.add_zero]
theorem pkU_drop (l : List Nat) (u : Nat) (m n : Int) : pkU (l.drop u) 0 m n = pkU l u m n - u := by unfold pkU; rw [pkE_drop]; split <;> omega
theorem pkU_ge (l : List Nat) (u : Nat) (m n : Int) : u ≤ pkU l u m n := by unfold pkU; split <;> omega

/- a shuffled list has the same elements -/
theorem swp_perm (xs : List Int) (i j : Nat) (hi : i < xs.length) (hj : j < xs.length) : (swp xs i j).Perm xs := by
  rw [List.perm_iff_count]
  intro a
  unfold swp
  have ei : xs.getD i 0 = xs[i] := by simp [List.getD_eq_getElem?_getD, hi]
  have ej : xs.getD j 0 = xs[j] := by simp [List.getD_eq_getElem?_getD, hj]
  rw [ei, ej]
  have hj' : j < (xs.set i xs[j]).length := by simpa using hj
  rw [List.count_set hj', List.count_set hi]
  have c1 : xs[i] == a → 0 < xs.count a := fun h => List.count_pos_iff.2 (by have := List.getElem_mem hi; rw [beq_iff_eq] at h; rw [← h]; exact this)
  by_cases hij : i = j
  · subst hij
    simp only [List.getElem_set_self]
    by_cases h1 : (xs[i] == a) = true
    · have := c1 h1; simp only [h1, if_true]; omega
    · simp [h1]
  · rw [List.getElem_set_ne hij]
    by_cases h1 : (xs[i] == a) = true
    · have := c1 h1
      by_cases h2 : (xs[j] == a) = true
      · simp only [h1, h2, if_true]; omega
      · simp only [h1, h2, if_true]; simp; omega
    · by_cases h2 : (xs[j] == a) = true
      · simp [h1, h2]
      · simp [h1, h2]
theorem shufL_perm (l : List Nat) : ∀ (i u : Nat) (xs : List Int), i < xs.length ∨ i = 0 → (shufL l u i xs).Perm xs
  | 0, _, xs, _ => List.Perm.refl _
  | i + 1, u, xs, h => by
    rw [shufL]
    have hl : i + 1 < xs.length := by omega
    have hj : pick1 l u (i + 2) < xs.length := by have := Nat.mod_lt (l.getD u 0) (show i + 2 > 0 by omega); unfold pick1; omega
    exact (shufL_perm l i (u + 1) _ (by rw [swp_len]; omega)).trans (swp_perm xs _ _ hl hj)
theorem shOut_perm (l : List Nat) (u : Nat) (xs : List Int) (h : shE l u xs.length = 0) : (shOut l u xs).Perm xs := by
  unfold shOut; rw [if_pos h]
  exact shufL_perm l _ u xs (by omega)

/- what is picked -/
theorem pickGo_mem (l : List Nat) : ∀ (k u : Nat) (opn : List Int), k ≤ opn.length → ∀ x ∈ pickGo l u k opn, x ∈ opn
  | 0, _, _, _, x, hx => by simp [pickGo] at hx
  | k + 1, u, opn, hk, x, hx => by
    have hj : pick1 l u opn.length < opn.length := Nat.mod_lt _ (by omega)
    rw [pickGo, List.mem_cons] at hx
    rcases hx with rfl | hx
    · rw [List.getD_eq_getElem?_getD, List.getElem?_eq_getElem hj]; exact List.getElem_mem hj
    · exact List.mem_of_mem_eraseIdx (pickGo_mem l k (u + 1) _ (by rw [List.length_eraseIdx_of_lt hj]; omega) x hx)
theorem eraseIdx_not_mem {opn : List Int} (hn : opn.Nodup) {j : Nat} (hj : j < opn.length) : opn[j] ∉ opn.eraseIdx j := by
  intro hm
  obtain ⟨i, hi, hij, e⟩ := List.mem_eraseIdx_iff_getElem.1 hm
  have hp := List.pairwise_iff_getElem.1 hn
  rcases Nat.lt_or_gt_of_ne hij with h | h
  · exact hp i j hi hj h e
  · exact hp j i hj hi h e.symm
theorem pickGo_nodup (l : List Nat) : ∀ (k u : Nat) (opn : List Int), k ≤ opn.length → opn.Nodup → (pickGo l u k opn).Nodup
  | 0, _, _, _, _ => List.nodup_nil
  | k + 1, u, opn, hk, hn => by
    have hj : pick1 l u opn.length < opn.length := Nat.mod_lt _ (by omega)
    have hl : k ≤ (opn.eraseIdx (pick1 l u opn.length)).length := by rw [List.length_eraseIdx_of_lt hj]; omega
    rw [pickGo, List.nodup_cons]
    refine ⟨fun hm => ?_, pickGo_nodup l k (u + 1) _ hl (hn.sublist (List.eraseIdx_sublist _ _))⟩
    have h1 := pickGo_mem l k (u + 1) _ hl _ hm
    rw [List.getD_eq_getElem?_getD, List.getElem?_eq_getElem hj] at h1
    exact eraseIdx_not_mem hn hj h1
theorem upL_full (n : Nat) : upL n n = (List.range n).map fun (i : Nat) => (i : Int) := by
  unfold upL
  apply List.map_congr_left
  intro i hi
  rw [if_pos (List.mem_range.1 hi)]
theorem upL_nodup (n : Nat) : (upL n n).Nodup := by
  rw [upL_full]
  exact List.pairwise_map.2 (List.nodup_range.imp fun h e => h (by omega))
theorem upL_mem (n : Nat) (x : Int) (h : x ∈ upL n n) : 0 ≤ x ∧ x < n := by
  rw [upL_full] at h
  obtain ⟨i, hi, rfl⟩ := List.mem_map.1 h
  have := List.mem_range.1 hi
  omega
def le64 (x y : Int) : Bool := decide (x ≤ y)
theorem sorted_lt {xs : List Int} (h : xs.Nodup) : (xs.mergeSort fun x y => decide (x ≤ y)).Pairwise (· < ·) := by
  have h1 := List.pairwise_mergeSort (le := fun x y : Int => decide (x ≤ y)) (by intro a b c; simp; omega) (by intro a b; simp; omega) xs
  have h2 : (xs.mergeSort fun x y => decide (x ≤ y)).Nodup := (List.mergeSort_perm xs _).nodup_iff.2 h
  exact (h1.and h2).imp fun {a b} h => by
    have := h.1; have := h.2; simp at *; omega
theorem pk_in (l : List Nat) (u : Nat) (m n : Int) (h : pkE l u m n = 0) : (0 ≤ m ∧ m ≤ n) ∧ (pkOut l u m n).length = m.toNat ∧ (∀ x ∈ pkOut l u m n, 0 ≤ x ∧ x < n) ∧ (pkOut l u m n).Pairwise (· < ·) := by
  have h1 : 0 ≤ n ∧ 0 ≤ m ∧ m ≤ n := by
    unfold pkE at h
    split at h
    · cases h
    · omega
  have e : pkOut l u m n = (pickGo l u m.toNat (upL n.toNat n.toNat)).mergeSort fun x y => decide (x ≤ y) := by unfold pkOut; rw [if_pos h]
  rw [e]
  refine ⟨⟨h1.2.1, h1.2.2⟩, by rw [List.length_mergeSort, pickGo_len], fun x hx => ?_, sorted_lt (pickGo_nodup l _ u _ (by rw [upL_len]; omega) (upL_nodup _))⟩
  have := upL_mem _ _ (pickGo_mem l _ u _ (by rw [upL_len]; omega) x (List.mem_mergeSort.1 hx))
  omega
end Go.Proofs.Ytefncefmolphfaa.drFn
