/- The reference's flags: which numbers are open, and which are picked. -/
import Derived.Test.YtefncefmolphfaaDrMath
namespace Go.Proofs.Ytefncefmolphfaa.drFn
open Go.RowKit drMem
set_option linter.unusedVariables false

/- the places of the flags that are down, and of those that are up, counted from k on -/
def dnL : Nat → List Bool → List Int
  | _, [] => []
  | k, b :: r => if b then dnL (k + 1) r else (k : Int) :: dnL (k + 1) r
def upF : Nat → List Bool → List Int
  | _, [] => []
  | k, b :: r => if b then (k : Int) :: upF (k + 1) r else upF (k + 1) r
theorem dnL_app : ∀ (k : Nat) (a b : List Bool), dnL k (a ++ b) = dnL k a ++ dnL (k + a.length) b
  | _, [], _ => by simp [dnL]
  | k, x :: a, b => by
    have := dnL_app (k + 1) a b
    cases x <;> simp [dnL, this] <;> congr 1 <;> omega
theorem upF_app : ∀ (k : Nat) (a b : List Bool), upF k (a ++ b) = upF k a ++ upF (k + a.length) b
  | _, [], _ => by simp [upF]
  | k, x :: a, b => by
    have := upF_app (k + 1) a b
    cases x <;> simp [upF, this] <;> congr 1 <;> omega
theorem upF_bd : ∀ (k : Nat) (a : List Bool) (x : Int), x ∈ upF k a → (k : Int) ≤ x ∧ x < k + a.length
  | _, [], x, h => by simp [upF] at h
  | k, b :: a, x, h => by
    have ih := upF_bd (k + 1) a x
    cases b
    · simp [upF] at h; have := ih h; simp; omega
    · simp [upF] at h
      rcases h with rfl | h
      · simp; omega
      · have := ih h; simp; omega
theorem upF_lt : ∀ (k : Nat) (a : List Bool), (upF k a).Pairwise (· < ·)
  | _, [] => by simp [upF]
  | k, b :: a => by
    cases b
    · simpa [upF] using upF_lt (k + 1) a
    · simp only [upF, if_true, List.pairwise_cons]
      exact ⟨fun x hx => by have := upF_bd (k + 1) a x hx; omega, upF_lt (k + 1) a⟩
theorem dnL_none (n : Nat) : ∀ k, dnL k (List.replicate n false) = (List.range n).map fun (i : Nat) => ((k + i : Nat) : Int) := by
  induction n with
  | zero => intro k; rfl
  | succ n ih =>
    intro k
    rw [List.replicate_succ, List.range_succ_eq_map]
    simp only [dnL, Bool.false_eq_true, if_false, ih, List.map_cons, List.map_map]
    congr 1
    apply List.map_congr_left
    intro i _
    simp; omega
theorem upF_none (n : Nat) : ∀ k, upF k (List.replicate n false) = [] := by
  induction n with
  | zero => intro k; rfl
  | succ n ih => intro k; rw [List.replicate_succ]; simp [upF, ih]
/- the flag at place n goes up: the number with the index j among the open ones -/
theorem flag_up (fl : List Bool) (n : Nat) (hn : n < fl.length) (hf : fl.getD n true = false) :
    dnL 0 (fl.set n true) = (dnL 0 fl).eraseIdx (dnL 0 (fl.take n)).length ∧ (dnL 0 fl).getD (dnL 0 (fl.take n)).length 0 = (n : Int) ∧ (upF 0 (fl.set n true)).Perm ((n : Int) :: upF 0 fl) := by
  have hx : fl[n] = false := by simpa [List.getD_eq_getElem?_getD, hn] using hf
  have e : fl = fl.take n ++ false :: fl.drop (n + 1) := by rw [← hx, ← List.drop_eq_getElem_cons hn, List.take_append_drop]
  have hl : (fl.take n).length = n := by simp; omega
  have e2 : fl.set n true = fl.take n ++ true :: fl.drop (n + 1) := by
    rw [List.set_eq_take_append_cons_drop, if_pos hn]
  have d1 : dnL 0 fl = dnL 0 (fl.take n) ++ (n : Int) :: dnL (n + 1) (fl.drop (n + 1)) := by
    conv => lhs; rw [e]
    rw [dnL_app, hl, Nat.zero_add]; simp [dnL]
  have d2 : dnL 0 (fl.set n true) = dnL 0 (fl.take n) ++ dnL (n + 1) (fl.drop (n + 1)) := by
    rw [e2, dnL_app, hl, Nat.zero_add]; simp [dnL]
  have u1 : upF 0 fl = upF 0 (fl.take n) ++ upF (n + 1) (fl.drop (n + 1)) := by
    conv => lhs; rw [e]
    rw [upF_app, hl, Nat.zero_add]; simp [upF]
  have u2 : upF 0 (fl.set n true) = upF 0 (fl.take n) ++ (n : Int) :: upF (n + 1) (fl.drop (n + 1)) := by
    rw [e2, upF_app, hl, Nat.zero_add]; simp [upF]
  refine ⟨?_, ?_, ?_⟩
  · rw [d1, d2, List.eraseIdx_append_of_length_le (Nat.le_refl _), Nat.sub_self]; rfl
  · rw [d1, List.getD_eq_getElem?_getD, List.getElem?_append_right (Nat.le_refl _), Nat.sub_self]; rfl
  · rw [u1, u2]; exact List.perm_middle
/- one flag more is passed -/
theorem dn_take (fl : List Bool) (n : Nat) (hn : n < fl.length) : (dnL 0 (fl.take (n + 1))).length = (dnL 0 (fl.take n)).length + if fl.getD n true = false then 1 else 0 := by
  have e : fl.getD n true = fl[n] := by simp [List.getD_eq_getElem?_getD, hn]
  rw [List.take_succ_eq_append_getElem hn, dnL_app, e, List.length_append]
  cases fl[n] <;> simp [dnL]
theorem up_take (fl : List Bool) (n : Nat) (hn : n < fl.length) : upF 0 (fl.take (n + 1)) = upF 0 (fl.take n) ++ if fl.getD n true = false then [] else [(n : Int)] := by
  have e : fl.getD n true = fl[n] := by simp [List.getD_eq_getElem?_getD, hn]
  have e2 : (fl.take n).length = n := by rw [List.length_take]; omega
  rw [List.take_succ_eq_append_getElem hn, upF_app, e, e2]
  cases fl[n] <;> simp [upF]
theorem dn_up_len (fl : List Bool) : ∀ k, (dnL k fl).length + (upF k fl).length = fl.length := by
  induction fl with
  | nil => intro k; rfl
  | cons b r ih =>
    intro k
    have := ih (k + 1)
    cases b <;> simp [dnL, upF] <;> omega
/- the flags that are up, in their order, are the numbers that were picked, sorted -/
theorem picked_eq (fl : List Bool) (ps : List Int) (h : (upF 0 fl).Perm ps) : upF 0 fl = ps.mergeSort fun x y => decide (x ≤ y) := by
  have h1 := List.pairwise_mergeSort (le := fun x y : Int => decide (x ≤ y)) (by intro a b c; simp; omega) (by intro a b; simp; omega) ps
  refine List.Perm.eq_of_pairwise (le := fun x y : Int => x ≤ y) (fun a b _ _ h3 h4 => by omega) ((upF_lt 0 fl).imp fun {a b} h => by omega) (h1.imp fun {a b} h => by simpa using h) (h.trans (List.mergeSort_perm ps _).symm)
end Go.Proofs.Ytefncefmolphfaa.drFn
