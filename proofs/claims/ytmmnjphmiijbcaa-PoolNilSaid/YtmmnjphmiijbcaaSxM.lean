/- A drawn region: its plan. -/
import Derived.Test.YtmmnjphmiijbcaaSxL
namespace Go.Proofs.Ytmmnjphmiijbcaa.sx
set_option linter.unusedVariables false
open Go.RowKit (Below)
variable {P : Program} {ops : Array Oper}

theorem markL_get : ∀ (L : List Nat) (l : Array Bool) (j : Nat), (markL l L)[j]? = if j ∈ L ∧ j < l.size then some true else l[j]?
  | [], l, j => by simp [markL]
  | i :: L, l, j => by
    have ih := markL_get L (l.setIfInBounds i true) j
    simp only [markL, List.foldl_cons] at ih ⊢
    rw [ih]
    simp only [Array.size_setIfInBounds, List.mem_cons]
    by_cases hj : j < l.size
    · by_cases hL : j ∈ L
      · simp [hL, hj]
      · by_cases hij : j = i
        · subst hij; simp [hL, hj]
        · simp [hL, hij, Array.getElem?_setIfInBounds_ne (Ne.symm hij)]
    · by_cases hij : i = j
      · subst hij
        simp [hj]
      · simp [hj]
theorem markL_size (L : List Nat) (l : Array Bool) : (markL l L).size = l.size := by
  induction L generalizing l with
  | nil => rfl
  | cons i L ih => simp only [markL, List.foldl_cons] at ih ⊢; rw [ih]; simp
theorem markL_ext {l l' : Array Bool} {L L' : List Nat} (hs : l.size = l'.size) (h : ∀ j, j < l.size → (l[j]? = some true ∨ j ∈ L ↔ l'[j]? = some true ∨ j ∈ L')) : markL l L = markL l' L' := by
  apply Array.ext_getElem?
  intro j
  rw [markL_get, markL_get]
  rcases Nat.lt_or_ge j l.size with hj | hj
  · have hj' : j < l'.size := by omega
    have hh := h j hj
    have e1 : l[j]? = some l[j] := by simp [hj]
    have e2 : l'[j]? = some l'[j] := by simp [hj']
    rw [e1, e2] at hh ⊢
    simp only [Option.some.injEq] at hh
    by_cases a : j ∈ L <;> by_cases b : j ∈ L' <;> simp [a, b, hj, hj'] at hh ⊢
    · exact hh
    · exact hh
    · cases hx : l[j] <;> cases hy : l'[j] <;> simp_all
  · have hj' : ¬ j < l'.size := by omega
    have hj2 : ¬ j < l.size := by omega
    simp [hj', hj2]
theorem getD_get (l : Array Bool) (j : Nat) (b : Bool) : l.getD j b = (l[j]?).getD b := by simp

theorem ready_lt {listed : Array Bool} {j : Nat} (h : j ∈ Region.ready .any ops listed) : j < ops.size := by
  unfold Region.ready at h
  have := (List.mem_filter.1 h).1
  simpa using this
theorem ready_un {listed : Array Bool} (hs : listed.size = ops.size) {j : Nat} (h : j ∈ Region.ready .any ops listed) : listed[j]? = some false := by
  have h1 := (mem_ready.1 h).1
  have hl := ready_lt h
  rw [getD_get] at h1
  have e : listed[j]? = some listed[j] := by simp [hs, hl]
  rw [e] at h1 ⊢
  simpa using h1
/- more is listed: what was ready is ready yet, unless it is listed -/
theorem ready_more {l l' : Array Bool} (hm : ∀ j : Nat, l[j]? = some true → l'[j]? = some true) {j : Nat} (h : j ∈ Region.ready .any ops l) (hj : l'[j]? = some false) : j ∈ Region.ready .any ops l' := by
  obtain ⟨h1, o, ho, ha⟩ := mem_ready.1 h
  refine mem_ready.2 ⟨by rw [getD_get, hj]; rfl, o, ho, fun e he hb => ?_⟩
  have := ha e he hb
  rw [getD_get] at this ⊢
  cases hq : l[e.on]? with
  | none => rw [hq] at this; simp at this
  | some b =>
    rw [hq] at this
    simp only [Option.getD_some] at this
    subst this
    rw [hm _ hq]; rfl

def Ap (ops : Array Oper) (i j : Nat) : Prop := ∀ x y, ops[i]? = some x → ops[j]? = some y →
  (∀ d, x.dst = some d → d ∉ y.looksAt ops) ∧ (∀ d, x.dst = some d → y.dst ≠ some d) ∧ (∀ d, y.dst = some d → d ∉ x.looksAt ops)
theorem Ap.symm {i j : Nat} (h : Ap ops i j) : Ap ops j i := fun x y hx hy => by
  obtain ⟨a, b, c⟩ := h y x hy hx
  exact ⟨c, fun d hd he => b d he hd, a⟩
theorem apartL_spec {i : Nat} {A : List Nat} (h : apartL ops i A = true) {e : Nat} (he : e ∈ A) (hne : e ≠ i) : Ap ops e i := by
  intro x y hx hy
  unfold apartL at h
  rw [hy] at h
  have := List.all_eq_true.1 h e he
  simp only [hx, Bool.or_eq_true, beq_iff_eq, hne, false_or] at this
  exact Oper.apart_spec this

/- what the head of a plan is -/
inductive Head (P : Program) (ops : Array Oper) (listed : Array Bool) (j : Nat) : Prop where
  | quiet (h : isQ P ops j = true) (hf : Region.free .any ops listed j = true)
  | loud (h : isA P ops j = false) (hr : ∀ x ∈ Region.ready .any ops (markL listed ((Region.ready .any ops listed).filter (isA P ops))), x = j)
    (ha : ∀ e ∈ Region.ready .any ops listed, isA P ops e = true → ∀ i ∈ Region.ready .any ops listed, isA P ops i = true → e ≠ i → Ap ops e i)
  | fresh (h : ∀ e ∈ Region.ready .any ops listed, isA P ops e = true) (hr : ∀ e ∈ Region.ready .any ops listed, ∀ x ∈ Region.ready .any ops (markL listed ((Region.ready .any ops listed).filter (· != e))), x = e)
    (ha : ∀ e ∈ Region.ready .any ops listed, ∀ i ∈ Region.ready .any ops listed, e ≠ i → Ap ops e i)

theorem plan_nil {pf : Nat} {listed : Array Bool} (h : plan P ops pf listed = some []) : Region.ready .any ops listed = [] := by
  cases pf with
  | zero =>
    simp only [plan] at h
    cases hr : (Region.ready .any ops listed).isEmpty with
    | true => simpa [List.isEmpty_iff] using hr
    | false => simp [hr] at h
  | succ pf =>
    simp only [plan] at h
    split at h
    · assumption
    · split at h
      · simp at h
      · simp only [cond_eq_ite] at h
        repeat' split at h
        all_goals simp at h

theorem plan_cons {pf : Nat} {listed : Array Bool} {j : Nat} {l : List Nat} (hs : listed.size = ops.size) (h : plan P ops pf listed = some (j :: l)) :
    (∃ pf', plan P ops pf' (listed.setIfInBounds j true) = some l) ∧ j ∈ Region.ready .any ops listed ∧ (∀ e ∈ Region.ready .any ops listed, isA P ops e = true → e ≠ j → Ap ops e j) ∧ Head P ops listed j := by
  cases pf with
  | zero =>
    simp only [plan] at h
    cases hr : (Region.ready .any ops listed).isEmpty <;> simp [hr] at h
  | succ pf =>
    simp only [plan] at h
    split at h
    · simp at h
    · rename_i r rs hr
      split at h
      · rename_i i hf
        obtain ⟨l', hl', he⟩ := Option.map_eq_some_iff.1 h
        simp only [List.cons.injEq] at he
        obtain ⟨rfl, rfl⟩ := he
        have hmem := List.mem_of_find?_eq_some hf
        have hprop := List.find?_some hf
        simp only [Bool.and_eq_true] at hprop
        rw [← hr] at hmem
        refine ⟨⟨pf, hl'⟩, hmem, fun e he hea hne => ?_, .quiet hprop.1 hprop.2⟩
        intro x y hx hy
        have hun := ready_un hs he
        have := Region.free_spec hy hprop.2 e x hx hne (by rw [getD_get, hun]; rfl) (fun q hq hb hqi => by
          obtain ⟨_, o, ho, ha⟩ := mem_ready.1 he
          rw [hx] at ho
          simp only [Option.some.injEq] at ho; subst ho
          have h1 := ha q hq hb
          rw [hqi, getD_get, ready_un hs hmem] at h1
          simp at h1)
        have hap := Oper.apart_spec this
        exact ⟨hap.2.2, fun d hd he => hap.2.1 d he hd, hap.1⟩
      · split at h
        · rename_i lo hlo
          simp only [cond_eq_ite] at h
          split at h <;> first | (simp at h; done) | skip
          rename_i hc
          obtain ⟨l', hl', he⟩ := Option.map_eq_some_iff.1 h
          simp only [List.cons.injEq] at he
          obtain ⟨rfl, rfl⟩ := he
          simp only [Bool.and_eq_true] at hc
          have hmem : lo ∈ (r :: rs).filter (fun i => !isA P ops i) := by rw [hlo]; simp
          have hm2 := List.mem_filter.1 hmem
          rw [← hr] at hm2 hc
          refine ⟨⟨pf, hl'⟩, hm2.1, fun e he hea hne => apartL_spec hc.1.2 (List.mem_filter.2 ⟨he, hea⟩) hne, .loud (by simpa using hm2.2) (fun x hx => ?_) fun e he hea i hi hia hne => ?_⟩
          · simpa using List.all_eq_true.1 hc.1.1 x hx
          · exact apartL_spec (List.all_eq_true.1 hc.2 i (List.mem_filter.2 ⟨hi, hia⟩)) (List.mem_filter.2 ⟨he, hea⟩) hne
        · rename_i hlo
          simp only [cond_eq_ite] at h
          split at h <;> first | (simp at h; done) | skip
          rename_i hc
          obtain ⟨l', hl', he⟩ := Option.map_eq_some_iff.1 h
          simp only [List.cons.injEq] at he
          obtain ⟨rfl, rfl⟩ := he
          rw [← hr] at hc hlo
          have hmem : r ∈ Region.ready .any ops listed := by rw [hr]; simp
          refine ⟨⟨pf, hl'⟩, hmem, fun e he hea hne => ?_, .fresh (fun e he => ?_) (fun e he x hx => ?_) fun e he i hi hne => ?_⟩
          · have := List.all_eq_true.1 hc r hmem
            simp only [Bool.and_eq_true] at this
            exact apartL_spec this.1 he hne
          · have := List.filter_eq_nil_iff.1 hlo e he
            simpa using this
          · have := List.all_eq_true.1 hc e he
            simp only [Bool.and_eq_true] at this
            simpa using List.all_eq_true.1 this.2 x hx
          · have := List.all_eq_true.1 hc i hi
            simp only [Bool.and_eq_true] at this
            exact apartL_spec this.1 he hne
        · simp at h
end Go.Proofs.Ytmmnjphmiijbcaa.sx
