/- A drawn region: the main theorem. -/
import Derived.Test.YtmmnjphmiijbcaaSxN
namespace Go.Proofs.Ytmmnjphmiijbcaa.sx
set_option linter.unusedVariables false
open Go.RowKit (Below)
variable {P : Program} {ops : Array Oper}

def cnt (l : Array Bool) : Nat := (l.toList.filter (! ·)).length
theorem cnt_set {l : Array Bool} {i : Nat} (h : l[i]? = some false) : cnt (l.setIfInBounds i true) + 1 = cnt l := by
  have hlt : i < l.size := (Array.getElem?_eq_some_iff.1 h).1
  have hv : l.toList[i]? = some false := by simpa using h
  unfold cnt
  rw [Array.toList_setIfInBounds]
  generalize l.toList = L at hv
  clear h hlt
  induction L generalizing i with
  | nil => simp at hv
  | cons b r ih =>
    cases i with
    | zero => simp at hv; subst hv; simp
    | succ i =>
      simp only [List.getElem?_cons_succ] at hv
      have := ih hv
      cases b <;> simp <;> omega

def idx (E : List Early) : List Nat := E.map (·.i)
theorem Off.of {E : List Early} {j : Nat} {o : Oper} (ho : ops[j]? = some o) (h : ∀ e ∈ E, Ap ops e.i j) : Off ops E o := fun e he x hx => by
  obtain ⟨a, b, c⟩ := h e he x o hx ho
  exact ⟨a, b⟩
theorem AR.more {E : List Early} {a aR : Act} (h : AR ops E a aR) {o : Oper} {e : Early} (ho : ops[e.i]? = some o) (hne : ∀ q ∈ E, ∀ x, ops[q.i]? = some x → ∀ d, x.dst = some d → o.dst ≠ some d) :
    AR ops (e :: E) a (aR.put o.dst e.v) := by
  cases hd : o.dst with
  | none =>
    refine ⟨h.size, fun d hh => h.out d fun q hq => hh q (List.mem_cons_of_mem _ hq), fun q hq x hx d hxd hl => ?_, h.defers⟩
    rcases List.mem_cons.1 hq with rfl | hq
    · rw [ho] at hx; cases hx; rw [hd] at hxd; cases hxd
    · exact h.inn q hq x hx d hxd hl
  | some t =>
    refine ⟨by simp [Act.put, h.size], fun d hh => ?_, fun q hq x hx d hxd hl => ?_, h.defers⟩
    · have htd : t ≠ d := by
        rintro rfl
        exact hh e List.mem_cons_self o ho hd
      simp only [Act.put]
      rw [Array.getElem?_setIfInBounds_ne htd]
      exact h.out d fun q hq => hh q (List.mem_cons_of_mem _ hq)
    · simp only [Act.put, Array.size_setIfInBounds] at hl ⊢
      rcases List.mem_cons.1 hq with rfl | hq
      · rw [ho] at hx; cases hx
        rw [hd] at hxd; cases hxd
        simp [hl]
      · have htd : t ≠ d := by
          rintro rfl
          exact hne q hq x hx t hxd hd
        rw [Array.getElem?_setIfInBounds_ne htd]
        exact h.inn q hq x hx d hxd hl
/- what was ahead is caught up with -/
theorem AR.less {E1 E2 : List Early} {a aR : Act} {e : Early} (h : AR ops (E1 ++ e :: E2) a aR) {o : Oper} (ho : ops[e.i]? = some o) (hne : ∀ q ∈ E1 ++ E2, ∀ x, ops[q.i]? = some x → ∀ d, x.dst = some d → o.dst ≠ some d) :
    AR ops (E1 ++ E2) (a.put o.dst e.v) aR := by
  have hmem : e ∈ E1 ++ e :: E2 := by simp
  have hsub : ∀ q ∈ E1 ++ E2, q ∈ E1 ++ e :: E2 := fun q hq => by
    rcases List.mem_append.1 hq with h | h
    · exact List.mem_append_left _ h
    · exact List.mem_append_right _ (List.mem_cons_of_mem _ h)
  have hout : ∀ d, o.dst ≠ some d → (∀ q ∈ E1 ++ E2, ∀ x, ops[q.i]? = some x → x.dst ≠ some d) → aR.tmps[d]? = a.tmps[d]? := fun d hod hq => h.out d fun q hqm x hx hxd => by
    rcases List.mem_append.1 hqm with h1 | h1
    · exact hq q (List.mem_append_left _ h1) x hx hxd
    · rcases List.mem_cons.1 h1 with rfl | h1
      · rw [ho] at hx; cases hx; exact hod hxd
      · exact hq q (List.mem_append_right _ h1) x hx hxd
  cases hd : o.dst with
  | none => exact ⟨h.size, fun d hq => hout d (by rw [hd]; simp) hq, fun q hq => h.inn q (hsub q hq), h.defers⟩
  | some t =>
    refine ⟨by simp [Act.put, h.size], fun d hq => ?_, fun q hq => h.inn q (hsub q hq), h.defers⟩
    simp only [Act.put]
    by_cases htd : t = d
    · subst htd
      rcases Nat.lt_or_ge t aR.tmps.size with hl | hl
      · rw [h.inn e hmem o ho t hd hl]
        simp [← h.size, hl]
      · rw [Array.getElem?_eq_none hl, Array.getElem?_eq_none (by simp [← h.size]; exact hl)]
    · rw [Array.getElem?_setIfInBounds_ne htd]
      exact hout d (by rw [hd]; simp [htd]) hq

def Sep (E : List Early) : Prop := E.Pairwise fun p q => p.i ≠ q.i ∧ ∀ g, p.g = some g → q.g ≠ some g

theorem quiet_kind {i : Nat} {o : Oper} (h : isQ P ops i = true) (ho : ops[i]? = some o) : kind P o.op = .pure ∨ kind P o.op = .load := by
  unfold isQ at h
  rw [ho] at h
  simp only at h
  split at h
  · exact .inl (by assumption)
  · exact .inr (by assumption)
  · cases h
theorem free_more {l l' : Array Bool} (hm : ∀ j : Nat, l[j]? = some true → l'[j]? = some true) (hs : l.size = l'.size) {i : Nat} (h : Region.free .any ops l i = true) : Region.free .any ops l' i = true := by
  unfold Region.free at h ⊢
  split at h
  · exact h
  · rename_i oi hoi
    rw [List.all_eq_true] at h ⊢
    intro j hj
    have := h j hj
    simp only [Bool.or_eq_true] at this ⊢
    rcases this with (h1 | h1) | h1
    · exact .inl (.inl h1)
    · refine .inl (.inr ?_)
      rw [getD_get] at h1 ⊢
      cases hq : l[j]? with
      | none =>
        have : ¬ j < l.size := fun hl => by simp [hl] at hq
        have : l'[j]? = none := by rw [Array.getElem?_eq_none_iff]; omega
        rw [this]; rfl
      | some b =>
        rw [hq] at h1
        simp only [Option.getD_some] at h1
        subst h1
        rw [hm j hq]; rfl
    · exact .inr h1
theorem markL_mono (L : List Nat) (l : Array Bool) (j : Nat) (h : l[j]? = some true) : (markL l L)[j]? = some true := by
  rw [markL_get]
  split
  · rfl
  · exact h
theorem isQ_notA {i : Nat} (h : isQ P ops i = true) : isA P ops i = false := by
  unfold isQ at h
  unfold isA
  split at h
  · split at h <;> simp_all
  · cases h

/- a quiet operation, in every world in which what was read lies as it lay -/
theorem quiet_yields (hG : Good P) {call : CallV} {nt : Nat} {o : Oper} {T T1 : TV} {H H1 : HV} {n n1 : Nat} {σ : Sg} {aR : Act} {w : World} {R : Reads} (hq : kind P o.op = .pure ∨ kind P o.op = .load)
    (he : execOp aR.eval o = execOp (rho σ T) o) (hw : Region.wanted o (yielded ops aR.tmps) = wantedV ops T o) (hT : fitsT n T) (hI : Inv P σ H n w) (h : stepV P call ops nt o T H n = some (T1, H1, n1))
    (hR : ∀ p ∈ R, okN n p.1 = true ∧ ∀ u ∈ p.2.2, fits n u = true) (hS : SR σ R w) :
    ∃ v R', T1 = put T o.dst v ∧ okD nt o.dst = true ∧ fits n v = true ∧ H1 = H ∧ n1 = n ∧ YieldsIf P ops (SR σ R') o (ren σ v) aR ∧ SR σ R' w ∧ (∀ p ∈ R, p ∈ R') ∧ (∀ p ∈ R', okN n p.1 = true ∧ ∀ u ∈ p.2.2, fits n u = true) ∧
      R' = (match kind P o.op with
        | .load => bif wantedV ops T o then (match loadV P T H o with | some (k, off, l, _) => (k, off, l) :: R | none => R) else R
        | _ => R) := by
  unfold stepV at h
  cases hd : okD nt o.dst with
  | false => simp [hd] at h
  | true =>
    simp only [hd, cond_true] at h
    cases hwv : wantedV ops T o with
    | false =>
      simp only [hwv, cond_false, Option.some.injEq, Prod.mk.injEq] at h
      obtain ⟨rfl, rfl, rfl⟩ := h
      refine ⟨undef, R, rfl, rfl, rfl, rfl, rfl, .inr ⟨by rw [hw, hwv], rfl⟩, hS, fun _ h => h, hR, ?_⟩
      rcases hq with hq | hq <;> simp [hq]
    | true =>
      simp only [hwv, cond_true] at h
      rcases hq with hq | hq
      · simp only [hq] at h ⊢
        split at h <;> first | (simp at h; done) | skip
        rename_i v hv
        simp only [Option.some.injEq, Prod.mk.injEq] at h
        obtain ⟨rfl, rfl, rfl⟩ := h
        obtain ⟨h1, h2⟩ := pure_sound hI.exact hT hv
        exact ⟨v, R, rfl, trivial, h2, rfl, rfl, .inl ⟨by rw [hw, hwv], fun w' _ => by rw [he]; exact h1 w'⟩, hS, fun _ h => h, hR, rfl⟩
      · simp only [hq] at h ⊢
        split at h <;> first | (simp at h; done) | skip
        rename_i k off l v hv
        simp only [Option.some.injEq, Prod.mk.injEq] at h
        obtain ⟨rfl, rfl, rfl⟩ := h
        obtain ⟨h1, h2, h3, cs, t, lo, ow, hg, _⟩ := load_sound (n := n) (σ := σ) hv
        obtain ⟨h4, h5⟩ := h2 hI.fit
        refine ⟨v, (k, off, l) :: R, rfl, trivial, h4, rfl, rfl, .inl ⟨by rw [hw, hwv], fun w' hw' => by rw [he]; exact h1 w' (hw' _ List.mem_cons_self)⟩, fun p hp => ?_, fun p hp => List.mem_cons_of_mem _ hp, fun p hp => ?_, by simp [hv]⟩
        · rcases List.mem_cons.1 hp with rfl | hp
          · exact h3 w hI.obj
          · exact hS p hp
        · rcases List.mem_cons.1 hp with rfl | hp
          · exact ⟨hI.low k _ hg, h5⟩
          · exact hR p hp
end Go.Proofs.Ytmmnjphmiijbcaa.sx
