/- What an operation of the symbolic machine says of the model's own: building, slicing, comparing. -/
import Derived.Test.YtmmnjphmiijbcaaSxC
namespace Go.Proofs.Ytmmnjphmiijbcaa.sx
set_option linter.unusedVariables false
variable {P : Program}

theorem fillL_spec (σ : Sg) (place place' : Nat → Option (Nat × Nat)) (hp : ∀ i, place' i = place i) : ∀ (parts : List (Nat × Value)) (cells cs : List Value), fillL place cells parts = some cs →
    Instr.fill place' (cells.map (ren σ)).toArray (parts.map fun p => (p.1, ren σ p.2)) = some (cs.map (ren σ)).toArray
  | [], cells, cs, h => by simp only [fillL, Option.some.injEq] at h; subst h; rfl
  | (i, v) :: rest, cells, cs, h => by
    simp only [fillL] at h
    simp only [List.map_cons, Instr.fill, hp]
    cases hpl : place i with
    | none => simp [hpl] at h
    | some q =>
      obtain ⟨off, size⟩ := q
      simp only [hpl] at h ⊢
      cases hsz : (cellsOf v).length == size with
      | false => simp [hsz] at h
      | true =>
        simp only [hsz, cond_true] at h
        have hsz' : (cellsOf v).length = size := by simpa using hsz
        cases hs : spliceL cells off (cellsOf v) with
        | none => simp [hs] at h
        | some c1 =>
          simp only [hs] at h
          obtain ⟨hl, he⟩ := spliceL_spec hs
          have hc : (ren σ v).cells = ((cellsOf v).map (ren σ)).toArray := by rw [cells_eq, cellsOf_ren]
          have h1 : ((ren σ v).cells.size ≠ size || off + (ren σ v).cells.size > (cells.map (ren σ)).toArray.size) = false := by
            simp [hc, hsz']; omega
          rw [hc] at h1 ⊢
          simp only [h1, Bool.false_eq_true, if_false]
          have hfold : (((cellsOf v).map (ren σ)).toArray.zipIdx.foldl (fun cs (p : Value × Nat) => cs.setIfInBounds (off + p.2) p.1) (cells.map (ren σ)).toArray) = (c1.map (ren σ)).toArray := by
            apply Array.ext'
            rw [← Array.foldl_toList]
            have hz : ((cellsOf v).map (ren σ)).toArray.zipIdx.toList = ((cellsOf v).map (ren σ)).zipIdx 0 := by simp
            rw [hz, foldl_set _ _ off 0 (by simp; omega)]
            rw [he]
            simp [List.map_take, List.map_drop]
          have := fillL_spec σ place place' hp rest c1 cs h
          rw [← hfold] at this
          exact this
theorem fillL_mem {place : Nat → Option (Nat × Nat)} : ∀ (parts : List (Nat × Value)) (cells cs : List Value), fillL place cells parts = some cs → ∀ u ∈ cs, u ∈ cells ∨ ∃ p ∈ parts, u ∈ cellsOf p.2
  | [], cells, cs, h, u, hu => by simp only [fillL, Option.some.injEq] at h; subst h; exact .inl hu
  | (i, v) :: rest, cells, cs, h, u, hu => by
    simp only [fillL] at h
    cases hpl : place i with
    | none => simp [hpl] at h
    | some q =>
      obtain ⟨off, size⟩ := q
      simp only [hpl] at h
      cases hsz : (cellsOf v).length == size with
      | false => simp [hsz] at h
      | true =>
        simp only [hsz, cond_true] at h
        cases hs : spliceL cells off (cellsOf v) with
        | none => simp [hs] at h
        | some c1 =>
          simp only [hs] at h
          rcases fillL_mem rest c1 cs h u hu with h1 | ⟨p, hp, h2⟩
          · rcases spliceL_mem hs h1 with h3 | h3
            · exact .inl h3
            · exact .inr ⟨_, List.mem_cons_self, h3⟩
          · exact .inr ⟨p, List.mem_cons_of_mem _ hp, h2⟩
theorem cellsOf_fits {n : Nat} {v : Value} (h : fits n v = true) : ∀ u ∈ cellsOf v, fits n u = true := by
  intro u hu
  cases v with
  | agg cs => simp only [cellsOf] at hu; simp only [fits, fitsA_iff] at h; exact h u hu
  | _ => simp only [cellsOf, List.mem_singleton] at hu; subst hu; exact h

theorem listMapM_run {α β : Type} (f : α → Sem β) (g : α → Option β) (w : World) (hfg : ∀ a b, g a = some b → (f a).run P w = .ok b w) : ∀ (l : List α) (r : List β), l.mapM g = some r → (l.mapM f).run P w = .ok r w
  | [], r, h => by simp at h; subst h; rfl
  | a :: l, r, h => by
    rw [List.mapM_cons] at h ⊢
    cases hg : g a with
    | none => simp [hg] at h
    | some b =>
      cases hl : l.mapM g with
      | none => simp [hg, hl] at h
      | some r1 =>
        simp [hg, hl] at h
        subst h
        rw [Sem.run_bind, hfg a b hg, Result.andThen_ok, Sem.run_bind, listMapM_run f g w hfg l r1 hl]
        rfl
theorem run_mapM {α β : Type} (f : α → Sem β) (g : α → Option β) (w : World) (hfg : ∀ a b, g a = some b → (f a).run P w = .ok b w) (l : Array α) (r : List β) (h : l.toList.mapM g = some r) : (l.mapM f).run P w = .ok r.toArray w := by
  rw [Array.mapM_eq_mapM_toList, Sem.run_map, listMapM_run f g w hfg l.toList r h]
  rfl

theorem boundV_spec {v : Value} {y i : Nat} (h : boundV v y = some i) (σ : Sg) (w : World) (code : BoundsCode) : (Instr.sliceBound (ren σ v) y code).run P w = .ok i w ∧ i ≤ y := by
  unfold boundV at h
  cases v with
  | int k j =>
    simp only at h
    cases hc : (decide (0 ≤ j) && Nat.ble j.toNat y) with
    | false => simp [hc] at h
    | true =>
      simp only [hc, cond_true, Option.some.injEq] at h
      simp only [Bool.and_eq_true, decide_eq_true_eq] at hc
      have h2 := Nat.le_of_ble_eq_true hc.2
      subst h
      have h3 : 0 ≤ j ∧ j ≤ (y : Int) := ⟨hc.1, by omega⟩
      refine ⟨?_, h2⟩
      simp [Instr.sliceBound, ren, asIntOf, h3]
  | _ => simp at h
theorem sliceB_spec {len cap l h m : Nat} {low high max : Option Value} (hs : sliceB len cap low high max = some (l, h, m)) (σ : Sg) (w : World) (isS : Bool) :
    (Instr.sliceBounds isS len cap (low.map (ren σ)) (high.map (ren σ)) (max.map (ren σ))).run P w = .ok (l, h, m) w ∧ l ≤ h ∧ (max = none → m = cap) ∧ m ≤ cap := by
  unfold sliceB at hs
  cases max with
  | none =>
    simp only at hs
    cases high with
    | none =>
      simp only at hs
      cases low with
      | none => simp at hs; obtain ⟨rfl, rfl, rfl⟩ := hs; simp [Instr.sliceBounds]
      | some v =>
        simp only at hs
        cases hb : boundV v len with
        | none => simp [hb] at hs
        | some q =>
          simp [hb] at hs; obtain ⟨rfl, rfl, rfl⟩ := hs
          have := boundV_spec (P := P) hb σ w (if (none : Option Value).isSome = true then .slice3C else .sliceB)
          simp [Instr.sliceBounds] at this ⊢
          simp [this.1, this.2]
    | some u =>
      simp only at hs
      cases hb : boundV u cap with
      | none => simp [hb] at hs
      | some q =>
        simp only [hb] at hs
        have h1 := boundV_spec (P := P) hb σ w (if isS = true then .sliceAcap else .sliceAlen)
        cases low with
        | none => simp at hs; obtain ⟨rfl, rfl, rfl⟩ := hs; simp [Instr.sliceBounds, h1.1]
        | some v =>
          simp only at hs
          cases hb2 : boundV v q with
          | none => simp [hb2] at hs
          | some q2 =>
            simp [hb2] at hs; obtain ⟨rfl, rfl, rfl⟩ := hs
            have h2 := boundV_spec (P := P) hb2 σ w .sliceB
            simp [Instr.sliceBounds, h1.1, h2.1, h2.2]
  | some x =>
    simp only at hs
    cases hb : boundV x cap with
    | none => simp [hb] at hs
    | some q =>
      simp only [hb] at hs
      have h1 := boundV_spec (P := P) hb σ w (if isS = true then .slice3Acap else .slice3Alen)
      cases high with
      | none => simp at hs
      | some u =>
        simp only at hs
        cases hb1 : boundV u q with
        | none => simp [hb1] at hs
        | some q1 =>
          simp only [hb1] at hs
          have h2 := boundV_spec (P := P) hb1 σ w .slice3B
          cases low with
          | none => simp at hs; obtain ⟨rfl, rfl, rfl⟩ := hs; simp [Instr.sliceBounds, h1.1, h2.1, h1.2]
          | some v =>
            simp only at hs
            cases hb2 : boundV v q1 with
            | none => simp [hb2] at hs
            | some q2 =>
              simp [hb2] at hs; obtain ⟨rfl, rfl, rfl⟩ := hs
              have h3 := boundV_spec (P := P) hb2 σ w .slice3C
              simp [Instr.sliceBounds, h1.1, h2.1, h3.1, h3.2, h1.2]
theorem sliceB_ext {len cap l h m x : Nat} {low high : Option Value} (hs : sliceB len cap low high none = some (l, h, m)) : m = cap ∧ sliceB len (cap + x) low high none = some (l, h, cap + x) := by
  unfold sliceB at hs ⊢
  simp only at hs ⊢
  cases high with
  | none =>
    simp only at hs ⊢
    cases low with
    | none => simp at hs ⊢; omega
    | some v =>
      simp only at hs ⊢
      cases hb : boundV v len with
      | none => simp [hb] at hs
      | some q => simp [hb] at hs ⊢; omega
  | some u =>
    simp only at hs ⊢
    cases hb : boundV u cap with
    | none => simp [hb] at hs
    | some q =>
      have hb' : boundV u (cap + x) = some q := by
        unfold boundV at hb ⊢
        cases u with
        | int k j =>
          simp only at hb ⊢
          cases hc : (decide (0 ≤ j) && Nat.ble j.toNat cap) with
          | false => simp [hc] at hb
          | true =>
            simp only [hc, cond_true, Option.some.injEq] at hb
            simp only [Bool.and_eq_true, decide_eq_true_eq] at hc
            have h2 := Nat.le_of_ble_eq_true hc.2
            have h3 : Nat.ble j.toNat (cap + x) = true := Nat.ble_eq_true_of_le (by omega)
            rw [hb] at h3
            simp [hc.1, h3, hb]
        | _ => simp at hb
      simp only [hb, hb'] at hs ⊢
      cases low with
      | none => simp at hs ⊢; omega
      | some v =>
        simp only at hs ⊢
        cases hb2 : boundV v q with
        | none => simp [hb2] at hs
        | some q2 => simp [hb2] at hs ⊢; omega
end Go.Proofs.Ytmmnjphmiijbcaa.sx
