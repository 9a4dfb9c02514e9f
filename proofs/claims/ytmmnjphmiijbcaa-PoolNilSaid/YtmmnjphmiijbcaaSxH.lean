/- The operations that look into memory or write it. -/
import Derived.Test.YtmmnjphmiijbcaaSxG
import Derived.Laws.IdiomStrings
namespace Go.Proofs.Ytmmnjphmiijbcaa.sx
set_option linter.unusedVariables false
open Go.RowKit (Below)
variable {P : Program}

/- what 'big' operations owe -/
def Owes (P : Program) (σ : Sg) (H : HV) (n : Nat) (w : World) (r : Result Next) (v : Value) (H' : HV) (n' : Nat) : Prop :=
  ∃ σ' w' x, r = .ok x w' ∧ (x = .value (ren σ' v) ∨ (x = .skip ∧ v = undef)) ∧ Inv P σ' H' n' w' ∧ fits n' v = true ∧ Step σ H n w σ' H' n' w'
theorem Owes.same {σ : Sg} {H : HV} {n : Nat} {w : World} {r : Result Next} {v : Value} (hI : Inv P σ H n w) (hr : r = .ok (.value (ren σ v)) w) (hf : fits n v = true) : Owes P σ H n w r v H n :=
  ⟨σ, w, _, hr, .inl rfl, hI, hf, Step.refl _ _ _ _⟩

theorem bytesL_run {l : List Value} : ∀ {b : List UInt8}, bytesL l = some b → ∃ ns : List Int, l = ns.map (Value.int .u8) ∧ b = ns.map fun n => UInt8.ofNat n.toNat := by
  induction l with
  | nil => intro b h; simp [bytesL] at h; subst h; exact ⟨[], rfl, rfl⟩
  | cons v r ih =>
    intro b h
    simp only [bytesL] at h
    split at h <;> first | (simp at h; done) | skip
    rename_i b0 l0 h1 h2
    simp only [Option.some.injEq] at h; subst h
    obtain ⟨ns, rfl, rfl⟩ := ih h2
    unfold byteOf? at h1
    split at h1 <;> first | (simp at h1; done) | skip
    rename_i n
    simp only [Option.some.injEq] at h1; subst h1
    exact ⟨n :: ns, rfl, rfl⟩
theorem foldl_push (ns : List Int) : ∀ s : ByteArray, ns.foldl (fun r n => r.push (UInt8.ofNat n.toNat)) s = ⟨s.data ++ (ns.map fun n => UInt8.ofNat n.toNat).toArray⟩ := by
  induction ns with
  | nil => intro s; simp
  | cons n r ih =>
    intro s
    simp only [List.foldl_cons, ih, List.map_cons]
    congr 1
    apply Array.ext'
    simp [ByteArray.push]

theorem byteCells_clean (σ : Sg) (b : ByteArray) : (byteCells b).map (ren σ) = byteCells b := by
  unfold byteCells
  rw [List.map_map]
  rfl
theorem srcV_spec {σ : Sg} {H : HV} {n : Nat} {w : World} {size : Nat} {xt : TypeId} {x : Value} {m : Nat} {new : List Value} (hI : Inv P σ H n w) (h : srcV P H size xt x = some (m, new)) :
    Src P size xt (ren σ x) m (new.map (ren σ)) w ∧ (∀ u ∈ new, fits n u = true) ∧ oneL new = true ∧ new.length = m * size := by
  unfold srcV at h
  split at h <;> first | (simp at h; done) | skip
  · rename_i e c ht
    simp only [Option.some.injEq, Prod.mk.injEq] at h
    obtain ⟨rfl, rfl⟩ := h
    exact ⟨Src.ofNil w ht _, (fun u hu => by cases hu), rfl, by simp⟩
  · rename_i e k off m' c ht
    split at h <;> first | (simp at h; done) | skip
    rename_i cs t lo ow hg
    cases hc : Nat.ble (off + m' * size) cs.length && oneL ((cs.drop off).take (m' * size)) with
    | false => simp [hc] at h
    | true =>
      simp only [hc, cond_true, Option.some.injEq, Prod.mk.injEq] at h
      obtain ⟨rfl, rfl⟩ := h
      simp only [Bool.and_eq_true] at hc
      have hl := Nat.le_of_ble_eq_true hc.1
      have hlen : ((cs.drop off).take (m' * size)).length = m' * size := by simp; omega
      have hcell : ∀ j u, (((cs.drop off).take (m' * size)).map (ren σ))[j]? = some u → w.cell? ((⟨σ.b k, off, none⟩ : Addr).add j) = some u := by
        intro j u hj
        rw [List.getElem?_map] at hj
        cases hq : ((cs.drop off).take (m' * size))[j]? with
        | none => simp [hq] at hj
        | some q =>
          simp [hq] at hj; subst hj
          rw [addr_at]
          refine obj_cells (hI.obj k _ hg) _ _ ?_
          rw [List.getElem?_take] at hq
          split at hq
          · simpa using hq
          · cases hq
      exact ⟨Src.ofSlice w ht _ _ _ _ (by rw [List.length_map, hlen]) hcell (oneL_map hc.2), fun u hu => hI.fit k _ hg u (List.mem_of_mem_drop (List.mem_of_mem_take hu)), hc.2, hlen⟩
  · rename_i s ht
    cases hs : size == 1 with
    | false => simp [hs] at h
    | true =>
      have hs1 : size = 1 := by simpa using hs
      subst hs1
      simp only [hs, cond_true, Option.some.injEq, Prod.mk.injEq] at h
      obtain ⟨rfl, rfl⟩ := h
      have h1 := Src.ofString (P := P) w ht s
      refine ⟨by rw [byteCells_clean]; exact h1, fun u hu => ?_, List.all_eq_true.2 h1.one, by rw [byteCells_length, Nat.mul_one]⟩
      obtain ⟨b, _, rfl⟩ := List.mem_map.1 hu
      rfl

theorem bytes_beq (k b : ByteArray) : (k == b) = eqBytes k.data.toList b.data.toList := by
  have h0 : (k == b) = (k.data == b.data) := rfl
  rw [h0, Bool.eq_iff_iff, eqBytes_iff, beq_iff_eq]
  exact ⟨fun h => by rw [h], fun h => Array.ext' h⟩
theorem bytes_eq {k b : ByteArray} (h : eqBytes k.data.toList b.data.toList = true) : k = b := by
  rw [eqBytes_iff] at h
  cases k; cases b; congr 1; exact Array.ext' h
theorem findS_spec (σ : Sg) (d : TypeDesc) (hd : d = .string) (k : ByteArray) : ∀ (es : List MapEntry) (i : Nat) (r : Option (Nat × Value)), findS k es i = some r →
    Instr.findNow d (.string k) (es.map (renE σ)) i = some (r.map fun p => (p.1, ren σ p.2)) ∧ ∀ p, r = some p → i ≤ p.1 ∧ ∃ e, es[p.1 - i]? = some e ∧ e.key = .string k ∧ e.val = p.2
  | [], i, r, h => by simp only [findS, Option.some.injEq] at h; subst h; exact ⟨rfl, fun p hp => by cases hp⟩
  | e :: es, i, r, h => by
    subst hd
    simp only [findS] at h
    split at h <;> first | (simp at h; done) | skip
    rename_i b hk
    have hkr : (renE σ e).key = .string b := by simp [renE, hk, ren]
    have hbeq := bytes_beq k b
    cases hc : eqBytes k.data.toList b.data.toList with
    | true =>
      simp only [hc, cond_true, Option.some.injEq] at h; subst h
      rw [hc] at hbeq
      have hkb : k = b := bytes_eq hc
      refine ⟨by simp [Instr.findNow, renE, hk, ren, Instr.sameNow, hbeq], fun p hp => ?_⟩
      simp only [Option.some.injEq] at hp; subst hp
      exact ⟨Nat.le_refl _, e, by simp, by rw [hk, hkb], rfl⟩
    | false =>
      simp only [hc, cond_false] at h
      rw [hc] at hbeq
      obtain ⟨h1, h2⟩ := findS_spec σ .string rfl k es (i + 1) r h
      refine ⟨by simp only [List.map_cons, Instr.findNow, hkr, Instr.sameNow, hbeq]; exact h1, fun p hp => ?_⟩
      obtain ⟨h3, e', h4, h5⟩ := h2 p hp
      exact ⟨by omega, e', by have : p.1 - i = (p.1 - (i + 1)) + 1 := by omega
                              rw [this]; simpa using h4, h5⟩
theorem findI_spec (σ : Sg) (d : TypeDesc) (hd : ∃ q, d = .int q) (l : IntKind) (k : Int) : ∀ (es : List MapEntry) (i : Nat) (r : Option (Nat × Value)), findI l k es i = some r →
    Instr.findNow d (.int l k) (es.map (renE σ)) i = some (r.map fun p => (p.1, ren σ p.2)) ∧ ∀ p, r = some p → i ≤ p.1 ∧ ∃ e, es[p.1 - i]? = some e ∧ e.key = .int l k ∧ e.val = p.2
  | [], i, r, h => by simp only [findI, Option.some.injEq] at h; subst h; exact ⟨rfl, fun p hp => by cases hp⟩
  | e :: es, i, r, h => by
    obtain ⟨q, rfl⟩ := hd
    simp only [findI] at h
    split at h <;> first | (simp at h; done) | skip
    rename_i m b hk
    have hkr : (renE σ e).key = .int m b := by simp [renE, hk, ren]
    cases hlm : decide (l = m) with
    | false => simp [hlm] at h
    | true =>
      have hlm' : l = m := of_decide_eq_true hlm
      simp only [hlm, cond_true] at h
      subst hlm'
      cases hc : k == b with
      | true =>
        simp only [hc, cond_true, Option.some.injEq] at h; subst h
        have hkb : k = b := by simpa using hc
        refine ⟨by simp [Instr.findNow, renE, hk, ren, Instr.sameNow, hc], fun p hp => ?_⟩
        simp only [Option.some.injEq] at hp; subst hp
        exact ⟨Nat.le_refl _, e, by simp, by rw [hk, hkb], rfl⟩
      | false =>
        simp only [hc, cond_false] at h
        obtain ⟨h1, h2⟩ := findI_spec σ (.int q) ⟨q, rfl⟩ l k es (i + 1) r h
        refine ⟨by simp only [List.map_cons, Instr.findNow, hkr, Instr.sameNow, hc, if_true]; exact h1, fun p hp => ?_⟩
        obtain ⟨h3, e', h4, h5⟩ := h2 p hp
        exact ⟨by omega, e', by have : p.1 - i = (p.1 - (i + 1)) + 1 := by omega
                                rw [this]; simpa using h4, h5⟩
theorem findK_spec {σ : Sg} {d : TypeDesc} {k : Value} {es : List MapEntry} {r : Option (Nat × Value)} (h : findK d k es = some r) :
    Instr.findNow d (ren σ k) (es.map (renE σ)) 0 = some (r.map fun p => (p.1, ren σ p.2)) ∧ (∀ p, r = some p → ∃ e, es[p.1]? = some e ∧ e.key = k ∧ e.val = p.2) ∧ clean k = true ∧
    (∀ b w, ∀ (t : TypeId), P.underlying t = some d → (Instr.checkKey b 10000 t (ren σ k)).run P w = .ok () w) ∧ Instr.sameBits 10000 k k = true := by
  have hm : (10000 : Nat) = 9999 + 1 := rfl
  unfold findK at h
  split at h <;> first | (simp at h; done) | skip
  · rename_i s
    obtain ⟨h1, h2⟩ := findS_spec σ .string rfl s es 0 r h
    refine ⟨h1, fun p hp => by simpa using (h2 p hp).2, rfl, fun b w t ht => ?_, by simp only [Instr.sameBits, bytes_beq, (eqBytes_iff _ _).2]⟩
    rw [hm]
    generalize 9999 = D
    simp only [Instr.checkKey, Sem.run_bind, run_und ht, Result.andThen_ok, ren]
    rfl
  · rename_i q l i
    obtain ⟨h1, h2⟩ := findI_spec σ (.int q) ⟨q, rfl⟩ l i es 0 r h
    refine ⟨h1, fun p hp => by simpa using (h2 p hp).2, rfl, fun b w t ht => ?_, by simp [Instr.sameBits]⟩
    rw [hm]
    generalize 9999 = D
    simp only [Instr.checkKey, Sem.run_bind, run_und ht, Result.andThen_ok, ren]
    rfl
end Go.Proofs.Ytmmnjphmiijbcaa.sx
