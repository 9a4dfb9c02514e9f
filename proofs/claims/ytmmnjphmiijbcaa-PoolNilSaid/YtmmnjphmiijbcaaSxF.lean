/- The memory of the symbolic machine, and loads and new blocks. -/
import Derived.Test.YtmmnjphmiijbcaaSxE
namespace Go.Proofs.Ytmmnjphmiijbcaa.sx
set_option linter.unusedVariables false
open Go.RowKit (Below)

def renE (σ : Sg) (e : MapEntry) : MapEntry := { key := ren σ e.key, val := ren σ e.val, born := e.born }
def objAt (P : Program) (σ : Sg) (k : Nat) : VO → World → Prop
  | .cells cs t loose own, w => ∃ (rest : List Value) (fz : Nat × Nat), w.heap[σ.b k]? = some (.cells (cs.map (ren σ) ++ rest).toArray t fz) ∧ (own = true → fz = (0, 0)) ∧
      (loose = false → rest = [] ∧ σ.x k = 0) ∧ σ.x k * (szOf P t).getD 0 ≤ rest.length
  | .map es clock, w => w.heap[σ.b k]? = some (.map (es.map (renE σ)).toArray clock)
def fitsO (n : Nat) : VO → Prop
  | .cells cs _ _ _ => ∀ v ∈ cs, fits n v = true
  | .map es _ => ∀ e ∈ es, fits n e.key = true ∧ fits n e.val = true
def ownO : VO → Bool
  | .cells _ _ _ own => own
  | .map _ _ => true

structure Inv (P : Program) (σ : Sg) (H : HV) (n : Nat) (w : World) : Prop where
  odd : n % 2 = 1
  glob : ∀ g, σ.b (2 * g) = g ∧ σ.x (2 * g) = 0
  low : ∀ k o, H.get k = some o → okN n k = true
  obj : ∀ k o, H.get k = some o → objAt P σ k o w
  fit : ∀ k o, H.get k = some o → fitsO n o
  inj : ∀ j k o o', H.get j = some o → ownO o = true → H.get k = some o' → j ≠ k → σ.b j ≠ σ.b k

theorem objAt.lt {P : Program} {σ : Sg} {k : Nat} {o : VO} {w : World} (h : objAt P σ k o w) : σ.b k < w.heap.size := by
  rcases Nat.lt_or_ge (σ.b k) w.heap.size with h1 | h1
  · exact h1
  · cases o with
    | cells cs t l own => obtain ⟨rest, fz, hh, _⟩ := h; rw [Array.getElem?_eq_none h1] at hh; cases hh
    | map es c => change w.heap[σ.b k]? = _ at h; rw [Array.getElem?_eq_none h1] at h; cases h
theorem objAt.of_block {P : Program} {σ : Sg} {k : Nat} {o : VO} {w w' : World} (h : objAt P σ k o w) (hb : w'.heap[σ.b k]? = w.heap[σ.b k]?) : objAt P σ k o w' := by
  cases o with
  | cells cs t l own => obtain ⟨rest, fz, hh, r⟩ := h; exact ⟨rest, fz, hb.trans hh, r⟩
  | map es c => exact hb.trans h
theorem map_agree {n : Nat} {σ τ : Sg} (h : Agree n σ τ) (l : List Value) (hf : ∀ v ∈ l, fits n v = true) : l.map (ren τ) = l.map (ren σ) :=
  List.map_congr_left fun v hv => ren_agree h v (hf v hv)
theorem objAt.agree {P : Program} {σ τ : Sg} {n k : Nat} {o : VO} {w : World} (h : objAt P σ k o w) (ha : Agree n σ τ) (hk : okN n k = true) (hf : fitsO n o) : objAt P τ k o w := by
  obtain ⟨hb, hx⟩ := ha k hk
  cases o with
  | cells cs t l own =>
    obtain ⟨rest, fz, hh, r1, r2, r3⟩ := h
    exact ⟨rest, fz, by rw [hb, map_agree ha cs hf]; exact hh, r1, by rw [hx]; exact r2, by rw [hx]; exact r3⟩
  | map es c =>
    change w.heap[σ.b k]? = _ at h
    change w.heap[τ.b k]? = _
    rw [hb, h]
    congr 3
    exact (List.map_congr_left fun e he => by
      obtain ⟨h1, h2⟩ := hf e he
      simp only [renE, ren_agree ha _ h1, ren_agree ha _ h2]).symm
theorem fitsO_mono {n m : Nat} {o : VO} (h : fitsO n o) (hm : n ≤ m) : fitsO m o := by
  cases o with
  | cells cs t l own => exact fun v hv => fits_mono hm v (h v hv)
  | map es c => exact fun e he => ⟨fits_mono hm _ (h e he).1, fits_mono hm _ (h e he).2⟩
theorem Inv.exact {P : Program} {σ : Sg} {H : HV} {n : Nat} {w : World} (h : Inv P σ H n w) : Exact σ H := fun k cs t own hk => by
  obtain ⟨rest, fz, _, _, h3, _⟩ := h.obj k _ hk
  exact (h3 rfl).2

/- what a stretch of the run leaves -/
structure Step (σ : Sg) (H : HV) (n : Nat) (w : World) (σ' : Sg) (H' : HV) (n' : Nat) (w' : World) : Prop where
  agree : Agree n σ σ'
  le : n ≤ n'
  os : w'.os = w.os
  tape : w'.tape = w.tape
  output : w'.output = w.output
  size : w.heap.size ≤ w'.heap.size
  keep : ∀ i, i < w.heap.size → (∀ k o, H.get k = some o → ownO o = true → σ.b k ≠ i) → w'.heap[i]? = w.heap[i]?
  img : ∀ k o, H'.get k = some o → (∃ j o', H.get j = some o' ∧ (ownO o = true → ownO o' = true) ∧ σ.b j = σ'.b k) ∨ w.heap.size ≤ σ'.b k

theorem Step.refl (σ : Sg) (H : HV) (n : Nat) (w : World) : Step σ H n w σ H n w :=
  ⟨Agree.refl _ _, Nat.le_refl _, rfl, rfl, rfl, Nat.le_refl _, fun _ _ _ => rfl, fun k o h => .inl ⟨k, o, h, id, rfl⟩⟩
theorem Step.trans {σ σ1 σ2 : Sg} {H H1 H2 : HV} {n n1 n2 : Nat} {w w1 w2 : World} (a : Step σ H n w σ1 H1 n1 w1) (b : Step σ1 H1 n1 w1 σ2 H2 n2 w2) : Step σ H n w σ2 H2 n2 w2 where
  agree := a.agree.trans b.agree a.le
  le := Nat.le_trans a.le b.le
  os := b.os.trans a.os
  tape := b.tape.trans a.tape
  output := b.output.trans a.output
  size := Nat.le_trans a.size b.size
  keep := fun i hi hn => by
    rw [b.keep i (Nat.lt_of_lt_of_le hi a.size) fun k o hk ho => ?_, a.keep i hi hn]
    rcases a.img k o hk with ⟨j, o', hj, ho', e⟩ | h
    · rw [← e]; exact hn j o' hj (ho' ho)
    · omega
  img := fun k o hk => by
    rcases b.img k o hk with ⟨j, o', hj, ho', e⟩ | h
    · rcases a.img j o' hj with ⟨i, o'', hi, ho'', e'⟩ | h'
      · exact .inl ⟨i, o'', hi, fun q => ho'' (ho' q), e'.trans e⟩
      · exact .inr (by omega)
    · exact .inr (Nat.le_trans a.size h)
theorem Step.below {σ σ' : Sg} {H H' : HV} {n n' : Nat} {w w' : World} (a : Step σ H n w σ' H' n' w') {B : Nat} (hB : B ≤ w.heap.size) (hn : ∀ k o, H.get k = some o → ownO o = true → B ≤ σ.b k) : Below B w w' :=
  ⟨a.os, a.tape, a.output, a.size, fun k hk => a.keep k (by omega) fun j o hj ho => by have := hn j o hj ho; omega⟩

def Sg.upd (σ : Sg) (n g e : Nat) : Sg := ⟨fun k => if k = n then g else σ.b k, fun k => if k = n then e else σ.x k⟩
theorem upd_agree {n : Nat} (h : n % 2 = 1) (σ : Sg) (g e : Nat) : Agree n σ (σ.upd n g e) := fun k hk => by
  have : k ≠ n := by
    rintro rfl
    simp only [okN, Bool.or_eq_true, beq_iff_eq, Nat.blt_eq] at hk
    omega
  simp [Sg.upd, this]
theorem not_ok {n : Nat} (h : n % 2 = 1) : okN n n = false := by
  cases hc : okN n n with
  | false => rfl
  | true => simp only [okN, Bool.or_eq_true, beq_iff_eq, Nat.blt_eq] at hc; omega
theorem ok_self {n : Nat} : okN (n + 2) n = true := by
  simp only [okN, Bool.or_eq_true, Nat.blt_eq]; exact .inr (by omega)

/- a new block n, which is block g of a world in which nothing else has turned -/
theorem Inv.addAt {P : Program} {σ : Sg} {H : HV} {n : Nat} {w w' : World} (h : Inv P σ H n w) {g e : Nat} {x : VO} (hx : fitsO n x) (hd : ∀ k o, H.get k = some o → σ.b k ≠ g)
    (ho : objAt P (σ.upd n g e) n x w') (hkp : ∀ i, i < w.heap.size → w'.heap[i]? = w.heap[i]?) : Inv P (σ.upd n g e) (H.set n (some x)) (n + 2) w' := by
  have ha := upd_agree h.odd σ g e
  have hget : ∀ k o, (H.set n (some x)).get k = some o → (k = n ∧ o = x) ∨ (k ≠ n ∧ H.get k = some o) := fun k o hk => by
    rw [Tr.get_set] at hk
    by_cases hkn : k = n
    · rw [if_pos hkn] at hk; exact .inl ⟨hkn, (Option.some.inj hk).symm⟩
    · rw [if_neg hkn] at hk; exact .inr ⟨hkn, hk⟩
  have hold : ∀ k o, H.get k = some o → (σ.upd n g e).b k = σ.b k ∧ σ.b k < w.heap.size := fun k o hk => ⟨(ha k (h.low k o hk)).1, (h.obj k o hk).lt⟩
  have hnew : (σ.upd n g e).b n = g := by simp [Sg.upd]
  refine ⟨by have := h.odd; omega, fun q => ?_, fun k o hk => ?_, fun k o hk => ?_, fun k o hk => ?_, fun j k o o' hj hoj hk' hne => ?_⟩
  · have : 2 * q ≠ n := by have := h.odd; omega
    have := h.glob q
    simp [Sg.upd, *]
  · rcases hget k o hk with ⟨rfl, _⟩ | ⟨_, hk⟩
    · exact ok_self
    · exact okN_mono (h.low k o hk) (by omega)
  · rcases hget k o hk with ⟨rfl, rfl⟩ | ⟨_, hk1⟩
    · exact ho
    · exact ((h.obj k o hk1).agree ha (h.low k o hk1) (h.fit k o hk1)).of_block (by rw [(hold k o hk1).1]; exact hkp _ (hold k o hk1).2)
  · rcases hget k o hk with ⟨_, rfl⟩ | ⟨_, hk⟩
    · exact fitsO_mono hx (by omega)
    · exact fitsO_mono (h.fit k o hk) (by omega)
  · rcases hget j o hj with ⟨rfl, rfl⟩ | ⟨_, hj1⟩
    · rcases hget k o' hk' with ⟨rfl, _⟩ | ⟨_, hk1⟩
      · exact (hne rfl).elim
      · rw [hnew, (hold k o' hk1).1]; exact Ne.symm (hd k o' hk1)
    · rcases hget k o' hk' with ⟨rfl, _⟩ | ⟨_, hk1⟩
      · rw [hnew, (hold j o hj1).1]; exact hd j o hj1
      · rw [(hold j o hj1).1, (hold k o' hk1).1]; exact h.inj j k o o' hj1 hoj hk1 hne
theorem Inv.add {P : Program} {σ : Sg} {H : HV} {n : Nat} {w w' : World} (h : Inv P σ H n w) {g e : Nat} {x : VO} (hx : fitsO n x) (hd : w.heap.size ≤ g)
    (ho : objAt P (σ.upd n g e) n x w') (hkp : ∀ i, i < w.heap.size → w'.heap[i]? = w.heap[i]?) : Inv P (σ.upd n g e) (H.set n (some x)) (n + 2) w' :=
  h.addAt hx (fun k o hk => by have := (h.obj k o hk).lt; omega) ho hkp
theorem Step.add {P : Program} {σ : Sg} {H : HV} {n : Nat} {w w' : World} (h : Inv P σ H n w) {g e : Nat} {x : VO} (hd : w.heap.size ≤ g)
    (hk : ∀ i, i < w.heap.size → w'.heap[i]? = w.heap[i]?) (ho : w'.os = w.os) (ht : w'.tape = w.tape) (hu : w'.output = w.output) (hs : w.heap.size ≤ w'.heap.size) :
    Step σ H n w (σ.upd n g e) (H.set n (some x)) (n + 2) w' where
  agree := upd_agree h.odd σ g e
  le := by omega
  os := ho
  tape := ht
  output := hu
  size := hs
  keep := fun i hi _ => hk i hi
  img := fun k o hk' => by
    rw [Tr.get_set] at hk'
    by_cases hkn : k = n
    · exact .inr (by simp [Sg.upd, hkn, hd])
    · rw [if_neg hkn] at hk'
      exact .inl ⟨k, o, hk', id, by simp [Sg.upd, hkn]⟩

variable {P : Program}
theorem addr_at (b off j : Nat) : (⟨b, off, none⟩ : Addr).add j = ⟨b, off + j, none⟩ := by unfold Addr.add; split <;> simp_all

def cellsAt (σ : Sg) (k off : Nat) (l : List Value) (w : World) : Prop := ∀ j u, l[j]? = some u → w.cell? ⟨σ.b k, off + j, none⟩ = some (ren σ u)
theorem readL_cells {t : TypeId} {cs l : List Value} {off : Nat} {v : Value} (h : readL P t cs off = some (l, v)) : ∀ j u, l[j]? = some u → cs[off + j]? = some u := by
  intro j u hj
  unfold readL at h
  cases hs : szOf P t with
  | none => simp [hs] at h
  | some s =>
    cases hu : P.underlying t with
    | none => simp [hs, hu] at h
    | some d =>
      simp only [hs, hu] at h
      cases hd : aggT d with
      | true =>
        simp only [hd, cond_true] at h
        cases hl : Nat.ble (off + s) cs.length with
        | false => simp [hl] at h
        | true =>
          simp only [hl, cond_true, Option.some.injEq, Prod.mk.injEq] at h
          rw [← h.1, List.getElem?_take] at hj
          split at hj
          · simpa using hj
          · cases hj
      | false =>
        simp only [hd, cond_false] at h
        cases hc : cs[off]? with
        | none => simp [hc] at h
        | some u0 =>
          simp only [hc, Option.some.injEq, Prod.mk.injEq] at h
          rw [← h.1] at hj
          cases j with
          | zero => simp at hj; subst hj; simpa using hc
          | succ j => simp at hj
theorem readL_run {t : TypeId} {cs l : List Value} {off : Nat} {v : Value} (h : readL P t cs off = some (l, v)) (σ : Sg) (k : Nat) (w : World) (hc : cellsAt σ k off l w) :
    (loadVar t ⟨σ.b k, off, none⟩).run P w = .ok (ren σ v) w := by
  unfold readL at h
  cases hs : szOf P t with
  | none => simp [hs] at h
  | some s =>
    cases hu : P.underlying t with
    | none => simp [hs, hu] at h
    | some d =>
      simp only [hs, hu] at h
      cases hd : aggT d with
      | true =>
        simp only [hd, cond_true] at h
        cases hl : Nat.ble (off + s) cs.length with
        | false => simp [hl] at h
        | true =>
          simp only [hl, cond_true, Option.some.injEq, Prod.mk.injEq] at h
          have hl' := Nat.le_of_ble_eq_true hl
          have hlen : (l.map (ren σ)).length = s := by rw [← h.1]; simp; omega
          have hr := run_loadCells_list (P := P) w ⟨σ.b k, off, none⟩ (l.map (ren σ)) (fun j u hj => by
            rw [List.getElem?_map] at hj
            cases hlj : l[j]? with
            | none => simp [hlj] at hj
            | some q => simp [hlj] at hj; subst hj; rw [addr_at]; exact hc j q hlj)
          rw [hlen] at hr
          simp only [loadVar, Sem.run_bind, run_isAgg hu, Result.andThen_ok, hd, if_true, run_sizeOf hs, hr, Sem.run_pure, ← h.2, ren, h.1, renA_list]
      | false =>
        simp only [hd, cond_false] at h
        cases hcs : cs[off]? with
        | none => simp [hcs] at h
        | some u0 =>
          simp only [hcs, Option.some.injEq, Prod.mk.injEq] at h
          obtain ⟨h1, rfl⟩ := h
          have := hc 0 u0 (by rw [← h1]; rfl)
          simp only [Nat.add_zero] at this
          simp [loadVar, run_isAgg hu, hd, this]
theorem readL_fits {t : TypeId} {cs l : List Value} {off : Nat} {v : Value} (h : readL P t cs off = some (l, v)) {n : Nat} (hf : ∀ u ∈ cs, fits n u = true) : fits n v = true ∧ ∀ u ∈ l, fits n u = true := by
  have hl : ∀ u ∈ l, fits n u = true := fun u hu => by
    obtain ⟨j, hj⟩ := List.mem_iff_getElem?.1 hu
    exact hf u (List.mem_of_getElem? (readL_cells h j u hj))
  refine ⟨?_, hl⟩
  unfold readL at h
  cases hs : szOf P t with
  | none => simp [hs] at h
  | some s =>
    cases hu : P.underlying t with
    | none => simp [hs, hu] at h
    | some d =>
      simp only [hs, hu] at h
      cases hd : aggT d with
      | true =>
        simp only [hd, cond_true] at h
        cases hlb : Nat.ble (off + s) cs.length with
        | false => simp [hlb] at h
        | true =>
          simp only [hlb, cond_true, Option.some.injEq, Prod.mk.injEq] at h
          rw [← h.2]
          simp only [fits, fitsA_iff]
          intro u hu
          exact hl u (by rw [← h.1]; simpa using hu)
      | false =>
        simp only [hd, cond_false] at h
        cases hcs : cs[off]? with
        | none => simp [hcs] at h
        | some u0 =>
          simp only [hcs, Option.some.injEq, Prod.mk.injEq] at h
          rw [← h.2]
          exact hf u0 (List.mem_of_getElem? hcs)
theorem obj_cells {σ : Sg} {k : Nat} {cs : List Value} {t : TypeId} {loose own : Bool} {w : World} (h : objAt P σ k (.cells cs t loose own) w) (j : Nat) (u : Value) (hj : cs[j]? = some u) : w.cell? ⟨σ.b k, j, none⟩ = some (ren σ u) := by
  obtain ⟨rest, fz, hh, _⟩ := h
  rw [cell_of_row w _ j _ _ _ hh]
  have hlt : j < cs.length := (List.getElem?_eq_some_iff.1 hj).1
  rw [List.getElem?_toArray, List.getElem?_append_left (by simpa using hlt), List.getElem?_map, hj]
  rfl
theorem load_sound {σ : Sg} {T : TV} {H : HV} {n : Nat} {o : Oper} {k off : Nat} {l : List Value} {v : Value} (h : loadV P T H o = some (k, off, l, v)) :
    (∀ w, cellsAt σ k off l w → (execOp (rho σ T) o).run P w = .ok (.value (ren σ v)) w) ∧ ((∀ j x, H.get j = some x → fitsO n x) → fits n v = true ∧ ∀ u ∈ l, fits n u = true) ∧
    (∀ w, (∀ j x, H.get j = some x → objAt P σ j x w) → cellsAt σ k off l w) ∧ (∃ cs t lo ow, H.get k = some (.cells cs t lo ow) ∧ ∀ j u, l[j]? = some u → cs[off + j]? = some u) := by
  obtain ⟨dst, op, type, pos, after, guard⟩ := o
  cases op <;> simp only [loadV] at h <;> try (simp at h; done)
  rename_i t a
  split at h <;> first | (simp at h; done) | skip
  rename_i k' off' hxe
  split at h <;> first | (simp at h; done) | skip
  rename_i cs t' lo ow hg
  split at h <;> first | (simp at h; done) | skip
  rename_i l' v' hr
  simp only [Option.some.injEq, Prod.mk.injEq] at h
  obtain ⟨rfl, rfl, rfl, rfl⟩ := h
  refine ⟨fun w hc => ?_, fun hf => readL_fits hr (hf _ _ hg), fun w ho j u hj => obj_cells (ho _ _ hg) _ _ (readL_cells hr j u hj), cs, t', lo, ow, hg, readL_cells hr⟩
  have := readL_run hr σ k' w hc
  simp [execOp, Instr.loadAt, rho, hxe, ren, Sg.addr, Instr.sureAddr, this]
end Go.Proofs.Ytmmnjphmiijbcaa.sx
