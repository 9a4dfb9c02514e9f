/- New blocks, and blocks that are written. -/
import Derived.Test.YtmmnjphmiijbcaaSxF
namespace Go.Proofs.Ytmmnjphmiijbcaa.sx
set_option linter.unusedVariables false
open Go.RowKit (Below)
variable {P : Program}

def objOf (σ : Sg) : VO → Obj
  | .cells cs t _ _ => .cells (cs.map (ren σ)).toArray t
  | .map es c => .map (es.map (renE σ)).toArray c
theorem objOf_agree {n : Nat} {σ τ : Sg} (h : Agree n σ τ) {x : VO} (hf : fitsO n x) : objOf τ x = objOf σ x := by
  cases x with
  | cells cs t l o => simp only [objOf, map_agree h cs hf]
  | map es c =>
    simp only [objOf]
    congr 2
    exact List.map_congr_left fun e he => by
      obtain ⟨h1, h2⟩ := hf e he
      simp only [renE, ren_agree h _ h1, ren_agree h _ h2]
theorem ren_val {σ : Sg} {n g : Nat} (hb : σ.b n = g) (hx : σ.x n = 0) (f : Fr) : ren σ (f.val n) = f.val g := by
  cases f <;> simp [Fr.val, ren, Sg.addr, hb, hx]
theorem val_fits (n : Nat) (f : Fr) : fits (n + 2) (f.val n) = true := by
  cases f <;> simp [Fr.val, fits, ok_self]

theorem range_rep (z : List Value) (s len : Nat) (hs : z.length = s) (h0 : 0 < s) : ((Array.range (len * s)).map (fun i => z.toArray[i % z.toArray.size]!)).toList = (List.replicate len z).flatten := by
  simp only [Array.toList_map, Array.toList_range, List.size_toArray, hs]
  induction len with
  | zero => simp
  | succ len ih =>
    rw [Nat.succ_mul, List.range_add, List.map_append, ih, List.replicate_succ', List.flatten_append]
    congr 1
    simp only [List.map_map, List.flatten_cons, List.flatten_nil, List.append_nil]
    apply List.ext_getElem
    · simp [hs]
    · intro i h1 h2
      simp only [List.getElem_map, List.getElem_range, Function.comp_apply]
      have h3 : (len * s + i) % s = i := by
        rw [Nat.mul_comm, Nat.mul_add_mod]
        exact Nat.mod_eq_of_lt (by omega)
      rw [h3]
      simp [h2]

theorem clean_cells {σ : Sg} {z : Value} (h : clean z = true) : (cellsOf z).map (ren σ) = cellsOf z := by
  rw [← cellsOf_ren, ren_clean σ z h]
theorem clean_fits {n : Nat} {z : Value} (h : clean z = true) : ∀ u ∈ cellsOf z, fits n u = true := cellsOf_fits (fits_clean n z h)

theorem fresh_sound {σ : Sg} {T : TV} {n : Nat} {o : Oper} {f : Fr} {x : VO} (hf : fitsT n T) (h : freshV P T o = some (f, x)) :
    (∀ w, (execOp (rho σ T) o).run P w = .ok (.value (f.val w.heap.size)) (w.alloc (objOf σ x))) ∧ fitsO n x ∧ ownO x = true ∧
    (∀ (τ : Sg) k w, w.heap[τ.b k]? = some (objOf τ x) → τ.x k = 0 → objAt P τ k x w) := by
  have hobj : ∀ (cs : List Value) (t : TypeId) (τ : Sg) k w, w.heap[τ.b k]? = some (objOf τ (.cells cs t false true)) → τ.x k = 0 → objAt P τ k (.cells cs t false true) w := fun cs t τ k w hh hx =>
    ⟨[], (0, 0), by rw [hh]; simp [objOf], fun _ => rfl, fun _ => ⟨rfl, hx⟩, by simp [hx]⟩
  obtain ⟨dst, op, type, pos, after, guard⟩ := o
  cases op <;> simp only [freshV] at h <;> try (simp at h; done)
  case alloc e =>
    cases hz : zeroOf P e with
    | none => simp [hz] at h
    | some z =>
      simp only [hz] at h
      cases hc : clean z && oneL (cellsOf z) with
      | false => simp [hc] at h
      | true =>
        simp only [hc, cond_true, Option.some.injEq, Prod.mk.injEq] at h
        obtain ⟨rfl, rfl⟩ := h
        simp only [Bool.and_eq_true] at hc
        refine ⟨fun w => ?_, clean_fits hc.1, rfl, hobj _ _⟩
        simp [execOp, Instr.alloc, run_zeroValue hz, newVar, newRow, Fr.val, objOf, clean_cells hc.1, cells_eq]
  case box e x =>
    cases hc : oneL (cellsOf (ev T x)) with
    | false => simp [hc] at h
    | true =>
      simp only [hc, cond_true, Option.some.injEq, Prod.mk.injEq] at h
      obtain ⟨rfl, rfl⟩ := h
      refine ⟨fun w => ?_, cellsOf_fits (ev_fits hf x), rfl, hobj _ _⟩
      simp [execOp, Instr.box, newVar, newRow, Fr.val, objOf, rho, cells_eq, cellsOf_ren]
  case buildSlice t len parts =>
    split at h <;> first | (simp at h; done) | skip
    rename_i e ht
    split at h <;> first | (simp at h; done) | skip
    rename_i s z hs hz
    cases hc : Nat.ble (len * s) 16777216 && clean z && ((cellsOf z).length == s) && Nat.blt 0 s with
    | false => simp [hc] at h
    | true =>
      simp only [hc, cond_true] at h
      simp only [Bool.and_eq_true, Nat.blt_eq] at hc
      obtain ⟨⟨⟨h1, h2⟩, h3⟩, h4⟩ := hc
      have h1 := Nat.le_of_ble_eq_true h1
      have h3 : (cellsOf z).length = s := by simpa using h3
      split at h <;> first | (simp at h; done) | skip
      rename_i cs hfl
      cases ho : oneL cs with
      | false => simp [ho] at h
      | true =>
        simp only [ho, cond_true, Option.some.injEq, Prod.mk.injEq] at h
        obtain ⟨rfl, rfl⟩ := h
        refine ⟨fun w => ?_, fun u hu => ?_, rfl, hobj _ _⟩
        · have hfs := fillL_spec σ (fun i => some (i * s, s)) (fun i => some (i * s, s)) (fun i => rfl) _ _ _ hfl
          have hzm : (List.replicate len (cellsOf z)).flatten.map (ren σ) = (List.replicate len (cellsOf z)).flatten := by
            rw [List.map_flatten, List.map_replicate, clean_cells h2]
          rw [hzm, ← parts_ev] at hfs
          have h24 : ¬ (16777216 < len * s) := by omega
          have hrun : ∀ zz : Array Value, (len * s = 0 → zz = #[]) → (len * s ≠ 0 → zz = (cellsOf z).toArray) → (Array.range (len * s)).map (fun i => zz[i % zz.size]!) = (List.replicate len (cellsOf z)).flatten.toArray := fun zz hz0 hz1 => by
            by_cases h0 : len * s = 0
            · have hl0 : len = 0 := by rcases Nat.mul_eq_zero.1 h0 with h | h <;> omega
              subst hl0
              simp
            · rw [hz1 h0]
              apply Array.ext'
              exact range_rep (cellsOf z) s len h3 h4
          by_cases h0 : len * s = 0
          · have hl0 : len = 0 := by rcases Nat.mul_eq_zero.1 h0 with h | h <;> omega
            subst hl0
            simp only [List.replicate_zero, List.flatten_nil] at hfs
            have har : ∀ f : Nat → Value, (Array.range 0).map f = [].toArray := fun f => by simp
            simp only [execOp, Instr.buildSlice, Sem.run_bind, run_und ht, Result.andThen_ok, run_sizeOf hs, Nat.zero_mul, if_true, Sem.run_pure, Nat.not_lt_zero, gt_iff_lt, if_false, har, hfs]
            simp [newRow, Fr.val, objOf]
          · have hr := hrun (cellsOf z).toArray (fun h => (h0 h).elim) (fun _ => rfl)
            have h24' : ¬ (len * s > 2 ^ 24) := by omega
            simp only [execOp, Instr.buildSlice, Sem.run_bind, run_und ht, Result.andThen_ok, run_sizeOf hs, h24', if_false, h0, run_zeroValue hz, Sem.run_pure, cells_eq]
            rw [hr]
            simp only [hfs]
            simp [newRow, Fr.val, objOf]
        · rcases fillL_mem _ _ _ hfl u hu with h5 | ⟨p, hp, h6⟩
          · obtain ⟨l, hl, hul⟩ := List.mem_flatten.1 h5
            rw [List.eq_of_mem_replicate hl] at hul
            exact clean_fits h2 u hul
          · obtain ⟨q, hq, rfl⟩ := List.mem_map.1 hp
            exact cellsOf_fits (ev_fits hf q.2) u h6
  case makeMap t r =>
    cases r with
    | some r => simp at h
    | none =>
      simp only [Option.some.injEq, Prod.mk.injEq] at h
      obtain ⟨rfl, rfl⟩ := h
      refine ⟨fun w => ?_, (show fitsO n (.map [] 0) from fun e he => by cases he), rfl, fun τ k w hh _ => ?_⟩
      · simp [execOp, Instr.makeMap, Fr.val, objOf]
      · exact hh

/- a block of our own is written -/
theorem Inv.put {σ : Sg} {H : HV} {n k : Nat} {w w' : World} {o x : VO} (h : Inv P σ H n w) (hk : H.get k = some o) (ho : ownO o = true) (hx : fitsO n x) (hat : objAt P σ k x w')
    (hkp : ∀ i, i ≠ σ.b k → w'.heap[i]? = w.heap[i]?) : Inv P σ (H.set k (some x)) n w' := by
  have hget : ∀ j q, (H.set k (some x)).get j = some q → (j = k ∧ q = x) ∨ (j ≠ k ∧ H.get j = some q) := fun j q hj => by
    rw [Tr.get_set] at hj
    by_cases hjk : j = k
    · rw [if_pos hjk] at hj; exact .inl ⟨hjk, (Option.some.inj hj).symm⟩
    · rw [if_neg hjk] at hj; exact .inr ⟨hjk, hj⟩
  refine ⟨h.odd, h.glob, fun j q hj => ?_, fun j q hj => ?_, fun j q hj => ?_, fun i j q q' hi hoi hj hne => ?_⟩
  · rcases hget j q hj with ⟨rfl, _⟩ | ⟨_, hj⟩
    · exact h.low _ _ hk
    · exact h.low _ _ hj
  · rcases hget j q hj with ⟨rfl, rfl⟩ | ⟨hne, hj⟩
    · exact hat
    · exact (h.obj _ _ hj).of_block (hkp _ (Ne.symm (h.inj k j o q hk ho hj (Ne.symm hne))))
  · rcases hget j q hj with ⟨_, rfl⟩ | ⟨_, hj⟩
    · exact hx
    · exact h.fit _ _ hj
  · rcases hget i q hi with ⟨rfl, _⟩ | ⟨_, hi1⟩
    · rcases hget j q' hj with ⟨rfl, _⟩ | ⟨_, hj1⟩
      · exact (hne rfl).elim
      · exact h.inj i j o q' hk ho hj1 hne
    · rcases hget j q' hj with ⟨rfl, _⟩ | ⟨_, hj1⟩
      · exact h.inj i j q o hi1 hoi hk hne
      · exact h.inj i j q q' hi1 hoi hj1 hne
theorem Step.put {σ : Sg} {H : HV} {n k : Nat} {w w' : World} {o x : VO} (hk : H.get k = some o) (ho : ownO o = true)
    (hkp : ∀ i, i ≠ σ.b k → w'.heap[i]? = w.heap[i]?) (h1 : w'.os = w.os) (h2 : w'.tape = w.tape) (h3 : w'.output = w.output) (h4 : w.heap.size ≤ w'.heap.size) : Step σ H n w σ (H.set k (some x)) n w' where
  agree := Agree.refl _ _
  le := Nat.le_refl _
  os := h1
  tape := h2
  output := h3
  size := h4
  keep := fun i hi hn => hkp i (fun e => hn k o hk ho e.symm)
  img := fun j q hj => by
    rw [Tr.get_set] at hj
    by_cases hjk : j = k
    · subst hjk; exact .inl ⟨j, o, hk, fun _ => ho, rfl⟩
    · rw [if_neg hjk] at hj; exact .inl ⟨j, q, hj, id, rfl⟩

theorem splice_map {σ : Sg} {cs new cs' rest : List Value} {off : Nat} (h : spliceL cs off new = some cs') :
    (cs.map (ren σ) ++ rest).take off ++ new.map (ren σ) ++ (cs.map (ren σ) ++ rest).drop (off + (new.map (ren σ)).length) = cs'.map (ren σ) ++ rest := by
  obtain ⟨hl, rfl⟩ := spliceL_spec h
  rw [List.take_append_of_le_length (by simp; omega), List.length_map, List.drop_append_of_le_length (by simp; omega)]
  simp [List.map_take, List.map_drop, List.append_assoc]
theorem oneL_map {σ : Sg} {l : List Value} (h : oneL l = true) : ∀ v ∈ l.map (ren σ), v.oneCell' = true := by
  intro v hv
  obtain ⟨u, hu, rfl⟩ := List.mem_map.1 hv
  rw [ren_oneCell]
  exact List.all_eq_true.1 h u hu
/- cells of a block of our own, written in the model -/
theorem write_own {σ : Sg} {H : HV} {n k off : Nat} {w : World} {cs new cs' : List Value} {t : TypeId} {loose : Bool} (hI : Inv P σ H n w) (hg : H.get k = some (.cells cs t loose true))
    (hs : spliceL cs off new = some cs') (h1 : oneL new = true) (hf : ∀ u ∈ new, fits n u = true) :
    ∃ w', (storeCells ⟨σ.b k, off, none⟩ (new.map (ren σ)) 0).run P w = .ok () w' ∧ Inv P σ (H.set k (some (.cells cs' t loose true))) n w' ∧ Step σ H n w σ (H.set k (some (.cells cs' t loose true))) n w' := by
  obtain ⟨rest, fz, hh, hz, hl, hx⟩ := hI.obj k _ hg
  have hfz := hz rfl
  subst hfz
  have hlen := (spliceL_spec hs).1
  have hst := run_storeCells_at P (σ.b k) off t (new.map (ren σ)) 0 _ w hh (by simp; omega) (oneL_map h1)
  simp only [Nat.add_zero, splice_map hs] at hst
  refine ⟨_, hst, hI.put hg rfl (fun u hu => ?_) ⟨rest, (0, 0), setRow_heap w _ _ _ _ _ hh, fun _ => rfl, hl, hx⟩ (fun i hi => setRow_other w _ i _ hi), Step.put hg rfl (fun i hi => setRow_other w _ i _ hi) rfl rfl rfl (by simp)⟩
  rcases spliceL_mem hs hu with h | h
  · exact hI.fit k _ hg u h
  · exact hf u h
end Go.Proofs.Ytmmnjphmiijbcaa.sx
