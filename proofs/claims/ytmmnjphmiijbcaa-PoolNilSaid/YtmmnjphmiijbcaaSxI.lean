/- The operations that look into memory or write it: each of them. -/
import Derived.Test.YtmmnjphmiijbcaaSxH
namespace Go.Proofs.Ytmmnjphmiijbcaa.sx
set_option linter.unusedVariables false
open Go.RowKit (Below)
variable {P : Program}

theorem undef_ren (σ : Sg) : ren σ undef = undef := rfl
theorem run_findKey {t : TypeId} {d : TypeDesc} (ht : P.underlying t = some d) {k : Value} {es : List MapEntry} {r : Option (Nat × Value)} (h : Instr.findNow d k es 0 = some r) (w : World) :
    (Instr.findKey t k es).run P w = .ok r w := by
  simp only [Instr.findKey, Sem.run_bind, run_und ht, Result.andThen_ok, h, Sem.run_pure]

theorem map_at {σ : Sg} {k : Nat} {es : List MapEntry} {c : Nat} {w : World} (h : objAt P σ k (.map es c) w) : (getObj (σ.b k)).run P w = .ok (.map (es.map (renE σ)).toArray c) w := by
  have h' : w.heap[σ.b k]? = some (.map (es.map (renE σ)).toArray c) := h
  simp [getObj, Sem.run, h']
theorem run_setObj (r : Nat) (o o' : Obj) (w : World) (h : w.heap[r]? = some o') (hc : ∀ c e f, o' ≠ .cells c e f) : (setObj r o).run P w = .ok () { w with heap := w.heap.setIfInBounds r o } := by
  simp only [setObj, Sem.run, h]
theorem write_map {σ : Sg} {H : HV} {n k : Nat} {w : World} {es es' : List MapEntry} {c c' : Nat} (hI : Inv P σ H n w) (hg : H.get k = some (.map es c)) (hf : fitsO n (.map es' c')) :
    ∃ w', (setObj (σ.b k) (.map (es'.map (renE σ)).toArray c')).run P w = .ok () w' ∧ Inv P σ (H.set k (some (.map es' c'))) n w' ∧ Step σ H n w σ (H.set k (some (.map es' c'))) n w' := by
  have h : w.heap[σ.b k]? = some (.map (es.map (renE σ)).toArray c) := hI.obj k _ hg
  have hlt := (hI.obj k _ hg).lt
  refine ⟨_, run_setObj _ _ _ w h (fun _ _ _ e => by cases e), hI.put hg rfl hf ?_ (fun i hi => ?_), Step.put hg rfl (fun i hi => ?_) rfl rfl rfl (by simp)⟩
  · show ({ w with heap := w.heap.setIfInBounds (σ.b k) _ } : World).heap[σ.b k]? = _
    simp [hlt]
  · exact Array.getElem?_setIfInBounds_ne (Ne.symm hi)
  · exact Array.getElem?_setIfInBounds_ne (Ne.symm hi)

theorem big_store {σ : Sg} {T : TV} {H : HV} {n : Nat} {dst : Option Tmp} {t : TypeId} {a x : Operand} {type : TypeId} {pos : String} {after : Array Edge} {guard : Option (Nat × Bool)} {v : Value} {H' : HV} {n' : Nat} {w : World}
    (hI : Inv P σ H n w) (hf : fitsT n T) (h : bigV P T H n ⟨dst, .store t a x, type, pos, after, guard⟩ = some (.mem v H' n')) : Owes P σ H n w ((execOp (rho σ T) ⟨dst, .store t a x, type, pos, after, guard⟩).run P w) v H' n' := by
  simp only [bigV] at h
  split at h <;> first | (simp at h; done) | skip
  rename_i k off ha
  split at h <;> first | (simp at h; done) | skip
  rename_i cs t' loose hg
  cases hc : (some (cellsOf (ev T x)).length == szOf P t) && oneL (cellsOf (ev T x)) with
  | false => simp [hc] at h
  | true =>
    simp only [hc, cond_true] at h
    simp only [Bool.and_eq_true, beq_iff_eq] at hc
    split at h <;> first | (simp at h; done) | skip
    rename_i cs' hs
    simp only [Option.some.injEq, Res.mem.injEq] at h
    obtain ⟨rfl, rfl, rfl⟩ := h
    obtain ⟨w', hr, hI', hS⟩ := write_own hI hg hs hc.2 (cellsOf_fits (ev_fits hf x))
    refine ⟨σ, w', .skip, ?_, .inr ⟨rfl, rfl⟩, hI', rfl, hS⟩
    have hsz := run_sizeOf hc.1.symm w
    simp [execOp, Instr.storeAt, rho, ha, ren, Sg.addr, Instr.sureAddr, storeVar, hsz, cells_eq, cellsOf_ren, hr]

theorem big_convert {σ : Sg} {T : TV} {H : HV} {n : Nat} {dst : Option Tmp} {s d : TypeId} {x : Operand} {type : TypeId} {pos : String} {after : Array Edge} {guard : Option (Nat × Bool)} {v : Value} {H' : HV} {n' : Nat} {w : World}
    (hI : Inv P σ H n w) (hf : fitsT n T) (h : bigV P T H n ⟨dst, .convert s d x, type, pos, after, guard⟩ = some (.mem v H' n')) : Owes P σ H n w ((execOp (rho σ T) ⟨dst, .convert s d x, type, pos, after, guard⟩).run P w) v H' n' := by
  simp only [bigV] at h
  split at h <;> first | (simp at h; done) | skip
  · rename_i e a len c hs hd hx
    split at h <;> first | (simp at h; done) | skip
    rename_i m l he hsrc
    split at h <;> first | (simp at h; done) | skip
    rename_i b hb
    simp only [Option.some.injEq, Res.mem.injEq] at h
    obtain ⟨rfl, rfl, rfl⟩ := h
    refine Owes.same hI ?_ rfl
    obtain ⟨ns, rfl, rfl⟩ := bytesL_run hb
    obtain ⟨hsr, _, _, hln⟩ := srcV_spec hI hsrc
    have hcl : (ns.map (Value.int .u8)).map (ren σ) = ns.map (Value.int .u8) := by rw [List.map_map]; rfl
    rw [hcl] at hsr
    have hcells := hsr.cells
    cases a with
    | none =>
      have hlen : len = 0 := by
        unfold srcV at hsrc
        rw [hs] at hsrc
        cases len with
        | zero => rfl
        | succ q => simp at hsrc
      subst hlen
      have hm := hsr.len w
      simp [Builtin.lenOf, ren] at hm
      have hn0 : ns = [] := by
        have := hsr.newsLen
        rw [← hm] at this
        simpa using this
      subst hn0
      simp [execOp, convert, run_und hs, run_und hd, run_und he, rho, hx, ren, Conv.bytesToString]
      rfl
    | some a =>
      have hm := hsr.len w
      simp [Builtin.lenOf, ren] at hm
      subst hm
      simp only [ren, Builtin.firstCells, Nat.mul_one] at hcells
      have hr := run_bytesToString (P := P) w (σ.addr a) len (c + σ.x a.block) ns hcells
      simp [execOp, convert, run_und hs, run_und hd, run_und he, rho, hx, ren, hr, foldl_push]
  · rename_i e b hs hd hx
    split at h <;> first | (simp at h; done) | skip
    rename_i he
    cases hz : szOf P e == some 1 with
    | false => simp [hz] at h
    | true =>
      have hz' : szOf P e = some 1 := by simpa using hz
      simp only [hz, cond_true, Option.some.injEq, Res.mem.injEq] at h
      obtain ⟨rfl, rfl, rfl⟩ := h
      have hr := run_bytes_of_string (P := P) w s d e b hs hd he
      have hge : b.size ≤ grownCap w b.size 0 e := grownCap_ge w b.size 0 e
      generalize grownCap w b.size 0 e = cap at hr hge
      refine ⟨σ.upd n w.heap.size (cap - b.size), w.drew.alloc (.cells (bytesRow b cap) e ((bytesRow b cap).size, (bytesRow b cap).size + 1)), _, ?_, .inl rfl, ?_, ?_, ?_⟩
      · have hcap : b.size + (cap - b.size) = cap := by omega
        simp [execOp, rho, hx, ren, hr, Sg.addr, Sg.upd, hcap]
      · refine hI.add (fun u hu => ?_) (Nat.le_refl _) ?_ (fun i hi => heap_alloc_old w.drew _ i hi)
        · obtain ⟨q, _, rfl⟩ := List.mem_map.1 hu; rfl
        · refine ⟨List.replicate (cap - b.size) (.int .u8 0), ((bytesRow b cap).size, (bytesRow b cap).size + 1), ?_, fun h => (by cases h), fun h => (by cases h), by simp [Sg.upd, hz']⟩
          · rw [byteCells_clean]
            have : (σ.upd n w.heap.size (cap - b.size)).b n = w.heap.size := by simp [Sg.upd]
            rw [this]
            refine (heap_alloc_new w.drew _).trans ?_
            congr 2
            apply Array.ext'
            simp [bytesRow, byteCells]
      · simp [fits, ok_self]
      · exact Step.add hI (Nat.le_refl _) (fun i hi => heap_alloc_old w.drew _ i hi) rfl rfl rfl (by simp)

theorem big_lookup {σ : Sg} {T : TV} {H : HV} {n : Nat} {dst : Option Tmp} {t : TypeId} {x i : Operand} {ok : Bool} {type : TypeId} {pos : String} {after : Array Edge} {guard : Option (Nat × Bool)} {v : Value} {H' : HV} {n' : Nat} {w : World}
    (hI : Inv P σ H n w) (hf : fitsT n T) (h : bigV P T H n ⟨dst, .lookup t x i ok, type, pos, after, guard⟩ = some (.mem v H' n')) : Owes P σ H n w ((execOp (rho σ T) ⟨dst, .lookup t x i ok, type, pos, after, guard⟩).run P w) v H' n' := by
  simp only [bigV] at h
  split at h <;> first | (simp at h; done) | skip
  · rename_i k e ht hx
    split at h <;> first | (simp at h; done) | skip
    rename_i d z hk hz
    split at h <;> first | (simp at h; done) | skip
    rename_i hfk
    cases hc : clean z with
    | false => simp [hc] at h
    | true =>
      simp only [hc, cond_true, Option.some.injEq, Res.mem.injEq] at h
      obtain ⟨rfl, rfl, rfl⟩ := h
      obtain ⟨h1, _, _, h4, _⟩ := findK_spec (P := P) (σ := σ) hfk
      simp only [List.map_nil, Option.map_none] at h1
      have hkey := run_findKey hk h1 w
      have hck := h4 true w k hk
      have hzc := ren_clean σ z hc
      refine Owes.same hI ?_ ?_
      · cases ok <;> simp [execOp, Instr.lookup, run_und ht, rho, hx, ren, hck, hkey, run_zeroValue hz, hzc, renA, renL]
      · cases ok <;> simp [fits, fitsA, fitsL, fits_clean n z hc]
  · rename_i k e r ht hx
    split at h <;> first | (simp at h; done) | skip
    rename_i es c d z hg hk hz
    have hat : objAt P σ r (.map es c) w := hI.obj r _ hg
    have hgo := map_at hat
    split at h <;> first | (simp at h; done) | skip
    · rename_i q u hfk
      simp only [Option.some.injEq, Res.mem.injEq] at h
      obtain ⟨rfl, rfl, rfl⟩ := h
      obtain ⟨h1, h2, _, h4, _⟩ := findK_spec (P := P) (σ := σ) hfk
      obtain ⟨e', he1, he2, he3⟩ := h2 _ rfl
      have hfu : fits n u = true := by
        have he3' : e'.val = u := he3
        rw [← he3']
        exact ((hI.fit r _ hg) e' (List.mem_of_getElem? he1)).2
      have hkey := run_findKey hk h1 w
      have hck := h4 (es.map (renE σ)).toArray.isEmpty w k hk
      refine Owes.same hI ?_ ?_
      · cases ok <;> (simp only [List.isEmpty_toArray] at hck; simp [execOp, Instr.lookup, run_und ht, rho, hx, ren, hgo, renA, renL]; simp at hck; simp [hck, hkey])
      · cases ok <;> simp [fits, fitsA, fitsL, hfu]
    · rename_i hfk
      cases hc : clean z with
      | false => simp [hc] at h
      | true =>
        simp only [hc, cond_true, Option.some.injEq, Res.mem.injEq] at h
        obtain ⟨rfl, rfl, rfl⟩ := h
        obtain ⟨h1, _, _, h4, _⟩ := findK_spec (P := P) (σ := σ) hfk
        have hkey := run_findKey hk h1 w
        have hck := h4 (es.map (renE σ)).toArray.isEmpty w k hk
        have hzc := ren_clean σ z hc
        refine Owes.same hI ?_ ?_
        · cases ok <;> (simp only [List.isEmpty_toArray] at hck; simp [execOp, Instr.lookup, run_und ht, rho, hx, ren, hgo, renA, renL]; simp at hck; simp [hck, hkey, run_zeroValue hz, hzc])
        · cases ok <;> simp [fits, fitsA, fitsL, fits_clean n z hc]

theorem map_put {σ : Sg} {T : TV} {H : HV} {n : Nat} {t : TypeId} {m k x : Value} {H' : HV} {w : World} {kt e : TypeId} {r : Nat} {es : List MapEntry} {clock : Nat} {d : TypeDesc} {q : Option (Nat × Value)}
    (hI : Inv P σ H n w) (hfk : fits n k = true) (hfx : fits n x = true) (ht : P.underlying t = some (.map kt e)) (hg : H.get r = some (.map es clock)) (hk : P.underlying kt = some d) (h : findK d k es = some q)
    (hH : H' = H.set r (some (match q with | some (i, _) => .map (es.modify i fun e => { e with key := k, val := x }) clock | none => .map (es ++ [{ key := k, val := x, born := clock }]) (clock + 1)))) :
    ∃ w', (Instr.mapUpdate t (.map (some (σ.b r))) (ren σ k) (ren σ x)).run P w = .ok () w' ∧ Inv P σ H' n w' ∧ Step σ H n w σ H' n w' := by
  have hat : objAt P σ r (.map es clock) w := hI.obj r _ hg
  have hgo := map_at hat
  have hfe : fitsO n (.map es clock) := hI.fit r _ hg
  obtain ⟨h1, h2, hck, h4, hsb⟩ := findK_spec (P := P) (σ := σ) h
  have hkey := run_findKey hk h1 w
  have hc0 := h4 false w kt hk
  cases q with
  | none =>
    simp only at hH
    subst hH
    obtain ⟨w', hr, hI', hS⟩ := write_map (c' := clock + 1) (es' := es ++ [{ key := k, val := x, born := clock }]) hI hg (fun u hu => by
      rcases List.mem_append.1 hu with hu | hu
      · exact hfe u hu
      · simp only [List.mem_singleton] at hu; subst hu; exact ⟨hfk, hfx⟩)
    refine ⟨w', ?_, hI', hS⟩
    simp only [List.map_append, List.map_cons, List.map_nil, renE] at hr
    simp only [Option.map_none] at hkey
    simp [Instr.mapUpdate, run_und ht, hgo, hc0, hkey]
    simpa using hr
  | some p =>
    obtain ⟨i, u⟩ := p
    simp only at hH
    subst hH
    obtain ⟨e', he1, he2, he3⟩ := h2 _ rfl
    simp only at he1
    have hlt : i < es.length := (List.getElem?_eq_some_iff.1 he1).1
    obtain ⟨w', hr, hI', hS⟩ := write_map (c' := clock) (es' := es.modify i fun e => { e with key := k, val := x }) hI hg (fun u hu => by
      obtain ⟨j, hj⟩ := List.mem_iff_getElem?.1 hu
      rw [List.getElem?_modify] at hj
      cases hq : es[j]? with
      | none => simp [hq] at hj
      | some e0 =>
        simp only [hq, Option.map_eq_map, Option.map_some, Option.some.injEq] at hj
        by_cases hij : i = j
        · rw [if_pos hij] at hj; subst hj; exact ⟨hfk, hfx⟩
        · rw [if_neg hij] at hj; subst hj; exact hfe _ (List.mem_of_getElem? hq))
    refine ⟨w', ?_, hI', hS⟩
    have hmod : ((es.modify i fun e => { e with key := k, val := x }).map (renE σ)).toArray = (es.map (renE σ)).toArray.modify i fun e => { e with key := ren σ k, val := ren σ x } := by
      apply Array.ext'
      simp only [Array.toList_modify]
      apply List.ext_getElem?
      intro j
      simp only [List.getElem?_map, List.getElem?_modify]
      cases es[j]? with
      | none => rfl
      | some e0 => by_cases hij : i = j <;> simp [hij, renE]
    rw [hmod] at hr
    have hks : (Instr.keyThatStays (ren σ k) (ren σ k)).run P w = .ok (ren σ k) w := by
      rw [ren_clean σ k hck]
      simp [Instr.keyThatStays, hsb]
    have hold : ((((es.map (renE σ)).toArray[i]?).map (·.key)).getD (ren σ k)) = ren σ k := by
      simp [he1, renE, he2]
    simp only [Option.map_some] at hkey
    simp only [Instr.mapUpdate, Sem.run_bind, run_und ht, Result.andThen_ok, hgo, hc0, hkey, hold, hks, hr]

theorem big_map {σ : Sg} {T : TV} {H : HV} {n : Nat} {dst : Option Tmp} {t : TypeId} {m k x : Operand} {type : TypeId} {pos : String} {after : Array Edge} {guard : Option (Nat × Bool)} {v : Value} {H' : HV} {n' : Nat} {w : World}
    (hI : Inv P σ H n w) (hf : fitsT n T) (h : bigV P T H n ⟨dst, .mapUpdate t m k x, type, pos, after, guard⟩ = some (.mem v H' n')) :
    Owes P σ H n w ((execOp (rho σ T) ⟨dst, .mapUpdate t m k x, type, pos, after, guard⟩).run P w) v H' n' := by
  simp only [bigV] at h
  split at h <;> first | (simp at h; done) | skip
  rename_i kt e r ht hm
  split at h <;> first | (simp at h; done) | skip
  rename_i es clock d hg hk
  split at h <;> first | (simp at h; done) | skip
  all_goals
    rename_i hfk
    simp only [Option.some.injEq, Res.mem.injEq] at h
    obtain ⟨rfl, rfl, rfl⟩ := h
    obtain ⟨w', hr, hI', hS⟩ := map_put (T := T) (m := undef) (H' := _) hI (ev_fits hf k) (ev_fits hf x) ht hg hk hfk rfl
    refine ⟨σ, w', .skip, ?_, .inr ⟨rfl, rfl⟩, hI', rfl, hS⟩
    simp [execOp, rho, hm, ren, hr]
theorem big_insert {σ : Sg} {T : TV} {H : HV} {n : Nat} {dst : Option Tmp} {t : TypeId} {m k x : Operand} {type : TypeId} {pos : String} {after : Array Edge} {guard : Option (Nat × Bool)} {v : Value} {H' : HV} {n' : Nat} {w : World}
    (hI : Inv P σ H n w) (hf : fitsT n T) (h : bigV P T H n ⟨dst, .insert t m k x, type, pos, after, guard⟩ = some (.mem v H' n')) :
    Owes P σ H n w ((execOp (rho σ T) ⟨dst, .insert t m k x, type, pos, after, guard⟩).run P w) v H' n' := big_map (dst := dst) (type := type) (pos := pos) (after := after) (guard := guard) hI hf h
end Go.Proofs.Ytmmnjphmiijbcaa.sx
