/- Appends, copies and calls. -/
import Derived.Test.YtmmnjphmiijbcaaSxI
namespace Go.Proofs.Ytmmnjphmiijbcaa.sx
set_option linter.unusedVariables false
open Go.RowKit (Below)
variable {P : Program}

theorem zero_cells {e : TypeId} {i : TypeInfo} {z : Value} (hi : P.info? e = some i) (hz : zeroOf P e = some z) : i.zero = some z := by
  unfold zeroOf at hz; simpa [hi] using hz
/- the new row of an append -/
theorem grow_own {σ : Sg} {H : HV} {n : Nat} {w : World} {e : TypeId} {i : TypeInfo} {z : Value} (hI : Inv P σ H n w) (hi : P.info? e = some i) (hzs : z.cells.size = i.size) (need cap : Nat) (hge : need ≤ cap) (cs : List Value)
    (hf : ∀ u ∈ cs, fits n u = true) (H0 : HV) (hH0 : ∀ k o, H0.get k = some o → H.get k = some o) :
    Inv P (σ.upd n w.heap.size (cap - need)) (H0.set n (some (.cells cs e true true))) (n + 2) (w.drew.alloc (.cells ((cs.map (ren σ)).toArray ++ Builtin.zeroCells z.cells (cap - need)) e)) ∧
    Step σ H n w (σ.upd n w.heap.size (cap - need)) (H0.set n (some (.cells cs e true true))) (n + 2) (w.drew.alloc (.cells ((cs.map (ren σ)).toArray ++ Builtin.zeroCells z.cells (cap - need)) e)) := by
  have hI0 : Inv P σ H0 n w := ⟨hI.odd, hI.glob, fun k o h => hI.low k o (hH0 k o h), fun k o h => hI.obj k o (hH0 k o h), fun k o h => hI.fit k o (hH0 k o h), fun j k o o' h1 h2 h3 h4 => hI.inj j k o o' (hH0 j o h1) h2 (hH0 k o' h3) h4⟩
  have ha := upd_agree hI.odd σ w.heap.size (cap - need)
  refine ⟨hI0.add hf (Nat.le_refl _) ?_ (fun q hq => heap_alloc_old w.drew _ q hq), ?_⟩
  · refine ⟨(Builtin.zeroCells z.cells (cap - need)).toList, (0, 0), ?_, fun _ => rfl, fun h => (by cases h), ?_⟩
    · have : (σ.upd n w.heap.size (cap - need)).b n = w.heap.size := by simp [Sg.upd]
      rw [this]
      refine (heap_alloc_new w.drew _).trans ?_
      rw [map_agree ha cs hf]
      congr 2
      apply Array.ext'
      simp
    · have hs : szOf P e = some i.size := by simp [szOf, hi]
      simp [Sg.upd, hs, size_zeroCells, hzs]
  · have hS := Step.add (g := w.heap.size) (e := cap - need) (x := .cells cs e true true) hI0 (Nat.le_refl _) (w' := w.drew.alloc (.cells ((cs.map (ren σ)).toArray ++ Builtin.zeroCells z.cells (cap - need)) e)) (fun q hq => heap_alloc_old w.drew _ q hq) rfl rfl rfl (by simp)
    exact ⟨hS.agree, hS.le, hS.os, hS.tape, hS.output, hS.size, fun q hq _ => heap_alloc_old w.drew _ q hq, fun k o hk => by
      rcases hS.img k o hk with ⟨j, o', hj, ho', hje⟩ | h
      · exact .inl ⟨j, o', hH0 j o' hj, ho', hje⟩
      · exact .inr h⟩

theorem cells_take {σ : Sg} {H : HV} {n k : Nat} {w : World} {cs : List Value} {t : TypeId} {lo ow : Bool} (hI : Inv P σ H n w) (hg : H.get k = some (.cells cs t lo ow)) (m : Nat) (hm : m ≤ cs.length) :
    ∀ j u, ((cs.take m).map (ren σ))[j]? = some u → w.cell? ((⟨σ.b k, 0, none⟩ : Addr).add j) = some u := by
  intro j u hj
  rw [List.getElem?_map] at hj
  cases hq : (cs.take m)[j]? with
  | none => simp [hq] at hj
  | some q =>
    simp [hq] at hj; subst hj
    rw [addr_at, Nat.zero_add]
    refine obj_cells (hI.obj k _ hg) _ _ ?_
    rw [List.getElem?_take] at hq
    split at hq
    · exact hq
    · cases hq

/- a new name for a block of our own, whose old name is gone -/
theorem Inv.takeOver {σ : Sg} {H : HV} {n k e : Nat} {w w' : World} {o x : VO} (h : Inv P σ H n w) (hk : H.get k = some o) (ho : ownO o = true) (hx : fitsO n x) (hat : objAt P (σ.upd n (σ.b k) e) n x w')
    (hkp : ∀ i, i ≠ σ.b k → w'.heap[i]? = w.heap[i]?) : Inv P (σ.upd n (σ.b k) e) ((H.set k none).set n (some x)) (n + 2) w' := by
  have ha := upd_agree h.odd σ (σ.b k) e
  have hget : ∀ j q, ((H.set k none).set n (some x)).get j = some q → (j = n ∧ q = x) ∨ (j ≠ n ∧ j ≠ k ∧ H.get j = some q) := fun j q hj => by
    rw [Tr.get_set] at hj
    by_cases hjn : j = n
    · rw [if_pos hjn] at hj; exact .inl ⟨hjn, (Option.some.inj hj).symm⟩
    · rw [if_neg hjn, Tr.get_set] at hj
      by_cases hjk : j = k
      · rw [if_pos hjk] at hj; cases hj
      · rw [if_neg hjk] at hj; exact .inr ⟨hjn, hjk, hj⟩
  have hold : ∀ j q, H.get j = some q → (σ.upd n (σ.b k) e).b j = σ.b j := fun j q hj => (ha j (h.low j q hj)).1
  have hnew : (σ.upd n (σ.b k) e).b n = σ.b k := by simp [Sg.upd]
  refine ⟨by have := h.odd; omega, fun q => ?_, fun j q hj => ?_, fun j q hj => ?_, fun j q hj => ?_, fun i j q q' hi hoi hj hne => ?_⟩
  · have : 2 * q ≠ n := by have := h.odd; omega
    have := h.glob q
    simp [Sg.upd, *]
  · rcases hget j q hj with ⟨rfl, _⟩ | ⟨_, _, hj⟩
    · exact ok_self
    · exact okN_mono (h.low j q hj) (by omega)
  · rcases hget j q hj with ⟨rfl, rfl⟩ | ⟨_, hjk, hj1⟩
    · exact hat
    · exact ((h.obj j q hj1).agree ha (h.low j q hj1) (h.fit j q hj1)).of_block (by rw [hold j q hj1]; exact hkp _ (Ne.symm (h.inj k j o q hk ho hj1 (Ne.symm hjk))))
  · rcases hget j q hj with ⟨_, rfl⟩ | ⟨_, _, hj⟩
    · exact fitsO_mono hx (by omega)
    · exact fitsO_mono (h.fit j q hj) (by omega)
  · rcases hget i q hi with ⟨rfl, rfl⟩ | ⟨_, hik, hi1⟩
    · rcases hget j q' hj with ⟨rfl, _⟩ | ⟨_, hjk, hj1⟩
      · exact (hne rfl).elim
      · rw [hnew, hold j q' hj1]; exact h.inj k j o q' hk ho hj1 (Ne.symm hjk)
    · rcases hget j q' hj with ⟨rfl, _⟩ | ⟨_, hjk, hj1⟩
      · rw [hnew, hold i q hi1]; exact h.inj i k q o hi1 hoi hk hik
      · rw [hold i q hi1, hold j q' hj1]; exact h.inj i j q q' hi1 hoi hj1 hne
theorem Step.takeOver {σ : Sg} {H : HV} {n k e : Nat} {w w' : World} {o x : VO} (h : Inv P σ H n w) (hk : H.get k = some o) (ho : ownO o = true)
    (hkp : ∀ i, i ≠ σ.b k → w'.heap[i]? = w.heap[i]?) (h1 : w'.os = w.os) (h2 : w'.tape = w.tape) (h3 : w'.output = w.output) (h4 : w.heap.size ≤ w'.heap.size) :
    Step σ H n w (σ.upd n (σ.b k) e) ((H.set k none).set n (some x)) (n + 2) w' where
  agree := upd_agree h.odd σ _ e
  le := by omega
  os := h1
  tape := h2
  output := h3
  size := h4
  keep := fun i hi hn => hkp i (fun e => hn k o hk ho e.symm)
  img := fun j q hj => by
    rw [Tr.get_set] at hj
    by_cases hjn : j = n
    · exact .inl ⟨k, o, hk, fun _ => ho, by simp [Sg.upd, hjn]⟩
    · rw [if_neg hjn, Tr.get_set] at hj
      by_cases hjk : j = k
      · rw [if_pos hjk] at hj; cases hj
      · rw [if_neg hjk] at hj; exact .inl ⟨j, q, hj, id, by simp [Sg.upd, hjn]⟩

theorem append_sound {σ : Sg} {H : HV} {n : Nat} {t xt : TypeId} {s x v : Value} {H' : HV} {n' : Nat} {w : World} {ty : TypeId}
    (hI : Inv P σ H n w) (hfs : fits n s = true) (h : appendV P H n t xt s x = some (.mem v H' n')) :
    ∃ σ' w', (Builtin.append_ #[t, xt] ty #[ren σ s, ren σ x]).run P w = .ok (ren σ' v) w' ∧ Inv P σ' H' n' w' ∧ fits n' v = true ∧ Step σ H n w σ' H' n' w' := by
  unfold appendV at h
  split at h <;> first | (simp at h; done) | skip
  rename_i e base len cap ht
  split at h <;> first | (simp at h; done) | skip
  rename_i i z hi hz
  cases hc : Nat.blt 0 i.size && ((cellsOf z).length == i.size) with
  | false => simp [hc] at h
  | true =>
    simp only [hc, cond_true] at h
    simp only [Bool.and_eq_true, Nat.blt_eq, beq_iff_eq] at hc
    obtain ⟨hsz, hzl⟩ := hc
    have hz0 := zero_cells hi hz
    have hzs : z.cells.size = i.size := by rw [cells_eq]; simpa using hzl
    split at h <;> first | (simp at h; done) | skip
    rename_i m new hsrc
    obtain ⟨hsr, hfn, hon, hln⟩ := srcV_spec hI hsrc
    cases hb : Nat.ble ((len + m) * (i.bytes + 1)) 100000000 with
    | false => simp [hb] at h
    | true =>
      simp only [hb, cond_true] at h
      have hb := Nat.le_of_ble_eq_true hb
      have hlm : len + m ≤ 100000000 := Nat.le_trans (Nat.le_mul_of_pos_right _ (by omega)) hb
      have hby : (len + m) * i.bytes ≤ 100000000 := Nat.le_trans (Nat.mul_le_mul_left _ (by omega)) hb
      have h63 : ((len + m : Nat) : Int) ≤ 9223372036854775807 := by omega
      split at h <;> first | (simp at h; done) | skip
      · -- nil
        cases hlc : (len == 0 && cap == 0) with
        | false => simp [hlc] at h
        | true =>
          simp only [hlc, cond_true] at h
          simp only [Bool.and_eq_true, beq_iff_eq] at hlc
          obtain ⟨rfl, rfl⟩ := hlc
          cases hm0 : m == 0 with
          | true =>
            simp only [hm0, cond_true, Option.some.injEq, Res.mem.injEq] at h
            obtain ⟨rfl, rfl, rfl⟩ := h
            have hm0' : m = 0 := by simpa using hm0
            subst hm0'
            refine ⟨σ, w, ?_, hI, rfl, Step.refl _ _ _ _⟩
            rcases hsr.kind with ⟨e', hk⟩ | hk <;> simp [Builtin.append_, ren, run_und ht, run_und hk, sizeOf, typeInfo, hi, hsr.len, hsr.cells]
          | false =>
            simp only [hm0, cond_false, Option.some.injEq, Res.mem.injEq] at h
            obtain ⟨rfl, rfl, rfl⟩ := h
            have hm0' : m ≠ 0 := by simpa using hm0
            have hr := run_append_grow_src (P := P) w t xt ty e i z ht hi hz0 none 0 0 [] (run_firstCells_none w.drew i.size 0 0 0) (ren σ x) m (new.map (ren σ)) hsr (by omega) h63 (growslice_fits (by omega) (by omega))
            have hge := grownCap_ge w (0 + m) 0 e
            generalize grownCap w (0 + m) 0 e = c' at hr hge
            simp only [Nat.zero_add, List.nil_append] at hr hge
            obtain ⟨g1, g2⟩ := grow_own (z := z) hI hi hzs m c' hge new hfn H (fun _ _ h => h)
            refine ⟨_, _, ?_, g1, by simp [fits, ok_self], g2⟩
            have hcc : m + (c' - m) = c' := by omega
            simp only [ren, Sg.addr, Sg.upd, if_true, hcc]
            exact hr
      · rename_i k
        have hrs : ren σ (.slice (some ⟨k, 0, none⟩) len cap) = .slice (some ⟨σ.b k, 0, none⟩) len (cap + σ.x k) := rfl
        rw [hrs]
        split at h <;> first | (simp at h; done) | skip
        rename_i cs t' loose own hg
        obtain ⟨rest, fz, hh, hfz, hlo, hxr⟩ := hI.obj k _ hg
        cases hle : Nat.ble (len + m) cap with
        | true =>
          simp only [hle, cond_true] at h
          have hle := Nat.le_of_ble_eq_true hle
          cases own with
          | false => simp at h
          | true =>
            simp only [cond_true] at h
            split at h <;> first | (simp at h; done) | skip
            rename_i cs' hs
            simp only [Option.some.injEq, Res.mem.injEq] at h
            obtain ⟨rfl, rfl, rfl⟩ := h
            obtain ⟨w', hr, hI', hS⟩ := write_own hI hg hs hon hfn
            refine ⟨σ, w', ?_, hI', hfs, hS⟩
            have hcap : len + m ≤ cap + σ.x k := by omega
            rcases hsr.kind with ⟨e', hk⟩ | hk <;> simp [Builtin.append_, ren, run_und ht, run_und hk, sizeOf, typeInfo, hi, hsr.len, hcap, hsr.cells, addr_at, hr, Sg.addr]
        | false =>
          simp only [hle, cond_false] at h
          have hle : cap < len + m := by
            rcases Nat.lt_or_ge cap (len + m) with h | h
            · exact h
            · rw [Nat.ble_eq_true_of_le h] at hle; cases hle
          cases hc2 : Nat.ble (len * i.size) cs.length && oneL (cs.take (len * i.size)) with
          | false => simp [hc2] at h
          | true =>
            simp only [hc2, cond_true] at h
            simp only [Bool.and_eq_true] at hc2
            have hl2 := Nat.le_of_ble_eq_true hc2.1
            have hold := cells_take hI hg (len * i.size) hl2
            have hfo : ∀ u ∈ cs.take (len * i.size) ++ new, fits n u = true := fun u hu => by
              rcases List.mem_append.1 hu with h | h
              · exact hI.fit k _ hg u (List.mem_of_mem_take h)
              · exact hfn u h
            -- the new row, when there is no room
            have grow : ∀ (H0 : HV), (∀ j o, H0.get j = some o → H.get j = some o) → cap + σ.x k < len + m →
                ∃ σ' w', (Builtin.append_ #[t, xt] ty #[.slice (some ⟨σ.b k, 0, none⟩) len (cap + σ.x k), ren σ x]).run P w = .ok (ren σ' (.slice (some ⟨n, 0, none⟩) (len + m) (len + m))) w' ∧
                  Inv P σ' (H0.set n (some (.cells (cs.take (len * i.size) ++ new) e true true))) (n + 2) w' ∧ Step σ H n w σ' (H0.set n (some (.cells (cs.take (len * i.size) ++ new) e true true))) (n + 2) w' := by
              intro H0 hH0 hgt
              have hlo2 : ((cs.take (len * i.size)).map (ren σ)).length = len * i.size := by simp; omega
              have hr := run_append_grow_src (P := P) w t xt ty e i z ht hi hz0 (some ⟨σ.b k, 0, none⟩) len (cap + σ.x k) ((cs.take (len * i.size)).map (ren σ))
                (run_firstCells_some w.drew i.size len ⟨σ.b k, 0, none⟩ len (cap + σ.x k) _ hlo2 (by simpa using hold)) (ren σ x) m (new.map (ren σ)) hsr hgt h63 (growslice_fits (by omega) (by omega))
              have hge := grownCap_ge w (len + m) (cap + σ.x k) e
              generalize grownCap w (len + m) (cap + σ.x k) e = c' at hr hge
              obtain ⟨g1, g2⟩ := grow_own (z := z) hI hi hzs (len + m) c' hge _ hfo H0 hH0
              rw [List.map_append] at g1 g2
              refine ⟨_, _, ?_, g1, g2⟩
              have hcc : len + m + (c' - (len + m)) = c' := by omega
              simp only [ren, Sg.addr, Sg.upd, if_true, hcc]
              exact hr
            cases loose with
            | false =>
              simp only [cond_false, Option.some.injEq, Res.mem.injEq] at h
              obtain ⟨rfl, rfl, rfl⟩ := h
              have hx0 := (hlo rfl).2
              obtain ⟨σ', w', h1, h2, h3⟩ := grow H (fun _ _ h => h) (by omega)
              exact ⟨σ', w', h1, h2, by simp [fits, ok_self], h3⟩
            | true =>
              simp only [cond_true] at h
              cases hc3 : (own && (t' == e) && Nat.ble (cap * i.size) cs.length && Nat.ble len cap) with
              | false => simp [hc3] at h
              | true =>
                simp only [hc3, cond_true, Option.some.injEq, Res.mem.injEq] at h
                obtain ⟨rfl, rfl, rfl⟩ := h
                simp only [Bool.and_eq_true, beq_iff_eq] at hc3
                obtain ⟨⟨⟨rfl, rfl⟩, hc4⟩, hc5⟩ := hc3
                have hc4 := Nat.le_of_ble_eq_true hc4
                have hc5 := Nat.le_of_ble_eq_true hc5
                have hH0 : ∀ j o, (H.set k none).get j = some o → H.get j = some o := fun j o hj => by
                  rw [Tr.get_set] at hj
                  split at hj
                  · cases hj
                  · exact hj
                by_cases hroom : len + m ≤ cap + σ.x k
                · -- in its place
                  have hfz0 := hfz rfl
                  subst hfz0
                  have hsz' : szOf P t' = some i.size := by simp [szOf, hi]
                  rw [hsz'] at hxr
                  simp only [Option.getD_some] at hxr
                  have hmul : (len + m) * i.size ≤ (cap + σ.x k) * i.size := Nat.mul_le_mul_right _ hroom
                  have hfit : len * i.size + (new.map (ren σ)).length ≤ ((cs.map (ren σ)) ++ rest).toArray.size := by
                    simp [hln]
                    rw [Nat.add_mul, Nat.add_mul] at hmul
                    omega
                  have hst := run_storeCells_at P (σ.b k) (len * i.size) t' (new.map (ren σ)) 0 _ w hh (by simpa using hfit) (oneL_map hon)
                  simp only [Nat.add_zero] at hst
                  have hne : k ≠ n := by
                    rintro rfl
                    have := hI.low k _ hg
                    rw [not_ok hI.odd] at this
                    cases this
                  have hcells : (cs.map (ren σ) ++ rest).take (len * i.size) ++ new.map (ren σ) ++ (cs.map (ren σ) ++ rest).drop (len * i.size + (new.map (ren σ)).length) =
                      (cs.take (len * i.size) ++ new).map (ren σ) ++ (cs.map (ren σ) ++ rest).drop (len * i.size + (new.map (ren σ)).length) := by
                    rw [List.take_append_of_le_length (by simpa using hl2), List.map_append, List.map_take]
                  rw [hcells] at hst
                  have hkp : ∀ j, j ≠ σ.b k → (w.setRow (σ.b k) ((cs.take (len * i.size) ++ new).map (ren σ) ++ (cs.map (ren σ) ++ rest).drop (len * i.size + (new.map (ren σ)).length)).toArray).heap[j]? = w.heap[j]? := fun j hj => setRow_other w _ j _ hj
                  refine ⟨σ.upd n (σ.b k) (cap + σ.x k - (len + m)), _, ?_, hI.takeOver hg rfl hfo ?_ hkp, by simp [fits, ok_self], Step.takeOver hI hg rfl hkp rfl rfl rfl (by simp)⟩
                  · have hcc : len + m + (cap + σ.x k - (len + m)) = cap + σ.x k := by omega
                    rcases hsr.kind with ⟨e', hk⟩ | hk <;> simp only [Builtin.append_, ren, Sg.addr, Sg.upd, if_true, hcc] <;>
                      simp [-List.map_append, -List.map_take, -List.map_drop, run_und ht, run_und hk, sizeOf, typeInfo, hi, hsr.len, hroom, hsr.cells, addr_at, hst]
                  · have hb' : (σ.upd n (σ.b k) (cap + σ.x k - (len + m))).b n = σ.b k := by simp [Sg.upd]
                    have hx' : (σ.upd n (σ.b k) (cap + σ.x k - (len + m))).x n = cap + σ.x k - (len + m) := by simp [Sg.upd]
                    refine ⟨(cs.map (ren σ) ++ rest).drop (len * i.size + (new.map (ren σ)).length), (0, 0), ?_, fun _ => rfl, fun h => (by cases h), ?_⟩
                    · rw [hb', map_agree (upd_agree hI.odd σ _ _) _ hfo]
                      exact setRow_heap w _ _ _ _ _ hh
                    · rw [hx', hsz']
                      simp only [Option.getD_some, List.length_drop, List.length_append, List.length_map, hln, Nat.sub_mul, Nat.add_mul]
                      omega
                · obtain ⟨σ', w', h1, h2, h3⟩ := grow (H.set k none) hH0 (by omega)
                  exact ⟨σ', w', h1, h2, by simp [fits, ok_self], h3⟩

theorem copy_sound {σ : Sg} {H : HV} {n : Nat} {t xt : TypeId} {s x v : Value} {H' : HV} {n' : Nat} {w : World} {ty : TypeId}
    (hI : Inv P σ H n w) (h : copyV P H n t xt s x = some (.mem v H' n')) :
    ∃ σ' w', (Builtin.copy_ #[t, xt] ty #[ren σ s, ren σ x]).run P w = .ok (ren σ' v) w' ∧ Inv P σ' H' n' w' ∧ fits n' v = true ∧ Step σ H n w σ' H' n' w' := by
  unfold copyV at h
  split at h <;> first | (simp at h; done) | skip
  rename_i e base dlen dcap ht
  split at h <;> first | (simp at h; done) | skip
  rename_i size sa sn sc hsz
  split at h <;> first | (simp at h; done) | skip
  rename_i m new hsrc
  generalize hxs : Value.slice sa sn sc = x at *
  obtain ⟨hsr, hfn, hon, hln⟩ := srcV_spec hI hsrc
  have hfc : (Builtin.firstCells size (Nat.min m dlen) (ren σ x)).run P w = .ok ((new.take (Nat.min m dlen * size)).map (ren σ)).toArray w := by
    have hmd : Nat.min m dlen ≤ m := Nat.min_le_left _ _
    unfold srcV at hsrc
    split at hsrc <;> first | (simp at hsrc; done) | skip
    · simp only [Option.some.injEq, Prod.mk.injEq] at hsrc
      obtain ⟨rfl, rfl⟩ := hsrc
      simp [ren, Builtin.firstCells]
    · rename_i e' k off m' c hxt
      split at hsrc <;> first | (simp at hsrc; done) | skip
      rename_i cs t0 lo ow hg
      cases hc : Nat.ble (off + m' * size) cs.length && oneL ((cs.drop off).take (m' * size)) with
      | false => simp [hc] at hsrc
      | true =>
        simp only [hc, cond_true, Option.some.injEq, Prod.mk.injEq] at hsrc
        obtain ⟨rfl, rfl⟩ := hsrc
        simp only [Bool.and_eq_true] at hc
        have hl := Nat.le_of_ble_eq_true hc.1
        have hmul : Nat.min m' dlen * size ≤ m' * size := Nat.mul_le_mul_right _ hmd
        have htk : ((cs.drop off).take (m' * size)).take (Nat.min m' dlen * size) = (cs.drop off).take (Nat.min m' dlen * size) := by
          rw [List.take_take, Nat.min_eq_left hmul]
        rw [htk]
        exact run_firstCells_some w size _ _ _ _ _ (by simp; omega) (fun j u hj => by
          rw [List.getElem?_map] at hj
          cases hq : ((cs.drop off).take (Nat.min m' dlen * size))[j]? with
          | none => simp [hq] at hj
          | some q =>
            simp [hq] at hj; subst hj
            show w.cell? ((⟨σ.b k, off, none⟩ : Addr).add j) = _
            rw [addr_at]
            refine obj_cells (hI.obj k _ hg) _ _ ?_
            rw [List.getElem?_take] at hq
            split at hq
            · simpa using hq
            · cases hq)
    · cases hxs
  have hlen := hsr.len w
  have hmin : m.min dlen = Nat.min m dlen := rfl
  have hone : oneL (new.take (Nat.min m dlen * size)) = true := List.all_eq_true.2 fun u hu => List.all_eq_true.1 hon u (List.mem_of_mem_take hu)
  simp only at h
  split at h <;> first | (simp at h; done) | skip
  · simp only [Option.some.injEq, Res.mem.injEq] at h
    obtain ⟨rfl, rfl, rfl⟩ := h
    refine ⟨σ, w, ?_, hI, rfl, Step.refl _ _ _ _⟩
    simp [Builtin.copy_, run_und ht, ren, hlen, run_sizeOf hsz, hfc, goInt]
  · rename_i k off
    split at h <;> first | (simp at h; done) | skip
    rename_i cs t' loose hg
    split at h <;> first | (simp at h; done) | skip
    rename_i cs' hs
    simp only [Option.some.injEq, Res.mem.injEq] at h
    obtain ⟨rfl, rfl, rfl⟩ := h
    obtain ⟨w', hr, hI', hS⟩ := write_own hI hg hs hone (fun u hu => hfn u (List.mem_of_mem_take hu))
    refine ⟨σ, w', ?_, hI', rfl, hS⟩
    simp only [List.map_take] at hr hfc
    simp [Builtin.copy_, run_und ht, ren, hlen, run_sizeOf hsz, hfc, goInt, Sg.addr, hr]

/- what is asked of a program -/
structure Good (P : Program) : Prop where
  names : ∀ (f : FuncId) (fn : Func), P.funcs[f]? = some fn → (fn.name == "runtime.NumGoroutine") = false
  mixed : P.follows .mixedOrders = true
theorem callee_sound (hG : Good P) {f g : FuncId} {args args' : List Value} (h : callee P f args = some (.call g args')) (as : Array Value) : g = f ∧ args' = args ∧ ∀ w, (callFunc f as).run P w = .ok (.enter f as) w := by
  unfold callee at h
  split at h <;> first | (simp at h; done) | skip
  rename_i fn hfn
  cases hb : fn.body.isSome with
  | false => simp [hb] at h
  | true =>
    simp only [hb, cond_true, Option.some.injEq, Res.call.injEq] at h
    refine ⟨h.1.symm, h.2.symm, fun w => ?_⟩
    have hn := hG.names f fn hfn
    have hb' : fn.body.isNone = false := by cases hq : fn.body <;> simp [hq] at hb ⊢
    simp only [callFunc, Sem.run_bind, run_program, Result.andThen_ok, hfn, hn, hb', Bool.false_eq_true, if_false, Sem.run_pure]
theorem callee_not {f : FuncId} {args : List Value} {v : Value} {H : HV} {n : Nat} : callee P f args ≠ some (.mem v H n) := by
  unfold callee
  split
  · rename_i fn _
    cases fn.body.isSome <;> simp
  · simp

def callArgs (l : List Value) (σ : Sg) : Array Value := (l.map (ren σ)).toArray
theorem append_not {H H' : HV} {n : Nat} {t xt : TypeId} {s x : Value} {f : FuncId} {args : List Value} : appendV P H n t xt s x ≠ some (.call f args) := by
  intro h
  unfold appendV at h
  simp only [cond_eq_ite] at h
  repeat' split at h
  all_goals first | (simp at h; done) | skip
theorem copy_not {H H' : HV} {n : Nat} {t xt : TypeId} {s x : Value} {f : FuncId} {args : List Value} : copyV P H n t xt s x ≠ some (.call f args) := by
  intro h
  unfold copyV at h
  dsimp only at h
  repeat' split at h
  all_goals first | (simp at h; done) | skip
theorem method_not {v w : Value} {H : HV} {n : Nat} {name : String} {args : List Value} : methodV P v name args ≠ some (.mem w H n) := by
  intro h
  unfold methodV at h
  simp only [cond_eq_ite] at h
  repeat' split at h
  all_goals first | (simp at h; done) | exact callee_not h
theorem method_sound (hG : Good P) {σ : Sg} {n : Nat} {v : Value} {name : String} {args args' : List Value} {g : FuncId} (hv : fits n v = true) (ha : ∀ u ∈ args, fits n u = true) (h : methodV P v name args = some (.call g args')) :
    (∀ w, (callMethod (ren σ v) name (args.map (ren σ)).toArray).run P w = .ok (.enter g (callArgs args' σ)) w) ∧ ∀ u ∈ args', fits n u = true := by
  unfold methodV at h
  split at h <;> first | (simp at h; done) | skip
  rename_i t v0
  cases hc : clean v0 with
  | true =>
    simp only [hc, cond_true] at h
    split at h <;> first | (simp at h; done) | skip
    rename_i f r hm
    cases hcr : clean r with
    | false => simp [hcr] at h
    | true =>
      simp only [hcr, cond_true] at h
      obtain ⟨rfl, rfl, hr⟩ := callee_sound hG h (callArgs (r :: args) σ)
      refine ⟨fun w => ?_, fun u hu => ?_⟩
      · have hm' := pureRun_run _ hm w
        have hargs : #[r] ++ (args.map (ren σ)).toArray = callArgs (r :: args) σ := by
          apply Array.ext'; simp [callArgs, ren_clean σ r hcr]
        simp only [callMethod, ren, ren_clean σ v0 hc, Sem.run_bind, run_program, Result.andThen_ok, hm', hargs, hr]
      · rcases List.mem_cons.1 hu with rfl | hu
        · exact fits_clean n _ hcr
        · exact ha u hu
  | false =>
    simp only [hc, cond_false] at h
    split at h <;> first | (simp at h; done) | skip
    rename_i a i e hi hu
    split at h <;> first | (simp at h; done) | skip
    rename_i m hm
    cases hp : m.path.isEmpty with
    | false => simp [hp] at h
    | true =>
      simp only [hp, cond_true] at h
      split at h <;> first | (simp at h; done) | skip
      rename_i f hmf
      obtain ⟨rfl, rfl, hr⟩ := callee_sound hG h (callArgs (.pointer (some a) :: args) σ)
      refine ⟨fun w => ?_, fun u hu => ?_⟩
      · have hargs : #[Value.pointer (some (σ.addr a))] ++ (args.map (ren σ)).toArray = callArgs (.pointer (some a) :: args) σ := by
          apply Array.ext'; simp [callArgs, ren]
        have hpath : m.path.toList = [] := by
          have : m.path = #[] := by simpa [Array.isEmpty_iff] using hp
          simp [this]
        have hmeth : (method (P.types.size + Made.depth) t (.pointer (some (σ.addr a))) name).run P w = .ok (g, .pointer (some (σ.addr a))) w := by
          have hd : P.types.size + Made.depth = (P.types.size + Made.depth - 1) + 1 := by
            have : 0 < Made.depth := by decide
            omega
          rw [hd]
          simp only [method, Sem.run_bind, typeInfo, run_program, Result.andThen_ok, hi, Sem.run_pure, hm, hpath, follow, hmf, receiverAt, run_und hu, Place.get]
        simp only [callMethod, ren, Sem.run_bind, run_program, Result.andThen_ok, hmeth, hargs, hr]
      · rcases List.mem_cons.1 hu with rfl | hu
        · simpa [fits] using hv
        · exact ha u hu

theorem big_call (hG : Good P) {σ : Sg} {T : TV} {H : HV} {n : Nat} {o : Oper} {f : FuncId} {args : List Value} (hf : fitsT n T) (h : bigV P T H n o = some (.call f args)) :
    (∀ w, (execOp (rho σ T) o).run P w = .ok (.enter f (callArgs args σ)) w) ∧ ∀ v ∈ args, fits n v = true := by
  obtain ⟨dst, op, type, pos, after, guard⟩ := o
  cases op
  case call c =>
    have ha := args_ev σ T c.args
    have hfa : ∀ u ∈ c.args.toList.map (ev T), fits n u = true := fun u hu => by
      obtain ⟨x, _, rfl⟩ := List.mem_map.1 hu
      exact ev_fits hf x
    simp only [bigV] at h
    split at h
    · repeat' split at h
      all_goals (simp at h; done)
    · split at h
      · exact (append_not (H' := H) h).elim
      · simp at h
    · split at h
      · exact (copy_not (H' := H) h).elim
      · simp at h
    · simp at h
    · rename_i x hc
      split at h <;> first | (simp at h; done) | skip
      rename_i g first captured hx
      have hfx := ev_fits hf x
      rw [hx] at hfx
      simp only [fits, Bool.and_eq_true, fitsA_iff] at hfx
      obtain ⟨rfl, rfl, hr⟩ := callee_sound hG h (callArgs (first.toList ++ c.args.toList.map (ev T) ++ captured.toList) σ)
      refine ⟨fun w => ?_, fun u hu => ?_⟩
      · have hargs : renA σ first ++ c.args.map (rho σ T) ++ renA σ captured = callArgs (first.toList ++ c.args.toList.map (ev T) ++ captured.toList) σ := by
          rw [ha, renA_list, renA_list]
          apply Array.ext'; simp [callArgs]
        simp only [execOp, resolve, hc, rho, hx, ren, Deferred.ofValue, Sem.run_bind, Sem.run_pure, Result.andThen_ok, invoke]
        rw [hargs]
        exact hr w
      · rcases List.mem_append.1 hu with hu | hu
        · rcases List.mem_append.1 hu with hu | hu
          · exact hfx.1 u hu
          · exact hfa u hu
        · exact hfx.2 u hu
    · rename_i r name hc
      obtain ⟨h1, h2⟩ := method_sound (σ := σ) hG (ev_fits hf r) hfa h
      refine ⟨fun w => ?_, h2⟩
      have hex : (#[rho σ T r] ++ c.args.map (rho σ T)).extract 1 (#[rho σ T r] ++ c.args.map (rho σ T)).size = ((c.args.toList.map (ev T)).map (ren σ)).toArray := by
        rw [ha]
        apply Array.ext'
        simp
        exact List.take_of_length_le (by simp)
      have h0 : (#[rho σ T r] ++ c.args.map (rho σ T))[0]? = some (rho σ T r) := by
        rw [Array.getElem?_append_left (by simp)]
        rfl
      simp only [execOp, resolve, hc, Sem.run_bind, Sem.run_pure, Result.andThen_ok, invoke, h0, hex]
      exact h1 w
  all_goals
    simp only [bigV] at h
    try (simp only [cond_eq_ite] at h)
    repeat' split at h
    all_goals first | (simp at h; done) | skip
end Go.Proofs.Ytmmnjphmiijbcaa.sx
