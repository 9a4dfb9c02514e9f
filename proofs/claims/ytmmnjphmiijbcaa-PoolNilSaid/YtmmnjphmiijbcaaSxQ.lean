/- A drawn region: whatever order is picked, it ends as planned. -/
import Derived.Test.YtmmnjphmiijbcaaSxO
namespace Go.Proofs.Ytmmnjphmiijbcaa.sx
set_option linter.unusedVariables false
open Go.RowKit (Below)
variable {P : Program} {ops : Array Oper}

theorem sep_mid {E1 E2 : List Early} {e : Early} (h : Sep (E1 ++ e :: E2)) : Sep (E1 ++ E2) ∧ ∀ q ∈ E1 ++ E2, q.i ≠ e.i ∧ ∀ g, e.g = some g → q.g ≠ some g := by
  unfold Sep at h ⊢
  rw [List.pairwise_append] at h
  obtain ⟨h1, h2, h3⟩ := h
  rw [List.pairwise_cons] at h2
  refine ⟨List.pairwise_append.2 ⟨h1, h2.2, fun a ha b hb => h3 a ha b (List.mem_cons_of_mem _ hb)⟩, fun q hq => ?_⟩
  rcases List.mem_append.1 hq with hq | hq
  · obtain ⟨a, b⟩ := h3 q hq e List.mem_cons_self
    exact ⟨a, fun g hg hqg => b g hqg hg⟩
  · obtain ⟨a, b⟩ := h2.1 q hq
    exact ⟨Ne.symm a, b⟩

set_option maxHeartbeats 1000000 in
theorem reg_main (hG : Good P) {call : CallV} (hC : CallOK P call) (hok : opsOK ops = true) (hsel : Region.noSelect ops = true) {nt : Nat} {Q : Exit → Act → World → Prop} (hQ : ∀ c a w, ¬ Q (.panic c) a w)
    {σ0 : Sg} {H0 : HV} {n0 : Nat} {w0 : World} {T' : TV} {H' : HV} {n' : Nat} (hfin : Then P σ0 H0 n0 w0 nt T' H' n' (Q .normal)) :
    ∀ (m : Nat) (l : List Nat) (fuel : Nat) {listed : Array Bool} {E : List Early} {T : TV} {H : HV} {n : Nat} {σ : Sg} {a aR : Act} {w : World} {R : Reads} {pf : Nat}, l.length + fuel ≤ m → listed.size = ops.size →
      plan P ops pf listed = some l → regV P call ops nt l R T H n = some (T', H', n') → Rel σ n T nt a → Inv P σ H n w → Step σ0 H0 n0 w0 σ H n w → AR ops E a aR →
      (∀ e ∈ E, EarlyOK P ops nt w0.heap.size σ T H w listed e) → Sep E → (∀ p ∈ R, okN n p.1 = true ∧ ∀ u ∈ p.2.2, fits n u = true) → SR σ R w → cnt (markL listed (idx E)) ≤ fuel →
      wpAnyH P .any ops Q (SR σ R) fuel (markL listed (idx E)) aR w := by
  intro m
  induction m with
  | zero =>
    intro l fuel listed E T H n σ a aR w R pf hm hs hp hr hR hI hS hA hE hsep hRd hSR hcnt
    have hl : l = [] := by cases l with | nil => rfl | cons => simp at hm
    subst hl
    have hnil := plan_nil hp
    have hE0 : E = [] := by
      cases E with
      | nil => rfl
      | cons e E => have := (hE e List.mem_cons_self).1; rw [hnil] at this; cases this
    subst hE0
    simp only [regV, Option.some.injEq, Prod.mk.injEq] at hr
    obtain ⟨rfl, rfl, rfl⟩ := hr
    have hRR : Rel σ n T nt aR := by
      refine ⟨by rw [hA.size, hR.size], hR.high, fun t => ?_, hR.fit, by rw [hA.defers, hR.defers]⟩
      rw [Array.getD_eq_getD_getElem?, hA.out t (fun e he => by cases he), ← Array.getD_eq_getD_getElem?]
      exact hR.val t
    exact wpAnyH_done hnil (hfin _ _ _ hRR hI hS) fuel
  | succ m ih =>
    intro l fuel listed E T H n σ a aR w R pf hm hs hp hr hR hI hS hA hE hsep hRd hSR hcnt
    cases l with
    | nil =>
      have hnil := plan_nil hp
      have hE0 : E = [] := by
        cases E with
        | nil => rfl
        | cons e E => have := (hE e List.mem_cons_self).1; rw [hnil] at this; cases this
      subst hE0
      simp only [regV, Option.some.injEq, Prod.mk.injEq] at hr
      obtain ⟨rfl, rfl, rfl⟩ := hr
      have hRR : Rel σ n T nt aR := by
        refine ⟨by rw [hA.size, hR.size], hR.high, fun t => ?_, hR.fit, by rw [hA.defers, hR.defers]⟩
        rw [Array.getD_eq_getD_getElem?, hA.out t (fun e he => by cases he), ← Array.getD_eq_getD_getElem?]
        exact hR.val t
      exact wpAnyH_done hnil (hfin _ _ _ hRR hI hS) fuel
    | cons j l =>
      obtain ⟨⟨pf', hp'⟩, hjr, hap, hhead⟩ := plan_cons hs hp
      have hr0 := hr
      simp only [regV] at hr
      split at hr <;> first | (simp at hr; done) | skip
      rename_i o ho
      split at hr <;> first | (simp at hr; done) | skip
      rename_i T1 H1 n1 hst
      have hs' : (listed.setIfInBounds j true).size = ops.size := by simpa using hs
      have hsM : (markL listed (idx E)).size = ops.size := by rw [markL_size]; exact hs
      have hoOK : opOK o = true := List.all_eq_true.1 hok o (List.mem_of_getElem? (by simpa using ho))
      have hjlt := ready_lt hjr
      -- the early ones other than j stand apart from j
      have hEap : ∀ e ∈ E, e.i ≠ j → Ap ops e.i j := fun e he hne => hap e.i (hE e he).1 (hE e he).2.1 hne
      have hmono : ∀ i : Nat, listed[i]? = some true → (markL listed (idx E))[i]? = some true := fun i hi => markL_mono _ _ _ hi
      by_cases hjE : ∃ e ∈ E, e.i = j
      · -- it has been carried out already
        obtain ⟨e, heE, hej⟩ := hjE
        obtain ⟨E1, E2, rfl⟩ := List.append_of_mem heE
        obtain ⟨hsep', hsepe⟩ := sep_mid hsep
        obtain ⟨_, hea, oe, hoe, hde, h3⟩ := hE e heE
        rw [hej, ho] at hoe
        cases hoe
        have hk := isA_kind (by rw [← hej]; exact hea) ho
        have hlist : markL listed (idx (E1 ++ e :: E2)) = markL (listed.setIfInBounds j true) (idx (E1 ++ E2)) := by
          refine markL_ext (by simp) fun i hi => ?_
          by_cases hij : j = i
          · subst hij
            simp [idx, hi, hej]
          · rw [Array.getElem?_setIfInBounds_ne hij]
            simp only [idx, List.map_append, List.map_cons, List.mem_append, List.mem_cons, hej]
            have : i ≠ j := Ne.symm hij
            simp [this]
        have hout : ∀ q ∈ E1 ++ E2, ∀ x, ops[q.i]? = some x → ∀ d, x.dst = some d → o.dst ≠ some d := fun q hq x hx d hxd => by
          have hqm : q ∈ E1 ++ e :: E2 := by
            rcases List.mem_append.1 hq with h | h
            · exact List.mem_append_left _ h
            · exact List.mem_append_right _ (List.mem_cons_of_mem _ h)
          have hne : q.i ≠ j := by rw [← hej]; exact (hsepe q hq).1
          exact (hEap q hqm hne x o hx ho).2.1 d hxd
        have hA' := hA.less (by rw [hej]; exact ho) hout
        have hEsub : ∀ q ∈ E1 ++ E2, q ∈ E1 ++ e :: E2 := fun q hq => by
          rcases List.mem_append.1 hq with h | h
          · exact List.mem_append_left _ h
          · exact List.mem_append_right _ (List.mem_cons_of_mem _ h)
        rw [hlist] at hcnt ⊢
        simp only [hk] at hr
        cases hsr : sameR H1 R with
        | false => simp [hsr] at hr
        | true =>
          simp only [hsr, cond_true] at hr
          unfold stepV at hst
          simp only [hde, cond_true, hk] at hst
          rcases h3 with ⟨hw, hv, _⟩ | ⟨hw, f, x, g, hf, hg, hv, hh, hB, hl⟩
          · simp only [hw, cond_false, Option.some.injEq, Prod.mk.injEq] at hst
            obtain ⟨rfl, rfl, rfl⟩ := hst
            rw [hv] at hA'
            have hR' := hR.put (v := undef) hde rfl
            rw [undef_ren] at hR'
            exact ih l fuel (by simp at hm; omega) hs' hp' hr hR' hI hS hA' (fun q hq => (hE q (hEsub q hq)).step hs hR.fit ho (by rw [← hej]; exact (hsepe q hq).1) (hEap q (hEsub q hq) (by rw [← hej]; exact (hsepe q hq).1)) (Step.refl _ _ _ _)) hsep' hRd hSR hcnt
          · simp only [hw, cond_true, hf, Option.some.injEq, Prod.mk.injEq] at hst
            obtain ⟨rfl, rfl, rfl⟩ := hst
            obtain ⟨h1, h2, h3, h4⟩ := fresh_sound (σ := σ) hR.fit hf
            have ha := upd_agree hI.odd σ g 0
            have hnb : (σ.upd n g 0).b n = g := by simp [Sg.upd]
            have hnx : (σ.upd n g 0).x n = 0 := by simp [Sg.upd]
            have hat : objAt P (σ.upd n g 0) n x w := h4 _ n _ (by rw [hnb, hh, objOf_agree ha h2]) hnx
            have hI' : Inv P (σ.upd n g 0) (H.set n (some x)) (n + 2) w := hI.addAt h2 hl hat (fun _ _ => rfl)
            have hS1 : Step σ0 H0 n0 w0 (σ.upd n g 0) (H.set n (some x)) (n + 2) w := by
              refine ⟨hS.agree.trans ha hS.le, by have := hS.le; omega, hS.os, hS.tape, hS.output, hS.size, hS.keep, fun k o' hk => ?_⟩
              rw [Tr.get_set] at hk
              by_cases hkn : k = n
              · exact .inr (by rw [hkn, hnb]; exact hB)
              · rw [if_neg hkn] at hk
                have : (σ.upd n g 0).b k = σ.b k := by simp [Sg.upd, hkn]
                rw [this]
                exact hS.img k o' hk
            have hR' := (hR.mono ha (by omega)).put (n := n + 2) hde (val_fits n f)
            rw [ren_val hnb hnx, ← hv] at hR'
            have hRd' : ∀ p ∈ R, okN (n + 2) p.1 = true ∧ ∀ u ∈ p.2.2, fits (n + 2) u = true := fun p hp => ⟨okN_mono (hRd p hp).1 (by omega), fun u hu => fits_mono (by omega) u ((hRd p hp).2 u hu)⟩
            have hSR' : SR (σ.upd n g 0) R w := fun p hp k u hu => by
              have := hSR p hp k u hu
              rw [(ha p.1 (hRd p hp).1).1, ren_agree ha u ((hRd p hp).2 u (List.mem_of_getElem? hu))]
              exact this
            have hE' : ∀ q ∈ E1 ++ E2, EarlyOK P ops nt w0.heap.size (σ.upd n g 0) (sx.put T o.dst (f.val n)) (H.set n (some x)) w (listed.setIfInBounds j true) q := fun q hq => by
              have hne : q.i ≠ j := by rw [← hej]; exact (hsepe q hq).1
              obtain ⟨q1, q2, oq, hoq, hdq, q3⟩ := (hE q (hEsub q hq)).step (v := f.val n) hs hR.fit ho hne (hEap q (hEsub q hq) hne) (Step.refl σ H n w)
              refine ⟨q1, q2, oq, hoq, hdq, ?_⟩
              rcases q3 with q3 | ⟨q3, f', x', g', hf', hg', hv', hh', hB', hl'⟩
              · exact .inl q3
              · have hfx' : fitsO n x' := by
                  have h0 := (hap q.i (hE q (hEsub q hq)).1 (hE q (hEsub q hq)).2.1 hne oq o hoq ho).2.2
                  have : freshV P T oq = some (f', x') := by rw [← hf']; exact (freshV_congr fun y hy => ev_put h0 y hy).symm
                  exact (fresh_sound (σ := σ) hR.fit this).2.1
                refine .inr ⟨q3, f', x', g', hf', hg', hv', by rw [objOf_agree ha hfx']; exact hh', hB', fun k o' hk => ?_⟩
                rw [Tr.get_set] at hk
                by_cases hkn : k = n
                · rw [hkn, hnb]
                  intro e0
                  exact (hsepe q hq).2 g hg (by rw [hg', e0])
                · rw [if_neg hkn] at hk
                  have : (σ.upd n g 0).b k = σ.b k := by simp [Sg.upd, hkn]
                  rw [this]; exact hl' k o' hk
            have := ih l fuel (by simp at hm; omega) hs' hp' hr hR' hI' hS1 hA' hE' hsep' hRd' hSR' hcnt
            exact wpAnyH_mono (fun w' hw' p hp => cellsAt_agree ha (hRd p hp).1 (hRd p hp).2 (hw' p hp)) _ _ _ _ this
      · -- it has not
        have hEap' : ∀ e ∈ E, Ap ops e.i j := fun e he => hEap e he fun h => hjE ⟨e, he, h⟩
        have hoff : Off ops E o := Off.of ho hEap'
        have hun : listed[j]? = some false := ready_un hs hjr
        have hunM : (markL listed (idx E))[j]? = some false := by
          rw [markL_get, if_neg]
          · exact hun
          · rintro ⟨h, _⟩
            obtain ⟨e, he, rfl⟩ := List.mem_map.1 h
            exact hjE ⟨e, he, rfl⟩
        have hjM : j ∈ Region.ready .any ops (markL listed (idx E)) := ready_more hmono hjr hunM
        have hcs := cnt_set hunM
        obtain ⟨f, rfl⟩ : ∃ f, fuel = f + 1 := ⟨fuel - 1, by omega⟩
        have hlist : (markL listed (idx E)).setIfInBounds j true = markL (listed.setIfInBounds j true) (idx E) := by
          apply Array.ext_getElem?
          intro i
          rw [markL_get]
          by_cases hij : j = i
          · subst hij
            have e1 : ((markL listed (idx E)).setIfInBounds j true)[j]? = some true := by simp [hsM, hjlt]
            have e2 : (listed.setIfInBounds j true)[j]? = some true := by simp [hs, hjlt]
            rw [e1, e2]
            split <;> rfl
          · rw [Array.getElem?_setIfInBounds_ne hij, Array.getElem?_setIfInBounds_ne hij, markL_get]
            simp
        have hcnt' : cnt (markL (listed.setIfInBounds j true) (idx E)) ≤ f := by rw [← hlist]; omega
        have hexec : execOp aR.eval o = execOp (rho σ T) o := (hA.exec hoff hoOK).trans (hR.exec hI hoOK)
        have hwanted : Region.wanted o (yielded ops aR.tmps) = wantedV ops T o := (hA.wanted hoff).trans (hR.wanted ops o)
        -- the head is carried out: the rest by the hypothesis
        have go_on : (∀ R', (match kind P o.op with
              | .pure => regV P call ops nt l R T1 H1 n1
              | .load => bif wantedV ops T o then (match loadV P T H o with | some (k, off, q, _) => regV P call ops nt l ((k, off, q) :: R) T1 H1 n1 | none => none) else regV P call ops nt l R T1 H1 n1
              | _ => bif sameR H1 R then regV P call ops nt l R T1 H1 n1 else none) = some (T', H', n') → regV P call ops nt l R' T1 H1 n1 = some (T', H', n') →
            ∀ v w' σ', T1 = sx.put T o.dst v → okD nt o.dst = true → fits n1 v = true → Inv P σ' H1 n1 w' → Step σ H n w σ' H1 n1 w' → (∀ p ∈ R', okN n1 p.1 = true ∧ ∀ u ∈ p.2.2, fits n1 u = true) → SR σ' R' w' →
            wpAnyH P .any ops Q (SR σ' R') f ((markL listed (idx E)).setIfInBounds j true) (aR.put o.dst (ren σ' v)) w') := by
          intro R' _ hr' v w' σ' hT1 hd hf hI' hS' hRd' hSR'
          subst hT1
          rw [hlist]
          refine ih l f (by simp at hm; omega) hs' hp' hr' ((hR.mono hS'.agree hS'.le).put hd hf) hI' (hS.trans hS') (hA.put hoff _) (fun e he => (hE e he).step hs hR.fit ho (fun h => hjE ⟨e, he, h⟩) (hEap' e he) hS') hsep hRd' hSR' hcnt'
        -- another one gets ahead
        have early : ∀ i, i ∈ Region.ready .any ops (markL listed (idx E)) → i ≠ j → i ∈ Region.ready .any ops listed → isA P ops i = true →
            (∀ e ∈ Region.ready .any ops listed, isA P ops e = true → e ≠ i → Ap ops e i) →
            wpOp P ops Q i (fun a' w' => SR σ R w' ∧ wpAnyH P .any ops Q (SR σ R) f ((markL listed (idx E)).setIfInBounds i true) a' w') aR w := by
          intro i hiM hij hi hia hiap
          obtain ⟨oi, hoi, hdi, h3⟩ := pre_fresh (j :: l) hs hp hr0 hi hia
          have hunI := ready_un hsM hiM
          have hnotE : ∀ e ∈ E, e.i ≠ i := fun e he h => by
            have : (markL listed (idx E))[i]? = some true := by
              rw [markL_get, if_pos ⟨List.mem_map.2 ⟨e, he, h⟩, by rw [hs]; exact ready_lt hi⟩]
            rw [this] at hunI; cases hunI
          have hEi : ∀ e ∈ E, Ap ops e.i i := fun e he => hiap e.i (hE e he).1 (hE e he).2.1 (hnotE e he)
          have hoffi : Off ops E oi := Off.of hoi hEi
          have hoiOK : opOK oi = true := List.all_eq_true.1 hok oi (List.mem_of_getElem? (by simpa using hoi))
          have hexi : execOp aR.eval oi = execOp (rho σ T) oi := (hA.exec hoffi hoiOK).trans (hR.exec hI hoiOK)
          have hwi : Region.wanted oi (yielded ops aR.tmps) = wantedV ops T oi := (hA.wanted hoffi).trans (hR.wanted ops oi)
          have hcsi := cnt_set hunI
          have hlisti : ∀ e : Early, e.i = i → (markL listed (idx E)).setIfInBounds i true = markL listed (idx (e :: E)) := fun e hei => by
            apply Array.ext_getElem?
            intro q
            rw [markL_get]
            by_cases hiq : i = q
            · subst hiq
              have hil : i < (markL listed (idx E)).size := by rw [hsM]; exact ready_lt hi
              have e1 : ((markL listed (idx E)).setIfInBounds i true)[i]? = some true := by simp [hil]
              rw [e1]
              simp [idx, hei, hs, ready_lt hi]
            · rw [Array.getElem?_setIfInBounds_ne hiq, markL_get]
              simp [idx, hei, Ne.symm hiq]
          have hne : ∀ q ∈ E, ∀ x, ops[q.i]? = some x → ∀ d, x.dst = some d → oi.dst ≠ some d := fun q hq x hx d hxd => (hEi q hq x oi hx hoi).2.1 d hxd
          have hrec : ∀ (e : Early) (w' : World), e.i = i → EarlyOK P ops nt w0.heap.size σ T H w' listed e → (∀ q ∈ E, EarlyOK P ops nt w0.heap.size σ T H w' listed q) → (∀ q ∈ E, ∀ g, e.g = some g → q.g ≠ some g) → Inv P σ H n w' → Step σ0 H0 n0 w0 σ H n w' → SR σ R w' →
              wpAnyH P .any ops Q (SR σ R) f ((markL listed (idx E)).setIfInBounds i true) (aR.put oi.dst e.v) w' := by
            intro e w' hei hee hq hg hI' hS' hSR'
            have hoe : ops[e.i]? = some oi := by rw [hei]; exact hoi
            have hl := hlisti e hei
            rw [hl]
            refine ih (j :: l) f (by simp at hm ⊢; omega) hs hp hr0 hR hI' hS' (hA.more hoe hne) (fun q hqm => ?_) (List.pairwise_cons.2 ⟨fun q hqm => ⟨by rw [hei]; exact Ne.symm (hnotE q hqm), hg q hqm⟩, hsep⟩) hRd hSR' (by rw [← hl]; omega)
            rcases List.mem_cons.1 hqm with rfl | hqm
            · exact hee
            · exact hq q hqm
          unfold wpOp
          simp only [hoi]
          rw [hwi]
          cases hwv : wantedV ops T oi with
          | false =>
            simp only [Bool.false_eq_true, if_false]
            exact ⟨hSR, hrec ⟨i, undef, none⟩ w rfl ⟨hi, hia, oi, hoi, hdi, .inl ⟨hwv, rfl, rfl⟩⟩ hE (fun q hq g hg => by cases hg) hI hS hSR⟩
          | true =>
            simp only [if_true]
            rcases h3 with h3 | ⟨f', x, hf⟩
            · rw [hwv] at h3; cases h3
            · obtain ⟨h1, h2, h3, h4⟩ := fresh_sound (σ := σ) hR.fit hf
              refine .inl ?_
              unfold Oper.wp
              rw [hexi, h1 w]
              have hSRa : SR σ R (w.alloc (objOf σ x)) := fun p hp k u hu => by
                have := hSR p hp k u hu
                rw [World.cell?_alloc_lt _ _ _ (World.block_lt_of_cell? w _ this)]
                exact this
              have hIa : Inv P σ H n (w.alloc (objOf σ x)) := ⟨hI.odd, hI.glob, hI.low, fun k q hk => (hI.obj k q hk).of_block (heap_alloc_old w _ _ (hI.obj k q hk).lt), hI.fit, hI.inj⟩
              have hSa : Step σ0 H0 n0 w0 σ H n (w.alloc (objOf σ x)) := ⟨hS.agree, hS.le, hS.os, hS.tape, hS.output, by have := hS.size; simp; omega, fun q hq hh => by
                rw [heap_alloc_old w _ q (by have := hS.size; omega)]; exact hS.keep q hq hh, hS.img⟩
              refine ⟨hSRa, hrec ⟨i, f'.val w.heap.size, some w.heap.size⟩ _ rfl ⟨hi, hia, oi, hoi, hdi, .inr ⟨hwv, f', x, w.heap.size, hf, rfl, rfl, heap_alloc_new w _, hS.size, fun k q hk => by have := (hI.obj k q hk).lt; omega⟩⟩ (fun q hq => (hE q hq).alloc _) (fun q hq g hg hqg => ?_) hIa hSa hSRa⟩
              simp only [Option.some.injEq] at hg
              subst hg
              obtain ⟨_, _, oq, _, _, hq3⟩ := hE q hq
              rcases hq3 with ⟨_, _, hq3⟩ | ⟨_, _, _, g', _, hg', _, hh', _⟩
              · rw [hq3] at hqg; cases hqg
              · rw [hg'] at hqg
                cases hqg
                have := heap_lt hh'
                omega
        -- the head, when it is quiet
        have quiet : (kind P o.op = .pure ∨ kind P o.op = .load) → ∃ v R', YieldsIf P ops (SR σ R') o (ren σ v) aR ∧ SR σ R' w ∧ (∀ p ∈ R, p ∈ R') ∧
            wpAnyH P .any ops Q (SR σ R') f ((markL listed (idx E)).setIfInBounds j true) (aR.put o.dst (ren σ v)) w := by
          intro hq
          obtain ⟨v, R', h1, h2, h3, h4, h5, h6, h7, h8, h9, h10⟩ := quiet_yields hG hq hexec hwanted hR.fit hI hst hRd hSR
          subst h4 h5
          refine ⟨v, R', h6, h7, h8, go_on R' hr ?_ v w σ h1 h2 h3 hI (Step.refl _ _ _ _) h9 h7⟩
          rcases hq with hq | hq
          · simp only [hq] at hr h10
            rw [h10]; exact hr
          · simp only [hq] at hr h10
            cases hwv : wantedV ops T o with
            | false => simp only [hwv, cond_false] at hr h10; rw [h10]; exact hr
            | true =>
              simp only [hwv, cond_true] at hr h10
              split at hr <;> first | (simp at hr; done) | skip
              rename_i k off q u hlv
              simp only [hlv] at h10
              rw [h10]; exact hr
        have weaken : ∀ {R' : Reads}, (∀ p ∈ R, p ∈ R') → ∀ w', SR σ R' w' → SR σ R w' := fun h w' hw' p hp => hw' p (h p hp)
        have exec : wpOp P ops Q j (fun a' w' => SR σ R w' ∧ wpAnyH P .any ops Q (SR σ R) f ((markL listed (idx E)).setIfInBounds j true) a' w') aR w := by
          by_cases hq : kind P o.op = .pure ∨ kind P o.op = .load
          · obtain ⟨v, R', h1, h2, h3, h4⟩ := quiet hq
            exact h1.wpOp ho h2 ⟨hSR, wpAnyH_mono (weaken h3) _ _ _ _ h4⟩
          · have hr2 : sameR H1 R = true ∧ regV P call ops nt l R T1 H1 n1 = some (T', H', n') := by
              cases hk : kind P o.op with
              | pure => exact (hq (.inl hk)).elim
              | load => exact (hq (.inr hk)).elim
              | fresh =>
                simp only [hk] at hr
                cases hsr : sameR H1 R with
                | false => simp [hsr] at hr
                | true => simp only [hsr, cond_true] at hr; exact ⟨rfl, hr⟩
              | big =>
                simp only [hk] at hr
                cases hsr : sameR H1 R with
                | false => simp [hsr] at hr
                | true => simp only [hsr, cond_true] at hr; exact ⟨rfl, hr⟩
            have hsc := step_core (Q := Q) (K := fun a' w' => SR σ R w' ∧ wpAnyH P .any ops Q (SR σ R) f ((markL listed (idx E)).setIfInBounds j true) a' w') hG hC hexec hwanted hR.fit hI hst (fun v w' σ' hT1 hd hf hI' hS' => by
              have hSR' : SR σ' R w' := fun p hp => by
                obtain ⟨cs, t, lo, ow, hg, hcs⟩ := sameR_spec hr2.1 p hp
                exact cells_of_same (hI'.obj _ _ hg) hcs
              have hback : ∀ w', SR σ' R w' → SR σ R w' := fun w' hw' p hp => cellsAt_agree hS'.agree (hRd p hp).1 (hRd p hp).2 (hw' p hp)
              have hRd' : ∀ p ∈ R, okN n1 p.1 = true ∧ ∀ u ∈ p.2.2, fits n1 u = true := fun p hp => ⟨okN_mono (hRd p hp).1 hS'.le, fun u hu => fits_mono hS'.le u ((hRd p hp).2 u hu)⟩
              exact ⟨hback _ hSR', wpAnyH_mono hback _ _ _ _ (go_on R hr hr2.2 v w' σ' hT1 hd hf hI' hS' hRd' hSR')⟩)
            unfold wpOp
            simp only [ho]
            split
            · rename_i hw
              rw [if_pos hw] at hsc
              exact .inl hsc
            · rename_i hw
              rw [if_neg hw] at hsc
              exact hsc
        have hEA : ∀ e ∈ E, e.i ∈ Region.ready .any ops listed ∧ isA P ops e.i = true := fun e he => ⟨(hE e he).1, (hE e he).2.1⟩
        rcases hhead with ⟨hq, hfree⟩ | ⟨hnA, hrd, hpa⟩ | ⟨hall, hrd, hpa⟩
        · obtain ⟨v, R', h1, h2, h3, h4⟩ := quiet (quiet_kind hq ho)
          refine wpAnyH_mono (weaken h3) _ _ _ _ ?_
          exact wpAnyH_take ho hsel (free_more hmono (by rw [markL_size]) hfree) (by simpa using hjM) (fun c a w h => (hQ _ _ _ h).elim) h1 h2 h4
        · refine wpAnyH_all rfl (by intro h; rw [h] at hjM; cases hjM) fun i hi => ?_
          by_cases hij : i = j
          · subst hij; exact exec
          · have hcase : i ∈ Region.ready .any ops listed ∧ isA P ops i = true := by
              by_cases hiA : i ∈ (Region.ready .any ops listed).filter (isA P ops)
              · have := List.mem_filter.1 hiA; exact ⟨this.1, this.2⟩
              · refine absurd (hrd i (ready_more (fun q hq => ?_) hi ?_)) hij
                · rw [markL_get] at hq ⊢
                  by_cases hqE : q ∈ idx E
                  · obtain ⟨e, he, rfl⟩ := List.mem_map.1 hqE
                    rw [if_pos ⟨List.mem_filter.2 ⟨(hEA e he).1, (hEA e he).2⟩, by rw [hs]; exact ready_lt (hEA e he).1⟩]
                  · rw [if_neg (fun h => hqE h.1)] at hq
                    split
                    · rfl
                    · exact hq
                · have hiu := ready_un hsM hi
                  rw [markL_get] at hiu ⊢
                  rw [if_neg (fun h => hiA h.1)]
                  split at hiu
                  · cases hiu
                  · exact hiu
            exact early i hi hij hcase.1 hcase.2 fun e he hea hne => hpa e he hea i hcase.1 hcase.2 hne
        · refine wpAnyH_all rfl (by intro h; rw [h] at hjM; cases hjM) fun i hi => ?_
          by_cases hij : i = j
          · subst hij; exact exec
          · have hcase : i ∈ Region.ready .any ops listed := by
              by_cases hiA : i ∈ Region.ready .any ops listed
              · exact hiA
              · have hx : i = j := hrd j hjr i (ready_more (fun q hq => ?_) hi ?_)
                · exact absurd hx hij
                · rw [markL_get] at hq ⊢
                  by_cases hqE : q ∈ idx E
                  · obtain ⟨e, he, rfl⟩ := List.mem_map.1 hqE
                    have hej : e.i ≠ j := fun h => hjE ⟨e, he, h⟩
                    rw [if_pos ⟨List.mem_filter.2 ⟨(hEA e he).1, by simpa using hej⟩, by rw [hs]; exact ready_lt (hEA e he).1⟩]
                  · rw [if_neg (fun h => hqE h.1)] at hq
                    split
                    · rfl
                    · exact hq
                · have hiu := ready_un hsM hi
                  rw [markL_get] at hiu ⊢
                  rw [if_neg (fun h => hiA (List.mem_filter.1 h.1).1)]
                  split at hiu
                  · cases hiu
                  · exact hiu
            exact early i hi hij hcase (hall i hcase) fun e he hea hne => hpa e he i hcase hne

theorem reg_ok (hG : Good P) {call : CallV} (hC : CallOK P call) : RegOK P call := by
  intro id ops nt l T T' H H' n n' hok hl hr σ a w Q hQ hR hI hK
  unfold planOf at hl
  cases hsel : Region.noSelect ops with
  | false => simp [hsel] at hl
  | true =>
    simp only [hsel, cond_true] at hl
    refine wp_region_held (S := SR σ []) hG.mixed ?_
    have hI' : Inv P σ H n { w with drawn := w.drawn + 1 } := ⟨hI.odd, hI.glob, hI.low, fun k o hk => (hI.obj k o hk).of_block rfl, hI.fit, hI.inj⟩
    have hS' : Step σ H n w σ H n { w with drawn := w.drawn + 1 } := ⟨Agree.refl _ _, Nat.le_refl _, rfl, rfl, rfl, Nat.le_refl _, fun _ _ _ => rfl, fun k o hk => .inl ⟨k, o, hk, fun h => h, rfl⟩⟩
    have := reg_main (ops := ops) (E := []) (listed := Array.replicate ops.size false) (aR := a) (R := []) (w := { w with drawn := w.drawn + 1 }) hG hC hok hsel hQ hK (l.length + ops.size) l ops.size (Nat.le_refl _) (by simp) hl hr hR hI' hS'
      ⟨rfl, fun _ _ => rfl, fun e he => (by cases he), rfl⟩ (fun e he => by cases he) List.Pairwise.nil (fun p hp => by cases hp) (fun p hp => by cases hp) ?_
    · exact this
    · simp [markL, idx, cnt]
theorem fun_ok (hG : Good P) (hOK : ∀ (f : FuncId) (fn : Func) c, P.funcs[f]? = some fn → fn.body = some c → codeOK c = true) (f : Nat) : CallOK P (funV P f) :=
  fun_sound hG (fun call hC => reg_ok hG hC) hOK f
end Go.Proofs.Ytmmnjphmiijbcaa.sx
