/- An operation of the symbolic machine, in the model's own words. -/
import Derived.Test.YtmmnjphmiijbcaaSxJ
namespace Go.Proofs.Ytmmnjphmiijbcaa.sx
set_option linter.unusedVariables false
open Go.RowKit (Below)
variable {P : Program}

theorem big_mem {σ : Sg} {T : TV} {H : HV} {n : Nat} {o : Oper} {v : Value} {H' : HV} {n' : Nat} {w : World}
    (hI : Inv P σ H n w) (hf : fitsT n T) (h : bigV P T H n o = some (.mem v H' n')) : Owes P σ H n w ((execOp (rho σ T) o).run P w) v H' n' := by
  obtain ⟨dst, op, type, pos, after, guard⟩ := o
  cases op
  case store t a x => exact big_store hI hf h
  case convert s d x => exact big_convert hI hf h
  case lookup t x i ok => exact big_lookup hI hf h
  case mapUpdate t m k x => exact big_map hI hf h
  case insert t m k x => exact big_insert hI hf h
  case call c =>
    have ha := args_ev σ T c.args
    simp only [bigV] at h
    split at h
    · rename_i hc
      split at h <;> first | (simp at h; done) | skip
      rename_i kt et r ht hargs
      split at h <;> first | (simp at h; done) | skip
      rename_i es clock hg
      simp only [Option.some.injEq, Res.mem.injEq] at h
      obtain ⟨rfl, rfl, rfl⟩ := h
      have hgo := map_at (hI.obj r _ hg)
      have hat : ∃ t, c.argTypes[0]? = some t ∧ P.underlying t = some (.map kt et) := by
        cases h0 : c.argTypes[0]? with
        | none => simp [h0] at ht
        | some t => exact ⟨t, rfl, by simpa [h0] using ht⟩
      obtain ⟨t, h1, h2⟩ := hat
      refine Owes.same hI ?_ rfl
      rw [hargs] at ha
      simp [execOp, resolve, hc, invoke, builtin, ha, Builtin.len_, h1, run_und h2, ren, hgo, goInt]
    · rename_i hc
      split at h <;> first | (simp at h; done) | skip
      rename_i t xt s x hat hargs
      have hfs : fits n s = true := by
        have hm : s ∈ c.args.toList.map (ev T) := by rw [hargs]; simp
        obtain ⟨y, _, rfl⟩ := List.mem_map.1 hm
        exact ev_fits hf y
      obtain ⟨σ', w', h1, h2, h3, h4⟩ := append_sound (ty := type) hI hfs h
      refine ⟨σ', w', _, ?_, .inl rfl, h2, h3, h4⟩
      rw [hargs] at ha
      have hat' : c.argTypes = #[t, xt] := Array.ext' (by simpa using hat)
      simp only [List.map_cons, List.map_nil] at ha
      simp [execOp, resolve, hc, invoke, builtin, ha, hat', h1]
    · rename_i hc
      split at h <;> first | (simp at h; done) | skip
      rename_i t xt s x hat hargs
      obtain ⟨σ', w', h1, h2, h3, h4⟩ := copy_sound (ty := type) hI h
      refine ⟨σ', w', _, ?_, .inl rfl, h2, h3, h4⟩
      rw [hargs] at ha
      have hat' : c.argTypes = #[t, xt] := Array.ext' (by simpa using hat)
      simp only [List.map_cons, List.map_nil] at ha
      simp [execOp, resolve, hc, invoke, builtin, ha, hat', h1]
    · simp at h
    · split at h
      · exact (callee_not h).elim
      · simp at h
    · exact (method_not h).elim
  all_goals (simp only [bigV] at h; cases h)

/- a frame's slots -/
structure Rel (σ : Sg) (n : Nat) (T : TV) (nt : Nat) (a : Act) : Prop where
  size : a.tmps.size = nt
  high : ∀ t, nt ≤ t → T.get t = none
  val : ∀ t, a.tmps.getD t undef = ren σ ((T.get t).getD undef)
  fit : fitsT n T
  defers : a.defers = []
theorem Rel.mono {σ σ' : Sg} {n n' : Nat} {T : TV} {nt : Nat} {a : Act} (h : Rel σ n T nt a) (ha : Agree n σ σ') (hn : n ≤ n') : Rel σ' n' T nt a where
  size := h.size
  high := h.high
  val := fun t => by
    rw [h.val t]
    refine (ren_agree ha _ ?_).symm
    cases ht : T.get t with
    | none => rfl
    | some v => exact h.fit t v ht
  fit := fun t v ht => fits_mono hn v (h.fit t v ht)
  defers := h.defers
theorem Rel.put {σ : Sg} {n : Nat} {T : TV} {nt : Nat} {a : Act} (h : Rel σ n T nt a) {d : Option Tmp} {v : Value} (hd : okD nt d = true) (hv : fits n v = true) : Rel σ n (sx.put T d v) nt (a.put d (ren σ v)) := by
  cases d with
  | none => exact h
  | some d =>
    have hlt : @LT.lt Nat _ d nt := by simpa [okD, Nat.blt_eq] using hd
    refine ⟨by simp [Act.put, h.size], fun t ht => ?_, fun t => ?_, fun t u ht => ?_, h.defers⟩
    · have htd : t ≠ d := fun e => by rw [e] at ht; exact absurd hlt (Nat.not_lt.2 ht)
      simp only [sx.put, Tr.get_set]
      rw [if_neg htd]
      exact h.high t ht
    · simp only [sx.put, Tr.get_set, Act.put]
      by_cases htd : t = d
      · subst htd
        have : t < a.tmps.size := by rw [h.size]; exact hlt
        simp [this]
      · have := h.val t
        simp only [htd, if_false]
        rw [← this]
        simp [Array.getElem?_setIfInBounds_ne (Ne.symm htd)]
    · simp only [sx.put, Tr.get_set] at ht
      split at ht
      · cases ht; exact hv
      · exact h.fit t u ht

def okC : Operand → Bool
  | .const v => clean v
  | _ => true
def opOK (o : Oper) : Bool := o.op.operands.toList.all okC && (match o.op with | .select .. => false | _ => true)
theorem Rel.eval {σ : Sg} {n : Nat} {T : TV} {nt : Nat} {a : Act} {H : HV} {w : World} (h : Rel σ n T nt a) (hI : Inv P σ H n w) {x : Operand} (hx : okC x = true) : a.eval x = rho σ T x := by
  cases x with
  | tmp t => exact h.val t
  | const v =>
    have hc : clean v = true := hx
    simp [Act.eval, rho, ev, hc, ren_clean σ v hc]
  | global g =>
    obtain ⟨h1, _⟩ := hI.glob g
    simp [Act.eval, rho, ev, ren, Sg.addr, h1]
  | func f => simp [Act.eval, rho, ev, ren, renA, renL]
theorem Rel.exec {σ : Sg} {n : Nat} {T : TV} {nt : Nat} {a : Act} {H : HV} {w : World} (h : Rel σ n T nt a) (hI : Inv P σ H n w) {o : Oper} (ho : opOK o = true) : execOp a.eval o = execOp (rho σ T) o := by
  simp only [opOK, Bool.and_eq_true] at ho
  refine execOp_congr o (fun cs b e => by rw [e] at ho; simp at ho) fun x hx => h.eval hI (List.all_eq_true.1 ho.1 x (by simpa using hx))
theorem ren_isBool (σ : Sg) (v : Value) (b : Bool) : ren σ v = .bool b ↔ v = .bool b := by
  cases v with
  | pointer a => cases a <;> simp [ren]
  | slice a n c => cases a <;> simp [ren]
  | map r => cases r <;> simp [ren]
  | _ => simp [ren]
theorem Rel.wanted {σ : Sg} {n : Nat} {T : TV} {nt : Nat} {a : Act} (h : Rel σ n T nt a) (ops : Array Oper) (o : Oper) : Region.wanted o (yielded ops a.tmps) = wantedV ops T o := by
  unfold Region.wanted wantedV
  cases o.guard with
  | none => rfl
  | some g =>
    obtain ⟨j, want⟩ := g
    simp only [yielded]
    cases hd : (ops[j]?).bind (·.dst) with
    | none => simp
    | some d =>
      simp only [Option.bind_some]
      have hv := h.val d
      rcases Nat.lt_or_ge d nt with hlt | hge
      · have hlt' : d < a.tmps.size := by rw [h.size]; exact hlt
        simp only [Array.getD_eq_getD_getElem?, Array.getElem?_eq_getElem hlt', Option.getD_some] at hv
        rw [Array.getElem?_eq_getElem hlt', hv]
        cases hT : T.get d with
        | none => simp [undef, ren, renA, renL]
        | some v =>
          simp only [Option.getD_some]
          cases hb : v with
          | bool b => simp [ren]
          | pointer q => cases q <;> simp [ren]
          | slice q m c => cases q <;> simp [ren]
          | map r => cases r <;> simp [ren]
          | _ => simp [ren]
      · rw [h.high d hge, Array.getElem?_eq_none (by rw [h.size]; exact hge)]
        simp

/- what is asked of the callees -/
def CallOK (P : Program) (call : CallV) : Prop := ∀ g args H n v H' n', call g args H n = some (v, H', n') → ∀ σ w, Inv P σ H n w → (∀ u ∈ args, fits n u = true) →
  Calls P g (callArgs args σ) w fun e w' => ∃ σ', e = .returned (ren σ' v) ∧ Inv P σ' H' n' w' ∧ fits n' v = true ∧ Step σ H n w σ' H' n' w'

theorem step_core (hG : Good P) {call : CallV} (hC : CallOK P call) {ops : Array Oper} {nt : Nat} {o : Oper} {T T' : TV} {H H' : HV} {n n' : Nat} {σ : Sg} {a : Act} {w : World} {Q : Exit → Act → World → Prop} {K : Act → World → Prop}
    (he : execOp a.eval o = execOp (rho σ T) o) (hwt : Region.wanted o (yielded ops a.tmps) = wantedV ops T o) (hT : fitsT n T) (hI : Inv P σ H n w) (h : stepV P call ops nt o T H n = some (T', H', n'))
    (hK : ∀ v w' σ', T' = sx.put T o.dst v → okD nt o.dst = true → fits n' v = true → Inv P σ' H' n' w' → Step σ H n w σ' H' n' w' → K (a.put o.dst (ren σ' v)) w') :
    if Region.wanted o (yielded ops a.tmps) = true then Oper.wp P o a w K Q else K (a.put o.dst undef) w := by
  unfold stepV at h
  cases hd : okD nt o.dst with
  | false => simp [hd] at h
  | true =>
    simp only [hd, cond_true] at h
    rw [hwt]
    cases hw : wantedV ops T o with
    | false =>
      simp only [hw, cond_false, Option.some.injEq, Prod.mk.injEq] at h
      obtain ⟨rfl, rfl, rfl⟩ := h
      simp only [Bool.false_eq_true, if_false]
      exact hK undef _ _ rfl hd rfl hI (Step.refl _ _ _ _)
    | true =>
      simp only [hw, cond_true, if_true] at h ⊢
      unfold Oper.wp
      rw [he]
      split at h
      · split at h <;> first | (simp at h; done) | skip
        rename_i v hv
        simp only [Option.some.injEq, Prod.mk.injEq] at h
        obtain ⟨rfl, rfl, rfl⟩ := h
        obtain ⟨h1, h2⟩ := pure_sound hI.exact hT hv
        rw [h1 w]
        exact hK v _ _ rfl hd h2 hI (Step.refl _ _ _ _)
      · split at h <;> first | (simp at h; done) | skip
        rename_i k off l v hv
        simp only [Option.some.injEq, Prod.mk.injEq] at h
        obtain ⟨rfl, rfl, rfl⟩ := h
        obtain ⟨h1, h2, h3, _⟩ := load_sound (n := n) (σ := σ) hv
        rw [h1 w (h3 w hI.obj)]
        exact hK v _ _ rfl hd (h2 hI.fit).1 hI (Step.refl _ _ _ _)
      · split at h <;> first | (simp at h; done) | skip
        rename_i f x hv
        simp only [Option.some.injEq, Prod.mk.injEq] at h
        obtain ⟨rfl, rfl, rfl⟩ := h
        obtain ⟨h1, h2, h3, h4⟩ := fresh_sound (σ := σ) hT hv
        rw [h1 w]
        have hkp : ∀ i, i < w.heap.size → (w.alloc (objOf σ x)).heap[i]? = w.heap[i]? := fun i hi => heap_alloc_old w _ i hi
        have ha := upd_agree hI.odd σ w.heap.size 0
        have hnb : (σ.upd n w.heap.size 0).b n = w.heap.size := by simp [Sg.upd]
        have hnx : (σ.upd n w.heap.size 0).x n = 0 := by simp [Sg.upd]
        have hat : objAt P (σ.upd n w.heap.size 0) n x (w.alloc (objOf σ x)) := h4 _ n _ (by rw [hnb, heap_alloc_new, objOf_agree ha h2]) hnx
        have hI' := hI.add h2 (Nat.le_refl _) hat hkp
        have hS := Step.add (g := w.heap.size) (e := 0) (x := x) hI (Nat.le_refl _) hkp rfl rfl rfl (by simp)
        have := hK (f.val n) _ _ rfl hd (val_fits n f) hI' hS
        rw [ren_val hnb hnx] at this
        exact this
      · split at h <;> first | (simp at h; done) | skip
        · rename_i v H1 n1 hv
          simp only [Option.some.injEq, Prod.mk.injEq] at h
          obtain ⟨rfl, rfl, rfl⟩ := h
          obtain ⟨σ', w', x, hr, hx, hI', hfv, hS⟩ := big_mem hI hT hv
          rw [hr]
          have hp := hK v _ _ rfl hd hfv hI' hS
          rcases hx with rfl | ⟨rfl, rfl⟩
          · exact hp
          · rw [undef_ren] at hp
            exact hp
        · rename_i f args hv
          split at h <;> first | (simp at h; done) | skip
          rename_i v H1 n1 hcv
          simp only [Option.some.injEq, Prod.mk.injEq] at h
          obtain ⟨rfl, rfl, rfl⟩ := h
          obtain ⟨h1, h2⟩ := big_call hG (σ := σ) hT hv
          rw [h1 w]
          refine (hC _ _ _ _ _ _ _ hcv σ w hI h2).mono ?_
          rintro e w' ⟨σ', rfl, hI', hfv, hS⟩
          exact hK v _ _ rfl hd hfv hI' hS
theorem step_sound (hG : Good P) {call : CallV} (hC : CallOK P call) {ops : Array Oper} {nt : Nat} {o : Oper} {T T' : TV} {H H' : HV} {n n' : Nat} {σ : Sg} {a : Act} {w : World} {Q : Exit → Act → World → Prop} {K : Act → World → Prop}
    (ho : opOK o = true) (hR : Rel σ n T nt a) (hI : Inv P σ H n w) (h : stepV P call ops nt o T H n = some (T', H', n'))
    (hK : ∀ a' w' σ', Rel σ' n' T' nt a' → Inv P σ' H' n' w' → Step σ H n w σ' H' n' w' → K a' w') :
    if Region.wanted o (yielded ops a.tmps) = true then Oper.wp P o a w K Q else K (a.put o.dst undef) w :=
  step_core hG hC (hR.exec hI ho) (hR.wanted ops o) hR.fit hI h fun v w' σ' hT' hd hf hI' hS' => by
    subst hT'
    exact hK _ _ _ ((hR.mono hS'.agree hS'.le).put hd hf) hI' hS'
end Go.Proofs.Ytmmnjphmiijbcaa.sx
