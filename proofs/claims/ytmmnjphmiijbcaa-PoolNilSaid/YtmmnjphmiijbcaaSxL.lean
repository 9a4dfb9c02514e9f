/- The code and the functions of the symbolic machine, in the model's own words; a drawn region is told by a law of its own. -/
import Derived.Test.YtmmnjphmiijbcaaSxK
namespace Go.Proofs.Ytmmnjphmiijbcaa.sx
set_option linter.unusedVariables false
open Go.RowKit (Below)
variable {P : Program}

/- what follows a stretch -/
def Then (P : Program) (σ : Sg) (H : HV) (n : Nat) (w : World) (nt : Nat) (T' : TV) (H' : HV) (n' : Nat) (K : Act → World → Prop) : Prop :=
  ∀ a' w' σ', Rel σ' n' T' nt a' → Inv P σ' H' n' w' → Step σ H n w σ' H' n' w' → K a' w'

def opsOK (ops : Array Oper) : Bool := ops.toList.all opOK
theorem ops_sound (hG : Good P) {call : CallV} (hC : CallOK P call) {ops : Array Oper} (hok : opsOK ops = true) {nt : Nat} {Q : Exit → Act → World → Prop} : ∀ (r : List Oper) (k : Nat) (hk : ops.toList.drop k = r) {T T' : TV} {H H' : HV} {n n' : Nat} {σ : Sg} {a : Act} {w : World}
    (hR : Rel σ n T nt a) (hI : Inv P σ H n w) (h : opsV P call ops nt r T H n = some (T', H', n')) (hK : Then P σ H n w nt T' H' n' (Q .normal)), wpOps P ops Q (List.range' k r.length) a w
  | [], k, hk, T, T', H, H', n, n', σ, a, w, hR, hI, h, hK => by
    simp only [opsV, Option.some.injEq, Prod.mk.injEq] at h
    obtain ⟨rfl, rfl, rfl⟩ := h
    exact hK _ _ _ hR hI (Step.refl _ _ _ _)
  | o :: r, k, hk, T, T', H, H', n, n', σ, a, w, hR, hI, h, hK => by
    simp only [opsV] at h
    split at h <;> first | (simp at h; done) | skip
    rename_i T1 H1 n1 hs
    have hget : ops[k]? = some o := by
      have : ops.toList[k]? = some o := by
        have h0 := congrArg (·[0]?) hk
        simpa using h0
      simpa using this
    have hoOK : opOK o = true := List.all_eq_true.1 hok o (by
      have := List.mem_of_mem_drop (l := ops.toList) (i := k) (a := o) (by rw [hk]; simp)
      exact this)
    have hdrop : ops.toList.drop (k + 1) = r := by
      rw [← List.drop_drop, hk]; rfl
    simp only [List.length_cons, List.range'_succ, wpOps, hget]
    have hst := step_sound (Q := Q) (K := wpOps P ops Q (List.range' (k + 1) r.length)) hG hC (ops := ops) hoOK hR hI hs (fun a' w' σ' hR' hI' hS' =>
      ops_sound hG hC hok r (k + 1) hdrop hR' hI' h (fun a'' w'' σ'' hR'' hI'' hS'' => hK _ _ _ hR'' hI'' (hS'.trans hS'')))
    split
    · rename_i hw
      rw [if_pos hw] at hst
      exact .inl hst
    · rename_i hw
      rw [if_neg hw] at hst
      exact hst

def codeOK : Code → Bool
  | .region _ ops _ => opsOK ops
  | .seq a b => codeOK a && codeOK b
  | .cond c a b => okC c && codeOK a && codeOK b
  | .block _ c => codeOK c
  | .loop c => codeOK c
  | _ => true

def exOf : Ex → Exit
  | .nrm => .normal
  | .exit id => .exit id
  | .ret => .ret

/- what a drawn region owes -/
def RegOK (P : Program) (call : CallV) : Prop := ∀ (id : Nat) (ops : Array Oper) (nt : Nat) (l : List Nat) (T T' : TV) (H H' : HV) (n n' : Nat), opsOK ops = true → planOf P ops = some l → regV P call ops nt l [] T H n = some (T', H', n') →
  ∀ (σ : Sg) (a : Act) (w : World) (Q : Exit → Act → World → Prop), (∀ c a w, ¬ Q (.panic c) a w) → Rel σ n T nt a → Inv P σ H n w → Then P σ H n w nt T' H' n' (Q .normal) → (Code.region id ops true).wp P Q a w

theorem code_sound (hG : Good P) {call : CallV} (hC : CallOK P call) (hD : RegOK P call) {nt : Nat} : ∀ (c : Code), codeOK c = true → ∀ {T T' : TV} {H H' : HV} {n n' : Nat} {ex : Ex}, codeV P call nt c T H n = some (ex, T', H', n') →
    ∀ {σ : Sg} {a : Act} {w : World} {Q : Exit → Act → World → Prop}, (∀ c a w, ¬ Q (.panic c) a w) → Rel σ n T nt a → Inv P σ H n w → Then P σ H n w nt T' H' n' (Q (exOf ex)) → c.wp P Q a w
  | .skip, hok, T, T', H, H', n, n', ex, h, σ, a, w, Q, hp, hR, hI, hK => by
    simp only [codeV, Option.some.injEq, Prod.mk.injEq] at h
    obtain ⟨rfl, rfl, rfl, rfl⟩ := h
    exact wp_skip (hK _ _ _ hR hI (Step.refl _ _ _ _))
  | .label l, hok, T, T', H, H', n, n', ex, h, σ, a, w, Q, hp, hR, hI, hK => by
    simp only [codeV, Option.some.injEq, Prod.mk.injEq] at h
    obtain ⟨rfl, rfl, rfl, rfl⟩ := h
    exact wp_label (hK _ _ _ hR hI (Step.refl _ _ _ _))
  | .exit id, hok, T, T', H, H', n, n', ex, h, σ, a, w, Q, hp, hR, hI, hK => by
    simp only [codeV, Option.some.injEq, Prod.mk.injEq] at h
    obtain ⟨rfl, rfl, rfl, rfl⟩ := h
    exact wp_exit (hK _ _ _ hR hI (Step.refl _ _ _ _))
  | .ret, hok, T, T', H, H', n, n', ex, h, σ, a, w, Q, hp, hR, hI, hK => by
    simp only [codeV, Option.some.injEq, Prod.mk.injEq] at h
    obtain ⟨rfl, rfl, rfl, rfl⟩ := h
    exact wp_ret (hK _ _ _ hR hI (Step.refl _ _ _ _))
  | .region id ops false, hok, T, T', H, H', n, n', ex, h, σ, a, w, Q, hp, hR, hI, hK => by
    simp only [codeV] at h
    split at h <;> first | (simp at h; done) | skip
    rename_i T1 H1 n1 hs
    simp only [Option.some.injEq, Prod.mk.injEq] at h
    obtain ⟨rfl, rfl, rfl, rfl⟩ := h
    refine wp_region ?_
    have := ops_sound (Q := Q) hG hC hok ops.toList 0 (by simp) hR hI hs hK
    rw [List.range_eq_range']
    simpa using this
  | .region id ops true, hok, T, T', H, H', n, n', ex, h, σ, a, w, Q, hp, hR, hI, hK => by
    simp only [codeV] at h
    split at h <;> first | (simp at h; done) | skip
    rename_i l hl
    split at h <;> first | (simp at h; done) | skip
    rename_i T1 H1 n1 hs
    simp only [Option.some.injEq, Prod.mk.injEq] at h
    obtain ⟨rfl, rfl, rfl, rfl⟩ := h
    exact hD id ops nt l T _ H _ n _ hok hl hs σ a w Q hp hR hI hK
  | .seq x y, hok, T, T', H, H', n, n', ex, h, σ, a, w, Q, hp, hR, hI, hK => by
    simp only [codeOK, Bool.and_eq_true] at hok
    simp only [codeV] at h
    refine wp_seq ?_
    split at h
    · rename_i T1 H1 n1 hx
      refine code_sound hG hC hD x hok.1 hx (fun c a w hc => hp c a w hc) hR hI (fun a' w' σ' hR' hI' hS' => ?_)
      exact code_sound hG hC hD y hok.2 h hp hR' hI' (fun a'' w'' σ'' hR'' hI'' hS'' => hK _ _ _ hR'' hI'' (hS'.trans hS''))
    · rename_i q hne
      refine code_sound hG hC hD x hok.1 h (fun c a w hc => hp c a w hc) hR hI (fun a' w' σ' hR' hI' hS' => ?_)
      cases ex with
      | nrm => exact (hne _ _ _ h).elim
      | exit id => exact hK _ _ _ hR' hI' hS'
      | ret => exact hK _ _ _ hR' hI' hS'
  | .cond c x y, hok, T, T', H, H', n, n', ex, h, σ, a, w, Q, hp, hR, hI, hK => by
    simp only [codeOK, Bool.and_eq_true] at hok
    simp only [codeV] at h
    have he := hR.eval hI hok.1.1
    split at h <;> first | (simp at h; done) | skip
    · rename_i hc
      exact wp_cond_true (by rw [he]; simp [rho, hc, ren]) (code_sound hG hC hD x hok.1.2 h hp hR hI hK)
    · rename_i hc
      exact wp_cond_false (by rw [he]; simp [rho, hc, ren]) (code_sound hG hC hD y hok.2 h hp hR hI hK)
  | .block id x, hok, T, T', H, H', n, n', ex, h, σ, a, w, Q, hp, hR, hI, hK => by
    simp only [codeV] at h
    refine wp_block ?_
    split at h
    · rename_i j T1 H1 n1 hx
      refine code_sound hG hC hD x hok hx (fun c a w hc => hp c a w hc) hR hI (fun a' w' σ' hR' hI' hS' => ?_)
      show if j = id then Q .normal a' w' else Q (.exit j) a' w'
      cases hj : j == id with
      | true =>
        simp only [hj, cond_true, Option.some.injEq, Prod.mk.injEq] at h
        obtain ⟨rfl, rfl, rfl, rfl⟩ := h
        rw [if_pos (by simpa using hj)]
        exact hK _ _ _ hR' hI' hS'
      | false =>
        simp only [hj, cond_false, Option.some.injEq, Prod.mk.injEq] at h
        obtain ⟨rfl, rfl, rfl, rfl⟩ := h
        rw [if_neg (by simpa using hj)]
        exact hK _ _ _ hR' hI' hS'
    · rename_i q hne
      refine code_sound hG hC hD x hok h (fun c a w hc => hp c a w hc) hR hI (fun a' w' σ' hR' hI' hS' => ?_)
      cases ex with
      | nrm => exact hK _ _ _ hR' hI' hS'
      | exit j => exact (hne _ _ _ _ h).elim
      | ret => exact hK _ _ _ hR' hI' hS'
  | .loop x, hok, T, T', H, H', n, n', ex, h, σ, a, w, Q, hp, hR, hI, hK => by
    simp only [codeV] at h
    have key : ∀ (f : Nat) {T : TV} {H : HV} {n : Nat} {σ : Sg} {a : Act} {w : World}, loopN (codeV P call nt x) f T H n = some (ex, T', H', n') → Rel σ n T nt a → Inv P σ H n w → Then P σ H n w nt T' H' n' (Q (exOf ex)) → Code.rounds P x Q f a w := by
      intro f
      induction f with
      | zero => intro T H n σ a w h; simp [loopN] at h
      | succ f ih =>
        intro T H n σ a w h hR hI hK
        simp only [loopN] at h
        rw [rounds_succ]
        split at h
        · rename_i T1 H1 n1 hx
          refine code_sound hG hC hD x hok hx (fun c a w hc => hp c a w hc) hR hI (fun a' w' σ' hR' hI' hS' => ?_)
          exact ih h hR' hI' (fun a'' w'' σ'' hR'' hI'' hS'' => hK _ _ _ hR'' hI'' (hS'.trans hS''))
        · rename_i q hne
          refine code_sound hG hC hD x hok h (fun c a w hc => hp c a w hc) hR hI (fun a' w' σ' hR' hI' hS' => ?_)
          cases ex with
          | nrm => exact (hne _ _ _ h).elim
          | exit id => exact hK _ _ _ hR' hI' hS'
          | ret => exact hK _ _ _ hR' hI' hS'
    exact wp_loop_rounds _ (key _ h hR hI hK)
  | .rangeFunc .., hok, T, T', H, H', n, n', ex, h, σ, a, w, Q, hp, hR, hI, hK => by simp [codeV] at h
  | .scope .., hok, T, T', H, H', n, n', ex, h, σ, a, w, Q, hp, hR, hI, hK => by simp [codeV] at h
  | .goto .., hok, T, T', H, H', n, n', ex, h, σ, a, w, Q, hp, hR, hI, hK => by simp [codeV] at h
  | .refuse .., hok, T, T', H, H', n, n', ex, h, σ, a, w, Q, hp, hR, hI, hK => by simp [codeV] at h

theorem setAll_get : ∀ (l : List Value) (T : TV) (i t : Nat), (setAll T i l).get t = if i ≤ t ∧ t < i + l.length then l[t - i]? else T.get t
  | [], T, i, t => by simp [setAll]; omega
  | v :: r, T, i, t => by
    rw [setAll, setAll_get r _ (i + 1) t, Tr.get_set]
    by_cases h1 : i + 1 ≤ t ∧ t < i + 1 + r.length
    · have h2 : i ≤ t ∧ t < i + (v :: r).length := by simp; omega
      rw [if_pos h1, if_pos h2]
      have : t - i = (t - (i + 1)) + 1 := by omega
      rw [this]; simp
    · rw [if_neg h1]
      by_cases h3 : t = i
      · have h2 : i ≤ t ∧ t < i + (v :: r).length := by simp; omega
        rw [if_pos h3, if_pos h2, h3]; simp
      · have h2 : ¬ (i ≤ t ∧ t < i + (v :: r).length) := by simp; omega
        rw [if_neg h3, if_neg h2]

theorem asAddr_run (a : Addr) (w : World) : (asAddr (.pointer (some a))).run P w = .ok a w := rfl
theorem res_sound {σ : Sg} {n : Nat} {T : TV} {nt : Nat} {a : Act} {H : HV} {w : World} (hR : Rel σ n T nt a) (hI : Inv P σ H n w) : ∀ (l : List ResultVar) (vs : List Value), resV P T H l = some vs →
    (l.mapM (fun r : ResultVar => (match r with | .tmp t => pure (a.tmps.getD t undef) | .cell c t => do loadVar t (← asAddr (a.tmps.getD c undef)) : Sem Value))).run P w = .ok (vs.map (ren σ)) w ∧ ∀ v ∈ vs, fits n v = true
  | [], vs, h => by simp only [resV, Option.some.injEq] at h; subst h; exact ⟨rfl, fun v hv => by cases hv⟩
  | .tmp t :: r, vs, h => by
    simp only [resV] at h
    split at h <;> first | (simp at h; done) | skip
    rename_i l hl
    simp only [Option.some.injEq] at h; subst h
    obtain ⟨h1, h2⟩ := res_sound hR hI r l hl
    refine ⟨?_, fun v hv => ?_⟩
    · rw [List.mapM_cons]
      simp only [Sem.run_bind, Sem.run_pure, Result.andThen_ok, h1, List.map_cons, hR.val t]
    · rcases List.mem_cons.1 hv with rfl | hv
      · exact ev_fits hR.fit (.tmp t)
      · exact h2 v hv
  | .cell c t :: r, vs, h => by
    simp only [resV] at h
    split at h <;> first | (simp at h; done) | skip
    rename_i k off l hc hl
    split at h <;> first | (simp at h; done) | skip
    rename_i cs t' lo ow hg
    split at h <;> first | (simp at h; done) | skip
    rename_i l' v hr
    simp only [Option.some.injEq] at h; subst h
    obtain ⟨h1, h2⟩ := res_sound hR hI r l hl
    have hv : a.tmps.getD c undef = .pointer (some ⟨σ.b k, off, none⟩) := by rw [hR.val c, hc]; rfl
    have hrun := readL_run hr σ k w (fun j u hj => obj_cells (hI.obj _ _ hg) _ _ (readL_cells hr j u hj))
    refine ⟨?_, fun u hu => ?_⟩
    · rw [List.mapM_cons]
      simp only [hv, asAddr_run, Sem.run_bind, Sem.run_pure, Result.andThen_ok, hrun, h1, List.map_cons]
    · rcases List.mem_cons.1 hu with rfl | hu
      · exact (readL_fits hr (hI.fit _ _ hg)).1
      · exact h2 u hu

theorem oneOr_fits {n : Nat} {vs : List Value} (h : ∀ v ∈ vs, fits n v = true) : fits n (oneOr vs) = true := by
  unfold oneOr
  split
  · exact h _ (by simp)
  · simp only [fits, fitsA_iff]; intro v hv; exact h v (by simpa using hv)
theorem results_sound {σ : Sg} {n : Nat} {T : TV} {nt : Nat} {a : Act} {H : HV} {w : World} {fn : Func} {vs : List Value} (hR : Rel σ n T nt a) (hI : Inv P σ H n w) (h : resV P T H fn.results.toList = some vs) :
    (results fn a.tmps).run P w = .ok (ren σ (oneOr vs)) w ∧ fits n (oneOr vs) = true := by
  obtain ⟨h1, h2⟩ := res_sound hR hI _ _ h
  refine ⟨?_, oneOr_fits h2⟩
  unfold results
  rw [Sem.run_bind, Array.mapM_eq_mapM_toList, Sem.run_map]
  refine (congrArg (fun r => (Result.andThen r _).andThen _) h1).trans ?_
  simp only [Result.andThen_ok, Sem.run_pure]
  congr 1
  match vs with
  | [] => rfl
  | [v] => rfl
  | v :: u :: r => simp [oneOr, ren, renA_list]

theorem fun_sound (hG : Good P) (hD : ∀ call, CallOK P call → RegOK P call) (hOK : ∀ (f : FuncId) (fn : Func) c, P.funcs[f]? = some fn → fn.body = some c → codeOK c = true) : ∀ f, CallOK P (funV P f)
  | 0 => fun g args H n v H' n' h => by simp [funV] at h
  | f + 1 => fun g args H n v H' n' h σ w hI hfa => by
    have ih := fun_sound hG hD hOK f
    simp only [funV] at h
    split at h <;> first | (simp at h; done) | skip
    rename_i fn hfn
    split at h <;> first | (simp at h; done) | skip
    rename_i c hc
    cases hle : Nat.ble args.length fn.ntmps with
    | false => simp [hle] at h
    | true =>
      simp only [hle, cond_true] at h
      have hle := Nat.le_of_ble_eq_true hle
      have hR : Rel σ n (setAll .lf 0 args) fn.ntmps { tmps := callArgs args σ ++ Array.replicate (fn.ntmps - (callArgs args σ).size) undef, defers := [] } := by
        refine ⟨by simp [callArgs]; omega, fun t ht => ?_, fun t => ?_, fun t v ht => ?_, rfl⟩
        · rw [setAll_get, if_neg (by omega)]; rfl
        · rw [setAll_get]
          by_cases htl : t < args.length
          · rw [if_pos ⟨Nat.zero_le _, by omega⟩]
            simp [callArgs, htl, Array.getElem?_append]
          · rw [if_neg (by omega)]
            simp only [Tr.get, Option.getD_none, undef_ren]
            have hsz : (callArgs args σ).size = args.length := by simp [callArgs]
            rw [Array.getD_eq_getD_getElem?, Array.getElem?_append_right (by omega), Array.getElem?_replicate]
            split <;> rfl
        · rw [setAll_get] at ht
          split at ht
          · exact hfa v (List.mem_of_getElem? ht)
          · cases ht
      have fin : ∀ {T1 : TV} {H1 : HV} {n1 : Nat} {vs : List Value}, resV P T1 H1 fn.results.toList = some vs → some (oneOr vs, H1, n1) = some (v, H', n') →
          Then P σ H n w fn.ntmps T1 H1 n1 (bodyPost P fn (fun e w' => ∃ σ', e = .returned (ren σ' v) ∧ Inv P σ' H' n' w' ∧ fits n' v = true ∧ Step σ H n w σ' H' n' w') .normal) := by
        intro T1 H1 n1 vs hres hv a' w' σ' hR' hI' hS'
        obtain ⟨h1, h2⟩ := results_sound hR' hI' hres
        simp only [Option.some.injEq, Prod.mk.injEq] at hv
        obtain ⟨rfl, rfl, rfl⟩ := hv
        exact ⟨hR'.defers, _, h1, σ', rfl, hI', h2, hS'⟩
      have hnp : ∀ c a w1, ¬ bodyPost P fn (fun e w' => ∃ σ', e = .returned (ren σ' v) ∧ Inv P σ' H' n' w' ∧ fits n' v = true ∧ Step σ H n w σ' H' n' w') (.panic c) a w1 := by
        rintro c a w1 ⟨_, σ', h, _⟩
        cases h
      refine calls_of_wp hfn hc ?_
      split at h <;> first | (simp at h; done) | skip
      · rename_i T1 H1 n1 hcv
        split at h <;> first | (simp at h; done) | skip
        rename_i vs hres
        exact code_sound hG ih (hD _ ih) c (hOK g fn c hfn hc) hcv hnp hR hI (fin hres h)
      · rename_i T1 H1 n1 hcv
        split at h <;> first | (simp at h; done) | skip
        rename_i vs hres
        exact code_sound hG ih (hD _ ih) c (hOK g fn c hfn hc) hcv hnp hR hI (fin hres h)
end Go.Proofs.Ytmmnjphmiijbcaa.sx
