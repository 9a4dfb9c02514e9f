/- The symbolic machine, from outside. -/
import Derived.Test.YtmmnjphmiijbcaaSxQ
namespace Go.Proofs.Ytmmnjphmiijbcaa.sx
set_option linter.unusedVariables false
open Go.RowKit (Below)
variable {P : Program}

def sg0 : Sg := ⟨fun k => k / 2, fun _ => 0⟩
theorem inv0 (w : World) : Inv P sg0 .lf 1 w :=
  ⟨rfl, fun g => ⟨by simp [sg0], rfl⟩, (fun k o h => by cases h), (fun k o h => by cases h), (fun k o h => by cases h), (fun j k o o' h => by cases h)⟩

def namesOK (P : Program) : Bool := P.funcs.toList.all fun fn => !(fn.name == "runtime.NumGoroutine")
def codesOK (P : Program) : Bool := P.funcs.toList.all fun fn => match fn.body with | some c => codeOK c | none => true
theorem good_of (h1 : namesOK P = true) (h2 : P.follows .mixedOrders = true) : Good P :=
  ⟨fun f fn hf => by
    have := List.all_eq_true.1 h1 fn (List.mem_of_getElem? (by simpa using hf))
    simpa using this, h2⟩
theorem codes_of (h : codesOK P = true) (f : FuncId) (fn : Func) (c : Code) (hf : P.funcs[f]? = some fn) (hc : fn.body = some c) : codeOK c = true := by
  have := List.all_eq_true.1 h fn (List.mem_of_getElem? (by simpa using hf))
  simpa [hc] using this

/- a program that this machine may run -/
structure Fit (P : Program) : Prop where
  good : Good P
  codes : ∀ (f : FuncId) (fn : Func) c, P.funcs[f]? = some fn → fn.body = some c → codeOK c = true
theorem fit_of (h1 : namesOK P = true) (h2 : P.follows .mixedOrders = true) (h3 : codesOK P = true) : Fit P := ⟨good_of h1 h2, codes_of h3⟩

def yes : Option (Value × HV × Nat) → Bool
  | some (.bool b, _, _) => b
  | _ => false
theorem yes_spec {o : Option (Value × HV × Nat)} (h : yes o = true) : ∃ H n, o = some (.bool true, H, n) := by
  unfold yes at h
  split at h
  · subst h; exact ⟨_, _, rfl⟩
  · cases h
/- a function of no argument that lies in memory says yes -/
theorem says_yes (hF : Fit P) {fuel : Nat} {g : FuncId} {args : List Value} (hc : cleanL args = true) (h : yes (funV P fuel g args .lf 1) = true) (w : World) :
    Calls P g args.toArray w fun e w' => e = .returned (.bool true) ∧ Below w.heap.size w w' := by
  obtain ⟨H, n, ho⟩ := yes_spec h
  have := fun_ok hF.good hF.codes fuel g args .lf 1 _ _ _ ho sg0 w (inv0 w) ((fitsL_iff 1 args).1 (fitsL_clean 1 args hc))
  have ha : callArgs args sg0 = args.toArray := by unfold callArgs; rw [← renL_eq, renL_clean sg0 args hc]
  rw [ha] at this
  refine this.mono ?_
  rintro e w' ⟨σ', rfl, _, _, hS⟩
  exact ⟨rfl, hS.below (Nat.le_refl _) fun k o hk => by cases hk⟩

def outT : Out → TV | some (_, T, _, _) => T | none => .lf
def outH : Out → HV | some (_, _, H, _) => H | none => .lf
def outN : Out → Nat | some (_, _, _, n) => n | none => 0
def isNrm : Out → Bool | some (.nrm, _, _, _) => true | _ => false
theorem nrm_spec {o : Out} (h : isNrm o = true) : o = some (.nrm, outT o, outH o, outN o) := by
  unfold isNrm at h
  split at h
  · rfl
  · cases h
/- a stretch of code that goes on -/
theorem code_nrm (hF : Fit P) {fuel nt : Nat} {c : Code} (hok : codeOK c = true) {T : TV} {H : HV} {n : Nat} (h : isNrm (codeV P (funV P fuel) nt c T H n) = true) {σ : Sg} {a : Act} {w : World} {Q : Exit → Act → World → Prop}
    (hQ : ∀ c a w, ¬ Q (.panic c) a w) (hR : Rel σ n T nt a) (hI : Inv P σ H n w)
    (hK : Then P σ H n w nt (outT (codeV P (funV P fuel) nt c T H n)) (outH (codeV P (funV P fuel) nt c T H n)) (outN (codeV P (funV P fuel) nt c T H n)) (Q .normal)) : c.wp P Q a w :=
  code_sound hF.good (fun_ok hF.good hF.codes fuel) (reg_ok hF.good (fun_ok hF.good hF.codes fuel)) c hok (nrm_spec h) hQ hR hI hK
/- a stretch of code that ends the function, with the answer yes -/
def endsYes (P : Program) (fn : Func) : Out → Bool
  | some (.nrm, T, H, _) => (match resV P T H fn.results.toList with | some [.bool b] => b | _ => false)
  | some (.ret, T, H, _) => (match resV P T H fn.results.toList with | some [.bool b] => b | _ => false)
  | _ => false
def retsYes (P : Program) (fn : Func) : Out → Bool
  | some (.ret, T, H, _) => (match resV P T H fn.results.toList with | some [.bool b] => b | _ => false)
  | _ => false
def Yes (w0 : World) : Ending → World → Prop := fun e w' => e = .returned (.bool true) ∧ Below w0.heap.size w0 w'
theorem yes_panic (P : Program) (fn : Func) (w0 : World) : ∀ c a w', ¬ bodyPost P fn (Yes w0) (.panic c) a w' := by
  rintro c a w' ⟨_, h, _⟩
  cases h
theorem step_below {σ' : Sg} {H' : HV} {n' : Nat} {w0 w' : World} (h : Step sg0 .lf 1 w0 σ' H' n' w') : Below w0.heap.size w0 w' := h.below (Nat.le_refl _) fun k o hk => by cases hk
theorem res_yes {fn : Func} {nt : Nat} {T1 : TV} {H1 : HV} {n1 : Nat} {w0 : World} (hr : (match resV P T1 H1 fn.results.toList with | some [.bool b] => b | _ => false) = true) {σ' : Sg} {a' : Act} {w' : World}
    (hR : Rel σ' n1 T1 nt a') (hI : Inv P σ' H1 n1 w') (hS : Step sg0 .lf 1 w0 σ' H1 n1 w') : bodyPost P fn (Yes w0) .ret a' w' := by
  split at hr
  · rename_i b hres
    subst hr
    obtain ⟨h1, _⟩ := results_sound hR hI hres
    exact ⟨hR.defers, _, h1, rfl, step_below hS⟩
  · cases hr
theorem code_ret (hF : Fit P) {fuel nt : Nat} {c : Code} (hok : codeOK c = true) {fn : Func} {T : TV} {H : HV} {n : Nat} (h : retsYes P fn (codeV P (funV P fuel) nt c T H n) = true) {σ : Sg} {a : Act} {w w0 : World} {Q : Exit → Act → World → Prop}
    (hnp : ∀ c a w, ¬ Q (.panic c) a w) (hR : Rel σ n T nt a) (hI : Inv P σ H n w) (hS : Step sg0 .lf 1 w0 σ H n w) (hK : ∀ a' w', bodyPost P fn (Yes w0) .ret a' w' → Q .ret a' w') : c.wp P Q a w := by
  cases hc : codeV P (funV P fuel) nt c T H n with
  | none => rw [hc] at h; cases h
  | some q =>
    obtain ⟨ex, T1, H1, n1⟩ := q
    rw [hc] at h
    cases ex with
    | nrm => cases h
    | ret => exact code_sound hF.good (fun_ok hF.good hF.codes fuel) (reg_ok hF.good (fun_ok hF.good hF.codes fuel)) c hok hc hnp hR hI (fun a' w' σ' hR' hI' hS' => hK _ _ (res_yes h hR' hI' (hS.trans hS')))
    | exit id => cases h
theorem code_end (hF : Fit P) {fuel nt : Nat} {c : Code} (hok : codeOK c = true) {fn : Func} {T : TV} {H : HV} {n : Nat} (h : endsYes P fn (codeV P (funV P fuel) nt c T H n) = true) {σ : Sg} {a : Act} {w w0 : World}
    (hR : Rel σ n T nt a) (hI : Inv P σ H n w) (hS : Step sg0 .lf 1 w0 σ H n w) : c.wp P (bodyPost P fn (Yes w0)) a w := by
  cases hc : codeV P (funV P fuel) nt c T H n with
  | none => rw [hc] at h; cases h
  | some q =>
    obtain ⟨ex, T1, H1, n1⟩ := q
    rw [hc] at h
    cases ex with
    | nrm => exact code_sound hF.good (fun_ok hF.good hF.codes fuel) (reg_ok hF.good (fun_ok hF.good hF.codes fuel)) c hok hc (yes_panic P fn w0) hR hI (fun a' w' σ' hR' hI' hS' => res_yes h hR' hI' (hS.trans hS'))
    | ret => exact code_sound hF.good (fun_ok hF.good hF.codes fuel) (reg_ok hF.good (fun_ok hF.good hF.codes fuel)) c hok hc (yes_panic P fn w0) hR hI (fun a' w' σ' hR' hI' hS' => res_yes h hR' hI' (hS.trans hS'))
    | exit id => cases h

/- a frame at its start -/
theorem rel0 (σ : Sg) {n nt : Nat} {args : List Value} (hf : ∀ v ∈ args, fits n v = true) (hle : args.length ≤ nt) :
    Rel σ n (setAll .lf 0 args) nt { tmps := callArgs args σ ++ Array.replicate (nt - (callArgs args σ).size) undef, defers := [] } := by
  refine ⟨by simp [callArgs]; omega, fun t ht => ?_, fun t => ?_, fun t v ht => ?_, rfl⟩
  · rw [setAll_get, if_neg (by omega)]; rfl
  · rw [setAll_get]
    by_cases htl : t < args.length
    · rw [if_pos ⟨Nat.zero_le _, by omega⟩]
      simp [callArgs, htl, Array.getElem?_append]
    · rw [if_neg (by omega)]
      simp only [Tr.get, Option.getD_none, undef_ren]
      have hsz : (callArgs args σ).size = args.length := by simp [callArgs]
      rw [Array.getD_eq_getD_getElem?, Array.getElem?_append_right (by omega), Array.getElem?_replicate]
      split <;> rfl
  · rw [setAll_get] at ht
    split at ht
    · exact hf v (List.mem_of_getElem? ht)
    · cases ht
end Go.Proofs.Ytmmnjphmiijbcaa.sx
