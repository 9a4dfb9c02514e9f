/- What the row's condition on the variables and the world's shape give a walk; how effects and bytes come in. -/
import Derived.Test.YtfdolapiikgebaaDoorEfKnown
import Derived.Test.YtfdolapiikgebaaDoorTie
import Derived.LaidMore
import Derived.Lay
import Derived.OpenShut
import Derived.Stop.Joined
import Derived.Stop.LaidErr
import Derived.Laws.IdiomArrays
import Derived.Shelf.Vars
import Derived.SizedLaws
namespace Go.Proofs.YtfdolapiikgebaaDoor.efFn
open Go.ChangeShapes Go.WideShapes Go.ChangeAt Go.RowKit drMem
set_option linter.unusedVariables false

abbrev laidL : List (String × DataW Unit) := [("math/bits.deBruijn32tab", Rows.laid_math_bits_deBruijn32tab), ("math/bits.deBruijn64tab", Rows.laid_math_bits_deBruijn64tab), ("internal/strconv.uint64pow10", Rows.laid_internal_strconv_uint64pow10), ("strconv.ErrRange", Rows.laid_strconv_ErrRange), ("strconv.ErrSyntax", Rows.laid_strconv_ErrSyntax), ("zeitnot/effect.kindWords", Rows.laid_zeitnot_effect_kindWords)]
theorem gRange : Tryd.prog.globalNamed "strconv.ErrRange" = some 3 := by kernel_rfl
theorem gSyntax : Tryd.prog.globalNamed "strconv.ErrSyntax" = some 2 := by kernel_rfl
theorem gKW : Tryd.prog.globalNamed "zeitnot/effect.kindWords" = some 0 := by kernel_rfl
theorem tRange : (Tryd.prog.globals[3]?).map (·.type) = some 101 := by kernel_rfl
theorem tSyntax : (Tryd.prog.globals[2]?).map (·.type) = some 101 := by kernel_rfl
theorem tKW : (Tryd.prog.globals[0]?).map (·.type) = some 76 := by kernel_rfl
theorem rowE (u : TypeId) (h : Tryd.prog.typeName? 3 u = some "*errors.errorString") : u = 140 := by
  have star : "*errors.errorString" = "*" ++ "errors.errorString" := by decide
  exact typeName_ptr_named (nm := "errors.errorString") (by rw [← star]; kernel_rfl) (by kernel_rfl) (by decide) u (by rw [← star]; exact h)
theorem cES : Tryd.prog.cellsOf 142 = 1 := by kernel_rfl
theorem cStr : Tryd.prog.cellsOf 9 = 1 := by kernel_rfl
theorem cKW : Tryd.prog.cellsOf 76 = 7 := by kernel_rfl
theorem datumKW : (Rows.laid_zeitnot_effect_kindWords : DataW Unit) = .agg ((List.range 7).map fun (i : Nat) => .lit (.string (kwL (i : Int)))) := by kernel_rfl
theorem var_row {P : Program} {w : World} {n : String} {g : Nat} {cs : Array Value} (hg : P.globalNamed n = some g) (h : w.var? P n = some cs) : ∃ t f, w.heap[g]? = some (.cells cs t f) := by
  simp only [World.var?, hg, Option.bind_some] at h
  split at h
  · rename_i cs' t f e
    cases h
    exact ⟨t, f, e⟩
  · cases h
theorem list7 {α : Type} (l : List α) (h : l.length = 7) : ∃ a b c d e f g, l = [a, b, c, d, e, f, g] := by
  match l, h with
  | [a, b, c, d, e, f, g], _ => exact ⟨a, b, c, d, e, f, g, rfl⟩
theorem kw_of_laid {W : World} {r : List (String × DataW Unit)} (h : laidMet Tryd.prog (("zeitnot/effect.kindWords", Rows.laid_zeitnot_effect_kindWords) :: r) W) :
    ∃ t f, W.heap[0]? = some (.cells #[.string (bs (kwL 0)), .string (bs (kwL 1)), .string (bs (kwL 2)), .string (bs (kwL 3)), .string (bs (kwL 4)), .string (bs (kwL 5)), .string (bs (kwL 6))] t f) := by
  obtain ⟨ps, ⟨g0, t0, cs0, f0, p0, q0, hg0, ht0, hv0, hd0, _, _⟩, _, _⟩ := h
  obtain rfl := Option.some.inj (gKW.symm.trans hg0)
  obtain rfl := Option.some.inj (tKW.symm.trans ht0)
  obtain ⟨t, f, hrow⟩ := var_row hg0 hv0
  refine ⟨t, f, hrow.trans ?_⟩
  obtain ⟨xs, m1, rfl, hx1, hlen, hn3, hel⟩ := DataW.trod_array Tryd.underlying76 hd0
  rw [cKW] at hlen
  have h7 := (Prod.mk.inj hx1).1
  rw [datumKW] at h7
  have h8 := (DataW.agg.inj h7).symm
  have key : ∀ j, j < 7 → cs0.toList[j]? = some (.string (bs (kwL (j : Int)))) := fun j hj => by
    have h0 := hel j hj
    rw [cStr, Nat.mul_one, List.getElem?_eq_getElem (by omega)] at h0
    obtain ⟨s, e1, e2, _⟩ := DataW.trod_string Tryd.underlying9 h0
    have e3 : cs0.toList[j]? = some (.string s) := by
      have h6 : ((cs0.toList.drop j).take 1)[0]? = some (Value.string s) := by rw [e1]; rfl
      simpa using h6
    have h9 := congrArg (fun l => l[j]?) h8
    simp only [List.getElem?_map, List.getElem?_eq_getElem (show j < xs.length by omega), Option.map_some, e2, List.getElem?_range hj] at h9
    have h10 : s.data.toList = kwL (j : Int) := by simpa using h9
    rw [e3, ← h10]
    rfl
  obtain ⟨l⟩ := cs0
  obtain ⟨y0, y1, y2, y3, y4, y5, y6, rfl⟩ := list7 l hlen
  have k0 := key 0 (by omega); have k1 := key 1 (by omega); have k2 := key 2 (by omega); have k3 := key 3 (by omega); have k4 := key 4 (by omega); have k5 := key 5 (by omega); have k6 := key 6 (by omega)
  simp at k0 k1 k2 k3 k4 k5 k6
  subst k0 k1 k2 k3 k4 k5 k6
  rfl
theorem ml_of_shaped {W : World} (h : W.ShapedOpen Tryd.prog) : ∃ m : Int, W.cell? ⟨1, 0, none⟩ = some (.int .i64 m) :=
  cell_of_shapedOpen_int (P := Tryd.prog) (g := 1) (t := 3) (zero := #[.int .i64 0]) h (of_decide_eq_true (by kernel_rfl)) (by kernel_rfl) rfl (by kernel_rfl) (by kernel_rfl) Tryd.underlying3
theorem G_of_laid {W : World} (h : laidMetH Tryd.prog laidL W) (hs : W.ShapedOpen Tryd.prog) : G W := by
  rw [MakeChecks.laidMetH_plain _ _ _ (by kernel_rfl)] at h
  obtain ⟨a0, s0, hv0, _, _, _⟩ := laid_sentinel h.tail.tail.tail gRange tRange Tryd.underlying101 rowE Tryd.underlying140 Tryd.underlying142 rfl rfl Tryd.underlying9 cES cStr
  obtain ⟨a1, s1, hv1, _, _, _⟩ := laid_sentinel h.tail.tail.tail.tail gSyntax tSyntax Tryd.underlying101 rowE Tryd.underlying140 Tryd.underlying142 rfl rfl Tryd.underlying9 cES cStr
  exact ⟨⟨_, _, _, _, by rw [World.var?_cell gSyntax hv1 0]; rfl, by rw [World.var?_cell gRange hv0 0]; rfl⟩, ml_of_shaped hs, .inr (kw_of_laid h.tail.tail.tail.tail.tail)⟩

/- the row's wrap with a condition on the variables, the world's shape kept -/
section
variable {H : Type} {enc : TypeId × Value → H}
theorem wrap_and_shaped {a : Assume} {C : Checked} {os : Os} {f : FuncId} {fn : Func} {s : ChangeSpec} {conds : List PathCond} {apart fresh handsOn again : Bool} {X : World → Array Value → Prop}
    (hX : ∀ (w w' : World) (args : Array Value), w.heap = w'.heap → X w args → X w' args)
    (own : ownKnob C.prog.godebug = none) (started : os.Started) (noInit : C.prog.inits.idxOf? f = none) (hfn : C.prog.funcs[f]? = some fn)
    (witness : ∃ (w : World) (tape : Tape) (i : Input), w.os = os ∧ (w.forCall tape i).Shaped C.prog ∧ i.vars = [] ∧ Input.okWide C.prog (w.forCall tape i) .any w.heap.size f i ∧
      ((s.pre enc C.prog fn conds apart (w.forCall tape i).memory i.args ∧ X (w.forCall tape i).memory i.args) ∧ sizedMet enc C.prog fn (OpenSpec.ofChange s) apart (w.forCall tape i).memory i.args) ∧ a.holds C.prog (lone (Frame.enter C.prog f i.args .normal) [] (w.forCall tape i)))
    (contract : ∀ (W : World) (base : Nat) (args : Array Value) (ds gs : List (DataW H)) (before : List MemPlace),
      (∀ (j : Nat) t v, fn.params[j]? = some t → args[j]? = some v → Value.okWide C.prog W .any base t v) →
      DataW.Whole enc C.prog fn.params.toList s.vars apart W args.toList ds gs before →
      conds.all (PathCond.test C.prog ⟨fn.params.toList, ds, s.plain.varTypes C.prog, gs⟩) = true →
      (DataW.weightsEach C.prog (fn.params.toList ++ s.plain.varTypes C.prog) (ds ++ gs)).all (· ≤ reachBytes) = true → X W args → W.ShapedOpen C.prog →
      a.holds C.prog (lone (Frame.enter C.prog f args .normal) [] W) →
      Calls C.prog f args W fun e W' => ∃ v, e = .returned v ∧ s.post enc C.prog fn apart fresh handsOn again W args v W') :
    ReturnsInHanded a C os f .any (fun w args => (s.pre enc C.prog fn conds apart w args ∧ X w args) ∧ sizedMet enc C.prog fn (OpenSpec.ofChange s) apart w args) (s.post enc C.prog fn apart fresh handsOn again) := by
  refine returnsInHanded_of_calls own started noInit witness ?_
  intro w tape i _ hsh _ hok hpre hholds
  obtain ⟨_, _, _, fn', hfn', _, _, _, _, hval⟩ := hok
  have e : fn' = fn := Option.some.inj (hfn'.symm.trans hfn)
  subst e
  obtain ⟨⟨⟨ds, gs, before, hw, hc⟩, hx⟩, hz⟩ := hpre
  have hw' := DataW.Whole.of_heap (w' := w.forCall tape i) (by rfl) hw
  refine (contract (w.forCall tape i) w.heap.size i.args ds gs before hval hw' hc (hz.weights hw) (hX _ _ _ (by rfl) hx) hsh hholds).mono fun e W' ⟨v, he, hp⟩ => ?_
  subst he
  exact ChangeSpec.post_blind hp
set_option maxRecDepth 100000 in
theorem open_effect {w : World} {base' : Nat} {v : Value} {d : DataW H} {p : List MemPlace} (hv : Value.okWide Tryd.prog w .any base' 28 v) (h : DataW.Trod enc Tryd.prog w 0 (fun _ => true) true 28 v d p) :
    ∃ e : Ef, v = e.v ∧ e.wf := by
  obtain ⟨cs, rfl, hsz⟩ := okWide_struct Tryd.underlying28 hv
  rw [show Tryd.prog.cellsOf 28 = 5 by kernel_rfl] at hsz
  obtain ⟨l⟩ := cs
  obtain ⟨c0, c1, c2, c3, c4, rfl⟩ := fiveL l hsz
  obtain ⟨fuel, hf⟩ := h
  obtain ⟨e, he, hw⟩ := ef_cells hf
  exact ⟨e, by simp only [List.cons.injEq, and_true, Ef.l] at he; obtain ⟨rfl, rfl, rfl, rfl, rfl⟩ := he; rfl, hw⟩
set_option maxRecDepth 100000 in
theorem open_effects {w : World} {base' : Nat} {v : Value} {d : DataW H} {p : List MemPlace} (hv : Value.okWide Tryd.prog w .any base' 22 v) (h : DataW.Trod enc Tryd.prog w 0 (fun _ => true) true 22 v d p) :
    ∃ (sp : Option Addr) (len cap : Nat) (l : List Ef), v = .slice sp len cap ∧ EfsAt w sp len l := by
  obtain ⟨a, n, c, rfl⟩ := okWide_slice Tryd.underlying22 hv
  obtain ⟨fuel, hf⟩ := h
  exact open_efs (v := .slice a n c) hf
set_option maxRecDepth 100000 in
theorem open_bytes {w : World} {base' : Nat} {v : Value} {d : DataW H} {p : List MemPlace} (hv : Value.okWide Tryd.prog w .any base' 36 v) (h : DataW.Trod enc Tryd.prog w 0 (fun _ => true) true 36 v d p) :
    ∃ (sp : Option Addr) (len cap : Nat) (l : List UInt8), v = .slice sp len cap ∧ BsAt w sp len l ∧ len ≤ cap := by
  obtain ⟨a, n, c, rfl⟩ := okWide_slice Tryd.underlying36 hv
  obtain ⟨fuel, hf⟩ := h
  exact open_bs (v := .slice a n c) hf
end
theorem bs_self (s : ByteArray) : s = bs s.data.toList := rfl
end Go.Proofs.YtfdolapiikgebaaDoor.efFn
