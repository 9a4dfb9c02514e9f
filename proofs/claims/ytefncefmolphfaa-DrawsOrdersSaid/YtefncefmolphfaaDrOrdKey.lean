/- An order as the key of a map of the call's own. -/
import Derived.Test.YtefncefmolphfaaDrOrdMath
namespace Go.Proofs.Ytefncefmolphfaa.drFn
open Go.ChangeShapes Go.WideShapes Go.ChangeAt Go.RowKit drMem
set_option linter.unusedVariables false

theorem laidOut0 : laidOutB Try.prog = true := by kernel_rfl
theorem keyA : Maps.Keyed Try.prog 55 := Maps.Keyed.of_law (deep_law_laid laidOut0 (m := 3) (by omega) (of_decide_eq_true (by kernel_rfl)) (by kernel_rfl) (by kernel_rfl))
def litsO (o : List Int) : List Lit := o.map (Lit.int .i64)
def keyO (o : List Int) : Lit := .string (keyBytes (litsO o))
def aggO (o : List Int) : Value := .agg (is o).toArray
theorem keyOf_order {o : List Int} (h5 : o.length = 5) (hw : ∀ x ∈ o, (Lit.int .i64 x).wf = true) : keyOf Try.prog 55 (aggO o) = some (keyO o) := by
  match o, h5 with
  | [a, b, c, d, e], _ =>
    have ha := hw a (by simp)
    have hb := hw b (by simp)
    have hc := hw c (by simp)
    have hd := hw d (by simp)
    have he := hw e (by simp)
    have k1 : Try.prog.keyType 55 = true := by kernel_rfl
    have k2 : Try.prog.cellsOf 55 = 5 := by kernel_rfl
    have k3 : Try.prog.cellsOf 3 = 1 := by kernel_rfl
    have k0 : 0 < Try.prog.types.size := of_decide_eq_true (by kernel_rfl)
    obtain ⟨n, hn⟩ : ∃ n, Try.prog.types.size = n + 1 := ⟨Try.prog.types.size - 1, by omega⟩
    have k4 : (aggO [a, b, c, d, e]).formed Try.prog 55 = true := by
      simp [aggO, is, Value.formed, Try.underlying55, k2]
    have k5 : ∀ x : Int, (Lit.int .i64 x).wf = true → Try.prog.keyLits (n + 1) 3 [.int .i64 x] = some [.int .i64 x] := fun x hx => by
      unfold Program.keyLits
      rw [Try.underlying3]
      simp [hx]
    have er : List.range 5 = [0, 1, 2, 3, 4] := rfl
    unfold keyOf
    rw [Try.underlying55]
    simp only [k1, k4, Bool.and_self, if_true]
    rw [hn]
    unfold Program.keyLits
    rw [Try.underlying55]
    simp only [k2, k3, er]
    simp [aggO, is, Value.cells, k5 a ha, k5 b hb, k5 c hc, k5 d hd, k5 e he, keyO, litsO]
theorem keyO_inj {o o' : List Int} (h5 : o.length = 5) (h5' : o'.length = 5) (hw : ∀ x ∈ o, (Lit.int .i64 x).wf = true) (hw' : ∀ x ∈ o', (Lit.int .i64 x).wf = true) (h : keyO o = keyO o') : o = o' := by
  have hal : Alike (litsO o) (litsO o') := by
    match o, h5, o', h5' with
    | [a, b, c, d, e], _, [a', b', c', d', e'], _ => simp [litsO, Alike, Lit.sameKind]
  have h1 : litsO o = litsO o' := keyBytes_inj hal (fun a ha => by obtain ⟨x, hx, rfl⟩ := List.mem_map.1 ha; exact hw x hx) (fun a ha => by obtain ⟨x, hx, rfl⟩ := List.mem_map.1 ha; exact hw' x hx) (by injection h)
  unfold litsO at h1
  exact (List.map_inj_right (fun a b hab => by injection hab)).1 h1
/- what the map says of the orders of five numbers -/
def okO (o : List Int) : Prop := o.length = 5 ∧ ∀ x ∈ o, 0 ≤ x ∧ x ≤ 4
theorem okO.wf {o : List Int} (h : okO o) : ∀ x ∈ o, (Lit.int .i64 x).wf = true := fun x hx => WalkArith.wf_i64 (by have := h.2 x hx; omega)
structure OM (D : DataW Unit) (S : List Int → Bool) : Prop where
  m : Maps.IsMap D
  a : ∀ o, okO o → D.atKey (keyO o) (.lit (.bool false)) = .lit (.bool (S o))
theorem OM.none : OM (.map []) (fun _ => false) := ⟨⟨_, rfl⟩, fun o _ => rfl⟩
theorem OM.put {D : DataW Unit} {S S' : List Int → Bool} {o : List Int} (h : OM D S) (ho : okO o) (h1 : S' o = true) (h2 : ∀ p, p ≠ o → S' p = S p) : OM (D.put (keyO o) (.lit (.bool true))) S' := by
  have hk : WideAt.IsKeyLit (keyO o) := trivial
  refine ⟨h.m.put _ _, fun p hp => ?_⟩
  by_cases hx : p = o
  · subst hx; rw [Maps.atKey_put_same h.m hk, h1]
  · rw [Maps.atKey_put_other (fun e => hx (keyO_inj hp.1 ho.1 hp.wf ho.wf e)), h.a p hp, h2 p hx]
/- the look-up in a map of the call's own that tells flags -/
theorem zeroB (w : World) : (zeroValue 4).run Try.prog w = .ok (.bool false) w := by kernel_rfl
theorem plainElem_bool_inv {P : Program} {e : TypeId} (he : P.underlying e = some .bool) {v : Value} {z : DataW Unit × List MemPlace} (h : plainElem P e v = some z) : ∃ a, v = .bool a ∧ z = (.lit (.bool a), []) := by
  unfold plainElem at h
  rw [he] at h
  cases v <;> simp at h
  subst h
  exact ⟨_, rfl, rfl⟩
theorem wpList_lookup_own_bool {P : Program} (w : World) {ops : Array Oper} {rest : List Oper} {o : Oper} {a : Act} {Q : Exit → Act → World → Prop}
    (hg : o.guard = none) (m x : Operand) (t : TypeId) (hop : o.op = Op.lookup t m x false)
    (k e : TypeId) (K : Maps.Keyed P k) (ht : P.underlying t = some (.map k e)) (he : P.underlying e = some .bool) (hz : (zeroValue e).run P w = .ok (.bool false) w) (b n : Nat) (D : DataW Unit)
    (hm : a.eval m = .map (some b)) (hown : w.ownsMap P k (plainElem P e) b n D) (key : Value) (kl : Lit) (hx : a.eval x = key) (hkey : keyOf P k key = some kl) (c : Bool) (hc : D.atKey kl (.lit (.bool false)) = .lit (.bool c))
    (hK : wpList P ops Q rest (a.put o.dst (.bool c)) w) :
    wpList P ops Q (o :: rest) a w := by
  refine wpList_plain hg fun K' hK' => ?_
  obtain ⟨v, ps, hrun, hv⟩ := hown.lookup K ht hz (plainElem_bool he false) hkey
  obtain ⟨c', rfl, hcc⟩ := plainElem_bool_inv he hv
  have e2 : c' = c := by
    have h1 := (Prod.mk.inj hcc).1
    rw [hc] at h1
    injection h1 with h1
    injection h1 with h1
    exact h1.symm
  subst e2
  unfold Oper.wp
  simp [execOp, hop, hm, hx, hrun, Result.andThen]
  exact hK' _ _ hK
end Go.Proofs.Ytefncefmolphfaa.drFn
