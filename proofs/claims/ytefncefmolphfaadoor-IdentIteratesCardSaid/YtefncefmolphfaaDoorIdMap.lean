/- A map of the call's own that tells of numbers: its look-up; flags as a function. -/
import Derived.Test.YtefncefmolphfaaDoorIdNil
import Derived.Maps.OwnOps
import Derived.Maps.OwnSet
import Derived.WalkArith
namespace Go.Proofs.YtefncefmolphfaaDoor.idFn
open Go.ChangeShapes Go.WideShapes Go.ChangeAt Go.RowKit drMem idBits
set_option linter.unusedVariables false

theorem keyI : Maps.Keyed Tryd.prog 3 := Maps.int_keyed Tryd.underlying3
theorem zeroB (w : World) : (zeroValue 4).run Tryd.prog w = .ok (.bool false) w := by kernel_rfl
theorem plainElem_bool_inv {P : Program} {e : TypeId} (he : P.underlying e = some .bool) {v : Value} {z : DataW Unit × List MemPlace} (h : plainElem P e v = some z) : ∃ a, v = .bool a ∧ z = (.lit (.bool a), []) := by
  unfold plainElem at h
  rw [he] at h
  cases v <;> simp at h
  subst h
  exact ⟨_, rfl, rfl⟩
theorem wpList_lookup_own_bool {P : Program} (w : World) {ops : Array Oper} {rest : List Oper} {o : Oper} {a : Act} {Q : Exit → Act → World → Prop}
    (hg : o.guard = none) (m x : Operand) (t : TypeId) (hop : o.op = Op.lookup t m x false)
    (k e : TypeId) (K : Maps.Keyed P k) (ht : P.underlying t = some (.map k e)) (he : P.underlying e = some .bool) (hz : (zeroValue e).run P w = .ok (.bool false) w) (b n : Nat) (D : DataW Unit)
    (hm : a.eval m = .map (some b)) (hown : w.ownsMap P k (plainElem P e) b n D) (key : Value) (kl : Lit) (hx : a.eval x = key) (hkey : keyOf P k key = some kl) (c : Bool) (hc : D.atKey kl (.lit (.bool false)) = .lit (.bool c))
    (hK : wpList P ops Q rest (a.put o.dst (.bool c)) w) :
    wpList P ops Q (o :: rest) a w := by
  refine wpList_plain hg fun K' hK' => ?_
  obtain ⟨v, ps, hrun, hv⟩ := hown.lookup K ht hz (plainElem_bool he false) hkey
  obtain ⟨c', rfl, hcc⟩ := plainElem_bool_inv he hv
  have e2 : c' = c := by
    have h1 := (Prod.mk.inj hcc).1
    rw [hc] at h1
    injection h1 with h1
    injection h1 with h1
    exact h1.symm
  subst e2
  unfold Oper.wp
  simp [execOp, hop, hm, hx, hrun, Result.andThen]
  exact hK' _ _ hK
/- the same where the operation bears a guard that is met -/
theorem wpList_wanted {P : Program} {w : World} {ops : Array Oper} {rest : List Oper} {o : Oper} {a : Act} {Q : Exit → Act → World → Prop} (hg : Region.wanted o (yielded ops a.tmps) = true)
    (h : ∀ K : Act → World → Prop, (∀ a w, wpList P ops Q rest a w → K a w) → o.wp P a w K Q) : wpList P ops Q (o :: rest) a w :=
  wpList_step fun K hK => by rw [if_pos hg]; exact h K hK
theorem wpList_lookup_own_bool_g {P : Program} (w : World) {ops : Array Oper} {rest : List Oper} {o : Oper} {a : Act} {Q : Exit → Act → World → Prop}
    (hg : Region.wanted o (yielded ops a.tmps) = true) (m x : Operand) (t : TypeId) (hop : o.op = Op.lookup t m x false)
    (k e : TypeId) (K : Maps.Keyed P k) (ht : P.underlying t = some (.map k e)) (he : P.underlying e = some .bool) (hz : (zeroValue e).run P w = .ok (.bool false) w) (b n : Nat) (D : DataW Unit)
    (hm : a.eval m = .map (some b)) (hown : w.ownsMap P k (plainElem P e) b n D) (key : Value) (kl : Lit) (hx : a.eval x = key) (hkey : keyOf P k key = some kl) (c : Bool) (hc : D.atKey kl (.lit (.bool false)) = .lit (.bool c))
    (hK : wpList P ops Q rest (a.put o.dst (.bool c)) w) :
    wpList P ops Q (o :: rest) a w := by
  refine wpList_wanted hg fun K' hK' => ?_
  obtain ⟨v, ps, hrun, hv⟩ := hown.lookup K ht hz (plainElem_bool he false) hkey
  obtain ⟨c', rfl, hcc⟩ := plainElem_bool_inv he hv
  have e2 : c' = c := by
    have h1 := (Prod.mk.inj hcc).1
    rw [hc] at h1
    injection h1 with h1
    injection h1 with h1
    exact h1.symm
  subst e2
  unfold Oper.wp
  simp [execOp, hop, hm, hx, hrun, Result.andThen]
  exact hK' _ _ hK
/- what the map says of each number, and how many it tells of -/
structure BM (D : DataW Unit) (f : Int → Bool) (N : Nat) : Prop where
  t : Maps.Tidy D
  a : ∀ x, D.atKey (.int .i64 x) (.lit (.bool false)) = .lit (.bool (f x))
  h : ∀ x, Maps.has D (.int .i64 x) = f x
  n : Maps.size D = N
theorem BM.none : BM (.map []) (fun _ => false) 0 := ⟨Maps.tidy_empty, fun _ => rfl, fun _ => rfl, rfl⟩
theorem BM.put {D : DataW Unit} {f f' : Int → Bool} {N : Nat} (h : BM D f N) (k : Int) (h0 : f k = false) (h1 : f' k = true) (h2 : ∀ x, x ≠ k → f' x = f x) : BM (D.put (.int .i64 k) (.lit (.bool true))) f' (N + 1) := by
  have hk : WideAt.IsKeyLit (.int .i64 k) := trivial
  have hne : ∀ x, x ≠ k → (Lit.int .i64 x) ≠ .int .i64 k := fun x hx e => by injection e with _ e; exact hx e
  refine ⟨h.t.put hk _, fun x => ?_, fun x => ?_, ?_⟩
  · by_cases hx : x = k
    · subst hx; rw [Maps.atKey_put_same h.t.isMap hk, h1]
    · rw [Maps.atKey_put_other (hne x hx), h.a x, h2 x hx]
  · by_cases hx : x = k
    · subst hx; rw [Maps.has_put_same h.t.isMap hk, h1]
    · rw [Maps.has_put_other (hne x hx), h.h x, h2 x hx]
  · rw [Maps.size_put h.t, h.h k, h0, h.n]; rfl

/- flags as a function -/
def flF (m : Nat) (F : Nat → Bool) : List Bool := (List.range m).map F
theorem flF_len (m : Nat) (F : Nat → Bool) : (flF m F).length = m := by simp [flF]
theorem flF_getD (m : Nat) (F : Nat → Bool) (k : Nat) : (flF m F).getD k false = (decide (k < m) && F k) := by
  unfold flF
  rw [List.getD_eq_getElem?_getD, List.getElem?_map]
  by_cases h : k < m
  · rw [List.getElem?_range h]; simp [h]
  · rw [List.getElem?_eq_none (by simpa using h)]; simp [h]
theorem flF_congr {m : Nat} {F G : Nat → Bool} (h : ∀ j, j < m → F j = G j) : flF m F = flF m G := by
  unfold flF; exact List.map_congr_left fun j hj => h j (List.mem_range.1 hj)
theorem flF_set (m : Nat) (F : Nat → Bool) (k : Nat) (v : Bool) : (flF m F).set k v = flF m (fun j => if j = k then v else F j) := by
  unfold flF
  apply List.ext_getElem
  · simp
  · intro i h1 h2
    rw [List.getElem_set]
    simp only [List.getElem_map, List.getElem_range]
    by_cases h : k = i
    · subst h; simp
    · simp [h, Ne.symm h]
theorem flF_false (m : Nat) : List.replicate m false = flF m (fun _ => false) := by
  unfold flF
  apply List.ext_getElem <;> simp
theorem flF_ff {m : Nat} {F : Nat → Bool} {k : Nat} (hk : k ≤ m) (h1 : ∀ j, j < k → F j = true) (h2 : k < m → F k = false) : ffOf (flF m F) = k :=
  (isFF_of _).eq ⟨fun j hj => by rw [flF_getD, h1 j hj]; simp; omega, by
    rw [flF_getD]
    by_cases h : k < m
    · rw [h2 h]; simp
    · simp [h]⟩
theorem tk_at {m : Nat} {F : Nat → Bool} {k : Nat} (hk : k < m) (h1 : ∀ j, j < k → F j = true) (h2 : F k = false) : tkV (flF m F) = (k : Int) + 1 ∧ tkE (flF m F) = 0 ∧ tkF (flF m F) = flF m (fun j => if j = k then true else F j) := by
  have e := flF_ff (Nat.le_of_lt hk) h1 (fun _ => h2)
  unfold tkV tkE tkF
  rw [e, flF_len, if_pos hk, if_pos hk, if_pos hk, flF_set]
  exact ⟨rfl, rfl, rfl⟩
theorem tk_full {m : Nat} {F : Nat → Bool} (h1 : ∀ j, j < m → F j = true) : tkV (flF m F) = 0 ∧ tkE (flF m F) = 7 ∧ tkF (flF m F) = flF m F := by
  have e := flF_ff (Nat.le_refl m) h1 (fun h => absurd h (Nat.lt_irrefl m))
  unfold tkV tkE tkF
  rw [e, flF_len, if_neg (Nat.lt_irrefl m), if_neg (Nat.lt_irrefl m), if_neg (Nat.lt_irrefl m)]
  exact ⟨rfl, rfl, rfl⟩
theorem count_off (fl : List Bool) (k : Nat) (h : fl.getD k false = true) : (fl.set k false).count true + 1 = fl.count true := by
  have hk := lt_of_getD h
  have e : fl[k] = true := by rw [List.getD_eq_getElem?_getD, List.getElem?_eq_getElem hk] at h; exact h
  rw [List.count_set hk, e]
  have h2 : 0 < fl.count true := List.count_pos_iff.2 (by rw [← e]; exact List.getElem_mem hk)
  simp; omega
theorem count_on (fl : List Bool) (k : Nat) (hk : k < fl.length) (h : fl.getD k false = false) : (fl.set k true).count true = fl.count true + 1 := by
  have e : fl[k] = false := by rw [List.getD_eq_getElem?_getD, List.getElem?_eq_getElem hk] at h; exact h
  rw [List.count_set hk, e]
  simp
theorem count_flF {m : Nat} {F : Nat → Bool} (h : ∀ j, j < m → F j = true) : (flF m F).count true = m := by
  have e : flF m F = List.replicate m true := by
    rw [flF_congr h]; unfold flF; apply List.ext_getElem <;> simp
  rw [e, List.count_replicate_self]
end Go.Proofs.YtefncefmolphfaaDoor.idFn
