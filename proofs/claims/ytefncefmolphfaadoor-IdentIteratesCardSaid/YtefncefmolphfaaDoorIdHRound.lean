/- One round of the stage's theorem: what its calls return and leave, and what the map says. -/
import Derived.Test.YtefncefmolphfaaDoorIdFills
import Derived.Maps.RangeWalk
namespace Go.Proofs.YtefncefmolphfaaDoor.idFn
open Go.ChangeShapes Go.WideShapes Go.ChangeAt Go.RowKit drMem idBits
set_option linter.unusedVariables false

def entryB (D : DataW Unit) (k : Lit) (v : Value) : Prop := ∃ c, v = .bool c ∧ ∀ zd, D.atKey k zd = .lit (.bool c)
/- the step of a range over a map, keys integers, elements bools -/
theorem wpList_next_ranges_ib {P : Program} (w : World) {ops : Array Oper} {rest : List Oper} {o : Oper} {a : Act} {Q : Exit → Act → World → Prop}
    (hg : o.guard = none) (it : Operand) (hop : o.op = Op.next it false) (k e : TypeId) (qk : IntKind) (K : Maps.Keyed P k) (hk : P.underlying k = some (.int qk)) (he : P.underlying e = some .bool)
    (b r n : Nat) (D : DataW Unit) (left : Lit → Bool) (cnt : Nat) (hit : a.eval it = .pointer (some ⟨r, 0, none⟩)) (h : w.ranges P k (plainElem P e) b r n D left cnt)
    (hDone : cnt = 0 → (∀ kl, left kl = false) → wpList P ops Q rest (a.put o.dst (.tuple #[.bool false])) w)
    (hMore : ∀ (x : Int) (v : Value) (w' : World) (cnt' : Nat), entryB D (.int qk x) v → w'.ranges P k (plainElem P e) b r n D (fun z => left z && !z.sameKey (.int qk x)) cnt' → cnt' < cnt →
      w.grownBy w' (some r) → (Instr.entry (.pointer (some ⟨r, 0, none⟩))).run P w' = .ok (.tuple #[.int qk x, v]) w' → wpList P ops Q rest (a.put o.dst (.tuple #[.bool true, .int qk x, v])) w') :
    wpList P ops Q (o :: rest) a w :=
  wpList_next_ranges w hg it hop k K (plainElem P e) (Value.int qk) Value.bool (fun key kl hkey => by obtain ⟨x, rfl, _⟩ := Maps.keyOf_int_inv hk hkey; exact ⟨x, rfl⟩) (fun v y hv => by obtain ⟨c, rfl, _⟩ := plainElem_bool_inv he hv; exact ⟨c, rfl⟩)
    b r n D left cnt hit h hDone (fun x c kl y w' cnt' hkey hlk hv hat hrg hlt hgr hsz hen => by
      obtain ⟨x', ex, rfl, hwx⟩ := Maps.keyOf_int_inv hk hkey
      cases ex
      obtain ⟨c', ec, rfl⟩ := plainElem_bool_inv he hv
      cases ec
      exact hMore x _ w' cnt' ⟨c, rfl, hat⟩ hrg hlt hgr hen)

/- what the map says of each number: whether it is taken -/
structure MM (D : DataW Unit) (fl : List Bool) : Prop where
  m : Maps.IsMap D
  a : ∀ x, D.atKey (.int .i64 x) (.lit (.bool false)) = .lit (.bool (hasB fl x))
theorem has_off (m : Nat) (x : Int) : hasB (List.replicate m false) x = false := by
  unfold hasB
  split
  · rfl
  · rw [List.getD_eq_getElem?_getD]; cases h : (List.replicate m false)[x.toNat - 1]? with
    | none => rfl
    | some v => rw [List.getElem?_replicate] at h; split at h <;> simp_all
theorem MM.none (m : Nat) : MM (.map []) (List.replicate m false) := ⟨⟨_, rfl⟩, fun x => by rw [has_off]; rfl⟩
theorem MM.at {D : DataW Unit} {fl : List Bool} (h : MM D fl) {x : Int} {c : Bool} (hc : D.atKey (.int .i64 x) (.lit (.bool false)) = .lit (.bool c)) : hasB fl x = c := by
  rw [h.a x] at hc
  injection hc with hc
  injection hc with hc
theorem MM.put {D : DataW Unit} {fl fl' : List Bool} {z : Int} {v : Bool} (h : MM D fl) (h1 : hasB fl' z = v) (h2 : ∀ x, x ≠ z → hasB fl' x = hasB fl x) : MM (D.put (.int .i64 z) (.lit (.bool v))) fl' := by
  have hk : WideAt.IsKeyLit (.int .i64 z) := trivial
  refine ⟨h.m.put _ _, fun x => ?_⟩
  by_cases hx : x = z
  · subst hx; rw [Maps.atKey_put_same h.m hk, h1]
  · rw [Maps.atKey_put_other (fun e => by injection e with _ e; exact hx e), h.a x, h2 x hx]
theorem has_at (fl : List Bool) (k : Nat) (hk : k < fl.length) : hasB fl ((k : Int) + 1) = fl.getD k false := by
  unfold hasB
  rw [if_neg (by omega), show ((k : Int) + 1).toNat - 1 = k by omega]
theorem has_set (fl : List Bool) (k : Nat) (hk : k < fl.length) (v : Bool) {z : Int} (hz : z = (k : Int) + 1) : hasB (fl.set k v) z = v ∧ ∀ x, x ≠ z → hasB (fl.set k v) x = hasB fl x := by
  subst hz
  refine ⟨by rw [has_at _ _ (by rw [List.length_set]; exact hk), getD_set _ _ _ _ hk, if_pos rfl], fun x hx => ?_⟩
  unfold hasB
  rw [List.length_set]
  by_cases h : x < 1 ∨ (fl.length : Int) < x
  · rw [if_pos h, if_pos h]
  · rw [if_neg h, if_neg h, getD_set _ _ _ _ hk, if_neg (by omega)]
/- the first free id, in words of the count -/
theorem ff_facts (fl : List Bool) : (ffOf fl < fl.length ∧ fl.count true < fl.length ∧ fl.getD (ffOf fl) false = false ∧ ∀ j, j < ffOf fl → fl.getD j false = true) ∨ (ffOf fl = fl.length ∧ fl.count true = fl.length) := by
  have hf := isFF_of fl
  rcases Nat.lt_or_ge (ffOf fl) fl.length with h | h
  · refine .inl ⟨h, ?_, hf.2, hf.1⟩
    have h1 := count_on fl _ h hf.2
    have h2 := List.count_le_length (a := true) (l := fl.set (ffOf fl) true)
    rw [List.length_set] at h2
    omega
  · have e : ffOf fl = fl.length := by have := hf.le; omega
    refine .inr ⟨e, ?_⟩
    have h1 : ∀ x ∈ fl, x = true := by
      intro x hx
      obtain ⟨i, hi, rfl⟩ := List.getElem_of_mem hx
      have := hf.1 i (by omega)
      rw [List.getD_eq_getElem?_getD, List.getElem?_eq_getElem hi] at this
      exact this
    exact List.count_eq_length.2 fun x hx => (h1 x hx).symm

/- what stands at the head of a round; and in it, beside the act -/
structure HS (w : World) (b g B j : Nat) (fl flm : List Bool) (W : World) : Prop where
  s : SI w b g fl W
  m : ∃ D k, k ≤ j ∧ W.ownsMap Tryd.prog 3 (plainElem Tryd.prog 4) B k D ∧ MM D flm
  B0 : w.heap.size ≤ B
structure RH (w : World) (b g B j t : Nat) (r : ActR) (fl flm : List Bool) (W : World) : Prop where
  h : HS w b g B j fl flm W
  a : has W t 33 [.int .i64 r.what, .int .i64 r.id]
section
variable {w W W' : World} {b g B j t : Nat} {r : ActR} {fl fl' flm : List Bool}
theorem HS.neB (h : HS w b g B j fl flm W) : B ≠ b ∧ B ≠ g := by
  obtain ⟨D, k, _, ho, _⟩ := h.m
  obtain ⟨_, hd⟩ := h.s.i.d
  obtain ⟨_, hr⟩ := h.s.i.r
  exact ⟨owns_ne ho hd, owns_ne ho hr⟩
theorem HS.pos (h : HS w b g B j fl flm W) : B ≠ 0 := by
  rintro rfl
  obtain ⟨D, k, _, ho, _⟩ := h.m
  have := h.s.i.t 0 (by decide)
  obtain ⟨es, clock, hb, _⟩ := ho
  simp [World.cell?, hb] at this
theorem HS.step (h : HS w b g B j fl flm W) (hi : isI W' b g fl') (hg : W.grownBy W' (some g)) : HS w b g B j fl' flm W' := by
  have hne := h.neB.2
  obtain ⟨D, k, hk, ho, hb⟩ := h.m
  exact ⟨h.s.step hi hg, ⟨D, k, hk, ho.kept hg (by simpa using hne), hb⟩, h.B0⟩
theorem HS.below (h : HS w b g B j fl flm W) (hb : Below W.heap.size W W') : HS w b g B j fl flm W' := by
  obtain ⟨D, k, hk, ho, hm⟩ := h.m
  exact ⟨h.s.below hb, ⟨D, k, hk, ho.kept (grown_of_below hb none) (by simp), hm⟩, h.B0⟩
theorem HS.more {j' : Nat} (h : HS w b g B j fl flm W) (hj : j ≤ j') : HS w b g B j' fl flm W := by
  obtain ⟨D, k, hk, ho, hm⟩ := h.m
  exact ⟨h.s, ⟨D, k, by omega, ho, hm⟩, h.B0⟩
theorem HS.put {k : Nat} {D' : DataW Unit} {flm' : List Bool} (h : HS w b g B j fl flm W) (hk : k ≤ j + 1) (ho : W'.ownsMap Tryd.prog 3 (plainElem Tryd.prog 4) B k D') (hg : W.grownBy W' (some B)) (hb : MM D' flm') : HS w b g B (j + 1) fl flm' W' := by
  have hne := h.neB
  exact ⟨⟨h.s.i.grown hg (Ne.symm hne.1) (Ne.symm hne.2) h.pos, below_grown h.s.f hg h.s.f.size h.B0, h.s.hb, h.s.hg⟩, ⟨D', k, hk, ho, hb⟩, h.B0⟩
theorem hs0 {m : Nat} (h : SI w b g (List.replicate m false) W) : HS w b g W.heap.size 0 (List.replicate m false) (List.replicate m false) (W.alloc (.map #[] 0)) :=
  ⟨h.below ((Below.refl _ _).alloc (Nat.le_refl _) _), ⟨.map [], 0, Nat.le_refl _, World.ownsMap_made _ _ _ _, MM.none m⟩, h.f.size⟩
theorem rh0 (h : HS w b g B j fl flm W) : RH w b g B j W.heap.size r fl flm (W.alloc (.cells #[.int .i64 r.what, .int .i64 r.id] 33)) :=
  ⟨h.below ((Below.refl _ _).alloc (Nat.le_refl _) _), has.new W _ [.int .i64 r.what, .int .i64 r.id]⟩
theorem RH.ne (h : RH w b g B j t r fl flm W) : t ≠ g ∧ t ≠ B := by
  obtain ⟨D, k, _, ho, _⟩ := h.h.m
  obtain ⟨_, hr⟩ := h.h.s.i.r
  exact ⟨h.a.ne hr (by decide), Ne.symm (owns_ne ho h.a)⟩
theorem RH.step (h : RH w b g B j t r fl flm W) (hi : isI W' b g fl') (hg : W.grownBy W' (some g)) : RH w b g B j t r fl' flm W' := ⟨h.h.step hi hg, h.a.grown hg (by simpa using h.ne.1)⟩
theorem RH.below (h : RH w b g B j t r fl flm W) (hb : Below W.heap.size W W') : RH w b g B j t r fl flm W' := ⟨h.h.below hb, h.a.below hb h.a.lt⟩
theorem RH.drewN (h : RH w b g B j t r fl flm W) (n : Nat) : RH w b g B j t r fl flm (W.drewN n) := h.below ⟨rfl, rfl, rfl, Nat.le_refl _, fun _ _ => rfl⟩
theorem RH.put {k : Nat} {D' : DataW Unit} {flm' : List Bool} (h : RH w b g B j t r fl flm W) (hk : k ≤ j + 1) (ho : W'.ownsMap Tryd.prog 3 (plainElem Tryd.prog 4) B k D') (hg : W.grownBy W' (some B)) (hb : MM D' flm') : RH w b g B (j + 1) t r fl flm' W' :=
  ⟨h.h.put hk ho hg hb, h.a.grown hg (by simpa using h.ne.2)⟩
theorem RH.more {j' : Nat} (h : RH w b g B j t r fl flm W) (hj : j ≤ j') : RH w b g B j' t r fl flm W := ⟨h.h.more hj, h.a⟩
theorem RH.f1 (h : RH w b g B j t r fl flm W) : W.cell? ⟨t, 1, none⟩ = some (.int .i64 r.id) := by rw [h.a.cell]; rfl
theorem htk (h : RH w b g B j t r fl flm W) {v y : Int} (h1 : tkV fl = v) (h2 : tkE fl = y) (h3 : tkF fl = fl') : Calls Tryd.prog 23 #[.pointer (some ⟨b, 0, none⟩)] W fun e w' => e = .returned (.tuple #[.int .i64 v, .int .i64 y]) ∧ RH w b g B j t r fl' flm w' := by
  have c := Take_any h.h.s.i
  rw [h1, h2, h3] at c
  exact c.mono fun e w' ⟨he, hi, hg⟩ => ⟨he, h.step hi hg⟩
theorem hcl (h : RH w b g B j t r fl flm W) {id y : Int} (h2 : clE fl id = y) (h3 : clF fl id = fl') : Calls Tryd.prog 19 #[.pointer (some ⟨b, 0, none⟩), .int .i64 id] W fun e w' => e = .returned (.int .i64 y) ∧ RH w b g B j t r fl' flm w' := by
  have c := Claim_any h.h.s.i id
  rw [h2, h3] at c
  exact c.mono fun e w' ⟨he, hi, hg⟩ => ⟨he, h.step hi hg⟩
theorem hfr (h : RH w b g B j t r fl flm W) {id y : Int} (h2 : frE fl id = y) (h3 : frF fl id = fl') : Calls Tryd.prog 16 #[.pointer (some ⟨b, 0, none⟩), .int .i64 id] W fun e w' => e = .returned (.int .i64 y) ∧ RH w b g B j t r fl' flm w' := by
  have c := Free_any h.h.s.i id
  rw [h2, h3] at c
  exact c.mono fun e w' ⟨he, hi, hg⟩ => ⟨he, h.step hi hg⟩
theorem hlen (h : HS w b g B j fl flm W) {v : Int} (h2 : ((fl.count true : Nat) : Int) = v) : Calls Tryd.prog 14 #[.pointer (some ⟨b, 0, none⟩)] W fun e w' => e = .returned (.int .i64 v) ∧ HS w b g B j fl flm w' := by
  have c := Len_any h.s.i
  rw [h2] at c
  exact c.mono fun e w' ⟨he, hw⟩ => ⟨he, hw ▸ h⟩
theorem hroom (h : HS w b g B j fl flm W) {v : Int} (h2 : (fl.length : Int) - ((fl.count true : Nat) : Int) = v) : Calls Tryd.prog 15 #[.pointer (some ⟨b, 0, none⟩)] W fun e w' => e = .returned (.int .i64 v) ∧ HS w b g B j fl flm w' := by
  have c := Room_any h.s.i
  rw [h2] at c
  exact c.mono fun e w' ⟨he, n, hw⟩ => ⟨he, hw ▸ h.below ⟨rfl, rfl, rfl, Nat.le_refl _, fun _ _ => rfl⟩⟩
/- while the map is ranged over -/
structure HR (w : World) (b g B j q : Nat) (fl : List Bool) (cnt : Nat) (W : World) : Prop where
  s : SI w b g fl W
  q0 : b < q ∧ g < q ∧ w.heap.size ≤ q
  m : ∃ (k : Nat) (D : DataW Unit) (left : Lit → Bool), k ≤ j ∧ W.ranges Tryd.prog 3 (plainElem Tryd.prog 4) B q k D left cnt ∧ MM D fl
  B0 : w.heap.size ≤ B
theorem HR.start {k : Nat} {D : DataW Unit} {left : Lit → Bool} {cnt : Nat} (h : HS w b g B j fl fl W) (hk : k ≤ j) (hD : MM D fl) (hr : W'.ranges Tryd.prog 3 (plainElem Tryd.prog 4) B W.heap.size k D left cnt) (hg : W.grownBy W' none) : HR w b g B j W.heap.size fl cnt W' :=
  ⟨h.s.below ⟨hg.os, hg.tape, hg.output, hg.size, fun i hi => hg.block i hi (by simp)⟩, ⟨h.s.i.blt, h.s.i.glt, h.s.f.size⟩, ⟨k, D, left, hk, hr, hD⟩, h.B0⟩
theorem HR.next {q k cnt cnt' : Nat} {D : DataW Unit} {left' : Lit → Bool} (h : HR w b g B j q fl cnt W) (hk : k ≤ j) (hD : MM D fl) (hr : W'.ranges Tryd.prog 3 (plainElem Tryd.prog 4) B q k D left' cnt') (hg : W.grownBy W' (some q)) : HR w b g B j q fl cnt' W' :=
  ⟨⟨h.s.i.grown hg (by have := h.q0.1; omega) (by have := h.q0.2.1; omega) (by have := h.q0.1; omega), below_grown h.s.f hg h.s.f.size h.q0.2.2, h.s.hb, h.s.hg⟩, h.q0, ⟨k, D, left', hk, hr, hD⟩, h.B0⟩
theorem ranges_drewN {q k cnt n : Nat} {D : DataW Unit} {left : Lit → Bool} (h : W.ranges Tryd.prog 3 (plainElem Tryd.prog 4) B q k D left cnt) : (W.drewN n).ranges Tryd.prog 3 (plainElem Tryd.prog 4) B q k D left cnt := h
theorem HR.drewN {q cnt : Nat} (h : HR w b g B j q fl cnt W) (n : Nat) : HR w b g B j q fl cnt (W.drewN n) := by
  obtain ⟨k, D, left, hk, hr, hD⟩ := h.m
  exact ⟨h.s.drewN n, h.q0, ⟨k, D, left, hk, ranges_drewN hr, hD⟩, h.B0⟩
theorem HR.done {q cnt : Nat} (h : HR w b g B j q fl cnt W) : HS w b g B j fl fl W := by
  obtain ⟨k, D, left, hk, ⟨es, clock, since, seen, c0, hb, F, hs, hD, _⟩, hm⟩ := h.m
  exact ⟨h.s, ⟨D, k, hk, ⟨es, clock, hb, F, hs, hD⟩, hm⟩, h.B0⟩
theorem hhas {q cnt : Nat} (h : HR w b g B j q fl cnt W) {id : Int} {x : Bool} (h2 : hasB fl id = x) : Calls Tryd.prog 20 #[.pointer (some ⟨b, 0, none⟩), .int .i64 id] W fun e w' => e = .returned (.bool x) ∧ HR w b g B j q fl cnt w' := by
  have c := Has_any h.s.i id
  rw [h2] at c
  exact c.mono fun e w' ⟨he, n, hw⟩ => ⟨he, hw ▸ h.drewN n⟩
end
end Go.Proofs.YtefncefmolphfaaDoor.idFn
