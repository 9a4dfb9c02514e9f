/- The law's own memory in one round: the call, the lists before it, where its id was, the map of ids seen. -/
import Derived.Test.YtklohgecgjlgeaaZoSmall
import Derived.Test.YtklohgecgjlgeaaZoHMath
import Derived.Deep.DeepCutAuto
import Derived.Deep.CutBlock
namespace Go.Proofs.Ytklohgecgjlgeaa.zoFn
open Go.ChangeShapes Go.WideShapes Go.ChangeAt Go.RowKit drMem
set_option linter.unusedVariables false
variable {F G : Nat → Prop} {w w' W W' : World} {b gl mb : Nat} {L M : List (List Int)}

structure BX (n1 n2 aB bB q : Nat) (r : ActR) (az fz : Int) (L : List (List Int)) (n : Nat) (vs : List Value) (W : World) : Prop where
  A : has W aB 51 [.int .i64 r.what, .int .i64 r.n, .int .i64 az, .slice r.sp r.list.length r.cap]
  B : has W bB 35 vs
  vn : vs.length = n
  R : ∀ j, j < n → rowAt W (vs.getD j d0) (row L j)
  o : ∀ j g, j < n → (vs.getD j d0).ownBlock = some g → n1 ≤ g ∧ g < n2
  C : ∃ c, has W q 33 [.int .i64 fz, c]
  la : n1 ≤ aB ∧ aB < n2
  lb : n1 ≤ bB ∧ bB < n2
  lq : n1 ≤ q ∧ q < n2
variable {n1 n2 aB bB q n : Nat} {r : ActR} {az fz : Int} {vs : List Value}
theorem BX.keep (h : BX n1 n2 aB bB q r az fz L n vs W) (hk : ∀ k, n1 ≤ k → k < n2 → W'.heap[k]? = W.heap[k]?) : BX n1 n2 aB bB q r az fz L n vs W' :=
  ⟨(hk _ h.la.1 h.la.2).trans h.A, (hk _ h.lb.1 h.lb.2).trans h.B, h.vn, fun j hj => (h.R j hj).keep fun g e => hk g (h.o j g hj e).1 (h.o j g hj e).2, h.o, h.C.imp fun c hc => (hk _ h.lq.1 h.lq.2).trans hc, h.la, h.lb, h.lq⟩
theorem BX.below {B : Nat} (h : BX n1 n2 aB bB q r az fz L n vs W) (hb : Below B W W') (hB : n2 ≤ B) : BX n1 n2 aB bB q r az fz L n vs W' := h.keep fun k _ hk => hb.block k (by omega)
theorem BX.grown {s : Nat} (h : BX n1 n2 aB bB q r az fz L n vs W) (hb : W.grownBy W' (some s)) (hs : n2 ≤ s) (h2 : n2 ≤ W.heap.size) : BX n1 n2 aB bB q r az fz L n vs W' := h.keep fun k _ hk => hb.block k (by omega) (by intro e; cases e; omega)
theorem BX.keepF (h : BX n1 n2 aB bB q r az fz L n vs W) (hb : KeepF F W W') (hF : ∀ k, n1 ≤ k → k < n2 → F k) : BX n1 n2 aB bB q r az fz L n vs W' := h.keep fun k h1 h2 => hb.block k (hF k h1 h2)
theorem BX.at (h : BX n1 n2 aB bB q r az fz L n vs W) {i : Nat} (hi : i < n) : W.cell? ⟨bB, i, none⟩ = some (vs.getD i d0) := by
  rw [h.B.cell, List.getD_eq_getElem?_getD, List.getElem?_eq_getElem (by rw [h.vn]; exact hi)]; rfl
theorem BX.id (h : BX n1 n2 aB bB q r az fz L n vs W) : W.cell? ⟨aB, 1, none⟩ = some (.int .i64 r.n) := h.A.cell 1
theorem BX.zone (h : BX n1 n2 aB bB q r az fz L n vs W) : W.cell? ⟨aB, 2, none⟩ = some (.int .i64 az) := h.A.cell 2
theorem BX.whence (h : BX n1 n2 aB bB q r az fz L n vs W) : W.cell? ⟨q, 0, none⟩ = some (.int .i64 fz) := by obtain ⟨c, hc⟩ := h.C; exact hc.cell 0
theorem BX.unzone (h : BX n1 n2 aB bB q r az fz L n vs W) (hab : aB ≠ bB) (haq : aB ≠ q) : BX n1 n2 aB bB q r (-1) fz L n vs (W.setCell ⟨aB, 2, none⟩ (.int .i64 (-1))) := by
  have far : ∀ k, k ≠ aB → (W.setCell ⟨aB, 2, none⟩ (.int .i64 (-1))).heap[k]? = W.heap[k]? := fun k hk => Below.heap_setCell W ⟨aB, 2, none⟩ _ k hk
  exact ⟨h.A.put 2 (.int .i64 (-1)), (far _ (Ne.symm hab)).trans h.B, h.vn, fun j hj => (h.R j hj).keep fun g e => far g ((h.R j hj).box e h.A (by decide)), h.o, h.C.imp fun c hc => (far _ (Ne.symm haq)).trans hc, h.la, h.lb, h.lq⟩
/- while the lists are read: the first i of them lie in the law's slice -/
structure PB (wr : World) (n1 : Nat) (r : ActR) (L : List (List Int)) (n i : Nat) (W : World) : Prop where
  A : has W n1 51 [.int .i64 r.what, .int .i64 r.n, .int .i64 r.many, .slice r.sp r.list.length r.cap]
  B : ∃ vs, has W (n1 + 1) 35 vs ∧ vs.length = n ∧ (∀ j, j < i → rowAt W (vs.getD j d0) (row L j)) ∧ (∀ j g, j < i → (vs.getD j d0).ownBlock = some g → n1 ≤ g)
  f : Below n1 wr W
variable {wr : World} {i : Nat}
theorem PB.below {B : Nat} (h : PB wr n1 r L n i W) (hb : Below B W W') (hB : W.heap.size ≤ B) (h1 : n1 ≤ W.heap.size) : PB wr n1 r L n i W' := by
  obtain ⟨vs, v1, v2, v3, v4⟩ := h.B
  have hA := h.A.lt
  have hV := v1.lt
  exact ⟨h.A.below hb (by omega), ⟨vs, v1.below hb (by omega), v2, fun j hj => (v3 j hj).keep fun g e => hb.block g (by have := (v3 j hj).lt e; omega), v4⟩, h.f.trans (hb.mono (by omega))⟩
theorem PB.step (h : PB wr n1 r L n i W) (hi : i < n) {v : Value} (hr : rowAt W v (row L i)) (ho : ∀ g, v.ownBlock = some g → n1 ≤ g) : PB wr n1 r L n (i + 1) (W.setCell ⟨n1 + 1, i, none⟩ v) := by
  obtain ⟨vs, v1, v2, v3, v4⟩ := h.B
  have far : ∀ k, k ≠ n1 + 1 → (W.setCell ⟨n1 + 1, i, none⟩ v).heap[k]? = W.heap[k]? := fun k hk => Below.heap_setCell W ⟨n1 + 1, i, none⟩ v k hk
  have tne : 35 ≠ 3 := by decide
  refine ⟨(far n1 (by omega)).trans h.A, ⟨vs.set i v, v1.put i v, by simp [v2], fun j hj => ?_, fun j g hj e => ?_⟩, h.f.setCell (p := ⟨n1 + 1, i, none⟩) (by show n1 ≤ n1 + 1; omega) _⟩
  · rw [getD_set _ _ _ _ (by rw [v2]; exact hi)]
    split
    · next e => subst e; exact hr.keep fun g e => far g (hr.box e v1 tne)
    · next e =>
      have hr2 := v3 j (by omega)
      exact hr2.keep fun g e => far g (hr2.box e v1 tne)
  · rw [getD_set _ _ _ _ (by rw [v2]; exact hi)] at e
    split at e
    · exact ho g e
    · next ee => exact v4 j g (by omega) e
theorem PB.cell (h : PB wr n1 r L n i W) (hi : i < n) : (∃ u, W.cell? ⟨n1 + 1, i, none⟩ = some u) ∧ W.frozen? ⟨n1 + 1, i, none⟩ = false := by
  obtain ⟨vs, v1, v2, _⟩ := h.B
  refine ⟨⟨vs.getD i d0, ?_⟩, v1.free i⟩
  rw [v1.cell, List.getD_eq_getElem?_getD, List.getElem?_eq_getElem (by rw [v2]; exact hi)]; rfl
theorem PB.id (h : PB wr n1 r L n i W) : W.cell? ⟨n1, 1, none⟩ = some (.int .i64 r.n) := h.A.cell 1
/- the lists are read, and it is known where the id was -/
theorem PB.box (h : PB wr n1 r L n n W) {q : Nat} {fz : Int} {c : Value} (hq : has W q 33 [.int .i64 fz, c]) (hqn : n1 ≤ q) : ∃ vs, BX n1 W.heap.size n1 (n1 + 1) q r r.many fz L n vs W := by
  obtain ⟨vs, v1, v2, v3, v4⟩ := h.B
  exact ⟨vs, h.A, v1, v2, v3, fun j g hj e => ⟨v4 j g hj e, (v3 j hj).lt e⟩, ⟨c, hq⟩, ⟨Nat.le_refl _, h.A.lt⟩, ⟨by omega, v1.lt⟩, ⟨hqn, hq.lt⟩⟩
/- what the caller keeps: its own beginning, and the boxes of this round; then the map, too; then the list read last -/
def fF (w : World) (n1 n2 : Nat) : Nat → Prop := fun k => k < w.heap.size ∨ (n1 ≤ k ∧ k < n2)
def gF (w : World) (n1 n2 s : Nat) : Nat → Prop := fun k => fF w n1 n2 k ∨ k = s
def kF (w : World) (n1 n2 s : Nat) (v : Value) : Nat → Prop := fun k => gF w n1 n2 s k ∨ v.ownBlock = some k
theorem ZF.round (h : ZF (fun k => k < w.heap.size) w b gl mb L wr) (hb : Below wr.heap.size wr W) : ZF (fF w wr.heap.size W.heap.size) w b gl mb L W :=
  h.keepB hb (fun k hk => by have h1 := h.f.size; have h2 := hb.size; rcases hk with hk | hk <;> omega) (fun k hk hl => by rcases hk with hk | hk; exact hk; omega) (fun k hk => .inl hk)
theorem ZF.old (h : ZF F w b gl mb L W) : ZF (fun k => k < w.heap.size) w b gl mb L W := ⟨h.z.weaken h.hF, h.f, fun k hk => hk⟩
theorem ZF.put2 (h : ZF (fF w n1 n2) w b gl mb L W) {a i : Nat} (u : Value) (ha : n1 ≤ a ∧ a < n2) (hw : w.heap.size ≤ n1) : ZF (fF w n1 n2) w b gl mb L (W.setCell ⟨a, i, none⟩ u) :=
  h.keepG (grown_set W ⟨a, i, none⟩ u) (fun g e => by cases e; exact ⟨by show w.heap.size ≤ a; omega, fun _ => .inr ha⟩) (fun k hk => by have := h.z.ft k hk; simp [World.setCell]; omega) (fun k hk _ => hk) h.hF
/- the map of the ids that were seen -/
structure SM (D : DataW Unit) (f : Int → Bool) : Prop where
  m : Maps.IsMap D
  a : ∀ x, D.atKey (.int .i64 x) (.lit (.bool false)) = .lit (.bool (f x))
theorem SM.none : SM (.map []) (fun _ => false) := ⟨⟨_, rfl⟩, fun _ => rfl⟩
theorem SM.put {D : DataW Unit} {f f' : Int → Bool} (h : SM D f) (k : Int) (h1 : f' k = true) (h2 : ∀ x, x ≠ k → f' x = f x) : SM (D.put (.int .i64 k) (.lit (.bool true))) f' := by
  have hk : WideAt.IsKeyLit (.int .i64 k) := trivial
  have hne : ∀ x, x ≠ k → (Lit.int .i64 x) ≠ .int .i64 k := fun x hx e => by injection e with _ e; exact hx e
  refine ⟨h.m.put _ _, fun x => ?_⟩
  by_cases hx : x = k
  · subst hx; rw [Maps.atKey_put_same h.m hk, h1]
  · rw [Maps.atKey_put_other (hne x hx), h.a x, h2 x hx]
def seenF (M : List (List Int)) (i k : Nat) (x : Int) : Bool := (List.range i).any (fun j => decide (x ∈ row M j)) || decide (x ∈ (row M i).take k)
theorem seen_zero (M : List (List Int)) : seenF M 0 0 = fun _ => false := by funext x; simp [seenF]
theorem seen_next (M : List (List Int)) (i : Nat) : seenF M i (row M i).length = seenF M (i + 1) 0 := by
  funext x
  unfold seenF
  rw [List.take_length, List.range_succ, List.any_append]
  simp
theorem seen_no {M : List (List Int)} (g : Good M) {i k : Nat} (hk : k < (row M i).length) : seenF M i k ((row M i).getD k 0) = false := by
  have hm := getD_mem hk
  have e : (row M i).getD k 0 = (row M i)[k] := by rw [List.getD_eq_getElem?_getD, List.getElem?_eq_getElem hk]; rfl
  unfold seenF
  rw [Bool.or_eq_false_iff]
  refine ⟨?_, ?_⟩
  · rw [List.any_eq_false]
    intro j hj hx
    have hj' := List.mem_range.1 hj
    have := g.dj j i _ (of_decide_eq_true hx) hm
    omega
  · apply decide_eq_false
    intro hx
    have hn := g.nd i
    rw [← List.take_append_drop (k + 1) (row M i), List.take_succ_eq_append_getElem hk, ← e] at hn
    exact (List.nodup_append.1 (List.nodup_append.1 hn).1).2.2 _ hx ((row M i).getD k 0) (by simp) rfl
theorem seen_put {M : List (List Int)} {i k : Nat} (hk : k < (row M i).length) : seenF M i (k + 1) ((row M i).getD k 0) = true ∧ ∀ x, x ≠ (row M i).getD k 0 → seenF M i (k + 1) x = seenF M i k x := by
  have e : (row M i).getD k 0 = (row M i)[k] := by rw [List.getD_eq_getElem?_getD, List.getElem?_eq_getElem hk]; rfl
  unfold seenF
  rw [List.take_succ_eq_append_getElem hk, ← e]
  refine ⟨by simp, fun x hx => ?_⟩
  have : (x ∈ (row M i).take k ++ [(row M i).getD k 0]) ↔ x ∈ (row M i).take k := by rw [List.mem_append, List.mem_singleton]; exact ⟨fun h => h.resolve_right hx, .inl⟩
  simp only [this]
theorem plainElem_bool_inv {P : Program} {e : TypeId} (he : P.underlying e = some .bool) {v : Value} {z : DataW Unit × List MemPlace} (h : plainElem P e v = some z) : ∃ a, v = .bool a ∧ z = (.lit (.bool a), []) := by
  unfold plainElem at h
  rw [he] at h
  cases v <;> simp at h
  subst h
  exact ⟨_, rfl, rfl⟩
theorem wpList_lookup_own_bool {P : Program} (w : World) {ops : Array Oper} {rest : List Oper} {o : Oper} {a : Act} {Q : Exit → Act → World → Prop}
    (hg : o.guard = none) (m x : Operand) (t : TypeId) (hop : o.op = Op.lookup t m x false)
    (k e : TypeId) (K : Maps.Keyed P k) (ht : P.underlying t = some (.map k e)) (he : P.underlying e = some .bool) (hz : (zeroValue e).run P w = .ok (.bool false) w) (b n : Nat) (D : DataW Unit)
    (hm : a.eval m = .map (some b)) (hown : w.ownsMap P k (plainElem P e) b n D) (key : Value) (kl : Lit) (hx : a.eval x = key) (hkey : keyOf P k key = some kl) (c : Bool) (hc : D.atKey kl (.lit (.bool false)) = .lit (.bool c))
    (hK : wpList P ops Q rest (a.put o.dst (.bool c)) w) :
    wpList P ops Q (o :: rest) a w := by
  refine wpList_plain hg fun K' hK' => ?_
  obtain ⟨v, ps, hrun, hv⟩ := hown.lookup K ht hz (plainElem_bool he false) hkey
  obtain ⟨c', rfl, hcc⟩ := plainElem_bool_inv he hv
  have e2 : c' = c := by
    have h1 := (Prod.mk.inj hcc).1
    rw [hc] at h1
    injection h1 with h1
    injection h1 with h1
    exact h1.symm
  subst e2
  unfold Oper.wp
  simp [execOp, hop, hm, hx, hrun, Result.andThen]
  exact hK' _ _ hK
theorem where_f (h : ZF F w b gl mb L W) {x a c no : Int} (hx : i64ok x) (h1 : whB L x a c no = true) : Calls Try.prog 15 #[.pointer (some ⟨b, 0, none⟩), .int .i64 x, .agg #[.int .i64 a, .int .i64 c], .int .i64 no] W (boolB true W) := by
  have c := where_any h.z x a c no hx
  rw [h1] at c
  exact c
end Go.Proofs.Ytklohgecgjlgeaa.zoFn
