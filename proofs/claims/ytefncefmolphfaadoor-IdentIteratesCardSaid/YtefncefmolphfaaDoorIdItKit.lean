/- What a round of the range over the ids keeps. -/
import Derived.Test.YtefncefmolphfaaDoorIdSeqK
import Derived.Test.YtefncefmolphfaaDoorIdDoX
import Derived.LoopN
namespace Go.Proofs.YtefncefmolphfaaDoor.idFnX
open Go.ChangeShapes Go.WideShapes Go.ChangeAt Go.RowKit Go.Shelf drMem idBits idFn
set_option linter.unusedVariables false

/- the caller's variables in memory: most, many, the answer, the ids' pointer -/
structure XB (r m : Nat) (mn : Int) (z p : Nat) (W : World) : Prop where
  c3 : has W r 3 [.int .i64 (m : Int)]
  c5 : has W (r + 1) 3 [.int .i64 mn]
  c6 : has W (r + 1 + 1) 4 [.bool false]
  c7 : has W z 24 [.pointer (some ⟨p, 0, none⟩)]
theorem XB.k (r m : Nat) (mn : Int) (z p : Nat) : XK (XB r m mn z p) :=
  ⟨fun W W' h hb => ⟨h.c3.below hb h.c3.lt, h.c5.below hb h.c5.lt, h.c6.below hb h.c6.lt, h.c7.below hb h.c7.lt⟩,
   fun W W' b g fl h hi hg => by
    obtain ⟨_, hr⟩ := hi.r
    exact ⟨h.c3.grown hg (by simpa using h.c3.ne hr (by decide)), h.c5.grown hg (by simpa using h.c5.ne hr (by decide)), h.c6.grown hg (by simpa using h.c6.ne hr (by decide)), h.c7.grown hg (by simpa using h.c7.ne hr (by decide))⟩⟩
section
variable {w W W' : World} {r m z p b g q c : Nat} {mn : Int} {fl : List Bool}
theorem PI.put (h : PI w (XB r m mn z p) b g fl q c fl W) (hz : w.heap.size ≤ z) (hz0 : z ≠ 0) : PI w (XB r m mn z b) b g fl q c fl (W.setCell ⟨z, 0, none⟩ (.pointer (some ⟨b, 0, none⟩))) := by
  have hg := grown_set W ⟨z, 0, none⟩ (.pointer (some ⟨b, 0, none⟩))
  have x := h.x
  obtain ⟨_, hd⟩ := h.s.i.d
  obtain ⟨_, hr⟩ := h.s.i.r
  exact ⟨⟨h.s.i.grown hg (hd.ne x.c7 (by decide)) (hr.ne x.c7 (by decide)) hz0, below_grown h.s.f hg h.s.f.size hz, h.s.hb, h.s.hg⟩, h.r.grown x.c7 (by decide) hg,
    ⟨x.c3.grown hg (by simpa using x.c3.ne x.c7 (by decide)), x.c5.grown hg (by simpa using x.c5.ne x.c7 (by decide)), x.c6.grown hg (by simpa using x.c6.ne x.c7 (by decide)), x.c7.put 0 _⟩, XB.k _ _ _ _ _⟩
end
/- what the rounds of the range do not write -/
structure CN (n₁ g r m : Nat) (mn : Int) (z b zs : Nat) (sv : Option Addr) (cnt cv zt : Nat) (turn : Int) (q b' g' : Nat) (ws : List Int) (fl0 : List Bool) (A : World) : Prop where
  x : XB r m mn z b A
  c13 : has A zs 38 [.slice sv cnt cv]
  c15 : has A zt 3 [.int .i64 turn]
  s : 0 < ws.length → ∃ hb off, sv = some ⟨hb, off, none⟩ ∧ hb < n₁ ∧ hb ≠ g ∧ ∀ j u, (is ws)[j]? = some u → A.cell? ⟨hb, off + j, none⟩ = some u
  it : isI A b' g' fl0
  cq : A.cell? ⟨q, 0, none⟩ = some (.pointer (some ⟨b', 0, none⟩))
structure CB (n₁ g r z zs zt q b' g' : Nat) : Prop where
  l3 : r + 1 + 1 < n₁
  l7 : z < n₁
  l13 : zs < n₁
  l15 : zt < n₁
  lq : q < n₁
  lb : b' < n₁
  lg : g' < n₁
  n3 : r ≠ g
  n5 : r + 1 ≠ g
  n6 : r + 1 + 1 ≠ g
  n7 : z ≠ g
  n13 : zs ≠ g
  n15 : zt ≠ g
  nq : q ≠ g
  nb : b' ≠ g
  ng : g' ≠ g
  g0 : 0 ≠ g
  gl : g < n₁
section
variable {n₁ g r m z b zs cnt cv zt q b' g' : Nat} {mn turn : Int} {sv : Option Addr} {ws : List Int} {fl0 : List Bool} {A W W' : World}
theorem CN.keep (h : CN n₁ g r m mn z b zs sv cnt cv zt turn q b' g' ws fl0 A) (c : CB n₁ g r z zs zt q b' g') (k : KF n₁ g A W) : CN n₁ g r m mn z b zs sv cnt cv zt turn q b' g' ws fl0 W := by
  have l3 := c.l3
  refine ⟨⟨k.has h.x.c3 (by omega) c.n3, k.has h.x.c5 (by omega) c.n5, k.has h.x.c6 (by omega) c.n6, k.has h.x.c7 c.l7 c.n7⟩, k.has h.c13 c.l13 c.n13, k.has h.c15 c.l15 c.n15, ?_, k.isI h.it c.lb c.nb c.lg c.ng (by omega) c.g0, (k.cell c.lq c.nq).trans h.cq⟩
  intro h0
  obtain ⟨hb, off, e, h1, h2, hc⟩ := h.s h0
  exact ⟨hb, off, e, h1, h2, fun j u hu => (k.cell h1 h2).trans (hc j u hu)⟩
end
/- what a round of the range writes: the ids' words, and the count -/
structure BD (w A : World) (n₁ b g m k : Nat) (W : World) : Prop where
  f : KF n₁ g A W
  lb : Below w.heap.size w W
  c16 : has W n₁ 3 [.int .i64 (k : Int)]
  i : ∃ fl, isI W b g fl ∧ fl.length = m
structure GK (n₁ g : Nat) (W W' : World) : Prop where
  f : KF n₁ g W W'
  k : KeepsFrom (n₁ + 1) W W'
section
variable {w A W W' W'' : World} {n₁ b g m k k' : Nat} {fl : List Bool}
theorem GK.trans (h : GK n₁ g W W') (h' : GK n₁ g W' W'') : GK n₁ g W W'' := ⟨h.f.trans h'.f, h.k.trans h'.k⟩
theorem BD.step (h : BD w A n₁ b g m k W) (hw : w.heap.size ≤ g) (hn : g < n₁) (hi : isI W' b g fl) (hl : fl.length = m) (hg : W.grownBy W' (some g)) : BD w A n₁ b g m k W' ∧ GK n₁ g W W' := by
  have k1 : KF n₁ g W W' := KF.of_grown hg (Nat.le_of_lt h.c16.lt) (fun r e => by cases e; exact .inl rfl)
  exact ⟨⟨h.f.trans k1, below_grown h.lb hg h.lb.size hw, h.c16.grown hg (by simp; omega), fl, hi, hl⟩, k1, KeepsFrom.of_grownBy hg (fun r e => by cases e; omega)⟩
theorem BD.put (h : BD w A n₁ b g m k W) (hw : w.heap.size ≤ n₁) (h0 : 0 < n₁) (hb : b < n₁) (hn : g < n₁) (k' : Nat) : BD w A n₁ b g m k' (W.setCell ⟨n₁, 0, none⟩ (.int .i64 (k' : Int))) ∧ GK n₁ g W (W.setCell ⟨n₁, 0, none⟩ (.int .i64 (k' : Int))) := by
  have hg := grown_set W ⟨n₁, 0, none⟩ (.int .i64 (k' : Int))
  have k1 : KF n₁ g W (W.setCell ⟨n₁, 0, none⟩ (.int .i64 (k' : Int))) := KF.of_grown hg (Nat.le_of_lt h.c16.lt) (fun r e => by cases e; exact .inr (Nat.le_refl _))
  obtain ⟨fl, hi, hl⟩ := h.i
  exact ⟨⟨h.f.trans k1, below_grown h.lb hg h.lb.size hw, h.c16.put 0 _, fl, hi.grown hg (by show b ≠ n₁; omega) (by show g ≠ n₁; omega) (by show n₁ ≠ 0; omega), hl⟩, k1, KeepsFrom.of_grownBy hg (fun r e => by cases e; show n₁ < n₁ + 1; omega)⟩
theorem BD.kept {row : Option Nat} (h : BD w A n₁ b g m k W) (hw : w.heap.size ≤ n₁) (h0 : 0 < n₁) (hb : b < n₁) (hn : g < n₁) (hg : W.grownBy W' row) (hr : ∀ r, row = some r → n₁ + 1 ≤ r) : BD w A n₁ b g m k W' := by
  obtain ⟨fl, hi, hl⟩ := h.i
  have k1 : KF n₁ g W W' := KF.of_grown hg (Nat.le_of_lt h.c16.lt) (fun r e => by have := hr r e; omega)
  have k2 : ∀ i, i < n₁ → W'.heap[i]? = W.heap[i]? := fun i hi => hg.block i (by have := h.c16.lt; omega) (fun e => by have := hr i e.symm; omega)
  refine ⟨h.f.trans k1, h.lb.grown hg h.lb.size (fun r e => by have := hr r e; omega), h.c16.grown hg (fun e => by have := hr _ e.symm; omega), fl, ?_, hl⟩
  exact ⟨hi.d.imp fun _ y => (k2 b hb).trans y, hi.r.imp fun _ y => (k2 g hn).trans y, hi.l1, hi.l2, hi.b0, hi.g0, fun j hj => (World.cell?_of_block (k2 0 h0)).trans (hi.t j hj)⟩
end
section
variable {w W V : World} {g r m z b zs cnt cv zt q b' g' : Nat} {mn turn : Int} {sv : Option Addr} {ws : List Int} {fl fl0 : List Bool}
theorem cn_start (hi : isI W b g fl) (hl : fl.length = m) (hx : XB r m mn z b W) (h13 : has W zs 38 [.slice sv cnt cv]) (hs : src W sv (is ws)) (ha : ∀ a, sv = some a → g < a.block) (hit : isI W b' g' fl0)
    (hcq : W.cell? ⟨q, 0, none⟩ = some (.pointer (some ⟨b', 0, none⟩))) (hq : g < q) (hg : g < g') (hlb : Below w.heap.size w W) (hb : Below W.heap.size W V) (hV : has V zt 3 [.int .i64 turn]) :
    CN V.heap.size g r m mn z b zs sv cnt cv zt turn q b' g' ws fl0 (V.alloc (.cells #[.int .i64 0] 3)) ∧ CB V.heap.size g r z zs zt q b' g' ∧ BD w (V.alloc (.cells #[.int .i64 0] 3)) V.heap.size b g m 0 (V.alloc (.cells #[.int .i64 0] 3)) ∧ b < V.heap.size ∧ w.heap.size ≤ V.heap.size := by
  obtain ⟨_, hr⟩ := hi.r
  obtain ⟨_, hd⟩ := hit.d
  have hr2 := hr.below hb hr.lt
  have hsz := hb.size
  have l6 := hx.c6.lt
  have l7 := hx.c7.lt
  have l13 := h13.lt
  have lq : q < W.heap.size := World.block_lt_of_cell? _ _ hcq
  have lb := hit.blt
  have lg := hit.glt
  have lgg := hi.glt
  have lbb := hi.blt
  have hb2 : Below W.heap.size W (V.alloc (.cells #[.int .i64 0] 3)) := hb.alloc hsz _
  refine ⟨⟨(XB.k r m mn z b).b _ _ hx hb2, h13.below hb2 l13, hV.alloc _, ?_, hit.belowW hb2, (hb2.cell (p := ⟨q, 0, none⟩) lq).trans hcq⟩, ?_, ?_, by omega, Nat.le_trans hlb.size hsz⟩
  · intro h0
    obtain ⟨k, off, e, h1, hc⟩ := hs (by rw [is_len]; exact h0)
    exact ⟨k, off, e, by omega, by have := ha _ e; show k ≠ g; exact Nat.ne_of_gt this, fun j u hu => (hb2.cell (p := ⟨k, off + j, none⟩) (by show k < _; omega)).trans (hc j u hu)⟩
  · exact ⟨by omega, by omega, by omega, hV.lt, by omega, by omega, by omega, hx.c3.ne hr (by decide), hx.c5.ne hr (by decide), hx.c6.ne hr (by decide), hx.c7.ne hr (by decide), h13.ne hr (by decide), hV.ne hr2 (by decide), by omega, hd.ne hr (by decide), by omega, by have := hi.g0; omega, by omega⟩
  · exact ⟨KF.refl _ _ _, hlb.trans (hb2.mono hlb.size), has.new V _ [.int .i64 0], fl, hi.belowW hb2, hl⟩
end
/- the range's invariant: the ids that came are the first of those that are wanted -/
structure II (w A : World) (n₁ b g m : Nat) (mn turn : Int) (ws pre : List Int) (W : World) : Prop where
  b : BD w A n₁ b g m pre.length W
  p : pre <+: ws
  t : turn = 0 → pre.length = 0 ∨ (pre.length : Int) < mn
/- at a break -/
structure IB (w A : World) (n₁ b g m : Nat) (mn : Int) (ws pre : List Int) (W : World) : Prop where
  b : BD w A n₁ b g m pre.length W
  p : pre <+: ws
  t : 1 ≤ pre.length ∧ mn ≤ (pre.length : Int) ∧ (pre.length = 1 ∨ (pre.length : Int) - 1 < mn)
def IX (w A : World) (n₁ b g m : Nat) (mn turn : Int) (ws : List Int) (c : Code) (pre : List Int) (W : World) : Prop :=
  (c = .ret ∧ ¬ pre <+: ws) ∨ (c = .exit 4 ∧ turn = 0 ∧ IB w A n₁ b g m mn ws pre W)
theorem II.own {w A : World} {n₁ b g m : Nat} {mn turn : Int} {ws : List Int} (hw : w.heap.size ≤ n₁) (h0 : 0 < n₁) (hb : b < n₁) (hn : g < n₁) : OwnFrom (n₁ + 1) (II w A n₁ b g m mn turn ws) :=
  fun s W W' row h hg hr => ⟨h.b.kept hw h0 hb hn hg (fun r e => (hr r e).1), h.p, h.t⟩
theorem IX.own {w A : World} {n₁ b g m : Nat} {mn turn : Int} {ws : List Int} (hw : w.heap.size ≤ n₁) (h0 : 0 < n₁) (hb : b < n₁) (hn : g < n₁) (c : Code) : OwnFrom (n₁ + 1) (IX w A n₁ b g m mn turn ws c) :=
  fun s W W' row h hg hr => h.imp id fun ⟨e, e2, h⟩ => ⟨e, e2, h.b.kept hw h0 hb hn hg (fun r e => (hr r e).1), h.p, h.t⟩
theorem KF.ofPut {n₁ g : Nat} (W : World) (l : Nat) (o o' : Obj) (hl : n₁ ≤ l) : KF n₁ g W (W.putObj l o') :=
  ⟨rfl, rfl, rfl, by simp [World.putObj], fun i h1 h2 => World.putObj_heap_other (by omega)⟩
/- the iterator's contract, for a body that keeps what KF says -/
theorem seq_kf (n : Nat) (hn : 1 ≤ n) (q b' g' n₁ g : Nat) (fl : List Bool) (w : World) (hq : q < n₁) (hb : b' < n₁) (hg : g' < n₁) (hqg : q ≠ g) (hbg : b' ≠ g) (hgg : g' ≠ g) (h0 : 0 < n₁) (hg0 : 0 ≠ g) (hn₁ : n₁ ≤ w.heap.size)
    (hc : w.cell? ⟨q, 0, none⟩ = some (.pointer (some ⟨b', 0, none⟩))) (hI : isI w b' g' fl) :
    SeqStopsK Fence.wide n Tryd.prog 33 #[.pointer (some ⟨q, 0, none⟩)] (fun x : Int => #[Value.int .i64 x]) (KF n₁ g) (fun ys => ys = ids fl fl.length) (fun pre => pre <+: ids fl fl.length) fl.length w := fun l J Jx W hW hJ _ hY h00 => by
  have hbw := hI.blt
  have hgw := hI.glt
  refine seq_inK n hn l q b' g' fl (KF n₁ g) (KF.refl _ _) (fun _ _ _ => KF.trans) (fun A m => KF.drewN A m) (fun A B k x => k.isI x hb hbg hg hgg h0 hg0) (fun A B v k x => (k.cell hq hqg).trans x) J Jx (fun pre A m hA => hJ pre A _ none hA ⟨rfl, rfl, rfl, Nat.le_refl _, fun _ _ _ => rfl⟩ (by simp)) hY W ((hW.cell (p := ⟨q, 0, none⟩) (by show q < _; omega)).trans hc) (hI.below hW (by omega) (by omega)) h00
/- one more id: is it the wanted one? -/
theorem pre_yes {ws pre : List Int} {x : Int} (h : pre <+: ws) (h1 : ws[pre.length]? = some x) : pre ++ [x] <+: ws := by
  obtain ⟨t, rfl⟩ := h
  rw [List.getElem?_append_right (Nat.le_refl _), Nat.sub_self] at h1
  cases t with
  | nil => simp at h1
  | cons y t => simp at h1; subst h1; exact ⟨t, by simp⟩
theorem pre_no {ws pre : List Int} {x : Int} (h1 : ws[pre.length]? ≠ some x) : ¬ pre ++ [x] <+: ws := by
  rintro ⟨t, rfl⟩
  apply h1
  simp
/- a range that ends of itself or by a break: on with what both have in common -/
theorem wp_join {P : Program} {c : Code} {id : Nat} {Q : Exit → Act → World → Prop} {a : Act} {w : World} (F : Nat → World → Prop)
    (h1 : c.wp P (fun e a' w' => (e = .normal ∨ e = .exit id) ∧ ∃ D : Nat, a' = { a with defers := { target := .collected D, args := #[] } :: a.defers } ∧ F D w') a w)
    (h2 : ∀ (D : Nat) w', F D w' → Q .normal { a with defers := { target := .collected D, args := #[] } :: a.defers } w') : c.wp P (Exit.inBlock id Q) a w := by
  refine wp_mono h1 ?_
  rintro e a' w' ⟨rfl | rfl, D, rfl, hF⟩
  · exact h2 D w' hF
  · show (if id = id then _ else _)
    rw [if_pos rfl]
    exact h2 D w' hF
theorem res6 (tmps : Array Value) (W : World) (g : Nat) (hp : tmps.getD 6 undef = .pointer (some ⟨g, 0, none⟩)) (hc : W.cell? ⟨g, 0, none⟩ = some (.bool true)) :
    (results Tryd.f5 tmps).run Tryd.prog W = .ok (.bool true) W := by
  have hp' : tmps[6]?.getD undef = .pointer (some ⟨g, 0, none⟩) := by simpa using hp
  simp [results, hp', asAddr, go_sem, hc]
end Go.Proofs.YtefncefmolphfaaDoor.idFnX
