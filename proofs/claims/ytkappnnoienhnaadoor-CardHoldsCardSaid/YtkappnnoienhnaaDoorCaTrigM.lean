/- The triggers that the reader has read, in memory. -/
import Derived.Test.YtkappnnoienhnaaDoorCaCardM
namespace Go.Proofs.YtkappnnoienhnaaDoor.caFn
open Go.ChangeShapes Go.WideShapes Go.ChangeAt Go.RowKit drMem efFn
set_option linter.unusedVariables false

theorem _root_.Go.World.grownBy.trans_own {a b c : World} {g : Nat} {vb : Option Nat} (h : a.grownBy b (some g)) (k : b.grownBy c vb) (hv : ∀ q, vb = some q → a.heap.size ≤ q) : a.grownBy c (some g) :=
  ⟨k.os.trans h.os, k.tape.trans h.tape, k.output.trans h.output, Nat.le_trans h.size k.size, fun i hi hr => (k.block i (Nat.lt_of_lt_of_le hi h.size) (fun e => by have := hv i e.symm; omega)).trans (h.block i hi hr)⟩
structure Tx where
  w : Int
  s : Option Addr
  n : Nat
  c : Nat
instance : Inhabited Tx := ⟨⟨0, none, 0, 0⟩⟩
abbrev Tx.l (x : Tx) : List Value := [.int .i64 x.w, .slice x.s x.n x.c]
def txC (xs : List Tx) : List Value := xs.flatMap Tx.l
theorem txC_len (l : List Tx) : (txC l).length = 2 * l.length := by
  induction l with
  | nil => rfl
  | cons a r ih => simp only [txC, List.flatMap_cons, List.length_append, List.length_cons] at *; simp at *; omega
theorem txC_app (a b : List Tx) : txC (a ++ b) = txC a ++ txC b := by simp [txC]
theorem txC_get (l : List Tx) (i j : Nat) (e : Tx) (h : l[i]? = some e) (hj : j < 2) : (txC l)[i * 2 + j]? = e.l[j]? := by
  induction l generalizing i with
  | nil => simp at h
  | cons a r ih =>
    have ea : txC (a :: r) = a.l ++ txC r := by simp [txC]
    have hl : a.l.length = 2 := rfl
    rw [ea]
    cases i with
    | zero =>
      simp at h
      subst h
      rw [List.getElem?_append_left (by omega)]
      simp
    | succ i =>
      rw [List.getElem?_append_right (by omega), hl]
      rw [show (i + 1) * 2 + j - 2 = i * 2 + j by omega]
      exact ih i (by simpa using h)
/- effects that do not lie in the block vb -/
def EfsX (W : World) (B : Nat) (vb : Option Nat) (sp : Option Addr) (n : Nat) (l : List Ef) : Prop := EfsAt W sp n l ∧ (∀ a, sp = some a → 0 < n → vb ≠ some a.block) ∧ ∀ a, sp = some a → 0 < n → B ≤ a.block
section
variable {W W' w : World} {sp es : Option Addr} {n en : Nat} {g : Nat} {s s' : Rd} {v v' : Value} {l ef : List Ef} {vb vb' : Option Nat} {B : Nat} {hd : Value → List Value} {k : Nat} {xs : List Tx}
theorem EfsX.call (h : EfsX W B vb sp n l) {t : TypeId} {s0 : Option Addr} {n0 c0 : Nat} {e0 : Int} (hg : has W g t [.slice s0 n0 c0, .int .i64 e0]) (hW : W.grownBy W' (some g)) : EfsX W' B vb sp n l := ⟨EfsAt.apart h.1 hg hW, h.2⟩
theorem EfsAt.grownTo (h : EfsAt W sp n l) (hW : W.grownBy W' vb) (hv : ∀ a, sp = some a → 0 < n → vb ≠ some a.block) : EfsAt W' sp n l :=
  ⟨h.n, h.m, fun h0 => by
    obtain ⟨b, off, e, hb, hc⟩ := h.c h0
    exact ⟨b, off, e, by have := hW.size; omega, fun i x hx => (hc i x hx).of_block (hW.block b hb (fun q => hv _ e h0 q.symm))⟩, h.v⟩
theorem EfsX.app (h : EfsX W B vb sp n l) (hW : W.grownBy W' vb) {g' : Nat} (hat : vb = some g' ∨ g' = W.heap.size) : EfsX W' B (some g') sp n l :=
  ⟨EfsAt.grownTo h.1 hW h.2.1, fun a ha h0 => by
    rcases hat with e | e
    · rw [← e]; exact h.2.1 a ha h0
    · obtain ⟨b, off, e', hb, _⟩ := h.1.c h0
      rw [ha] at e'
      cases e'
      simp; omega, h.2.2⟩
theorem EfsX.alloc (h : EfsX W B vb sp n l) (o : Obj) : EfsX (W.alloc o) B vb sp n l := ⟨h.1.below ((Below.refl _ W).alloc (Nat.le_refl _) o) (Nat.le_refl _), h.2⟩
theorem EfsX.put (h : EfsX W B vb sp n l) (a : Addr) (v u : Value) (hk : W.cell? a = some u) (hu : ∀ x, u ≠ .int .i64 x) : EfsX (W.setCell a v) B vb sp n l := ⟨EfsAt.put h.1 a v u hk hu, h.2⟩
theorem EfsX.drew (h : EfsX W B vb sp n l) : EfsX W.drew B vb sp n l := ⟨h.1.below (Below.refl _ _).drew (Nat.le_refl _), h.2⟩

/- k triggers are read: they lie in v, beside the card's box -/
structure LP (w : World) (g : Nat) (es : Option Addr) (en : Nat) (ef : List Ef) (cs : List Value) (ts : List Tr) (s : Rd) (W : World) (v : Value) (xs : List Tx) : Prop where
  c : CS w g W cs s
  own : W.ownsRow w.heap.size 44 2 v ts.length (txC xs)
  ef : EfsX W (w.heap.size + 2) v.ownBlock es en ef
  n : xs.length = ts.length
  x : ∀ j, j < ts.length → (xs.getD j default).w = (ts.getD j default).w ∧ EfsX W (w.heap.size + 2) v.ownBlock (xs.getD j default).s (xs.getD j default).n (ts.getD j default).e
variable {cs : List Value} {ts : List Tr}
theorem LP.box (h : LP w g es en ef cs ts s W v xs) : ∃ s0 n0 c0 e0, has W g 72 [.slice s0 n0 c0, .int .i64 e0] := by
  obtain ⟨s0, n0, c0, h1, _, _, _⟩ := h.c.r
  exact ⟨s0, n0, c0, _, h1⟩
theorem LP.call (h : LP w g es en ef cs ts s W v xs) (hgl : g < w.heap.size) (hr : RdIn W' g s') (hg : W.grownBy W' (some g)) : LP w g es en ef cs ts s' W' v xs := by
  obtain ⟨s0, n0, c0, e0, hb⟩ := h.box
  refine ⟨h.c.call hgl hr hg, h.own.kept hg ?_, h.ef.call hb hg, h.n, fun j hj => ⟨(h.x j hj).1, (h.x j hj).2.call hb hg⟩⟩
  cases hv : v.ownBlock with
  | none => exact .inl rfl
  | some q =>
    have h3 := (h.own.lt q hv).1
    exact .inr (by intro e; cases e; omega)
theorem LP.drew (h : LP w g es en ef cs ts s W v xs) : LP w g es en ef cs ts s W.drew v xs := ⟨h.c.drew, h.own.drew, h.ef.drew, h.n, fun j hj => ⟨(h.x j hj).1, (h.x j hj).2.drew⟩⟩
theorem CS.alloc (h : CS w g W cs s) (o : Obj) : CS w g (W.alloc o) cs s := by
  obtain ⟨sp, n, c, h1, h2, h3, h4⟩ := h.r
  exact ⟨h.a.alloc o, h.c.alloc o, ⟨sp, n, c, h1.alloc o, h2.below ((Below.refl _ W).alloc (Nat.le_refl _) o) (Nat.le_refl _), h3, h4⟩, grown_trans h.b (grown_of_below ((Below.refl _ W).alloc (Nat.le_refl _) o) _)⟩
theorem LP.alloc (h : LP w g es en ef cs ts s W v xs) (o : Obj) : LP w g es en ef cs ts s (W.alloc o) v xs := ⟨h.c.alloc o, h.own.alloc _, h.ef.alloc o, h.n, fun j hj => ⟨(h.x j hj).1, (h.x j hj).2.alloc o⟩⟩
/- one trigger more: appended, and the slice stored -/
theorem LP.app (h : LP w g es en ef cs ts s W v xs) (hgl : g < w.heap.size) {x : Tx} {t : Tr} {g' cap : Nat} (hw : x.w = t.w) (he : EfsX W (w.heap.size + 2) v.ownBlock x.s x.n t.e)
    (hown : W'.ownsRow w.heap.size 44 2 (.slice (some ⟨g', 0, none⟩) (ts.length + 1) cap) (ts.length + 1) (txC xs ++ x.l)) (hW : W.grownBy W' v.ownBlock) (hat : v.ownBlock = some g' ∨ g' = W.heap.size)
    (hi : ∃ u, cs[12]? = some u ∧ (∀ y, u ≠ .int .u8 y) ∧ ∀ y, u ≠ .int .i64 y) :
    LP w g es en ef (cs.set 12 (.slice (some ⟨g', 0, none⟩) (ts.length + 1) cap)) (ts ++ [t]) s (W'.setCell ⟨w.heap.size + 1, 12, none⟩ (.slice (some ⟨g', 0, none⟩) (ts.length + 1) cap)) (.slice (some ⟨g', 0, none⟩) (ts.length + 1) cap) (xs ++ [x]) := by
  obtain ⟨u, hu, hu8, hu64⟩ := hi
  have hA : has W' w.heap.size 34 zeroL := own_has' hW h.own h.c.a (by decide)
  have hC : has W' (w.heap.size + 1) 34 cs := own_has' hW h.own h.c.c (by decide)
  have hR : RdIn W' g s := by
    obtain ⟨sp, n, c, h1, h2, h3, h4⟩ := h.c.r
    refine ⟨sp, n, c, own_has' hW h.own h1 (by decide), ⟨h2.n, h2.m, fun h0 => ?_⟩, h3, h4⟩
    obtain ⟨b, off, e, hb, hc⟩ := h2.c h0
    have hlt := h4 _ e (by rw [bys_len, h2.n] at h0; exact h0)
    have hbw : v.ownBlock ≠ some b := fun q => by
      have := (h.own.lt b q).1
      dsimp only at hlt
      omega
    exact ⟨b, off, e, by have := hW.size; omega, fun j y hy => (World.cell?_of_block (hW.block b hb (fun q => hbw q.symm))).trans (hc j y hy)⟩
  have hcs : CS w g W' cs s := ⟨hA, hC, hR, h.c.b.trans_own hW (fun q hq => (h.own.lt q hq).1)⟩
  have hown2 := hown.kept (grown_set W' ⟨w.heap.size + 1, 12, none⟩ (.slice (some ⟨g', 0, none⟩) (ts.length + 1) cap)) (.inr (by
    intro e
    have e' : w.heap.size + 1 = g' := (Option.some.inj e).symm
    rcases hown.2 with ⟨h4, _⟩ | ⟨g2, c2, cur, h4, _, h6, _⟩
    · cases h4
    · cases h4
      rw [← e', show W'.heap[w.heap.size + 1]? = _ from hC] at h6
      simp at h6))
  have hk : W'.cell? ⟨w.heap.size + 1, 12, none⟩ = some u := (hC.cell 12).trans hu
  have key : ∀ {sp : Option Addr} {n : Nat} {l : List Ef}, EfsX W (w.heap.size + 2) v.ownBlock sp n l → EfsX (W'.setCell ⟨w.heap.size + 1, 12, none⟩ (.slice (some ⟨g', 0, none⟩) (ts.length + 1) cap)) (w.heap.size + 2) (some g') sp n l := fun hx => (hx.app hW hat).put _ _ u hk hu64
  refine ⟨hcs.put hgl 12 _ u hu hu8, ?_, key h.ef, by simp [h.n], fun j hj => ?_⟩
  · rw [List.length_append, List.length_singleton, txC_app, show txC [x] = x.l by simp [txC]]
    exact hown2
  · have hl : j < ts.length ∨ j = ts.length := by simp at hj; omega
    rcases hl with hl | hl
    · have e1 : (xs ++ [x]).getD j default = xs.getD j default := by simp only [List.getD_eq_getElem?_getD]; rw [List.getElem?_append_left (by rw [h.n]; exact hl)]
      have e2 : (ts ++ [t]).getD j default = ts.getD j default := by simp only [List.getD_eq_getElem?_getD]; rw [List.getElem?_append_left hl]
      rw [e1, e2]
      exact ⟨(h.x j hl).1, key (h.x j hl).2⟩
    · subst hl
      have e1 : (xs ++ [x]).getD ts.length default = x := by rw [← h.n]; simp [List.getD_eq_getElem?_getD]
      have e2 : (ts ++ [t]).getD ts.length default = t := by simp [List.getD_eq_getElem?_getD]
      rw [e1, e2]
      exact ⟨hw, key he⟩
theorem trs_of {base : Nat} {v : Value} (own : W.ownsRow base 44 2 v ts.length (txC xs)) (hn : xs.length = ts.length) (hx : ∀ j, j < ts.length → (xs.getD j default).w = (ts.getD j default).w ∧ EfsAt W (xs.getD j default).s (xs.getD j default).n (ts.getD j default).e) (hm : ts.length ≤ 1000) (hv : ∀ t ∈ ts, i64ok t.w) : ∃ sp c, v = .slice sp ts.length c ∧ TrsAt W sp ts.length ts ∧ ts.length ≤ c := by
  obtain ⟨sv, cv, h1, h2, h3, _⟩ := own_form own
  refine ⟨sv, cv, h1, ⟨rfl, by omega, fun h0 => ?_, hv⟩, h3⟩
  obtain ⟨b, off, e, hb, hc⟩ := h2 (by rw [txC_len, hn]; omega)
  refine ⟨b, off, e, hb, fun i t hi => ?_⟩
  have hil := (List.getElem?_eq_some_iff.1 hi).1
  obtain ⟨g1, g2⟩ := hx i hil
  have et : ts.getD i default = t := by rw [List.getD_eq_getElem?_getD, hi]; rfl
  have ex : xs[i]? = some (xs.getD i default) := by simp [List.getD_eq_getElem?_getD, hn, hil]
  rw [et] at g1 g2
  generalize xs.getD i default = x at *
  refine ⟨x.s, x.n, x.c, ?_, ?_, g2⟩
  · have := hc (i * 2 + 0) _ ((txC_get xs i 0 x ex (by omega)).trans rfl)
    rw [← g1]; simpa using this
  · have := hc (i * 2 + 1) _ ((txC_get xs i 1 x ex (by omega)).trans rfl)
    simpa [Nat.add_assoc] using this
theorem trL_ok (s : Rd) : ∀ k, ∀ t ∈ trL s k, i64ok t.w
  | 0, t, h => by simp [trL] at h
  | k + 1, t, h => by
    simp only [trL, List.mem_append, List.mem_singleton] at h
    rcases h with h | rfl
    · exact trL_ok s k t h
    · have := nb_bd 255 (trS s k) (by omega)
      show -9223372036854775808 ≤ (nb 255 (trS s k)).1 ∧ (nb 255 (trS s k)).1 ≤ 9223372036854775807
      omega
theorem RdIn.grown {q : Nat} (h : RdIn W g s) (hW : W.grownBy W' (some q)) (hq : g < q) : RdIn W' g s := by
  obtain ⟨sp, n, c, h1, h2, h3, h4⟩ := h
  refine ⟨sp, n, c, h1.grown hW (by intro e; cases e; omega), ⟨h2.n, h2.m, fun h0 => ?_⟩, h3, h4⟩
  obtain ⟨b, off, e, hb, hc⟩ := h2.c h0
  have hlt : b < g := h4 _ e (by rw [bys_len, h2.n] at h0; exact h0)
  exact ⟨b, off, e, by have := hW.size; omega, fun j y hy => (World.cell?_of_block (hW.block b hb (by intro q'; cases q'; omega))).trans (hc j y hy)⟩
/- the card stored into the result's block -/
theorem LP.fin (h : LP w g es en ef cs ts s W v xs) (hgl : g < w.heap.size) (hW : W.grownBy W' (some w.heap.size)) (hm : ts.length ≤ 1000) (hv : ∀ t ∈ ts, i64ok t.w) :
    ∃ sp c, v = .slice sp ts.length c ∧ CdAt W' es en ef sp ts.length ts ∧ ts.length ≤ c ∧ RdIn W' g s ∧ w.grownBy W' (some g) ∧ ∀ (W2 : World) (q : Nat), q < w.heap.size → W'.grownBy W2 (some q) → CdAt W2 es en ef sp ts.length ts := by
  have hown := h.own.kept hW (by
    rcases h.own.2 with ⟨h4, _⟩ | ⟨g2, c2, cur, h4, _, h6, _⟩
    · left; rw [h4]; rfl
    · right
      rw [h4]
      intro e
      have e' : g2 = w.heap.size := Option.some.inj e
      rw [e', show W.heap[w.heap.size]? = _ from h.c.a] at h6
      simp at h6)
  have key : ∀ {sp : Option Addr} {n : Nat} {l : List Ef}, EfsX W (w.heap.size + 2) v.ownBlock sp n l → EfsAt W' sp n l := fun hx => EfsAt.grownTo hx.1 hW (fun a ha h0 => by have := hx.2.2 a ha h0; intro e; have := Option.some.inj e; omega)
  obtain ⟨sp, c, h1, h2, h3⟩ := trs_of hown h.n (fun j hj => ⟨(h.x j hj).1, key (h.x j hj).2⟩) hm hv
  refine ⟨sp, c, h1, ⟨key h.ef, h2⟩, h3, RdIn.grown h.c.r hW hgl, grown_new h.c.b hW (Nat.le_refl _), fun W2 q hq hW2 => ?_⟩
  have hown2 := hown.kept hW2 (by
    cases hv : v.ownBlock with
    | none => exact .inl rfl
    | some k2 =>
      have := (hown.lt k2 hv).1
      exact .inr (by intro e; have := Option.some.inj e; omega))
  have key2 : ∀ {sp : Option Addr} {n : Nat} {l : List Ef}, EfsX W (w.heap.size + 2) v.ownBlock sp n l → EfsAt W2 sp n l := fun hx => EfsAt.grownTo (key hx) hW2 (fun a ha h0 => by have := hx.2.2 a ha h0; intro e; have := Option.some.inj e; omega)
  obtain ⟨sp2, c2, h4, h5, _⟩ := trs_of hown2 h.n (fun j hj => ⟨(h.x j hj).1, key2 (h.x j hj).2⟩) hm hv
  rw [h1] at h4
  cases h4
  exact ⟨key2 h.ef, h5⟩
end
end Go.Proofs.YtkappnnoienhnaaDoor.caFn
