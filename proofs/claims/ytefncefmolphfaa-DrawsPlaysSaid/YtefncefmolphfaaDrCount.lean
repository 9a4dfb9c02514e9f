/- The map in which the stage's theorem counts elements. -/
import Derived.Test.YtefncefmolphfaaDrRound
import Derived.Maps.OwnOps
import Derived.Maps.RangeWalk
import Derived.WalkArith
namespace Go.Proofs.Ytefncefmolphfaa.drFn
open Go.ChangeShapes Go.WideShapes Go.ChangeAt Go.RowKit drMem
set_option linter.unusedVariables false

theorem keyI : Maps.Keyed Try.prog 3 := Maps.int_keyed Try.underlying3
theorem zeroI (w : World) : (zeroValue 3).run Try.prog w = .ok (.int .i64 0) w := by kernel_rfl

/- what the map says of each number -/
structure CM (D : DataW Unit) (f : Int → Int) : Prop where
  m : Maps.IsMap D
  c : ∀ x, D.atKey (.int .i64 x) (.lit (.int .i64 0)) = .lit (.int .i64 (f x))
theorem CM.none : CM (.map []) (fun _ => 0) := ⟨⟨_, rfl⟩, fun _ => rfl⟩
theorem CM.at {D : DataW Unit} {f : Int → Int} (h : CM D f) {x c : Int} (hc : D.atKey (.int .i64 x) (.lit (.int .i64 0)) = .lit (.int .i64 c)) : c = f x := by
  rw [h.c x] at hc
  injection hc with hc
  injection hc with _ hc
  exact hc.symm
theorem CM.put {D : DataW Unit} {f f' : Int → Int} (h : CM D f) (k : Int) (h1 : ∀ x, x ≠ k → f' x = f x) : CM (D.put (.int .i64 k) (.lit (.int .i64 (f' k)))) f' := by
  refine ⟨h.m.put _ _, fun x => ?_⟩
  by_cases hx : x = k
  · subst hx; rw [Maps.atKey_put_same h.m (show WideAt.IsKeyLit (.int .i64 x) from trivial)]
  · rw [Maps.atKey_put_other (by intro e; injection e with _ e; exact hx e), h.c x, h1 x hx]

def cntA (list : List Int) (j : Nat) (x : Int) : Int := ((list.take j).count x : Nat)
def cntB (list out : List Int) (j : Nat) (x : Int) : Int := (list.count x : Nat) - ((out.take j).count x : Nat)
theorem count_take (list : List Int) (j : Nat) (h : j < list.length) (x : Int) : (list.take (j + 1)).count x = (list.take j).count x + if list.getD j 0 = x then 1 else 0 := by
  rw [List.take_succ_eq_append_getElem h, List.count_append, List.count_singleton]
  have e : list.getD j 0 = list[j] := by simp [List.getD_eq_getElem?_getD, h]
  rw [e]
  by_cases hx : list[j] = x <;> simp [hx]
theorem cntA_step (list : List Int) (j : Nat) (h : j < list.length) : cntA list (j + 1) (list.getD j 0) = cntA list j (list.getD j 0) + 1 ∧ ∀ x, x ≠ list.getD j 0 → cntA list (j + 1) x = cntA list j x := by
  unfold cntA
  refine ⟨by rw [count_take list j h, if_pos rfl]; omega, fun x hx => by rw [count_take list j h, if_neg (Ne.symm hx)]; omega⟩
theorem cntB_step (list out : List Int) (j : Nat) (h : j < out.length) : cntB list out (j + 1) (out.getD j 0) = cntB list out j (out.getD j 0) - 1 ∧ ∀ x, x ≠ out.getD j 0 → cntB list out (j + 1) x = cntB list out j x := by
  unfold cntB
  refine ⟨by rw [count_take out j h, if_pos rfl]; omega, fun x hx => by rw [count_take out j h, if_neg (Ne.symm hx)]; omega⟩
theorem cntA_bd (list : List Int) (j : Nat) (x : Int) : 0 ≤ cntA list j x ∧ cntA list j x ≤ j := by
  unfold cntA
  have := List.count_le_length (a := x) (l := list.take j)
  rw [List.length_take] at this
  omega
theorem cntB_bd (list out : List Int) (j : Nat) (x : Int) (h : list.length ≤ 60) (hj : j ≤ 60) : -60 ≤ cntB list out j x ∧ cntB list out j x ≤ 60 := by
  unfold cntB
  have h1 := List.count_le_length (a := x) (l := out.take j)
  have h2 := List.count_le_length (a := x) (l := list)
  rw [List.length_take] at h1
  omega
theorem cntA_end (list out : List Int) : cntA list list.length = cntB list out 0 := by
  funext x; unfold cntA cntB; simp
theorem cntB_end {list out : List Int} (h : out.Perm list) (x : Int) : cntB list out out.length x = 0 := by
  unfold cntB; rw [List.take_length, h.count_eq]; omega

/- the state of the counting: the map lies in block B, which came last -/
structure MS (w : World) (b g : Nat) (l : List Nat) (u b2 g2 : Nat) (l2 : List Nat) (u2 t : Nat) (r : ActR) (sp : Option Addr) (out : List Int) (B : Nat) (f : Int → Int) (n : Nat) (W : World) : Prop where
  s : RS2 w b g l u b2 g2 l2 u2 t r W
  row : 0 < out.length → ∃ xb xo, sp = some ⟨xb, xo, none⟩ ∧ xb < B ∧ ∀ j, j < out.length → W.cell? ⟨xb, xo + j, none⟩ = some (.int .i64 (out.getD j 0))
  lt : b < B ∧ g < B ∧ b2 < B ∧ g2 < B ∧ t < B ∧ w.heap.size ≤ B
  m : ∃ (k : Nat) (D : DataW Unit), k ≤ n ∧ W.ownsMap Try.prog 3 (plainElem Try.prog 3) B k D ∧ CM D f
section
variable {w W W' : World} {b g u b2 g2 u2 t q : Nat} {l l2 : List Nat} {r : ActR}
theorem RS2.new (h : RS2 w b g l u b2 g2 l2 u2 t r W) (hg : W.grownBy W' (some q)) (hq : b < q ∧ g < q ∧ b2 < q ∧ g2 < q ∧ t < q ∧ w.heap.size ≤ q) : RS2 w b g l u b2 g2 l2 u2 t r W' :=
  ⟨h.s.other2 hg hq.2.2.2.2.2 (by omega) (by omega), h.o.other2 hg hq.2.2.2.2.2 (by omega) (by omega), h.a.grown hg (by simp; omega), h.t0, h.bb⟩
theorem RS2.lts (h : RS2 w b g l u b2 g2 l2 u2 t r W) : b < W.heap.size ∧ g < W.heap.size ∧ b2 < W.heap.size ∧ g2 < W.heap.size ∧ t < W.heap.size ∧ w.heap.size ≤ W.heap.size :=
  ⟨h.s.d.d.lt, h.s.d.n.lt, h.o.d.d.lt, h.o.d.n.lt, h.a.lt, h.s.f.size⟩
theorem ms0 {sp : Option Addr} {out list : List Int} (h : RS2 w b g l u b2 g2 l2 u2 t r W) (hr : Row W sp out b b2 t) : MS w b g l u b2 g2 l2 u2 t r sp out W.heap.size (cntA list 0) 0 (W.alloc (.map #[] 0)) := by
  have hb : Below W.heap.size W (W.alloc (.map #[] 0)) := (Below.refl _ _).alloc (Nat.le_refl _) _
  refine ⟨h.below hb, fun h0 => ?_, h.lts, 0, .map [], Nat.le_refl _, World.ownsMap_made _ _ _ _, ?_⟩
  · obtain ⟨xb, xo, e, hl, hc⟩ := hr.s (by rw [is_len]; exact h0)
    exact ⟨xb, xo, e, hl, fun j hj => (hb.cell (p := ⟨xb, xo + j, none⟩) hl).trans (hc j _ (is_get out j hj))⟩
  · have : cntA list 0 = fun _ => 0 := by funext x; simp [cntA]
    rw [this]; exact CM.none
theorem MS.step {sp : Option Addr} {out : List Int} {B n : Nat} {f f' : Int → Int} {k v : Int} {D : DataW Unit} {m : Nat} (h : MS w b g l u b2 g2 l2 u2 t r sp out B f n W) (hD : CM D f) (hm : m ≤ n + 1) (hv : f' k = v) (h1 : ∀ x, x ≠ k → f' x = f x)
    (hown : W'.ownsMap Try.prog 3 (plainElem Try.prog 3) B m (D.put (.int .i64 k) (.lit (.int .i64 v)))) (hg : W.grownBy W' (some B)) : MS w b g l u b2 g2 l2 u2 t r sp out B f' (n + 1) W' := by
  refine ⟨h.s.new hg h.lt, fun h0 => ?_, h.lt, m, _, hm, hown, by subst hv; exact hD.put k h1⟩
  obtain ⟨xb, xo, e, hl, hc⟩ := h.row h0
  exact ⟨xb, xo, e, hl, fun j hj => (World.cell?_of_block (a := ⟨xb, xo + j, none⟩) (hg.block xb (World.block_lt_of_cell? _ _ (hc j hj)) (by simp; omega))).trans (hc j hj)⟩
theorem MS.eq {sp : Option Addr} {out : List Int} {B n : Nat} {f f' : Int → Int} (h : MS w b g l u b2 g2 l2 u2 t r sp out B f n W) (e : f = f') : MS w b g l u b2 g2 l2 u2 t r sp out B f' n W := e ▸ h
/- the state while the map is ranged over -/
structure MR (w : World) (b g : Nat) (l : List Nat) (u b2 g2 : Nat) (l2 : List Nat) (u2 t : Nat) (r : ActR) (B q : Nat) (f : Int → Int) (cnt : Nat) (W : World) : Prop where
  s : RS2 w b g l u b2 g2 l2 u2 t r W
  lt : b < q ∧ g < q ∧ b2 < q ∧ g2 < q ∧ t < q ∧ w.heap.size ≤ q
  m : ∃ (k : Nat) (D : DataW Unit) (left : Lit → Bool), W.ranges Try.prog 3 (plainElem Try.prog 3) B q k D left cnt ∧ CM D f
theorem MR.start {sp : Option Addr} {out : List Int} {B n k : Nat} {f : Int → Int} {D : DataW Unit} {left : Lit → Bool} {cnt : Nat} (h : MS w b g l u b2 g2 l2 u2 t r sp out B f n W) (hD : CM D f)
    (hr : W'.ranges Try.prog 3 (plainElem Try.prog 3) B W.heap.size k D left cnt) (hg : W.grownBy W' none) : MR w b g l u b2 g2 l2 u2 t r B W.heap.size f cnt W' :=
  ⟨h.s.below ⟨hg.os, hg.tape, hg.output, hg.size, fun i hi => hg.block i hi (by simp)⟩, h.s.lts, k, D, left, hr, hD⟩
theorem MR.next {B q k cnt cnt' : Nat} {f : Int → Int} {D : DataW Unit} {left' : Lit → Bool} (h : MR w b g l u b2 g2 l2 u2 t r B q f cnt W) (hD : CM D f)
    (hr : W'.ranges Try.prog 3 (plainElem Try.prog 3) B q k D left' cnt') (hg : W.grownBy W' (some q)) : MR w b g l u b2 g2 l2 u2 t r B q f cnt' W' :=
  ⟨h.s.new hg h.lt, h.lt, k, D, left', hr, hD⟩
end
end Go.Proofs.Ytefncefmolphfaa.drFn
