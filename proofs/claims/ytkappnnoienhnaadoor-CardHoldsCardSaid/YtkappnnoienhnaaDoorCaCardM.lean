/- What the reader of package card reads, as data; the boxes of the reading. -/
import Derived.Test.YtkappnnoienhnaaDoorCaRead
import Derived.Test.YtkappnnoienhnaaDoorCaValidB
namespace Go.Proofs.YtkappnnoienhnaaDoor.caFn
open Go.ChangeShapes Go.WideShapes Go.ChangeAt Go.RowKit drMem efFn
set_option linter.unusedVariables false

def trS (s : Rd) : Nat → Rd
  | 0 => s
  | k + 1 => (efR (nb 255 (trS s k)).2).2
def trL (s : Rd) : Nat → List Tr
  | 0 => []
  | k + 1 => trL s k ++ [⟨(nb 255 (trS s k)).1, (efR (nb 255 (trS s k)).2).1⟩]
theorem trL_len (s : Rd) : ∀ k, (trL s k).length = k
  | 0 => rfl
  | k + 1 => by simp [trL, trL_len s k]
theorem nb_bd (m : Int) (s : Rd) (hm : 0 ≤ m) : 0 ≤ (nb m s).1 ∧ (nb m s).1 ≤ m ∧ (nb m s).1 < 256 := by
  unfold nb
  generalize s.1.getD 0 0 = x
  have := x.toNat_lt
  (repeat' split) <;> dsimp only <;> omega
theorem nb_nat (m : Int) (s : Rd) (hm : 0 ≤ m) : ∃ n : Nat, (nb m s).1 = (n : Int) ∧ (n : Int) ≤ m ∧ n < 256 := by
  obtain ⟨h1, h2, h3⟩ := nb_bd m s hm
  exact ⟨(nb m s).1.toNat, by omega, by omega, by omega⟩
/- the card that is read, and what is left -/
def RdC (s : Rd) (q : Cd) (s' : Rd) : Prop :=
  ∃ (s1 s2 s3 s4 s5 s6 s7 s8 s9 s10 s11 s12 s13 s14 s15 : Rd) (n m : Nat), nb 255 s = (q.kd, s1) ∧ nb 255 s1 = (q.ra, s2) ∧ nb 32 s2 = ((n : Int), s3) ∧ tk n s3 = (q.nm, s4) ∧ nb 255 s4 = (q.a, s5) ∧ nb 255 s5 = (q.b, s6) ∧ nb 255 s6 = (q.c, s7) ∧ nb 255 s7 = (q.d, s8) ∧
    nb 255 s8 = (q.x, s9) ∧ nb 255 s9 = (q.ml, s10) ∧ nb 255 s10 = (q.pw, s11) ∧ nb 255 s11 = (q.tg, s12) ∧ nb 255 s12 = (q.kw, s13) ∧ efR s13 = (q.ef, s14) ∧ nb 2 s14 = ((m : Int), s15) ∧ q.tr = trL s15 m ∧ s' = trS s15 m

section
variable {W W' w : World} {sp : Option Addr} {n : Nat} {g : Nat} {cs : List Value} {s s' : Rd}
theorem BsAt.put {l : List UInt8} (h : BsAt W sp n l) (a : Addr) (v u : Value) (hk : W.cell? a = some u) (hu : ∀ x, u ≠ .int .u8 x) : BsAt (W.setCell a v) sp n l :=
  ⟨h.n, h.m, fun h0 => by
    obtain ⟨b, off, e, hb, hc⟩ := h.c h0
    refine ⟨b, off, e, by simpa [World.setCell] using hb, fun j x hx => ?_⟩
    have h1 := hc j x hx
    have hne : a ≠ ⟨b, off + j, none⟩ := by
      rintro rfl
      rw [hk] at h1
      cases h1
      obtain ⟨y, _, rfl⟩ := List.mem_map.1 (List.mem_of_getElem? hx)
      exact hu _ rfl
    rw [World.cell?_setCell_other (h := hne)]
    exact h1⟩
theorem EfsAt.put {l : List Ef} (h : EfsAt W sp n l) (a : Addr) (v u : Value) (hk : W.cell? a = some u) (hu : ∀ x, u ≠ .int .i64 x) : EfsAt (W.setCell a v) sp n l :=
  ⟨h.n, h.m, fun h0 => by
    obtain ⟨b, off, e, hb, hc⟩ := h.c h0
    refine ⟨b, off, e, by simpa [World.setCell] using hb, fun i x hx => ?_⟩
    have h1 := hc i x hx
    have key : ∀ (p : Addr) (y : Int), W.cell? p = some (.int .i64 y) → (W.setCell a v).cell? p = some (.int .i64 y) := fun p y hp => by
      have hne : a ≠ p := by
        rintro rfl
        rw [hk] at hp
        cases hp
        exact hu _ rfl
      rw [World.cell?_setCell_other (h := hne)]
      exact hp
    exact ⟨key _ _ h1.c0, key _ _ h1.c1, key _ _ h1.c2, key _ _ h1.c3, key _ _ h1.c4⟩, h.v⟩
theorem RdIn.put (h : RdIn W g s) {k : Nat} (a : Addr) (v u : Value) (hkg : g ≠ a.block) (hk : W.cell? a = some u) (hu : ∀ x, u ≠ .int .u8 x) : RdIn (W.setCell a v) g s := by
  obtain ⟨sp, n, c, h1, h2, h3, h4⟩ := h
  exact ⟨sp, n, c, h1.far hkg _, BsAt.put h2 a v u hk hu, h3, h4⟩
theorem RdIn.below (h : RdIn W g s) (hb : Below W.heap.size W W') : RdIn W' g s := by
  obtain ⟨sp, n, c, h1, h2, h3, h4⟩ := h
  exact ⟨sp, n, c, h1.below hb h1.lt, h2.below hb (Nat.le_refl _), h3, h4⟩
abbrev zeroL : List Value := cL ⟨#[]⟩ 0 0 0 0 0 0 0 0 0 0 none 0 0 none 0 0 0
structure CS (w : World) (g : Nat) (W : World) (cs : List Value) (s : Rd) : Prop where
  a : has W w.heap.size 34 zeroL
  c : has W (w.heap.size + 1) 34 cs
  r : RdIn W g s
  b : w.grownBy W (some g)
theorem CS.call (h : CS w g W cs s) (hgl : g < w.heap.size) (hr : RdIn W' g s') (hg : W.grownBy W' (some g)) : CS w g W' cs s' :=
  ⟨h.a.grown hg (by intro e; cases e; omega), h.c.grown hg (by intro e; cases e; omega), hr, grown_trans h.b hg⟩
theorem CS.put (h : CS w g W cs s) (hgl : g < w.heap.size) (i : Nat) (v u : Value) (hi : cs[i]? = some u) (hu : ∀ x, u ≠ .int .u8 x) : CS w g (W.setCell ⟨w.heap.size + 1, i, none⟩ v) (cs.set i v) s :=
  ⟨h.a.far (by show w.heap.size ≠ w.heap.size + 1; omega) _, h.c.put i v, RdIn.put (k := 0) h.r ⟨w.heap.size + 1, i, none⟩ v u (by show g ≠ w.heap.size + 1; omega) ((h.c.cell i).trans hi) hu, grown_new h.b (grown_set W ⟨w.heap.size + 1, i, none⟩ v) (by show w.heap.size ≤ w.heap.size + 1; omega)⟩
theorem CS.drew (h : CS w g W cs s) : CS w g W.drew cs s := by
  obtain ⟨sp, n, c, h1, h2, h3, h4⟩ := h.r
  exact ⟨h.a, h.c, ⟨sp, n, c, h1, h2.below (Below.refl _ _).drew (Nat.le_refl _), h3, h4⟩, grown_trans h.b ⟨rfl, rfl, rfl, Nat.le_refl _, fun _ _ _ => rfl⟩⟩
end
end Go.Proofs.YtkappnnoienhnaaDoor.caFn
