/- The calls on zones, of which the caller keeps further blocks. -/
import Derived.Test.YtklohgecgjlgeaaZoPileF
namespace Go.Proofs.Ytklohgecgjlgeaa.zoFn
open Go.ChangeShapes Go.WideShapes Go.ChangeAt Go.RowKit drMem
set_option linter.unusedVariables false
variable {F G : Nat → Prop} {w w' W W' : World} {b gl mb : Nat} {L M : List (List Int)}

theorem rowAt.keepF {v : Value} {l : List Int} (h : rowAt W v l) (k : KeepF F W W') (hF : ∀ g, v.ownBlock = some g → F g) : rowAt W' v l := h.keep fun g e => k.block g (hF g e)
theorem rowAt.belowW {v : Value} {l : List Int} (h : rowAt W v l) (hb : Below W.heap.size W W') : rowAt W' v l := h.keep fun g e => hb.block g (h.lt e)
structure ZF (F : Nat → Prop) (w : World) (b gl mb : Nat) (L : List (List Int)) (W : World) : Prop where
  z : ZS F W b gl mb L
  f : Below w.heap.size w W
  hF : ∀ k, k < w.heap.size → F k
theorem ZF.below (h : ZF F w b gl mb L W) (hb : Below W.heap.size W W') : ZF F w b gl mb L W' := ⟨h.z.below' hb, h.f.trans (hb.mono h.f.size), h.hF⟩
theorem ZF.step (h : ZF F w b gl mb L W) (hz : ZS F W' b gl mb M) (hk : KeepF F W W') : ZF F w b gl mb M W' := ⟨hz, h.f.trans (hk.below h.hF), h.hF⟩
theorem ZF.drewN (h : ZF F w b gl mb L W) (n : Nat) : ZF F w b gl mb L (W.drewN n) := h.below ⟨rfl, rfl, rfl, Nat.le_refl _, fun _ _ => rfl⟩
theorem ZF.sz (h : ZF F w b gl mb L W) : SZ w b gl mb L W := ⟨h.z.weaken h.hF, h.f⟩
theorem ZF.of (h : SZ w b gl mb L W) : ZF (fun k => k < w.heap.size) w b gl mb L W := ⟨h.z, h.f, fun k hk => hk⟩
/- the caller keeps other blocks from now on: those that it kept, or new ones -/
theorem ZF.keepB (h : ZF F w b gl mb L W) (hb : Below W.heap.size W W') (hG : ∀ k, G k → k < W'.heap.size) (hk : ∀ k, G k → k < W.heap.size → F k) (h0 : ∀ k, k < w.heap.size → G k) : ZF G w b gl mb L W' := ⟨h.z.below hb hG hk, h.f.trans (hb.mono h.f.size), h0⟩
theorem ZF.keepG {rw : Option Nat} (h : ZF F w b gl mb L W) (hg : W.grownBy W' rw) (hr : ∀ g, rw = some g → w.heap.size ≤ g ∧ (g < W.heap.size → F g)) (hG : ∀ k, G k → k < W'.heap.size) (hk : ∀ k, G k → k < W.heap.size → F k) (h0 : ∀ k, k < w.heap.size → G k) : ZF G w b gl mb L W' :=
  ⟨h.z.grown hg (fun g e => (hr g e).2) hG hk, h.f.grown hg h.f.size (fun k e => (hr k e).1), h0⟩
def fPost (r : Value) (F : Nat → Prop) (w : World) (b gl mb : Nat) (M : List (List Int)) (W : World) (e : Ending) (w' : World) : Prop := e = .returned r ∧ ZF F w b gl mb M w' ∧ KeepF F W w'
theorem put_f (h : ZF F w b gl mb L W) {x z y : Int} (hx : i64ok x) (h1 : entE L.length L x z = y) (h2 : putL L x z = M) : Calls Try.prog 9 #[.pointer (some ⟨b, 0, none⟩), .int .i64 x, .int .i64 z] W (fPost (.int .i64 y) F w b gl mb M W) := by
  have c := Put_any h.z x z hx
  rw [h1, h2] at c
  exact c.mono fun e w' ⟨he, hz, hk⟩ => ⟨he, h.step hz hk, hk⟩
theorem und_f (h : ZF F w b gl mb L W) {x z y : Int} (hx : i64ok x) (h1 : entE L.length L x z = y) (h2 : undL L x z = M) : Calls Try.prog 10 #[.pointer (some ⟨b, 0, none⟩), .int .i64 x, .int .i64 z] W (fPost (.int .i64 y) F w b gl mb M W) := by
  have c := Under_any h.z x z hx
  rw [h1, h2] at c
  exact c.mono fun e w' ⟨he, hz, hk⟩ => ⟨he, h.step hz hk, hk⟩
theorem mov_f (h : ZF F w b gl mb L W) {x z y : Int} (hx : i64ok x) (h1 : movE L.length L x z = y) (h2 : movL L x z = M) : Calls Try.prog 11 #[.pointer (some ⟨b, 0, none⟩), .int .i64 x, .int .i64 z] W (fPost (.int .i64 y) F w b gl mb M W) := by
  have c := Move_any h.z x z hx
  rw [h1, h2] at c
  exact c.mono fun e w' ⟨he, hz, hk⟩ => ⟨he, h.step hz hk, hk⟩
theorem rem_f (h : ZF F w b gl mb L W) {x y : Int} (hx : i64ok x) (h1 : leaE L.length L x = y) (h2 : remL L x = M) : Calls Try.prog 14 #[.pointer (some ⟨b, 0, none⟩), .int .i64 x] W (fPost (.int .i64 y) F w b gl mb M W) := by
  have c := Remove_any h.z x hx
  rw [h1, h2] at c
  exact c.mono fun e w' ⟨he, hz, hk⟩ => ⟨he, h.step hz hk, hk⟩
theorem len_f (h : ZF F w b gl mb L W) {z y : Int} (h1 : ((if okZ L.length z then ((row L z.toNat).length : Nat) else 0 : Int)) = y) : Calls Try.prog 12 #[.pointer (some ⟨b, 0, none⟩), .int .i64 z] W fun e w' => e = .returned (.int .i64 y) ∧ W = w' := by
  have c := Len_any h.z z
  rw [h1] at c
  exact c
theorem top_f (h : ZF F w b gl mb L W) {z want no : Int} (h1 : topB L z want no = true) : Calls Try.prog 18 #[.pointer (some ⟨b, 0, none⟩), .int .i64 z, .int .i64 want, .int .i64 no] W fun e w' => e = .returned (.bool true) ∧ W = w' := by
  have c := top_any h.z z want no
  rw [h1] at c
  exact c
theorem list_f (h : ZF F w b gl mb L W) {z : Int} {l : List Int} (h1 : (if okZ L.length z then row L z.toNat else []) = l) : Calls Try.prog 17 #[.pointer (some ⟨b, 0, none⟩), .int .i64 z] W (newRow l W) := by
  have c := List_any h.z z
  rw [h1] at c
  exact c.mono fun e w' ⟨v, he, ho, hb⟩ => ⟨v, he, (rowAt.own ho).1, (rowAt.own ho).2.1, hb⟩
end Go.Proofs.Ytklohgecgjlgeaa.zoFn
