/- One round of the law that plays the draws against the reference: what each of its calls returns and leaves. -/
import Derived.Test.YtefncefmolphfaaDrRound
import Derived.Test.YtefncefmolphfaaDrCopy
import Derived.Test.YtefncefmolphfaaDrRef4
import Derived.Deep.QuietTactic
namespace Go.Proofs.Ytefncefmolphfaa.drFn
open Go.ChangeShapes Go.WideShapes Go.ChangeAt Go.RowKit drMem
set_option linter.unusedVariables false

/- the draws after ud uses, the reference's beside them in its box bx after ur, and the act of the round -/
structure RP (w : World) (b g : Nat) (l : List Nat) (ud bx ur : Nat) (sp : Option Addr) (n c t : Nat) (r : ActR) (W : World) : Prop where
  s : St w b g l ud W
  e : l.length - ur = n
  x : has W bx 32 [.slice sp n c, .int .i64 (ur : Int)]
  f : Lf w.heap.size W sp n c (l.drop ur)
  bx0 : w.heap.size ≤ bx
  a : has W t 35 (actV r)
  t0 : w.heap.size ≤ t
section
variable {w W W' : World} {b g ud bx ur n c t : Nat} {sp : Option Addr} {l : List Nat} {r : ActR}
theorem RP.below (h : RP w b g l ud bx ur sp n c t r W) (hb : Below W.heap.size W W') : RP w b g l ud bx ur sp n c t r W' :=
  ⟨h.s.below hb, h.e, h.x.below hb h.x.lt, h.f.below (hb.mono h.s.f.size), h.bx0, h.a.below hb h.a.lt, h.t0⟩
theorem RP.step {u' : Nat} (h : RP w b g l ud bx ur sp n c t r W) (hd : isD W' b g l u') (hg : W.grownBy W' (some b)) : RP w b g l u' bx ur sp n c t r W' :=
  ⟨h.s.step hd hg, h.e, h.x.grown hg (by simp; exact h.x.ne h.s.d.d (by decide)), h.f.below (below_grown (Below.refl _ _) hg h.s.f.size h.s.hb), h.bx0, h.a.grown hg (by simp; exact h.a.ne h.s.d.d (by decide)), h.t0⟩
theorem RP.alloc (h : RP w b g l ud bx ur sp n c t r W) (o : Obj) : RP w b g l ud bx ur sp n c t r (W.alloc o) := h.below ((Below.refl _ _).alloc (Nat.le_refl _) _)
theorem RP.drewN (h : RP w b g l ud bx ur sp n c t r W) (k : Nat) : RP w b g l ud bx ur sp n c t r (W.drewN k) := h.below ⟨rfl, rfl, rfl, Nat.le_refl _, fun _ _ => rfl⟩
theorem RP.b0 (h : RP w b g l ud bx ur sp n c t r W) : W.cell? ⟨bx, 0, none⟩ = some (.slice sp n c) := by rw [h.x.cell]; rfl
theorem RP.b1 (h : RP w b g l ud bx ur sp n c t r W) : W.cell? ⟨bx, 1, none⟩ = some (.int .i64 (ur : Int)) := by rw [h.x.cell]; rfl
theorem RP.p0 (h : RP w b g l ud bx ur sp n c t r W) : W.frozen? ⟨bx, 0, none⟩ = false := h.x.free 0
theorem RP.p1 (h : RP w b g l ud bx ur sp n c t r W) : W.frozen? ⟨bx, 1, none⟩ = false := h.x.free 1
theorem RP.f0 (h : RP w b g l ud bx ur sp n c t r W) : W.cell? ⟨t, 0, none⟩ = some (.int .i64 r.what) := by rw [h.a.cell]; rfl
theorem RP.f1 (h : RP w b g l ud bx ur sp n c t r W) : W.cell? ⟨t, 1, none⟩ = some (.int .i64 r.n) := by rw [h.a.cell]; rfl
theorem RP.f2 (h : RP w b g l ud bx ur sp n c t r W) : W.cell? ⟨t, 2, none⟩ = some (.int .i64 r.many) := by rw [h.a.cell]; rfl
theorem RP.f3 (h : RP w b g l ud bx ur sp n c t r W) : W.cell? ⟨t, 3, none⟩ = some (.slice r.sp r.list.length r.cap) := by rw [h.a.cell]; rfl
theorem RP.src (h : RP w b g l ud bx ur sp n c t r W) (hs : src w r.sp (is r.list)) : src W r.sp (is r.list) := hs.below h.s.f (Nat.le_refl _)
theorem RP.lt (h : RP w b g l ud bx ur sp n c t r W) : b < W.heap.size ∧ bx < W.heap.size ∧ t < W.heap.size := ⟨h.s.d.d.lt, h.x.lt, h.a.lt⟩
/- the reference's draws are stored into their box -/
theorem RP.put {u1 n1 c1 : Nat} {s1 : Option Addr} (h : RP w b g l ud bx ur sp n c t r W) (hn : l.length - u1 = n1) (hf : Lf w.heap.size W s1 n1 c1 (l.drop u1)) :
    RP w b g l ud bx u1 s1 n1 c1 t r ((W.setCell ⟨bx, 0, none⟩ (.slice s1 n1 c1)).setCell ⟨bx, 1, none⟩ (.int .i64 (u1 : Int))) := by
  have g0 := grown_set W ⟨bx, 0, none⟩ (.slice s1 n1 c1)
  have g1 := grown_set (W.setCell ⟨bx, 0, none⟩ (.slice s1 n1 c1)) ⟨bx, 1, none⟩ (.int .i64 (u1 : Int))
  have gg := grown_trans g0 g1
  have nb : b ≠ bx := Ne.symm (h.x.ne h.s.d.d (by decide))
  have ng : g ≠ bx := Ne.symm (h.x.ne h.s.d.n (by decide))
  have nt : t ≠ bx := h.a.ne h.x (by decide)
  refine ⟨h.s.other2 gg h.bx0 nb ng, hn, ?_, hf.below (below_grown (Below.refl _ _) gg h.s.f.size h.bx0), h.bx0, h.a.grown gg (by simpa using nt), h.t0⟩
  have := (h.x.put 0 (.slice s1 n1 c1)).put 1 (.int .i64 (u1 : Int))
  exact this
/- a row of the call's own, laid after the draws, the box and the act -/
theorem Row.below {sr : Option Addr} {out : List Int} (h : Row W sr out b bx t) (hb : Below W.heap.size W W') : Row W' sr out b bx t := ⟨h.s.below hb (Nat.le_refl _), h.f⟩
theorem Row.alloc {sr : Option Addr} {out : List Int} (h : Row W sr out b bx t) (o : Obj) : Row (W.alloc o) sr out b bx t := h.below ((Below.refl _ _).alloc (Nat.le_refl _) _)
theorem Row.step {sr : Option Addr} {out : List Int} (h : Row W sr out b bx t) (hg : W.grownBy W' (some b)) : Row W' sr out b bx t :=
  ⟨h.s.grown hg fun a ha => by have := (h.f a ha).1; omega, h.f⟩
theorem Row.put {sr : Option Addr} {out : List Int} (h : Row W sr out b bx t) (v0 v1 : Value) : Row ((W.setCell ⟨bx, 0, none⟩ v0).setCell ⟨bx, 1, none⟩ v1) sr out b bx t :=
  ⟨h.s.grown (grown_trans (grown_set W ⟨bx, 0, none⟩ v0) (grown_set _ ⟨bx, 1, none⟩ v1)) fun a ha => by have := (h.f a ha).2.1; show a.block ≠ bx; omega, h.f⟩

def pnPost (w : World) (b g : Nat) (l : List Nat) (ud bx ur : Nat) (sp : Option Addr) (n c t : Nat) (r : ActR) (u1 n1 : Nat) (x y : Int) (e : Ending) (w' : World) : Prop :=
  ∃ s1 c1, e = .returned (.tuple #[.agg #[.slice s1 n1 c1, .int .i64 (u1 : Int)], .int .i64 x, .int .i64 y]) ∧ RP w b g l ud bx ur sp n c t r w' ∧ Lf w.heap.size w' s1 n1 c1 (l.drop u1)
theorem pn1 (m : Int) {x y : Int} {u1 n1 : Nat} (hx : nextN l ur m = x) (hy : nextE l ur m = y) (hu : nextU l ur m = u1) (hn : l.length - u1 = n1) (h : RP w b g l ud bx ur sp n c t r W) :
    Calls Try.prog 11 #[.agg #[.slice sp n c, .int .i64 (ur : Int)], .int .i64 m] W (pnPost w b g l ud bx ur sp n c t r u1 n1 x y) := by
  have hl := h.s.d.len
  have hf := h.f
  have e := h.e
  subst hx hy hn hu
  rw [← e] at hf ⊢
  refine (rNext_any sp c l ur m w.heap.size W h.s.f.size hf (by omega)).mono ?_
  rintro e' w' ⟨s1, c1, rfl, hlf, hb⟩
  exact ⟨s1, c1, rfl, by rw [e]; exact h.below hb, hlf.below (hb.mono h.s.f.size)⟩
theorem pn2 (m : Int) {x y : Int} {u1 : Nat} (hx : nextN l ud m = x) (hy : nextE l ud m = y) (hu : nextU l ud m = u1) (h : RP w b g l ud bx ur sp n c t r W) :
    Calls Try.prog 12 #[.pointer (some ⟨b, 0, none⟩), .int .i64 m, .int .i64 x, .int .i64 y] W fun e w' => e = .returned (.bool true) ∧ RP w b g l u1 bx ur sp n c t r w' := by
  have cc := next_any m x y h.s.d
  rw [hx, hy, hu] at cc
  simp only [beq_self_eq_true, Bool.and_self] at cc
  exact cc.mono fun e w' ⟨he, hd, hg⟩ => ⟨he, h.step hd hg⟩

def psPost (w : World) (b g : Nat) (l : List Nat) (ud bx ur : Nat) (sp : Option Addr) (n c t : Nat) (r : ActR) (u1 n1 : Nat) (out : List Int) (L : Nat) (y : Int) (sm : Option Addr) (mine : List Int) (e : Ending) (w' : World) : Prop :=
  ∃ s1 c1 so co, e = .returned (.tuple #[.agg #[.slice s1 n1 c1, .int .i64 (u1 : Int)], .slice so L co, .int .i64 y]) ∧ RP w b g l ud bx ur sp n c t r w' ∧ Lf w.heap.size w' s1 n1 c1 (l.drop u1) ∧ Row w' so out b bx t ∧ Row w' sm mine b bx t
theorem ps1 {y : Int} {u1 n1 L : Nat} {out : List Int} {sm : Option Addr} (hL : out.length = L) (hx : shOut l ur r.list = out) (hy : shE l ur r.list.length = y) (hu : shU l ur r.list.length = u1) (hn : l.length - u1 = n1) (h : RP w b g l ud bx ur sp n c t r W)
    (hs : src w r.sp (is r.list)) (hl : r.list.length ≤ 9223372036854775807) (hc : r.sp = none → r.cap = 0) (hm : Row W sm r.list b bx t) :
    Calls Try.prog 13 #[.agg #[.slice sp n c, .int .i64 (ur : Int)], .slice r.sp r.list.length r.cap] W (psPost w b g l ud bx ur sp n c t r u1 n1 out L y sm r.list) := by
  have hll := h.s.d.len
  have hf := h.f
  have e := h.e
  subst hL hx hy hn hu
  rw [← e] at hf ⊢
  refine (rShuffle_any sp c l ur r.sp r.cap r.list w.heap.size W h.s.f.size hf (h.src hs) hl (by omega) hc).mono ?_
  rintro e' w' ⟨s1, c1, v, rfl, hlf, ⟨so, co, rfl, hso, hfo⟩, hb⟩
  obtain ⟨k1, k2, k3⟩ := h.lt
  exact ⟨s1, c1, so, co, rfl, by rw [e]; exact h.below hb, hlf.below (hb.mono h.s.f.size), ⟨hso, fun a ha => by have := hfo a ha; omega⟩, hm.below hb⟩
def shlPost (w : World) (b g : Nat) (l : List Nat) (u1 bx ur : Nat) (sp : Option Addr) (n c t : Nat) (r : ActR) (sm : Option Addr) (mine : List Int) (e : Ending) (w' : World) : Prop :=
  e = .returned (.bool true) ∧ RP w b g l u1 bx ur sp n c t r w' ∧ Row w' sm mine b bx t
theorem ps2 {y : Int} {u1 L co cm N : Nat} {out : List Int} {so sm : Option Addr} (hL : out.length = L) (hN : r.list.length = N) (hx : shOut l ud r.list = out) (hy : shE l ud r.list.length = y) (hu : shU l ud r.list.length = u1) (h : RP w b g l ud bx ur sp n c t r W)
    (hl : r.list.length ≤ 9223372036854775807) (ho : Row W so out b bx t) (hm : Row W sm r.list b bx t) :
    Calls Try.prog 14 #[.pointer (some ⟨b, 0, none⟩), .slice sm N cm, .slice so L co, .int .i64 y] W (shlPost w b g l u1 bx ur sp n c t r sm r.list) := by
  subst hL hN
  have hol : out.length ≤ r.list.length := by rw [← hx]; exact shOut_len l ud r.list
  have cc := shuffles_any sm so _ out.length cm co r.list out y h.s.d hm.s rfl hl ho.s rfl (by omega) (fun a ha => by have := (ho.f a ha).1; omega)
  rw [hx, hy, hu, sameB_of rfl] at cc
  simp only [beq_self_eq_true, Bool.and_self] at cc
  exact cc.mono fun e w' ⟨he, hd, hg⟩ => ⟨he, h.step hd hg, hm.step hg⟩
theorem ps3 {sm : Option Addr} {cm N : Nat} (hN : r.list.length = N) (h : RP w b g l ud bx ur sp n c t r W) (hm : Row W sm r.list b bx t) (hs : src w r.sp (is r.list)) (hl : r.list.length ≤ 9223372036854775807) :
    Calls Try.prog 15 #[.slice sm N cm, .slice r.sp r.list.length r.cap] W fun e w' => e = .returned (.bool true) ∧ RP w b g l ud bx ur sp n c t r w' := by
  subst hN
  have cc := Same_any sm r.sp r.list.length r.list.length cm r.cap r.list r.list W hm.s (h.src hs) rfl rfl hl hl
  rw [sameB_of rfl] at cc
  exact cc.mono fun e w' ⟨he, k, hw⟩ => ⟨he, hw ▸ h.drewN k⟩

def ppPost (w : World) (b g : Nat) (l : List Nat) (ud bx ur : Nat) (sp : Option Addr) (n c t : Nat) (r : ActR) (u1 n1 : Nat) (out : List Int) (L : Nat) (y : Int) (e : Ending) (w' : World) : Prop :=
  ∃ s1 c1 so co, e = .returned (.tuple #[.agg #[.slice s1 n1 c1, .int .i64 (u1 : Int)], .slice so L co, .int .i64 y]) ∧ RP w b g l ud bx ur sp n c t r w' ∧ Lf w.heap.size w' s1 n1 c1 (l.drop u1) ∧ Row w' so out b bx t
theorem pp1 (m k : Int) {y : Int} {u1 n1 L : Nat} {out : List Int} (hL : out.length = L) (hx : pkOut l ur m k = out) (hy : pkE l ur m k = y) (hu : pkU l ur m k = u1) (hn : l.length - u1 = n1) (h : RP w b g l ud bx ur sp n c t r W) :
    Calls Try.prog 16 #[.agg #[.slice sp n c, .int .i64 (ur : Int)], .int .i64 m, .int .i64 k] W (ppPost w b g l ud bx ur sp n c t r u1 n1 out L y) := by
  have hll := h.s.d.len
  have hf := h.f
  have e := h.e
  subst hL hx hy hn hu
  rw [← e] at hf ⊢
  refine (rPick_any sp c l ur m k w.heap.size W h.s.f.size hf (by omega)).mono ?_
  rintro e' w' ⟨s1, c1, v, rfl, hlf, ⟨so, co, rfl, hso, hfo⟩, hb⟩
  obtain ⟨k1, k2, k3⟩ := h.lt
  exact ⟨s1, c1, so, co, rfl, by rw [e]; exact h.below hb, hlf.below (hb.mono h.s.f.size), ⟨hso, fun a ha => by have := hfo a ha; omega⟩⟩
theorem pp2 (m k : Int) {y : Int} {u1 L co : Nat} {out : List Int} {so : Option Addr} (hL : out.length = L) (hx : pkOut l ud m k = out) (hy : pkE l ud m k = y) (hu : pkU l ud m k = u1) (h : RP w b g l ud bx ur sp n c t r W) (ho : Row W so out b bx t) :
    Calls Try.prog 17 #[.pointer (some ⟨b, 0, none⟩), .int .i64 m, .int .i64 k, .slice so L co, .int .i64 y] W fun e w' => e = .returned (.bool true) ∧ RP w b g l u1 bx ur sp n c t r w' := by
  subst hL
  have hol : out.length ≤ 65536 := by rw [← hx]; exact pkOut_len l ud m k
  have cc := picks_any m k so out.length co out y h.s.d ho.s rfl (by omega) (fun a ha => by have := (ho.f a ha).1; omega)
  rw [hx, hy, hu, sameB_of rfl] at cc
  simp only [beq_self_eq_true, Bool.and_self] at cc
  exact cc.mono fun e w' ⟨he, hd, hg⟩ => ⟨he, h.step hd hg⟩

/- a copy takes the draws' place; what is done with the old ones changes nothing -/
def pcPost (w : World) (b g : Nat) (l : List Nat) (ud bx ur : Nat) (sp : Option Addr) (n c t : Nat) (r : ActR) (e : Ending) (w' : World) : Prop :=
  ∃ b2 g2, e = .returned (.pointer (some ⟨b2, 0, none⟩)) ∧ RP w b g l ud bx ur sp n c t r w' ∧ St w b2 g2 l ud w' ∧ b2 ≠ b ∧ g2 ≠ b
theorem pc1 (h : RP w b g l ud bx ur sp n c t r W) : Calls Try.prog 18 #[.pointer (some ⟨b, 0, none⟩)] W (pcPost w b g l ud bx ur sp n c t r) := by
  refine (Copy_any h.s.d).mono ?_
  rintro e w' ⟨b2, rfl, hd, hlt, hb⟩
  obtain ⟨k1, k2, k3⟩ := h.lt
  have := h.s.f.size
  exact ⟨b2, W.heap.size, rfl, h.below hb, ⟨hd, h.s.f.trans (hb.mono h.s.f.size), by omega, h.s.f.size⟩, by omega, by omega⟩
/- the old draws beside the copy -/
structure RC (w : World) (b g : Nat) (l : List Nat) (ud bx ur : Nat) (sp : Option Addr) (n c t : Nat) (r : ActR) (u2 b2 g2 : Nat) (W : World) : Prop where
  p : RP w b g l u2 bx ur sp n c t r W
  o : St w b2 g2 l ud W
  nb : b2 ≠ b
  ng : g2 ≠ b
theorem RC.step {u2 b2 g2 u' : Nat} (h : RC w b g l ud bx ur sp n c t r u2 b2 g2 W) (hd : isD W' b g l u') (hg : W.grownBy W' (some b)) : RC w b g l ud bx ur sp n c t r u' b2 g2 W' :=
  ⟨h.p.step hd hg, h.o.other2 hg h.p.s.hb h.nb h.ng, h.nb, h.ng⟩
theorem RC.below {u2 b2 g2 : Nat} (h : RC w b g l ud bx ur sp n c t r u2 b2 g2 W) (hb : Below W.heap.size W W') : RC w b g l ud bx ur sp n c t r u2 b2 g2 W' :=
  ⟨h.p.below hb, h.o.below hb, h.nb, h.ng⟩
/- the copy goes on -/
theorem RC.fst {u2 b2 g2 : Nat} (h : RC w b g l ud bx ur sp n c t r u2 b2 g2 W) : RP w b2 g2 l ud bx ur sp n c t r W := ⟨h.o, h.p.e, h.p.x, h.p.f, h.p.bx0, h.p.a, h.p.t0⟩
def pc2Post (w : World) (b g : Nat) (l : List Nat) (ud bx ur : Nat) (sp : Option Addr) (n c t : Nat) (r : ActR) (b2 g2 : Nat) (x y : Int) (e : Ending) (w' : World) : Prop :=
  ∃ u2, e = .returned (.tuple #[.int .i64 x, .int .i64 y]) ∧ RC w b g l ud bx ur sp n c t r u2 b2 g2 w'
theorem pc2 {u2 b2 g2 : Nat} (h : RC w b g l ud bx ur sp n c t r u2 b2 g2 W) : Calls Try.prog 19 #[.pointer (some ⟨b, 0, none⟩), .int .i64 3] W (pc2Post w b g l ud bx ur sp n c t r b2 g2 (nextN l u2 3) (nextE l u2 3)) := by
  refine (Next_any 3 h.p.s.d).mono ?_
  rintro e w' ⟨rfl, hd, hg⟩
  exact ⟨_, rfl, h.step hd hg⟩
def pc3Post (w : World) (b g : Nat) (l : List Nat) (ud bx ur : Nat) (sp : Option Addr) (n c t : Nat) (r : ActR) (b2 g2 : Nat) (y : Int) (e : Ending) (w' : World) : Prop :=
  ∃ u2 v, e = .returned (.tuple #[v, .int .i64 y]) ∧ RC w b g l ud bx ur sp n c t r u2 b2 g2 w'
theorem pc3 {u2 b2 g2 q : Nat} (h : RC w b g l ud bx ur sp n c t r u2 b2 g2 W) (hq : has W q 3 [.int .i64 1, .int .i64 2, .int .i64 3]) :
    Calls Try.prog 20 #[.pointer (some ⟨b, 0, none⟩), .slice (some ⟨q, 0, none⟩) 3 3] W (pc3Post w b g l ud bx ur sp n c t r b2 g2 (shE l u2 3)) := by
  have hs : src W (some ⟨q, 0, none⟩) (is [1, 2, 3]) := src.of (cs := [.int .i64 1, .int .i64 2, .int .i64 3]) hq
  refine (Shuffle_any (some ⟨q, 0, none⟩) 3 3 [1, 2, 3] h.p.s.d hs rfl (by omega)).mono ?_
  rintro e w' ⟨v, rfl, ho, hd, hg⟩
  exact ⟨_, v, rfl, h.step hd hg⟩

/- the end of a round -/
def prPost (w : World) (b g : Nat) (l : List Nat) (ud bx ur : Nat) (sp : Option Addr) (n c t : Nat) (r : ActR) (q : Nat) (A : Nat) (e : Ending) (w' : World) : Prop :=
  e = .returned (.slice (some ⟨q, 0, none⟩) A A) ∧ RP w b g l ud bx ur sp n c t r w' ∧ has w' q 30 (us (l.drop ud)) ∧ b < q ∧ bx < q ∧ t < q ∧ g < q ∧ w.heap.size ≤ q
theorem pr1 {A q : Nat} (hA : l.length - ud = A) (hq : W.heap.size = q) (h : RP w b g l ud bx ur sp n c t r W) : Calls Try.prog 21 #[.pointer (some ⟨b, 0, none⟩)] W (prPost w b g l ud bx ur sp n c t r q A) := by
  subst hA hq
  obtain ⟨k1, k2, k3⟩ := h.lt
  exact (Rest_any h.s.d).mono fun e w' ⟨he, hh, hb⟩ => ⟨he, h.below hb, hh, k1, k2, k3, h.s.d.n.lt, h.s.f.size⟩
theorem pr2 {q A : Nat} (k : Nat) (hA : l.length - ur = A) (h : RP w b g l ur bx ur sp A c t r W) (hr : has W q 30 (us (l.drop ur))) :
    Calls Try.prog 22 #[.slice (some ⟨q, 0, none⟩) A A, .slice sp A c] (W.drewN k) fun e w' => e = .returned (.bool true) ∧ ∃ m, w' = (W.drewN k).drewN m := by
  have hlen := h.s.d.len
  have hs : src (W.drewN k) sp (us (l.drop ur)) := fun h0 => by
    obtain ⟨b, o, e, hb, hc⟩ := h.f.s (by rw [us_len] at h0; have := h.f.l; omega)
    exact ⟨b, o, e, by have := h.s.f.size; show b < W.heap.size; omega, hc⟩
  have cc := Words_any (some ⟨q, 0, none⟩) sp A A A c (l.drop ur) (l.drop ur) (W.drewN k) (src.of (hr.drewN k)) hs (by rw [List.length_drop]; exact hA) (by rw [List.length_drop]; exact hA) (by omega) (by omega)
  rw [sameB_of rfl] at cc
  exact cc
theorem pr3 {A : Nat} (k : Nat) (hA : l.length - ud = A) (h : RP w b g l ud bx ur sp n c t r W) : Calls Try.prog 23 #[.pointer (some ⟨b, 0, none⟩)] (W.drewN k) fun e w' => e = .returned (.int .i64 (A : Int)) ∧ ∃ m, w' = (W.drewN k).drewN m := by
  subst hA
  exact Left_any (h.drewN k).s.d
theorem pr4 (k : Nat) (h : RP w b g l ud bx ur sp n c t r W) : Calls Try.prog 24 #[.pointer (some ⟨b, 0, none⟩)] (W.drewN k) fun e w' => e = .returned (.int .i64 (ud : Int)) ∧ w' = W.drewN k :=
  (Used_any (h.drewN k).s.d).mono fun e w' ⟨he, hw⟩ => ⟨he, hw.symm⟩
end
/- what stands at the head of a round -/
structure PSt (w : World) (b g : Nat) (l : List Nat) (u bx : Nat) (sp : Option Addr) (n c : Nat) (W : World) : Prop where
  s : St w b g l u W
  e : l.length - u = n
  x : has W bx 32 [.slice sp n c, .int .i64 (u : Int)]
  f : Lf w.heap.size W sp n c (l.drop u)
  bx0 : w.heap.size ≤ bx
def PRel (w : World) (b : Nat) (l : List Nat) (bx : Nat) (W : World) : Prop := ∃ u g sp n c, PSt w b g l u bx sp n c W
theorem pst0 {w W : World} {b g n c : Nat} {sp : Option Addr} {l : List Nat} (h : St w b g l 0 W) (hu : UsAt w sp n l) (h1 : n ≤ c) (h2 : c ≤ 9223372036854775807) :
    PRel w b l W.heap.size (W.alloc (.cells #[.slice sp n c, .int .i64 0] 32)) := by
  have hl := hu.n
  have h3 := has.new W 32 [.slice sp n c, .int .i64 0]
  have h4 := (lf_of_us hu h1 h2).below (h.alloc (.cells #[.slice sp n c, .int .i64 0] 32)).f
  exact ⟨0, g, sp, n, c, h.alloc _, by omega, h3, by rw [List.drop_zero]; exact h4, h.f.size⟩
theorem rp0 {w W : World} {b g u bx n c : Nat} {sp : Option Addr} {l : List Nat} {r : ActR} (h : PSt w b g l u bx sp n c W) :
    RP w b g l u bx u sp n c W.heap.size r (W.alloc (.cells #[.int .i64 r.what, .int .i64 r.n, .int .i64 r.many, .slice r.sp r.list.length r.cap] 35)) :=
  ⟨h.s.alloc _, h.e, h.x.alloc _, h.f.below ((Below.refl _ _).alloc h.s.f.size _), h.bx0, has.new W _ (actV r), h.s.f.size⟩
theorem RP.st {w W : World} {b g u bx n c t : Nat} {sp : Option Addr} {l : List Nat} {r : ActR} (h : RP w b g l u bx u sp n c t r W) : PSt w b g l u bx sp n c W := ⟨h.s, h.e, h.x, h.f, h.bx0⟩
theorem PSt.drewN {w W : World} {b g u bx n c : Nat} {sp : Option Addr} {l : List Nat} (h : PSt w b g l u bx sp n c W) (k : Nat) : PSt w b g l u bx sp n c (W.drewN k) := ⟨h.s.drewN k, h.e, h.x.drewN k, h.f.below ⟨rfl, rfl, rfl, Nat.le_refl _, fun _ _ => rfl⟩, h.bx0⟩
/- a row that came later is stored into -/
theorem PSt.far {w W : World} {b g u bx n c q j : Nat} {sp : Option Addr} {l : List Nat} (h : PSt w b g l u bx sp n c W) (q1 : b < q) (q2 : bx < q) (q4 : g < q) (q5 : w.heap.size ≤ q) (v : Value) : PSt w b g l u bx sp n c (W.setCell ⟨q, j, none⟩ v) := by
  have gg := grown_set W ⟨q, j, none⟩ v
  exact ⟨h.s.other2 gg q5 (by show b ≠ q; omega) (by show g ≠ q; omega), h.e, h.x.grown gg (by simp; omega), h.f.below (below_grown (Below.refl _ _) gg h.s.f.size q5), h.bx0⟩
end Go.Proofs.Ytefncefmolphfaa.drFn
