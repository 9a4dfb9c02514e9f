/- One round of the stage's theorem: what each of its calls returns and leaves. -/
import Derived.Test.YtefncefmolphfaaDrSmall
import Derived.Test.YtefncefmolphfaaDrMath
namespace Go.Proofs.Ytefncefmolphfaa.drFn
open Go.ChangeShapes Go.WideShapes Go.ChangeAt Go.RowKit drMem
set_option linter.unusedVariables false

theorem St.other2 {w W W' : World} {b b2 g2 : Nat} {l2 : List Nat} {u2 : Nat} (h : St w b2 g2 l2 u2 W) (hg : W.grownBy W' (some b)) (hb : w.heap.size ≤ b) (h1 : b2 ≠ b) (h2 : g2 ≠ b) : St w b2 g2 l2 u2 W' :=
  ⟨h.d.grown hg h1 h2, below_grown h.f hg h.f.size hb, h.hb, h.hg⟩
def actV (r : ActR) : List Value := [.int .i64 r.what, .int .i64 r.n, .int .i64 r.many, .slice r.sp r.list.length r.cap]
/- draws, and the act of the round -/
structure RS (w : World) (b g : Nat) (l : List Nat) (u t : Nat) (r : ActR) (W : World) : Prop where
  s : St w b g l u W
  a : has W t 35 (actV r)
  t0 : w.heap.size ≤ t
/- and other draws -/
structure RS2 (w : World) (b g : Nat) (l : List Nat) (u b2 g2 : Nat) (l2 : List Nat) (u2 t : Nat) (r : ActR) (W : World) : Prop where
  s : St w b g l u W
  o : St w b2 g2 l2 u2 W
  a : has W t 35 (actV r)
  t0 : w.heap.size ≤ t
  bb : b2 ≠ b
section
variable {w W W' : World} {b g u b2 g2 u2 t u' : Nat} {l l2 : List Nat} {r : ActR}
theorem RS2.fst (h : RS2 w b g l u b2 g2 l2 u2 t r W) (hd : isD W' b g l u') (hg : W.grownBy W' (some b)) : RS2 w b g l u' b2 g2 l2 u2 t r W' :=
  ⟨h.s.step hd hg, h.o.other2 hg h.s.hb h.bb (Ne.symm (h.s.d.d.ne h.o.d.n (by decide))), h.a.grown hg (by simp; exact h.a.ne h.s.d.d (by decide)), h.t0, h.bb⟩
theorem RS2.snd (h : RS2 w b g l u b2 g2 l2 u2 t r W) (hd : isD W' b2 g2 l2 u') (hg : W.grownBy W' (some b2)) : RS2 w b g l u b2 g2 l2 u' t r W' :=
  ⟨h.s.other2 hg h.o.hb (Ne.symm h.bb) (Ne.symm (h.o.d.d.ne h.s.d.n (by decide))), h.o.step hd hg, h.a.grown hg (by simp; exact h.a.ne h.o.d.d (by decide)), h.t0, h.bb⟩
theorem RS2.below (h : RS2 w b g l u b2 g2 l2 u2 t r W) (hb : Below W.heap.size W W') : RS2 w b g l u b2 g2 l2 u2 t r W' :=
  ⟨h.s.below hb, h.o.below hb, h.a.below hb h.a.lt, h.t0, h.bb⟩
theorem RS2.drewN (h : RS2 w b g l u b2 g2 l2 u2 t r W) (n : Nat) : RS2 w b g l u b2 g2 l2 u2 t r (W.drewN n) := ⟨h.s.drewN n, h.o.drewN n, h.a.drewN n, h.t0, h.bb⟩
theorem RS2.f0 (h : RS2 w b g l u b2 g2 l2 u2 t r W) : W.cell? ⟨t, 0, none⟩ = some (.int .i64 r.what) := by rw [h.a.cell]; rfl
theorem RS2.f1 (h : RS2 w b g l u b2 g2 l2 u2 t r W) : W.cell? ⟨t, 1, none⟩ = some (.int .i64 r.n) := by rw [h.a.cell]; rfl
theorem RS2.f2 (h : RS2 w b g l u b2 g2 l2 u2 t r W) : W.cell? ⟨t, 2, none⟩ = some (.int .i64 r.many) := by rw [h.a.cell]; rfl
theorem RS2.f3 (h : RS2 w b g l u b2 g2 l2 u2 t r W) : W.cell? ⟨t, 3, none⟩ = some (.slice r.sp r.list.length r.cap) := by rw [h.a.cell]; rfl
theorem RS2.src (h : RS2 w b g l u b2 g2 l2 u2 t r W) (hs : src w r.sp (is r.list)) : src W r.sp (is r.list) := hs.below h.s.f (Nat.le_refl _)

theorem rd0 (h : St w b g l u W) : RS w b g l u W.heap.size r (W.alloc (.cells #[.int .i64 r.what, .int .i64 r.n, .int .i64 r.many, .slice r.sp r.list.length r.cap] 35)) :=
  ⟨h.alloc _, has.new W _ (actV r), h.f.size⟩
theorem rd1 (h : RS w b g l u t r W) {A q : Nat} (hA : l.length - u = A) (hq : W.heap.size = q) : Calls Try.prog 21 #[.pointer (some ⟨b, 0, none⟩)] W fun e w' => e = .returned (.slice (some ⟨q, 0, none⟩) A A) ∧ RS w b g l u t r w' ∧ has w' q 30 (us (l.drop u)) := by
  subst hA hq
  exact (Rest_any h.s.d).mono fun e w' ⟨he, hh, hb⟩ => ⟨he, ⟨h.s.below hb, h.a.below hb h.a.lt, h.t0⟩, hh⟩
def rd2Post (w : World) (b g : Nat) (l : List Nat) (u t : Nat) (r : ActR) (e : Ending) (w' : World) : Prop :=
  ∃ b2 g2, e = .returned (.tuple #[.pointer (some ⟨b2, 0, none⟩), .int .i64 0]) ∧ RS2 w b g l u b2 g2 (l.drop u) 0 t r w'
theorem rd2 {q : Nat} (h : RS w b g l u t r W) (hq : has W q 30 (us (l.drop u))) {A : Nat} (hA : l.length - u = A) : Calls Try.prog 10 #[.slice (some ⟨q, 0, none⟩) A A] W (rd2Post w b g l u t r) := by
  subst hA
  have hlen := h.s.d.len
  refine (New_ok (some ⟨q, 0, none⟩) _ _ (l.drop u) W (by simp) (by omega) (src.of hq) (fun x hx => h.s.d.val x (List.mem_of_mem_drop hx))).mono ?_
  rintro e w' ⟨b2, rfl, hd, hlt, hb⟩
  have hbl := h.s.d.d.lt
  exact ⟨b2, W.heap.size, rfl, h.s.below hb, ⟨hd, h.s.f.trans (hb.mono h.s.f.size), by have := h.s.f.size; omega, h.s.f.size⟩, h.a.below hb h.a.lt, h.t0, by omega⟩
theorem rd3 (h : RS2 w b g l u b2 g2 l2 u2 t r W) {A : Nat} (hA : l.length - u = A) : Calls Try.prog 23 #[.pointer (some ⟨b, 0, none⟩)] W fun e w' => e = .returned (.int .i64 (A : Int)) ∧ RS2 w b g l u b2 g2 l2 u2 t r w' := by
  subst hA
  exact (Left_any h.s.d).mono fun e w' ⟨he, n, hw⟩ => ⟨he, hw ▸ h.drewN n⟩
theorem rd4 (h : RS2 w b g l u b2 g2 l2 u2 t r W) {A : Nat} (hA : l2.length - u2 = A) : Calls Try.prog 23 #[.pointer (some ⟨b2, 0, none⟩)] W fun e w' => e = .returned (.int .i64 (A : Int)) ∧ RS2 w b g l u b2 g2 l2 u2 t r w' := by
  subst hA
  exact (Left_any h.o.d).mono fun e w' ⟨he, n, hw⟩ => ⟨he, hw ▸ h.drewN n⟩
theorem rd5 (h : RS2 w b g l u b2 g2 l2 u2 t r W) : Calls Try.prog 24 #[.pointer (some ⟨b, 0, none⟩)] W fun e w' => e = .returned (.int .i64 (u : Int)) ∧ RS2 w b g l u b2 g2 l2 u2 t r w' :=
  (Used_any h.s.d).mono fun e w' ⟨he, hw⟩ => ⟨he, hw ▸ h⟩

theorem nx1 (n : Int) {x y : Int} {u1 : Nat} (hx : nextN l u n = x) (hy : nextE l u n = y) (hu : nextU l u n = u1) (h : RS2 w b g l u b2 g2 l2 u2 t r W) :
    Calls Try.prog 19 #[.pointer (some ⟨b, 0, none⟩), .int .i64 n] W fun e w' => e = .returned (.tuple #[.int .i64 x, .int .i64 y]) ∧ RS2 w b g l u1 b2 g2 l2 u2 t r w' := by
  subst hx hy hu
  exact (Next_any n h.s.d).mono fun e w' ⟨he, hd, hg⟩ => ⟨he, h.fst hd hg⟩
theorem nx2 (n : Int) {x y : Int} {u1 : Nat} (hx : nextN l u n = x) (hy : nextE l u n = y) (hu : nextU l u n = u1) (h : RS2 w b g l u' b2 g2 (l.drop u) 0 t r W) :
    Calls Try.prog 12 #[.pointer (some ⟨b2, 0, none⟩), .int .i64 n, .int .i64 x, .int .i64 y] W fun e w' => e = .returned (.bool true) ∧ RS2 w b g l u' b2 g2 (l.drop u) (u1 - u) t r w' := by
  have c := next_any n x y h.o.d
  rw [nextU_drop, nextN_drop, nextE_drop, hx, hy, hu] at c
  simp only [beq_self_eq_true, Bool.and_self] at c
  exact c.mono fun e w' ⟨he, hd, hg⟩ => ⟨he, h.snd hd hg⟩

/- a row of the call's own that was laid after the draws -/
structure Row (W : World) (sp : Option Addr) (out : List Int) (b b2 t : Nat) : Prop where
  s : src W sp (is out)
  f : ∀ a, sp = some a → b < a.block ∧ b2 < a.block ∧ t < a.block
def rowPost (w : World) (b g : Nat) (l : List Nat) (u b2 g2 : Nat) (l2 : List Nat) (u2 t : Nat) (r : ActR) (out : List Int) (L : Nat) (y : Int) (e : Ending) (w' : World) : Prop :=
  ∃ sp, e = .returned (.tuple #[.slice sp L L, .int .i64 y]) ∧ RS2 w b g l u b2 g2 l2 u2 t r w' ∧ Row w' sp out b b2 t
theorem sh1 {y : Int} {u1 L : Nat} {out : List Int} (hL : out.length = L) (hx : shOut l u r.list = out) (hy : shE l u r.list.length = y) (hu : shU l u r.list.length = u1) (h : RS2 w b g l u b2 g2 l2 u2 t r W) (hs : src w r.sp (is r.list)) (hl : r.list.length ≤ 9223372036854775807) :
    Calls Try.prog 20 #[.pointer (some ⟨b, 0, none⟩), .slice r.sp r.list.length r.cap] W (rowPost w b g l u1 b2 g2 l2 u2 t r out L y) := by
  subst hL hx hy hu
  refine (Shuffle_any r.sp _ r.cap r.list h.s.d (h.src hs) rfl hl).mono ?_
  rintro e w' ⟨v, rfl, ho, hd, hg⟩
  obtain ⟨sp, rfl, hsp, hf⟩ := ho.ok
  have e1 := h.s.d.d.lt; have e2 := h.o.d.d.lt; have e3 := h.a.lt
  exact ⟨sp, rfl, h.fst hd hg, hsp, fun a ha => by have := hf a ha; omega⟩
theorem sh2 {sp : Option Addr} {y : Int} {u1 L : Nat} {out : List Int} (hL : out.length = L) (hx : shOut l u r.list = out) (hy : shE l u r.list.length = y) (hu : shU l u r.list.length = u1) (h : RS2 w b g l u' b2 g2 (l.drop u) 0 t r W) (hs : src w r.sp (is r.list)) (hl : r.list.length ≤ 9223372036854775807)
    (hr : Row W sp out b b2 t) :
    Calls Try.prog 14 #[.pointer (some ⟨b2, 0, none⟩), .slice r.sp r.list.length r.cap, .slice sp L L, .int .i64 y] W fun e w' => e = .returned (.bool true) ∧ RS2 w b g l u' b2 g2 (l.drop u) (u1 - u) t r w' ∧ Row w' sp out b b2 t := by
  subst hL
  have hol : out.length ≤ r.list.length := by rw [← hx]; exact shOut_len l u r.list
  have hne : ∀ a, sp = some a → a.block ≠ b2 := fun a ha => by have := hr.f a ha; omega
  have c := shuffles_any r.sp sp _ _ r.cap out.length r.list out y h.o.d (h.src hs) rfl hl hr.s rfl (by omega) hne
  rw [shU_drop, shOut_drop, shE_drop, hx, hy, hu, sameB_of rfl] at c
  simp only [beq_self_eq_true, Bool.and_self] at c
  exact c.mono fun e w' ⟨he, hd, hg⟩ => ⟨he, h.snd hd hg, hr.s.grown hg hne, hr.f⟩
theorem pk1 (m n : Int) {y : Int} {u1 L : Nat} {out : List Int} (hL : out.length = L) (hx : pkOut l u m n = out) (hy : pkE l u m n = y) (hu : pkU l u m n = u1) (h : RS2 w b g l u b2 g2 l2 u2 t r W) :
    Calls Try.prog 25 #[.pointer (some ⟨b, 0, none⟩), .int .i64 m, .int .i64 n] W (rowPost w b g l u1 b2 g2 l2 u2 t r out L y) := by
  subst hL hx hy hu
  refine (Pick_any m n h.s.d).mono ?_
  rintro e w' ⟨v, rfl, ho, hd, hg⟩
  obtain ⟨sp, rfl, hsp, hf⟩ := ho.ok
  have e1 := h.s.d.d.lt; have e2 := h.o.d.d.lt; have e3 := h.a.lt
  exact ⟨sp, rfl, h.fst hd hg, hsp, fun a ha => by have := hf a ha; omega⟩
theorem pk2 (m n : Int) {sp : Option Addr} {y : Int} {u1 L : Nat} {out : List Int} (hL : out.length = L) (hx : pkOut l u m n = out) (hy : pkE l u m n = y) (hu : pkU l u m n = u1) (h : RS2 w b g l u' b2 g2 (l.drop u) 0 t r W)
    (hr : Row W sp out b b2 t) :
    Calls Try.prog 17 #[.pointer (some ⟨b2, 0, none⟩), .int .i64 m, .int .i64 n, .slice sp L L, .int .i64 y] W fun e w' => e = .returned (.bool true) ∧ RS2 w b g l u' b2 g2 (l.drop u) (u1 - u) t r w' ∧ Row w' sp out b b2 t := by
  subst hL
  have hol : out.length ≤ 65536 := by rw [← hx]; exact pkOut_len l u m n
  have hne : ∀ a, sp = some a → a.block ≠ b2 := fun a ha => by have := hr.f a ha; omega
  have c := picks_any m n sp _ out.length out y h.o.d hr.s rfl (by omega) hne
  rw [pkU_drop, pkOut_drop, pkE_drop, hx, hy, hu, sameB_of rfl] at c
  simp only [beq_self_eq_true, Bool.and_self] at c
  exact c.mono fun e w' ⟨he, hd, hg⟩ => ⟨he, h.snd hd hg, hr.s.grown hg hne, hr.f⟩
end
end Go.Proofs.Ytefncefmolphfaa.drFn
