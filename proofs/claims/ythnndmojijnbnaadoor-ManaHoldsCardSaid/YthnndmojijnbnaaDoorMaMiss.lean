/- What package mana's Missing, Can and Add return. -/
import Derived.Test.YthnndmojijnbnaaDoorMaFn2
import Derived.Test.YthnndmojijnbnaaDoorDrMem
namespace Go.Proofs.YthnndmojijnbnaaDoor.maFn
open Go.ChangeShapes Go.WideShapes Go.ChangeAt Go.RowKit drMem
set_option linter.unusedVariables false

theorem four {w : World} {g : Nat} {t : TypeId} {a b c d : Value} (h : has w g t [a, b, c, d]) :
    w.cell? ⟨g, 0, none⟩ = some a ∧ w.cell? ⟨g, 1, none⟩ = some b ∧ w.cell? ⟨g, 2, none⟩ = some c ∧ w.cell? ⟨g, 3, none⟩ = some d ∧ ∀ i, w.frozen? ⟨g, i, none⟩ = false :=
  ⟨h.cell 0, h.cell 1, h.cell 2, h.cell 3, h.free⟩
theorem five {w : World} {g : Nat} {t : TypeId} {a b c d e : Value} (h : has w g t [a, b, c, d, e]) :
    w.cell? ⟨g, 0, none⟩ = some a ∧ w.cell? ⟨g, 1, none⟩ = some b ∧ w.cell? ⟨g, 2, none⟩ = some c ∧ w.cell? ⟨g, 3, none⟩ = some d ∧ w.cell? ⟨g, 4, none⟩ = some e ∧ ∀ i, w.frozen? ⟨g, i, none⟩ = false :=
  ⟨h.cell 0, h.cell 1, h.cell 2, h.cell 3, h.cell 4, h.free⟩
/- the first, second and third block that a call boxes -/
theorem box0 {w w1 : World} {t t1 : TypeId} {cs : List Value} {os : Array Value} {f : Nat × Nat} {g : Nat} (h : has w g t cs) : has (w.alloc (.cells os t1 f)) g t cs := h.alloc _
theorem new0 (w : World) (t : TypeId) (cs : List Value) : has (w.alloc (.cells cs.toArray t)) w.heap.size t cs := has.new w t cs
theorem new1 (w : World) (o : Obj) (t : TypeId) (cs : List Value) : has ((w.alloc o).alloc (.cells cs.toArray t)) (w.heap.size + 1) t cs := by
  have := has.new (w.alloc o) t cs; simpa using this
theorem new2 (w : World) (o o' : Obj) (t : TypeId) (cs : List Value) : has (((w.alloc o).alloc o').alloc (.cells cs.toArray t)) (w.heap.size + 1 + 1) t cs := by
  have := has.new ((w.alloc o).alloc o') t cs; simpa using this

/- by how much o is above m -/
def de (o m : Int) : Int := max 0 (o - m)
/- what is left of a pool a b c d when p q r s is taken, as far as there is -/
def lf (a b c d p q r s : Int) : Int := de a p + de b q + de c r + de d s
theorem de_bd (o m : Int) : 0 ≤ de o m := by unfold de; omega
theorem de_le (o m : Int) (h : 0 ≤ o) (h' : 0 ≤ m) : de o m ≤ o := by unfold de; omega
theorem lf_bd (a b c d p q r s : Int) : 0 ≤ lf a b c d p q r s := by unfold lf de; omega
theorem lf_le (a b c d p q r s : Int) (h : okM 99 a b c d = true) (h' : okM 20 p q r s = true) : lf a b c d p q r s ≤ 396 := by
  rw [okM_iff] at *; unfold lf de; omega

theorem sSub_de (a b m : Int) (w : World) (a0 : 0 ≤ a) (a1 : a ≤ m) (b0 : 0 ≤ b) (b1 : b ≤ 396) (m1 : m ≤ 99) :
    Calls Tryd.prog 34 #[.int .i64 a, .int .i64 b, .int .i64 m] w fun e w' => e = .returned (.int .i64 (de a b)) ∧ w = w' :=
  (sSub_any a b m w (by omega) (by omega) (by omega) (by omega) (by omega) (by omega)).mono fun e w' ⟨h1, h2⟩ => ⟨h1.trans (ret_int (by unfold cl de; omega)), h2⟩

set_option maxRecDepth 100000 in
set_option maxHeartbeats 2000000 in
theorem Missing_yes (a b c d p q r s x : Int) (w : World) (hm : okM 99 a b c d = true) (hk : okC p q r s x = true) :
    Calls Tryd.prog 22 #[.agg #[.int .i64 a, .int .i64 b, .int .i64 c, .int .i64 d], .agg #[.int .i64 p, .int .i64 q, .int .i64 r, .int .i64 s, .int .i64 x]] w
      fun e w' => e = .returned (.agg #[.int .i64 (de p a), .int .i64 (de q b), .int .i64 (de r c), .int .i64 (de s d), .int .i64 (de x (lf a b c d p q r s))]) ∧ Below w.heap.size w w' := by
  have d1 : (!okM 99 a b c d) = false := by rw [hm]; rfl
  have d2 : (!okC p q r s x) = false := by rw [hk]; rfl
  have HM := Lib.hid hm; have HK := Lib.hid hk
  obtain ⟨⟨a0, a1⟩, ⟨b0, b1⟩, ⟨c0, c1⟩, ⟨e0, e1⟩⟩ := (okM_iff _ _ _ _ _).1 hm
  obtain ⟨⟨⟨p0, p1⟩, ⟨q0, q1⟩, ⟨r0, r1⟩, ⟨s0, s1⟩⟩, x0, x1⟩ := (okC_iff _ _ _ _ _).1 hk
  clear hm hk
  have i0 := ix0 p q r s; have i1 := ix1 p q r s; have i2 := ix2 p q r s; have i3 := ix3 p q r s
  go_enter Tryd.func22, Tryd.ntmps22
  go_wp2_with fail
  refine (Valid_any _ _ _ _ _).mono ?_; rintro e w1 ⟨rfl, hb1⟩
  have M1 := (((new0 w 23 [.int .i64 a, .int .i64 b, .int .i64 c, .int .i64 d]).alloc _).alloc _).below hb1 (by simp; omega)
  have K1 := ((new1 w _ 25 [.int .i64 p, .int .i64 q, .int .i64 r, .int .i64 s, .int .i64 x]).alloc _).below hb1 (by simp)
  have R1 := (new2 w _ _ 25 [.int .i64 0, .int .i64 0, .int .i64 0, .int .i64 0, .int .i64 0]).below hb1 (by simp)
  have B1 : Below w.heap.size w w1 := next (by go_grown) hb1
  have z1 : w.heap.size + 2 < w1.heap.size := by have := hb1.size; simp at this; omega
  clear hb1
  obtain ⟨u0, u1, u2, u3, u4, u5⟩ := five K1
  go_wp2_with fail
  refine (ValidCost_any _ _ _ _ _ _).mono ?_; rintro e w2 ⟨rfl, hb2⟩
  clear u0 u1 u2 u3 u4 u5
  obtain ⟨t0, t1, t2, t3, t5⟩ := four (M1.below hb2 (by omega))
  obtain ⟨u0, u1, u2, u3, u4, u5⟩ := five (K1.below hb2 (by omega))
  obtain ⟨v0, v1, v2, v3, v4, v5⟩ := five (R1.below hb2 (by omega))
  have B2 : Below w.heap.size w w2 := next B1 hb2
  have z2 : w.heap.size + 1 + 1 < w2.heap.size := by have := hb2.size; omega
  have y0 : w.heap.size < w2.heap.size := by omega
  have y1 : w.heap.size + 1 < w2.heap.size := by omega
  clear hb2 M1 K1 R1
  go_wp2_with fail
  have g0 := de_bd a p; have g1 := de_bd b q; have g2 := de_bd c r; have g3 := de_bd d s
  have l0 := de_le a p a0 p0; have l1 := de_le b q b0 q0; have l2 := de_le c r c0 r0; have l3 := de_le d s e0 s0
  refine wp_loop_rounds 5 ?_
  rw [rounds_succ]
  go_wp2_with (go_at_call 34; refine (sSub_de _ _ _ _ (by omega) (by omega) (by omega) (by omega) (by omega)).mono ?_; rintro e w' ⟨rfl, rfl⟩)
  rw [rounds_succ]
  go_wp2_with (go_at_call 34; refine (sSub_de _ _ _ _ (by omega) (by omega) (by omega) (by omega) (by omega)).mono ?_; rintro e w' ⟨rfl, rfl⟩)
  rw [rounds_succ]
  go_wp2_with (go_at_call 34; refine (sSub_de _ _ _ _ (by omega) (by omega) (by omega) (by omega) (by omega)).mono ?_; rintro e w' ⟨rfl, rfl⟩)
  rw [rounds_succ]
  go_wp2_with (go_at_call 34; refine (sSub_de _ _ _ _ (by omega) (by omega) (by omega) (by omega) (by omega)).mono ?_; rintro e w' ⟨rfl, rfl⟩)
  rw [rounds_succ]
  go_wp2_with (go_at_call 34; refine (sSub_de _ _ _ _ (by omega) (by omega) (by omega) (by omega) (by omega)).mono ?_; rintro e w' ⟨rfl, rfl⟩)
  exact bodyPost_ret (v := .agg #[.int .i64 (de p a), .int .i64 (de q b), .int .i64 (de r c), .int .i64 (de s d), .int .i64 (de x (lf a b c d p q r s))]) (by simp [results, Tryd.results22, go_sem, v0, v1, v2, v3, v4, z2, lf]) rfl ⟨rfl, by go_grown⟩

end Go.Proofs.YthnndmojijnbnaaDoor.maFn
