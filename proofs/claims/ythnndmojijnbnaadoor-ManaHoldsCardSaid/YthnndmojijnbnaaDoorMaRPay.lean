/- What the reference's Pay returns. -/
import Derived.Test.YthnndmojijnbnaaDoorMaMost
import Derived.Test.YthnndmojijnbnaaDoorMaEq
namespace Go.Proofs.YthnndmojijnbnaaDoor.maFn
open Go.ChangeShapes Go.WideShapes Go.ChangeAt Go.RowKit drMem
set_option linter.unusedVariables false

set_option maxRecDepth 100000 in
theorem rPay_bad (a b c d p q r s x : Int) (w : World) (h : okM 99 a b c d = false ∨ okC p q r s x = false) :
    Calls Tryd.prog 18 #[.agg #[.int .i64 a, .int .i64 b, .int .i64 c, .int .i64 d], .agg #[.int .i64 p, .int .i64 q, .int .i64 r, .int .i64 s, .int .i64 x]] w
      fun e w' => e = .returned (.tuple #[.agg #[.int .i64 0, .int .i64 0, .int .i64 0, .int .i64 0], .int .i64 2]) ∧ Below w.heap.size w w' := by
  by_cases hm : okM 99 a b c d = true
  · have hk : okC p q r s x = false := by rcases h with h | h; (rw [h] at hm; cases hm); exact h
    have d1 : (!okM 99 a b c d) = false := by rw [hm]; rfl
    have d2 : (!okC p q r s x) = true := by rw [hk]; rfl
    clear h hm hk
    go_enter Tryd.func18, Tryd.ntmps18
    go_wp2_with fail
    refine (rValid_any _ _ _ _ _).mono ?_; rintro e w1 ⟨rfl, hb1⟩
    have K1 := ((new1 w _ 25 [.int .i64 p, .int .i64 q, .int .i64 r, .int .i64 s, .int .i64 x]).alloc _).below hb1 (by simp)
    have R1 := (new2 w _ _ 23 [.int .i64 0, .int .i64 0, .int .i64 0, .int .i64 0]).below hb1 (by simp)
    have B1 : Below w.heap.size w w1 := next (by go_grown) hb1
    have z1 : w.heap.size + 2 < w1.heap.size := by have := hb1.size; simp at this; omega
    clear hb1
    obtain ⟨u0, u1, u2, u3, u4, u5⟩ := five K1
    go_wp2_with fail
    refine (rValidCost_any _ _ _ _ _ _).mono ?_; rintro e w2 ⟨rfl, hb2⟩
    clear u0 u1 u2 u3 u4 u5
    obtain ⟨v0, v1, v2, v3, v5⟩ := four (R1.below hb2 (by omega))
    have B2 : Below w.heap.size w w2 := next B1 hb2
    have z2 : w.heap.size + 1 + 1 < w2.heap.size := by have := hb2.size; omega
    clear hb2 K1 R1
    go_wp2_with fail
    exact bodyPost_ret (v := .tuple #[.agg #[.int .i64 0, .int .i64 0, .int .i64 0, .int .i64 0], .int .i64 2]) (by simp [results, Tryd.results18, go_sem, v0, v1, v2, v3]) rfl ⟨rfl, by go_grown⟩
  · have d1 : (!okM 99 a b c d) = true := by simpa using hm
    clear h hm
    go_enter Tryd.func18, Tryd.ntmps18
    go_wp2_with fail
    refine (rValid_any _ _ _ _ _).mono ?_; rintro e w1 ⟨rfl, hb1⟩
    have R1 := (new2 w _ _ 23 [.int .i64 0, .int .i64 0, .int .i64 0, .int .i64 0]).below hb1 (by simp)
    have B1 : Below w.heap.size w w1 := next (by go_grown) hb1
    have z1 : w.heap.size + 1 + 1 < w1.heap.size := by have := hb1.size; simp at this; omega
    clear hb1
    obtain ⟨v0, v1, v2, v3, v5⟩ := four R1
    go_wp2_with fail
    exact bodyPost_ret (v := .tuple #[.agg #[.int .i64 0, .int .i64 0, .int .i64 0, .int .i64 0], .int .i64 2]) (by simp [results, Tryd.results18, go_sem, v0, v1, v2, v3]) rfl ⟨rfl, by go_grown⟩

theorem Missing_ref (a b c d p q r s x : Int) (w : World) (hm : okM 99 a b c d = true) (hk : okC p q r s x = true) :
    Calls Tryd.prog 19 #[.agg #[.int .i64 a, .int .i64 b, .int .i64 c, .int .i64 d], .agg #[.int .i64 p, .int .i64 q, .int .i64 r, .int .i64 s, .int .i64 x]] w
      fun e w' => e = .returned (.agg #[.int .i64 (de p a), .int .i64 (de q b), .int .i64 (de r c), .int .i64 (de s d), .int .i64 (de x (lf a b c d p q r s))]) ∧ Below w.heap.size w w' := rMissing_yes a b c d p q r s x w hm hk


set_option maxRecDepth 100000 in
set_option maxHeartbeats 4000000 in
theorem rPay_no (a b c d p q r s x : Int) (w : World) (hm : okM 99 a b c d = true) (hk : okC p q r s x = true) (hy : may a b c d p q r s x = false) :
    Calls Tryd.prog 18 #[.agg #[.int .i64 a, .int .i64 b, .int .i64 c, .int .i64 d], .agg #[.int .i64 p, .int .i64 q, .int .i64 r, .int .i64 s, .int .i64 x]] w
      fun e w' => e = .returned (.tuple #[.agg #[.int .i64 0, .int .i64 0, .int .i64 0, .int .i64 0], .int .i64 12]) ∧ Below w.heap.size w w' := by
  have HC := Missing_ref a b c d p q r s x
  have hne : (!eq5 (de p a) (de q b) (de r c) (de s d) (de x (lf a b c d p q r s)) 0 0 0 0 0) = !false := congrArg not hy
  have hNE := neC_run (de p a) (de q b) (de r c) (de s d) (de x (lf a b c d p q r s)) 0 0 0 0 0
  rw [hne] at hNE
  have d1 : (!okM 99 a b c d) = false := by rw [hm]; rfl
  have d2 : (!okC p q r s x) = false := by rw [hk]; rfl
  have HQ := Lib.hid hm; have HK := Lib.hid hk
  clear hm hk hy hne
  go_enter Tryd.func18, Tryd.ntmps18
  go_wp2_with fail
  refine (rValid_any _ _ _ _ _).mono ?_; rintro e w1 ⟨rfl, hb1⟩
  have M1 := (((new0 w 23 [.int .i64 a, .int .i64 b, .int .i64 c, .int .i64 d]).alloc _).alloc _).below hb1 (by simp; omega)
  have K1 := ((new1 w _ 25 [.int .i64 p, .int .i64 q, .int .i64 r, .int .i64 s, .int .i64 x]).alloc _).below hb1 (by simp)
  have R1 := (new2 w _ _ 23 [.int .i64 0, .int .i64 0, .int .i64 0, .int .i64 0]).below hb1 (by simp)
  have B1 : Below w.heap.size w w1 := next (by go_grown) hb1
  clear hb1
  obtain ⟨u0, u1, u2, u3, u4, u5⟩ := five K1
  go_wp2_with fail
  refine (rValidCost_any _ _ _ _ _ _).mono ?_; rintro e w2 ⟨rfl, hb2⟩
  clear u0 u1 u2 u3 u4 u5
  have M2 := (M1.below hb2 M1.lt)
  have K2 := (K1.below hb2 K1.lt)
  have R2 := (R1.below hb2 R1.lt)
  have B2 : Below w.heap.size w w2 := next B1 hb2
  clear hb2 M1 K1 R1
  obtain ⟨w3, hw3⟩ : ∃ w3, w3 = w2.alloc (.cells #[.int .i64 0, .int .i64 0, .int .i64 0, .int .i64 0, .int .i64 0] 25) := ⟨_, rfl⟩
  have M3 : has w3 w.heap.size 23 [.int .i64 a, .int .i64 b, .int .i64 c, .int .i64 d] := by rw [hw3]; exact M2.alloc _
  have K3 : has w3 (w.heap.size + 1) 25 [.int .i64 p, .int .i64 q, .int .i64 r, .int .i64 s, .int .i64 x] := by rw [hw3]; exact K2.alloc _
  have R3 : has w3 (w.heap.size + 1 + 1) 23 [.int .i64 0, .int .i64 0, .int .i64 0, .int .i64 0] := by rw [hw3]; exact R2.alloc _
  have O3 : has w3 w2.heap.size 25 [.int .i64 0, .int .i64 0, .int .i64 0, .int .i64 0, .int .i64 0] := by rw [hw3]; exact new0 w2 _ _
  have B3 : Below w.heap.size w w3 := by rw [hw3]; exact B2.alloc B2.size _
  have HW := Lib.hid hw3
  clear hw3 M2 K2 R2 B2
  go_wp2_with fail
  rw [← HW.out]
  obtain ⟨t0, t1, t2, t3, t5⟩ := four M3
  obtain ⟨u0, u1, u2, u3, u4, u5⟩ := five K3
  obtain ⟨o0, o1, o2, o3, o4, o5⟩ := five O3
  have M3' : has w3.drew w.heap.size 23 [.int .i64 a, .int .i64 b, .int .i64 c, .int .i64 d] := M3
  have K3' : has w3.drew (w.heap.size + 1) 25 [.int .i64 p, .int .i64 q, .int .i64 r, .int .i64 s, .int .i64 x] := K3
  have R3' : has w3.drew (w.heap.size + 1 + 1) 23 [.int .i64 0, .int .i64 0, .int .i64 0, .int .i64 0] := R3
  have O3' : has w3.drew w2.heap.size 25 [.int .i64 0, .int .i64 0, .int .i64 0, .int .i64 0, .int .i64 0] := O3
  have B3' : Below w.heap.size w w3.drew := B3.drew
  go_region_held3 (fun w' => w'.cell? ⟨w.heap.size, 0, none⟩ = some (.int .i64 a) ∧ w'.cell? ⟨w.heap.size, 1, none⟩ = some (.int .i64 b) ∧ w'.cell? ⟨w.heap.size, 2, none⟩ = some (.int .i64 c) ∧ w'.cell? ⟨w.heap.size, 3, none⟩ = some (.int .i64 d) ∧ w'.cell? ⟨w.heap.size + 1, 0, none⟩ = some (.int .i64 p) ∧ w'.cell? ⟨w.heap.size + 1, 1, none⟩ = some (.int .i64 q) ∧ w'.cell? ⟨w.heap.size + 1, 2, none⟩ = some (.int .i64 r) ∧ w'.cell? ⟨w.heap.size + 1, 3, none⟩ = some (.int .i64 s) ∧ w'.cell? ⟨w.heap.size + 1, 4, none⟩ = some (.int .i64 x) ∧ w'.cell? ⟨w2.heap.size, 0, none⟩ = some (.int .i64 0) ∧ w'.cell? ⟨w2.heap.size, 1, none⟩ = some (.int .i64 0) ∧ w'.cell? ⟨w2.heap.size, 2, none⟩ = some (.int .i64 0) ∧ w'.cell? ⟨w2.heap.size, 3, none⟩ = some (.int .i64 0) ∧ w'.cell? ⟨w2.heap.size, 4, none⟩ = some (.int .i64 0) ∧ has w' (w.heap.size) 23 [.int .i64 a, .int .i64 b, .int .i64 c, .int .i64 d] ∧ has w' (w.heap.size + 1) 25 [.int .i64 p, .int .i64 q, .int .i64 r, .int .i64 s, .int .i64 x] ∧ has w' (w.heap.size + 1 + 1) 23 [.int .i64 0, .int .i64 0, .int .i64 0, .int .i64 0] ∧ Below w.heap.size w w') (first | assumption | (refine ⟨?_, ?_, ?_, ?_, ?_, ?_, ?_, ?_, ?_, ?_, ?_, ?_, ?_, ?_, ?_, ?_, ?_, ?_⟩ <;> first | assumption | go_keep)) (first | (go_at_call 19; refine (HC _ HQ.out HK.out).mono ?_; rintro e w4 ⟨rfl, hb4⟩; have M4 := M3'.below hb4 M3'.lt; have K4 := K3'.below hb4 K3'.lt; have R4 := R3'.below hb4 R3'.lt; have O4 := O3'.below hb4 O3'.lt; have B4 := next B3' hb4; obtain ⟨t0, t1, t2, t3, t5⟩ := four M4; obtain ⟨u0, u1, u2, u3, u4, u5⟩ := five K4; obtain ⟨o0, o1, o2, o3, o4, o5⟩ := five O4))
  all_goals
    obtain ⟨v0, v1, v2, v3, v5⟩ := four R4
    have z4 := R4.lt
    go_wp2_with fail
    exact bodyPost_ret (v := .tuple #[.agg #[.int .i64 0, .int .i64 0, .int .i64 0, .int .i64 0], .int .i64 12]) (by simp [results, Tryd.results18, go_sem, v0, v1, v2, v3]) rfl ⟨rfl, by go_grown⟩


structure RP (w : World) (p q r s x : Int) (m0 : P4) (k : Nat) (wr : World) : Prop where
  hm : has wr w.heap.size 23 (payN k m0).cells
  hc : has wr (w.heap.size + 1) 25 [.int .i64 p, .int .i64 q, .int .i64 r, .int .i64 s, .int .i64 x]
  hr : has wr (w.heap.size + 1 + 1) 23 [.int .i64 0, .int .i64 0, .int .i64 0, .int .i64 0]
  hb : Below w.heap.size w wr
theorem rpay_next (w wr w4 : World) (p q r s x : Int) (m0 : P4) (k : Nat) (e t l u e' t' l' u' : Int) (i : Nat) (v : Int) (hp : payN k m0 = ⟨e, t, l, u⟩) (ht : take1 ⟨e, t, l, u⟩ = ⟨e', t', l', u'⟩)
    (hl : (P4.mk e t l u).cells.set i (.int .i64 v) = (P4.mk e' t' l' u').cells) (h : RP w p q r s x m0 k wr) (hb : Below wr.heap.size wr w4) :
    RP w p q r s x m0 (k + 1) (w4.setCell ⟨w.heap.size, i, none⟩ (.int .i64 v)) := by
  obtain ⟨h1, h2, h3, h4⟩ := h
  have hp' : payN (k + 1) m0 = ⟨e', t', l', u'⟩ := by show take1 (payN k m0) = _; rw [hp, ht]
  refine ⟨?_, ?_, ?_, ?_⟩
  · have := (h1.below hb h1.lt).put i (.int .i64 v)
    rw [hp, hl] at this
    rw [hp']
    exact this
  · exact (h2.below hb h2.lt).far (by show w.heap.size + 1 ≠ w.heap.size; omega) _
  · exact (h3.below hb h3.lt).far (by show w.heap.size + 1 + 1 ≠ w.heap.size; omega) _
  · exact (next h4 hb).setCell (by simp) _


set_option maxRecDepth 100000 in
set_option maxHeartbeats 4000000 in
theorem rPay_yes (a b c d p q r s : Int) (x : Nat) (w : World) (hm : okM 99 a b c d = true) (hk : okC p q r s x = true) (hy : may a b c d p q r s x = true) :
    Calls Tryd.prog 18 #[.agg #[.int .i64 a, .int .i64 b, .int .i64 c, .int .i64 d], .agg #[.int .i64 p, .int .i64 q, .int .i64 r, .int .i64 s, .int .i64 x]] w
      fun e w' => e = .returned (.tuple #[.agg #[.int .i64 (payN x ⟨a - p, b - q, c - r, d - s⟩).a, .int .i64 (payN x ⟨a - p, b - q, c - r, d - s⟩).b, .int .i64 (payN x ⟨a - p, b - q, c - r, d - s⟩).c, .int .i64 (payN x ⟨a - p, b - q, c - r, d - s⟩).d], .int .i64 0]) ∧ Below w.heap.size w w' := by
  obtain ⟨⟨a0, a1⟩, ⟨b0, b1⟩, ⟨c0, c1⟩, ⟨e0, e1⟩⟩ := (okM_iff _ _ _ _ _).1 hm
  obtain ⟨⟨⟨p0, p1⟩, ⟨q0, q1⟩, ⟨r0, r1⟩, ⟨s0, s1⟩⟩, x0, x1⟩ := (okC_iff _ _ _ _ _).1 hk
  obtain ⟨⟨pa, qb, rc, sd⟩, xl⟩ := (may_iff _ _ _ _ _ _ _ _ _).1 hy
  obtain ⟨m0, hm0⟩ : ∃ m0, P4.mk (a - p) (b - q) (c - r) (d - s) = m0 := ⟨_, rfl⟩
  have hok : m0.ok = true := by rw [← hm0]; unfold P4.ok; rw [okM_iff]; simp only; omega
  have hsum0 : (x : Int) ≤ (P4.mk (a - p) (b - q) (c - r) (d - s)).sum := by unfold lf de at xl; unfold P4.sum; simp only; omega
  have hsum : (x : Int) ≤ m0.sum := by rw [← hm0]; exact hsum0
  have PN := payN_ok _ hok
  have HP := Lib.hid PN
  have HM0 := Lib.hid hm0
  clear xl
  have HC := Missing_ref a b c d p q r s x
  have hne : (!eq5 (de p a) (de q b) (de r c) (de s d) (de x (lf a b c d p q r s)) 0 0 0 0 0) = !true := congrArg not hy
  have hNE := neC_run (de p a) (de q b) (de r c) (de s d) (de x (lf a b c d p q r s)) 0 0 0 0 0
  rw [hne] at hNE
  have d1 : (!okM 99 a b c d) = false := by rw [hm]; rfl
  have d2 : (!okC p q r s x) = false := by rw [hk]; rfl
  have HQ := Lib.hid hm; have HK := Lib.hid hk
  clear hm hk hy hne hok PN hm0 hsum0
  go_enter Tryd.func18, Tryd.ntmps18
  go_wp2_with fail
  refine (rValid_any _ _ _ _ _).mono ?_; rintro e w1 ⟨rfl, hb1⟩
  have M1 := (((new0 w 23 [.int .i64 a, .int .i64 b, .int .i64 c, .int .i64 d]).alloc _).alloc _).below hb1 (by simp; omega)
  have K1 := ((new1 w _ 25 [.int .i64 p, .int .i64 q, .int .i64 r, .int .i64 s, .int .i64 x]).alloc _).below hb1 (by simp)
  have R1 := (new2 w _ _ 23 [.int .i64 0, .int .i64 0, .int .i64 0, .int .i64 0]).below hb1 (by simp)
  have B1 : Below w.heap.size w w1 := next (by go_grown) hb1
  clear hb1
  obtain ⟨u0, u1, u2, u3, u4, u5⟩ := five K1
  go_wp2_with fail
  refine (rValidCost_any _ _ _ _ _ _).mono ?_; rintro e w2 ⟨rfl, hb2⟩
  clear u0 u1 u2 u3 u4 u5
  have M2 := (M1.below hb2 M1.lt)
  have K2 := (K1.below hb2 K1.lt)
  have R2 := (R1.below hb2 R1.lt)
  have B2 : Below w.heap.size w w2 := next B1 hb2
  clear hb2 M1 K1 R1
  obtain ⟨w3, hw3⟩ : ∃ w3, w3 = w2.alloc (.cells #[.int .i64 0, .int .i64 0, .int .i64 0, .int .i64 0, .int .i64 0] 25) := ⟨_, rfl⟩
  have M3 : has w3 w.heap.size 23 [.int .i64 a, .int .i64 b, .int .i64 c, .int .i64 d] := by rw [hw3]; exact M2.alloc _
  have K3 : has w3 (w.heap.size + 1) 25 [.int .i64 p, .int .i64 q, .int .i64 r, .int .i64 s, .int .i64 x] := by rw [hw3]; exact K2.alloc _
  have R3 : has w3 (w.heap.size + 1 + 1) 23 [.int .i64 0, .int .i64 0, .int .i64 0, .int .i64 0] := by rw [hw3]; exact R2.alloc _
  have O3 : has w3 w2.heap.size 25 [.int .i64 0, .int .i64 0, .int .i64 0, .int .i64 0, .int .i64 0] := by rw [hw3]; exact new0 w2 _ _
  have B3 : Below w.heap.size w w3 := by rw [hw3]; exact B2.alloc B2.size _
  have HW := Lib.hid hw3
  clear hw3 M2 K2 R2 B2
  go_wp2_with fail
  rw [← HW.out]
  obtain ⟨t0, t1, t2, t3, t5⟩ := four M3
  obtain ⟨u0, u1, u2, u3, u4, u5⟩ := five K3
  obtain ⟨o0, o1, o2, o3, o4, o5⟩ := five O3
  have M3' : has w3.drew w.heap.size 23 [.int .i64 a, .int .i64 b, .int .i64 c, .int .i64 d] := M3
  have K3' : has w3.drew (w.heap.size + 1) 25 [.int .i64 p, .int .i64 q, .int .i64 r, .int .i64 s, .int .i64 x] := K3
  have R3' : has w3.drew (w.heap.size + 1 + 1) 23 [.int .i64 0, .int .i64 0, .int .i64 0, .int .i64 0] := R3
  have O3' : has w3.drew w2.heap.size 25 [.int .i64 0, .int .i64 0, .int .i64 0, .int .i64 0, .int .i64 0] := O3
  have B3' : Below w.heap.size w w3.drew := B3.drew
  go_region_held3 (fun w' => w'.cell? ⟨w.heap.size, 0, none⟩ = some (.int .i64 a) ∧ w'.cell? ⟨w.heap.size, 1, none⟩ = some (.int .i64 b) ∧ w'.cell? ⟨w.heap.size, 2, none⟩ = some (.int .i64 c) ∧ w'.cell? ⟨w.heap.size, 3, none⟩ = some (.int .i64 d) ∧ w'.cell? ⟨w.heap.size + 1, 0, none⟩ = some (.int .i64 p) ∧ w'.cell? ⟨w.heap.size + 1, 1, none⟩ = some (.int .i64 q) ∧ w'.cell? ⟨w.heap.size + 1, 2, none⟩ = some (.int .i64 r) ∧ w'.cell? ⟨w.heap.size + 1, 3, none⟩ = some (.int .i64 s) ∧ w'.cell? ⟨w.heap.size + 1, 4, none⟩ = some (.int .i64 x) ∧ w'.cell? ⟨w2.heap.size, 0, none⟩ = some (.int .i64 0) ∧ w'.cell? ⟨w2.heap.size, 1, none⟩ = some (.int .i64 0) ∧ w'.cell? ⟨w2.heap.size, 2, none⟩ = some (.int .i64 0) ∧ w'.cell? ⟨w2.heap.size, 3, none⟩ = some (.int .i64 0) ∧ w'.cell? ⟨w2.heap.size, 4, none⟩ = some (.int .i64 0) ∧ has w' (w.heap.size) 23 [.int .i64 a, .int .i64 b, .int .i64 c, .int .i64 d] ∧ has w' (w.heap.size + 1) 25 [.int .i64 p, .int .i64 q, .int .i64 r, .int .i64 s, .int .i64 x] ∧ has w' (w.heap.size + 1 + 1) 23 [.int .i64 0, .int .i64 0, .int .i64 0, .int .i64 0] ∧ Below w.heap.size w w') (first | assumption | (refine ⟨?_, ?_, ?_, ?_, ?_, ?_, ?_, ?_, ?_, ?_, ?_, ?_, ?_, ?_, ?_, ?_, ?_, ?_⟩ <;> first | assumption | go_keep)) (first | (go_at_call 19; refine (HC _ HQ.out HK.out).mono ?_; rintro e w4 ⟨rfl, hb4⟩; have M4 := M3'.below hb4 M3'.lt; have K4 := K3'.below hb4 K3'.lt; have R4 := R3'.below hb4 R3'.lt; have O4 := O3'.below hb4 O3'.lt; have B4 := next B3' hb4; obtain ⟨t0, t1, t2, t3, t5⟩ := four M4; obtain ⟨u0, u1, u2, u3, u4, u5⟩ := five K4; obtain ⟨o0, o1, o2, o3, o4, o5⟩ := five O4))
  all_goals
    have z4 := R4.lt
    clear M3 K3 R3 O3 B3 M3' K3' R3' O3' B3'
    go_wp2_with fail
    refine wp_loop_rounds 5 ?_
    rw [rounds_succ]
    go_wp2_with fail
    go_region
    go_wp2_with fail
    rw [rounds_succ]
    go_wp2_with fail
    go_region
    go_wp2_with fail
    rw [rounds_succ]
    go_wp2_with fail
    go_region
    go_wp2_with fail
    rw [rounds_succ]
    go_wp2_with fail
    go_region
    go_wp2_with fail
    rw [rounds_succ]
    go_wp2_with fail
    have NE1 : ∀ i : Nat, w.heap.size + 1 ≠ (Addr.mk w.heap.size i none).block := fun _ => by show w.heap.size + 1 ≠ w.heap.size; omega
    have NE2 : ∀ i : Nat, w.heap.size + 1 + 1 ≠ (Addr.mk w.heap.size i none).block := fun _ => by show w.heap.size + 1 + 1 ≠ w.heap.size; omega
    go_loopw [8] (fun i wr => ∃ k : Nat, k ≤ x ∧ i = .int .i64 k ∧ RP w p q r s x m0 k wr) (fun i _ => x - (intOf i).toNat)
    case atStart =>
      refine ⟨0, Nat.zero_le _, rfl, ?_, ?_, ?_, ?_⟩
      · show has _ _ _ m0.cells
        rw [← HM0.out]
        exact (((M4.put 0 _).put 1 _).put 2 _).put 3 _
      · exact (((K4.far (NE1 _) _).far (NE1 _) _).far (NE1 _) _).far (NE1 _) _
      · exact (((R4.far (NE2 _) _).far (NE2 _) _).far (NE2 _) _).far (NE2 _) _
      · go_grown
    case round =>
      obtain ⟨k, hkx, rfl, hrel⟩ := hrel
      clear t0 t1 t2 t3 t5 u0 u1 u2 u3 u4 u5 o0 o1 o2 o3 o4 o5 M4 K4 R4 O4 B4 NE1 NE2
      obtain ⟨hok, hs⟩ := HP.out k (by omega)
      have HREL := Lib.hid hrel
      obtain ⟨m1, k1, r1, bl⟩ := hrel
      generalize ep : payN k m0 = P at *
      have EP := Lib.hid ep
      clear ep
      obtain ⟨y0', y1', y2', y3', y4', y5'⟩ := five k1
      by_cases hlt : k < x
      · obtain ⟨e, t, l, u⟩ := P
        unfold P4.ok at hok
        unfold P4.sum at hs
        have HOK := Lib.hid hok
        simp only [okM_iff] at hok hs
        have HM := Lib.hid m1
        obtain ⟨c0, c1, c2, c3, cf⟩ := four m1
        clear m1 k1 r1 bl hs
        obtain ⟨⟨y0, y1⟩, ⟨y2, y3⟩, ⟨y4, y5⟩, ⟨y6, y7⟩⟩ := hok
        rcases gt_cases e t l u with ⟨g, _⟩ | ⟨g, _⟩ | ⟨g, _⟩ | ⟨g, _⟩
        · have HT : take1 ⟨e, t, l, u⟩ = ⟨e - 1, t, l, u⟩ := by unfold take1; simp [g]
          have HG := most_at e t l u 0 HOK.out (by rw [g]; rfl)
          have HL : (P4.mk e t l u).cells.set 0 (.int .i64 (e - 1)) = (P4.mk (e - 1) t l u).cells := rfl
          have NX := fun w4 hb => rpay_next w wr w4 p q r s x m0 k e t l u (e - 1) t l u 0 (e - 1) EP.out HT HL HREL.out hb
          have NX' := Lib.hid NX
          clear NX HT HL g
          go_wp2_with fail
          refine (HG _).mono ?_; rintro y w5 ⟨rfl, hb5⟩
          have NX := Lib.hid (NX'.out w5 hb5)
          clear c0 c1 c2 c3 cf y0' y1' y2' y3' y4' y5' NX' HG
          obtain ⟨c0, c1, c2, c3, cf⟩ := four (HM.out.below hb5 HM.out.lt)
          clear hb5
          go_wp2_with fail
          go_roundw
          case rel => exact ⟨k + 1, by omega, by go_num, NX.out⟩
          case measure => simp [intOf]; omega
        · have HT : take1 ⟨e, t, l, u⟩ = ⟨e, t - 1, l, u⟩ := by unfold take1; simp [g]
          have HG := most_at e t l u 1 HOK.out (by rw [g]; rfl)
          have HL : (P4.mk e t l u).cells.set 1 (.int .i64 (t - 1)) = (P4.mk e (t - 1) l u).cells := rfl
          have NX := fun w4 hb => rpay_next w wr w4 p q r s x m0 k e t l u e (t - 1) l u 1 (t - 1) EP.out HT HL HREL.out hb
          have NX' := Lib.hid NX
          clear NX HT HL g
          go_wp2_with fail
          refine (HG _).mono ?_; rintro y w5 ⟨rfl, hb5⟩
          have NX := Lib.hid (NX'.out w5 hb5)
          clear c0 c1 c2 c3 cf y0' y1' y2' y3' y4' y5' NX' HG
          obtain ⟨c0, c1, c2, c3, cf⟩ := four (HM.out.below hb5 HM.out.lt)
          clear hb5
          go_wp2_with fail
          go_roundw
          case rel => exact ⟨k + 1, by omega, by go_num, NX.out⟩
          case measure => simp [intOf]; omega
        · have HT : take1 ⟨e, t, l, u⟩ = ⟨e, t, l - 1, u⟩ := by unfold take1; simp [g]
          have HG := most_at e t l u 2 HOK.out (by rw [g]; rfl)
          have HL : (P4.mk e t l u).cells.set 2 (.int .i64 (l - 1)) = (P4.mk e t (l - 1) u).cells := rfl
          have NX := fun w4 hb => rpay_next w wr w4 p q r s x m0 k e t l u e t (l - 1) u 2 (l - 1) EP.out HT HL HREL.out hb
          have NX' := Lib.hid NX
          clear NX HT HL g
          go_wp2_with fail
          refine (HG _).mono ?_; rintro y w5 ⟨rfl, hb5⟩
          have NX := Lib.hid (NX'.out w5 hb5)
          clear c0 c1 c2 c3 cf y0' y1' y2' y3' y4' y5' NX' HG
          obtain ⟨c0, c1, c2, c3, cf⟩ := four (HM.out.below hb5 HM.out.lt)
          clear hb5
          go_wp2_with fail
          go_roundw
          case rel => exact ⟨k + 1, by omega, by go_num, NX.out⟩
          case measure => simp [intOf]; omega
        · have HT : take1 ⟨e, t, l, u⟩ = ⟨e, t, l, u - 1⟩ := by unfold take1; simp [g]
          have HG := most_at e t l u 3 HOK.out (by rw [g]; rfl)
          have HL : (P4.mk e t l u).cells.set 3 (.int .i64 (u - 1)) = (P4.mk e t l (u - 1)).cells := rfl
          have NX := fun w4 hb => rpay_next w wr w4 p q r s x m0 k e t l u e t l (u - 1) 3 (u - 1) EP.out HT HL HREL.out hb
          have NX' := Lib.hid NX
          clear NX HT HL g
          go_wp2_with fail
          refine (HG _).mono ?_; rintro y w5 ⟨rfl, hb5⟩
          have NX := Lib.hid (NX'.out w5 hb5)
          clear c0 c1 c2 c3 cf y0' y1' y2' y3' y4' y5' NX' HG
          obtain ⟨c0, c1, c2, c3, cf⟩ := four (HM.out.below hb5 HM.out.lt)
          clear hb5
          go_wp2_with fail
          go_roundw
          case rel => exact ⟨k + 1, by omega, by go_num, NX.out⟩
          case measure => simp [intOf]; omega
      · obtain rfl : k = x := by omega
        obtain ⟨c0, c1, c2, c3, cf⟩ := four m1
        obtain ⟨v0, v1, v2, v3, vf⟩ := four r1
        have z5 := r1.lt
        clear m1 r1 hs hok
        go_wp2_with fail
        exact bodyPost_ret (v := .tuple #[.agg #[.int .i64 P.a, .int .i64 P.b, .int .i64 P.c, .int .i64 P.d], .int .i64 0]) (by simp [results, Tryd.results18, go_sem, v0, v1, v2, v3]) rfl ⟨by rw [← EP.out, ← HM0.out], by go_grown⟩

end Go.Proofs.YthnndmojijnbnaaDoor.maFn
