/- The numbers that a text has: what package effect's read returns. -/
import Derived.Test.YtfdolapiikgebaaDoorEfPFn
namespace Go.Proofs.YtfdolapiikgebaaDoor.efFn
open Go.ChangeShapes Go.WideShapes Go.ChangeAt Go.RowKit drMem
set_option linter.unusedVariables false

theorem three {w : World} {g : Nat} {t : TypeId} {a b c : Value} (h : has w g t [a, b, c]) :
    w.cell? ⟨g, 0, none⟩ = some a ∧ w.cell? ⟨g, 1, none⟩ = some b ∧ w.cell? ⟨g, 2, none⟩ = some c ∧ ∀ i, w.frozen? ⟨g, i, none⟩ = false :=
  ⟨h.cell 0, h.cell 1, h.cell 2, h.free⟩
set_option maxRecDepth 100000 in
set_option maxHeartbeats 8000000 in
theorem rd_A (nm : ByteArray) (kk a b c x : Int) (l : List UInt8) (w : World) (hG : G w) (hl : l.length ≤ 900) (hx : 0 < x) :
    Calls Tryd.prog 42 #[.string (bs l), raV nm kk a b c x 0 0] w fun e w' => e = .returned (.tuple #[.agg #[.int .i64 (fr (c1 l)), .int .i64 (0), .int .i64 (0)], .string (bs (c2 l))]) ∧ Below w.heap.size w w' := by
  have HM0 : ∀ w, Calls Tryd.prog 106 #[.agg #[.string nm, .int .u64 kk, .int .i64 a, .int .i64 b, .int .i64 c, .int .i64 x, .int .i64 0, .int .i64 0], .int .i64 0] w fun e w' => e = .returned (.bool true) ∧ Below w.heap.size w w' := fun w =>
    (mentions_any nm kk a b c x 0 0 w 0 (by omega)).mono fun e w' ⟨h1, h2⟩ => ⟨h1.trans (ret_bool (by simp; exact hx)), h2⟩
  have HM1 : ∀ w, Calls Tryd.prog 106 #[.agg #[.string nm, .int .u64 kk, .int .i64 a, .int .i64 b, .int .i64 c, .int .i64 x, .int .i64 0, .int .i64 0], .int .i64 1] w fun e w' => e = .returned (.bool false) ∧ Below w.heap.size w w' := fun w =>
    (mentions_any nm kk a b c x 0 0 w 1 (by omega)).mono fun e w' ⟨h1, h2⟩ => ⟨h1.trans (ret_bool (by simp)), h2⟩
  have HM2 : ∀ w, Calls Tryd.prog 106 #[.agg #[.string nm, .int .u64 kk, .int .i64 a, .int .i64 b, .int .i64 c, .int .i64 x, .int .i64 0, .int .i64 0], .int .i64 2] w fun e w' => e = .returned (.bool false) ∧ Below w.heap.size w w' := fun w =>
    (mentions_any nm kk a b c x 0 0 w 2 (by omega)).mono fun e w' ⟨h1, h2⟩ => ⟨h1.trans (ret_bool (by simp)), h2⟩
  have HG := Lib.hid hG
  have l1 := c2_len l
  have l2 := c2_len (c2 l)
  have l3 := c1_len l
  have l4 := c1_len (c2 l)
  clear hG
  go_enter Tryd.func42, Tryd.ntmps42
  go_wp2_with fail
  have B0 : Below w.heap.size w (w.alloc (.cells #[.int .i64 0, .int .i64 0, .int .i64 0] 66)) := (Below.refl _ _).alloc (Nat.le_refl _) _
  have R0 := has.new w 66 [.int .i64 0, .int .i64 0, .int .i64 0]
  obtain ⟨W0, hW0⟩ : ∃ W, w.alloc (.cells #[.int .i64 0, .int .i64 0, .int .i64 0] 66) = W := ⟨_, rfl⟩
  have R0' : has W0 w.heap.size 66 [.int .i64 0, .int .i64 0, .int .i64 0] := hW0 ▸ R0
  rw [hW0] at B0 ⊢
  clear hW0 R0
  refine wp_loop_rounds 4 ?_
  rw [rounds_succ]
  go_wp2_with fail
  refine (HM0 _).mono ?_; rintro e m0 ⟨rfl, hm0⟩
  have Bm0 := next B0 hm0
  have Rm0 : has m0 w.heap.size 66 [.int .i64 (0), .int .i64 (0), .int .i64 (0)] := R0'.below hm0 R0'.lt
  clear hm0
  go_wp2_with fail
  refine (Cut_at l _ _ rfl rfl _ (HG.out.below Bm0) (by omega)).mono ?_; rintro e k0 ⟨⟨f0, rfl⟩, hk0⟩
  have Bk0 := next Bm0 hk0
  have Rk0 := Rm0.below hk0 Rm0.lt
  clear hk0
  go_wp2_with fail
  refine (Atoi_any (c1 l) _ rfl _ (by omega) (HG.out.below Bk0)).mono ?_; rintro e j0 ⟨⟨ev0, rfl⟩, hj0⟩
  have Bj0 := next Bk0 hj0
  have Rj0 := Rk0.below hj0 Rk0.lt
  clear hj0
  obtain ⟨u0, u1, u2, u3⟩ := three Rj0
  go_wp2_with fail
  rw [rounds_succ]
  go_wp2_with fail
  refine (HM1 _).mono ?_; rintro e m1 ⟨rfl, hm1⟩
  have Bs1 := Bj0.setCell (p := ⟨w.heap.size, 0, none⟩) (Nat.le_refl _) (.int .i64 (fr (c1 l)))
  have Rs1 := Rj0.put 0 (.int .i64 (fr (c1 l)))
  have Bm1 := next Bs1 hm1
  have Rm1 : has m1 w.heap.size 66 [.int .i64 (fr (c1 l)), .int .i64 (0), .int .i64 (0)] := Rs1.below hm1 Rs1.lt
  clear hm1
  go_wp2_with fail
  rw [rounds_succ]
  go_wp2_with fail
  refine (HM2 _).mono ?_; rintro e m2 ⟨rfl, hm2⟩
  have Bm2 := next Bm1 hm2
  have Rm2 : has m2 w.heap.size 66 [.int .i64 (fr (c1 l)), .int .i64 (0), .int .i64 (0)] := Rm1.below hm2 Rm1.lt
  clear hm2
  go_wp2_with fail
  rw [rounds_succ]
  obtain ⟨r0, r1, r2, r3⟩ := three Rm2
  go_wp2_with fail
  have RF := ((Rm2.put 0 (.int .i64 (fr (c1 l)))).put 1 (.int .i64 (0))).put 2 (.int .i64 (0))
  have BF := ((Bm2.setCell (p := ⟨w.heap.size, 0, none⟩) (Nat.le_refl _) (.int .i64 (fr (c1 l)))).setCell (p := ⟨w.heap.size, 1, none⟩) (Nat.le_refl _) (.int .i64 (0))).setCell (p := ⟨w.heap.size, 2, none⟩) (Nat.le_refl _) (.int .i64 (0))
  obtain ⟨r0, r1, r2, r3⟩ := three RF
  exact bodyPost_ret (v := .tuple #[.agg #[.int .i64 (fr (c1 l)), .int .i64 (0), .int .i64 (0)], .string (bs (c2 l))]) (by simp [results, Tryd.results42, go_sem, r0, r1, r2]) rfl ⟨rfl, BF⟩

set_option maxRecDepth 100000 in
set_option maxHeartbeats 8000000 in
theorem rd_B (nm : ByteArray) (kk a b c x y : Int) (l : List UInt8) (w : World) (hG : G w) (hl : l.length ≤ 900) (hx : 0 < x) (hy : 0 < y) :
    Calls Tryd.prog 42 #[.string (bs l), raV nm kk a b c x y 0] w fun e w' => e = .returned (.tuple #[.agg #[.int .i64 (fr (c1 l)), .int .i64 (fr (c1 (c2 l))), .int .i64 (0)], .string (bs (c2 (c2 l)))]) ∧ Below w.heap.size w w' := by
  have HM0 : ∀ w, Calls Tryd.prog 106 #[.agg #[.string nm, .int .u64 kk, .int .i64 a, .int .i64 b, .int .i64 c, .int .i64 x, .int .i64 y, .int .i64 0], .int .i64 0] w fun e w' => e = .returned (.bool true) ∧ Below w.heap.size w w' := fun w =>
    (mentions_any nm kk a b c x y 0 w 0 (by omega)).mono fun e w' ⟨h1, h2⟩ => ⟨h1.trans (ret_bool (by simp; exact hx)), h2⟩
  have HM1 : ∀ w, Calls Tryd.prog 106 #[.agg #[.string nm, .int .u64 kk, .int .i64 a, .int .i64 b, .int .i64 c, .int .i64 x, .int .i64 y, .int .i64 0], .int .i64 1] w fun e w' => e = .returned (.bool true) ∧ Below w.heap.size w w' := fun w =>
    (mentions_any nm kk a b c x y 0 w 1 (by omega)).mono fun e w' ⟨h1, h2⟩ => ⟨h1.trans (ret_bool (by simp; exact hy)), h2⟩
  have HM2 : ∀ w, Calls Tryd.prog 106 #[.agg #[.string nm, .int .u64 kk, .int .i64 a, .int .i64 b, .int .i64 c, .int .i64 x, .int .i64 y, .int .i64 0], .int .i64 2] w fun e w' => e = .returned (.bool false) ∧ Below w.heap.size w w' := fun w =>
    (mentions_any nm kk a b c x y 0 w 2 (by omega)).mono fun e w' ⟨h1, h2⟩ => ⟨h1.trans (ret_bool (by simp)), h2⟩
  have HG := Lib.hid hG
  have l1 := c2_len l
  have l2 := c2_len (c2 l)
  have l3 := c1_len l
  have l4 := c1_len (c2 l)
  clear hG
  go_enter Tryd.func42, Tryd.ntmps42
  go_wp2_with fail
  have B0 : Below w.heap.size w (w.alloc (.cells #[.int .i64 0, .int .i64 0, .int .i64 0] 66)) := (Below.refl _ _).alloc (Nat.le_refl _) _
  have R0 := has.new w 66 [.int .i64 0, .int .i64 0, .int .i64 0]
  obtain ⟨W0, hW0⟩ : ∃ W, w.alloc (.cells #[.int .i64 0, .int .i64 0, .int .i64 0] 66) = W := ⟨_, rfl⟩
  have R0' : has W0 w.heap.size 66 [.int .i64 0, .int .i64 0, .int .i64 0] := hW0 ▸ R0
  rw [hW0] at B0 ⊢
  clear hW0 R0
  refine wp_loop_rounds 4 ?_
  rw [rounds_succ]
  go_wp2_with fail
  refine (HM0 _).mono ?_; rintro e m0 ⟨rfl, hm0⟩
  have Bm0 := next B0 hm0
  have Rm0 : has m0 w.heap.size 66 [.int .i64 (0), .int .i64 (0), .int .i64 (0)] := R0'.below hm0 R0'.lt
  clear hm0
  go_wp2_with fail
  refine (Cut_at l _ _ rfl rfl _ (HG.out.below Bm0) (by omega)).mono ?_; rintro e k0 ⟨⟨f0, rfl⟩, hk0⟩
  have Bk0 := next Bm0 hk0
  have Rk0 := Rm0.below hk0 Rm0.lt
  clear hk0
  go_wp2_with fail
  refine (Atoi_any (c1 l) _ rfl _ (by omega) (HG.out.below Bk0)).mono ?_; rintro e j0 ⟨⟨ev0, rfl⟩, hj0⟩
  have Bj0 := next Bk0 hj0
  have Rj0 := Rk0.below hj0 Rk0.lt
  clear hj0
  obtain ⟨u0, u1, u2, u3⟩ := three Rj0
  go_wp2_with fail
  rw [rounds_succ]
  go_wp2_with fail
  refine (HM1 _).mono ?_; rintro e m1 ⟨rfl, hm1⟩
  have Bs1 := Bj0.setCell (p := ⟨w.heap.size, 0, none⟩) (Nat.le_refl _) (.int .i64 (fr (c1 l)))
  have Rs1 := Rj0.put 0 (.int .i64 (fr (c1 l)))
  have Bm1 := next Bs1 hm1
  have Rm1 : has m1 w.heap.size 66 [.int .i64 (fr (c1 l)), .int .i64 (0), .int .i64 (0)] := Rs1.below hm1 Rs1.lt
  clear hm1
  go_wp2_with fail
  refine (Cut_at (c2 l) _ _ rfl rfl _ (HG.out.below Bm1) (by omega)).mono ?_; rintro e k1 ⟨⟨f1, rfl⟩, hk1⟩
  have Bk1 := next Bm1 hk1
  have Rk1 := Rm1.below hk1 Rm1.lt
  clear hk1
  go_wp2_with fail
  refine (Atoi_any (c1 (c2 l)) _ rfl _ (by omega) (HG.out.below Bk1)).mono ?_; rintro e j1 ⟨⟨ev1, rfl⟩, hj1⟩
  have Bj1 := next Bk1 hj1
  have Rj1 := Rk1.below hj1 Rk1.lt
  clear hj1
  obtain ⟨u0, u1, u2, u3⟩ := three Rj1
  go_wp2_with fail
  rw [rounds_succ]
  go_wp2_with fail
  refine (HM2 _).mono ?_; rintro e m2 ⟨rfl, hm2⟩
  have Bs2 := Bj1.setCell (p := ⟨w.heap.size, 1, none⟩) (Nat.le_refl _) (.int .i64 (fr (c1 (c2 l))))
  have Rs2 := Rj1.put 1 (.int .i64 (fr (c1 (c2 l))))
  have Bm2 := next Bs2 hm2
  have Rm2 : has m2 w.heap.size 66 [.int .i64 (fr (c1 l)), .int .i64 (fr (c1 (c2 l))), .int .i64 (0)] := Rs2.below hm2 Rs2.lt
  clear hm2
  go_wp2_with fail
  rw [rounds_succ]
  obtain ⟨r0, r1, r2, r3⟩ := three Rm2
  go_wp2_with fail
  have RF := ((Rm2.put 0 (.int .i64 (fr (c1 l)))).put 1 (.int .i64 (fr (c1 (c2 l))))).put 2 (.int .i64 (0))
  have BF := ((Bm2.setCell (p := ⟨w.heap.size, 0, none⟩) (Nat.le_refl _) (.int .i64 (fr (c1 l)))).setCell (p := ⟨w.heap.size, 1, none⟩) (Nat.le_refl _) (.int .i64 (fr (c1 (c2 l))))).setCell (p := ⟨w.heap.size, 2, none⟩) (Nat.le_refl _) (.int .i64 (0))
  obtain ⟨r0, r1, r2, r3⟩ := three RF
  exact bodyPost_ret (v := .tuple #[.agg #[.int .i64 (fr (c1 l)), .int .i64 (fr (c1 (c2 l))), .int .i64 (0)], .string (bs (c2 (c2 l)))]) (by simp [results, Tryd.results42, go_sem, r0, r1, r2]) rfl ⟨rfl, BF⟩

set_option maxRecDepth 100000 in
set_option maxHeartbeats 8000000 in
theorem rd_C (nm : ByteArray) (kk a b c x z : Int) (l : List UInt8) (w : World) (hG : G w) (hl : l.length ≤ 900) (hx : 0 < x) (hz : 0 < z) :
    Calls Tryd.prog 42 #[.string (bs l), raV nm kk a b c x 0 z] w fun e w' => e = .returned (.tuple #[.agg #[.int .i64 (fr (c1 l)), .int .i64 (0), .int .i64 (ltW (c1 (c2 l)))], .string (bs (c2 (c2 l)))]) ∧ Below w.heap.size w w' := by
  have HM0 : ∀ w, Calls Tryd.prog 106 #[.agg #[.string nm, .int .u64 kk, .int .i64 a, .int .i64 b, .int .i64 c, .int .i64 x, .int .i64 0, .int .i64 z], .int .i64 0] w fun e w' => e = .returned (.bool true) ∧ Below w.heap.size w w' := fun w =>
    (mentions_any nm kk a b c x 0 z w 0 (by omega)).mono fun e w' ⟨h1, h2⟩ => ⟨h1.trans (ret_bool (by simp; exact hx)), h2⟩
  have HM1 : ∀ w, Calls Tryd.prog 106 #[.agg #[.string nm, .int .u64 kk, .int .i64 a, .int .i64 b, .int .i64 c, .int .i64 x, .int .i64 0, .int .i64 z], .int .i64 1] w fun e w' => e = .returned (.bool false) ∧ Below w.heap.size w w' := fun w =>
    (mentions_any nm kk a b c x 0 z w 1 (by omega)).mono fun e w' ⟨h1, h2⟩ => ⟨h1.trans (ret_bool (by simp)), h2⟩
  have HM2 : ∀ w, Calls Tryd.prog 106 #[.agg #[.string nm, .int .u64 kk, .int .i64 a, .int .i64 b, .int .i64 c, .int .i64 x, .int .i64 0, .int .i64 z], .int .i64 2] w fun e w' => e = .returned (.bool true) ∧ Below w.heap.size w w' := fun w =>
    (mentions_any nm kk a b c x 0 z w 2 (by omega)).mono fun e w' ⟨h1, h2⟩ => ⟨h1.trans (ret_bool (by simp; exact hz)), h2⟩
  have HG := Lib.hid hG
  have l1 := c2_len l
  have l2 := c2_len (c2 l)
  have l3 := c1_len l
  have l4 := c1_len (c2 l)
  clear hG
  go_enter Tryd.func42, Tryd.ntmps42
  go_wp2_with fail
  have B0 : Below w.heap.size w (w.alloc (.cells #[.int .i64 0, .int .i64 0, .int .i64 0] 66)) := (Below.refl _ _).alloc (Nat.le_refl _) _
  have R0 := has.new w 66 [.int .i64 0, .int .i64 0, .int .i64 0]
  obtain ⟨W0, hW0⟩ : ∃ W, w.alloc (.cells #[.int .i64 0, .int .i64 0, .int .i64 0] 66) = W := ⟨_, rfl⟩
  have R0' : has W0 w.heap.size 66 [.int .i64 0, .int .i64 0, .int .i64 0] := hW0 ▸ R0
  rw [hW0] at B0 ⊢
  clear hW0 R0
  refine wp_loop_rounds 4 ?_
  rw [rounds_succ]
  go_wp2_with fail
  refine (HM0 _).mono ?_; rintro e m0 ⟨rfl, hm0⟩
  have Bm0 := next B0 hm0
  have Rm0 : has m0 w.heap.size 66 [.int .i64 (0), .int .i64 (0), .int .i64 (0)] := R0'.below hm0 R0'.lt
  clear hm0
  go_wp2_with fail
  refine (Cut_at l _ _ rfl rfl _ (HG.out.below Bm0) (by omega)).mono ?_; rintro e k0 ⟨⟨f0, rfl⟩, hk0⟩
  have Bk0 := next Bm0 hk0
  have Rk0 := Rm0.below hk0 Rm0.lt
  clear hk0
  go_wp2_with fail
  refine (Atoi_any (c1 l) _ rfl _ (by omega) (HG.out.below Bk0)).mono ?_; rintro e j0 ⟨⟨ev0, rfl⟩, hj0⟩
  have Bj0 := next Bk0 hj0
  have Rj0 := Rk0.below hj0 Rk0.lt
  clear hj0
  obtain ⟨u0, u1, u2, u3⟩ := three Rj0
  go_wp2_with fail
  rw [rounds_succ]
  go_wp2_with fail
  refine (HM1 _).mono ?_; rintro e m1 ⟨rfl, hm1⟩
  have Bs1 := Bj0.setCell (p := ⟨w.heap.size, 0, none⟩) (Nat.le_refl _) (.int .i64 (fr (c1 l)))
  have Rs1 := Rj0.put 0 (.int .i64 (fr (c1 l)))
  have Bm1 := next Bs1 hm1
  have Rm1 : has m1 w.heap.size 66 [.int .i64 (fr (c1 l)), .int .i64 (0), .int .i64 (0)] := Rs1.below hm1 Rs1.lt
  clear hm1
  go_wp2_with fail
  rw [rounds_succ]
  go_wp2_with fail
  refine (HM2 _).mono ?_; rintro e m2 ⟨rfl, hm2⟩
  have Bm2 := next Bm1 hm2
  have Rm2 : has m2 w.heap.size 66 [.int .i64 (fr (c1 l)), .int .i64 (0), .int .i64 (0)] := Rm1.below hm2 Rm1.lt
  clear hm2
  go_wp2_with fail
  refine (Cut_at (c2 l) _ _ rfl rfl _ (HG.out.below Bm2) (by omega)).mono ?_; rintro e k2 ⟨⟨f2, rfl⟩, hk2⟩
  have Bk2 := next Bm2 hk2
  have Rk2 := Rm2.below hk2 Rm2.lt
  clear hk2
  go_wp2_with fail
  refine (Index_at (c1 (c2 l)) _ _ rfl rfl _ (HG.out.below Bk2)).mono ?_; rintro e j2 ⟨rfl, hj2⟩
  subst hj2
  obtain ⟨u0, u1, u2, u3⟩ := three Rk2
  go_wp2_with fail
  rw [rounds_succ]
  have Bs := Bk2.setCell (p := ⟨w.heap.size, 2, none⟩) (Nat.le_refl _) (.int .i64 (ltW (c1 (c2 l))))
  have Rs : has _ w.heap.size 66 [.int .i64 (fr (c1 l)), .int .i64 (0), .int .i64 (ltW (c1 (c2 l)))] := Rk2.put 2 (.int .i64 (ltW (c1 (c2 l))))
  obtain ⟨r0, r1, r2, r3⟩ := three Rs
  go_wp2_with fail
  have RF := ((Rs.put 0 (.int .i64 (fr (c1 l)))).put 1 (.int .i64 (0))).put 2 (.int .i64 (ltW (c1 (c2 l))))
  have BF := ((Bs.setCell (p := ⟨w.heap.size, 0, none⟩) (Nat.le_refl _) (.int .i64 (fr (c1 l)))).setCell (p := ⟨w.heap.size, 1, none⟩) (Nat.le_refl _) (.int .i64 (0))).setCell (p := ⟨w.heap.size, 2, none⟩) (Nat.le_refl _) (.int .i64 (ltW (c1 (c2 l))))
  obtain ⟨r0, r1, r2, r3⟩ := three RF
  exact bodyPost_ret (v := .tuple #[.agg #[.int .i64 (fr (c1 l)), .int .i64 (0), .int .i64 (ltW (c1 (c2 l)))], .string (bs (c2 (c2 l)))]) (by simp [results, Tryd.results42, go_sem, r0, r1, r2]) rfl ⟨rfl, BF⟩

set_option maxRecDepth 100000 in
set_option maxHeartbeats 8000000 in
theorem rd_S (nm : ByteArray) (kk a b c x y : Int) (l : List UInt8) (w : World) (hG : G w) (hl : l.length ≤ 900) (hx : 0 < x) (hy : 0 < y) :
    Calls Tryd.prog 42 #[.string (bs l), soV nm kk a b c x y 0] w fun e w' => e = .returned (.tuple #[.agg #[.int .i64 (fr (c1 l)), .int .i64 (fr (c1 (c2 l))), .int .i64 (0)], .string (bs (c2 (c2 l)))]) ∧ Below w.heap.size w w' := by
  have HM0 : ∀ w, Calls Tryd.prog 106 #[.agg #[.string nm, .int .u64 kk, .int .i64 a, .int .i64 b, .int .i64 c, .int .i64 x, .int .i64 y, .int .i64 0], .int .i64 0] w fun e w' => e = .returned (.bool true) ∧ Below w.heap.size w w' := fun w =>
    (mentions_any nm kk a b c x y 0 w 0 (by omega)).mono fun e w' ⟨h1, h2⟩ => ⟨h1.trans (ret_bool (by simp; exact hx)), h2⟩
  have HM1 : ∀ w, Calls Tryd.prog 106 #[.agg #[.string nm, .int .u64 kk, .int .i64 a, .int .i64 b, .int .i64 c, .int .i64 x, .int .i64 y, .int .i64 0], .int .i64 1] w fun e w' => e = .returned (.bool true) ∧ Below w.heap.size w w' := fun w =>
    (mentions_any nm kk a b c x y 0 w 1 (by omega)).mono fun e w' ⟨h1, h2⟩ => ⟨h1.trans (ret_bool (by simp; exact hy)), h2⟩
  have HM2 : ∀ w, Calls Tryd.prog 106 #[.agg #[.string nm, .int .u64 kk, .int .i64 a, .int .i64 b, .int .i64 c, .int .i64 x, .int .i64 y, .int .i64 0], .int .i64 2] w fun e w' => e = .returned (.bool false) ∧ Below w.heap.size w w' := fun w =>
    (mentions_any nm kk a b c x y 0 w 2 (by omega)).mono fun e w' ⟨h1, h2⟩ => ⟨h1.trans (ret_bool (by simp)), h2⟩
  have HG := Lib.hid hG
  have l1 := c2_len l
  have l2 := c2_len (c2 l)
  have l3 := c1_len l
  have l4 := c1_len (c2 l)
  clear hG
  go_enter Tryd.func42, Tryd.ntmps42
  go_wp2_with fail
  have B0 : Below w.heap.size w (w.alloc (.cells #[.int .i64 0, .int .i64 0, .int .i64 0] 66)) := (Below.refl _ _).alloc (Nat.le_refl _) _
  have R0 := has.new w 66 [.int .i64 0, .int .i64 0, .int .i64 0]
  obtain ⟨W0, hW0⟩ : ∃ W, w.alloc (.cells #[.int .i64 0, .int .i64 0, .int .i64 0] 66) = W := ⟨_, rfl⟩
  have R0' : has W0 w.heap.size 66 [.int .i64 0, .int .i64 0, .int .i64 0] := hW0 ▸ R0
  rw [hW0] at B0 ⊢
  clear hW0 R0
  refine wp_loop_rounds 4 ?_
  rw [rounds_succ]
  go_wp2_with fail
  refine (HM0 _).mono ?_; rintro e m0 ⟨rfl, hm0⟩
  have Bm0 := next B0 hm0
  have Rm0 : has m0 w.heap.size 66 [.int .i64 (0), .int .i64 (0), .int .i64 (0)] := R0'.below hm0 R0'.lt
  clear hm0
  go_wp2_with fail
  refine (Cut_at l _ _ rfl rfl _ (HG.out.below Bm0) (by omega)).mono ?_; rintro e k0 ⟨⟨f0, rfl⟩, hk0⟩
  have Bk0 := next Bm0 hk0
  have Rk0 := Rm0.below hk0 Rm0.lt
  clear hk0
  go_wp2_with fail
  refine (Atoi_any (c1 l) _ rfl _ (by omega) (HG.out.below Bk0)).mono ?_; rintro e j0 ⟨⟨ev0, rfl⟩, hj0⟩
  have Bj0 := next Bk0 hj0
  have Rj0 := Rk0.below hj0 Rk0.lt
  clear hj0
  obtain ⟨u0, u1, u2, u3⟩ := three Rj0
  go_wp2_with fail
  rw [rounds_succ]
  go_wp2_with fail
  refine (HM1 _).mono ?_; rintro e m1 ⟨rfl, hm1⟩
  have Bs1 := Bj0.setCell (p := ⟨w.heap.size, 0, none⟩) (Nat.le_refl _) (.int .i64 (fr (c1 l)))
  have Rs1 := Rj0.put 0 (.int .i64 (fr (c1 l)))
  have Bm1 := next Bs1 hm1
  have Rm1 : has m1 w.heap.size 66 [.int .i64 (fr (c1 l)), .int .i64 (0), .int .i64 (0)] := Rs1.below hm1 Rs1.lt
  clear hm1
  go_wp2_with fail
  refine (Cut_at (c2 l) _ _ rfl rfl _ (HG.out.below Bm1) (by omega)).mono ?_; rintro e k1 ⟨⟨f1, rfl⟩, hk1⟩
  have Bk1 := next Bm1 hk1
  have Rk1 := Rm1.below hk1 Rm1.lt
  clear hk1
  go_wp2_with fail
  refine (Atoi_any (c1 (c2 l)) _ rfl _ (by omega) (HG.out.below Bk1)).mono ?_; rintro e j1 ⟨⟨ev1, rfl⟩, hj1⟩
  have Bj1 := next Bk1 hj1
  have Rj1 := Rk1.below hj1 Rk1.lt
  clear hj1
  obtain ⟨u0, u1, u2, u3⟩ := three Rj1
  go_wp2_with fail
  rw [rounds_succ]
  go_wp2_with fail
  refine (HM2 _).mono ?_; rintro e m2 ⟨rfl, hm2⟩
  have Bs2 := Bj1.setCell (p := ⟨w.heap.size, 1, none⟩) (Nat.le_refl _) (.int .i64 (fr (c1 (c2 l))))
  have Rs2 := Rj1.put 1 (.int .i64 (fr (c1 (c2 l))))
  have Bm2 := next Bs2 hm2
  have Rm2 : has m2 w.heap.size 66 [.int .i64 (fr (c1 l)), .int .i64 (fr (c1 (c2 l))), .int .i64 (0)] := Rs2.below hm2 Rs2.lt
  clear hm2
  go_wp2_with fail
  rw [rounds_succ]
  obtain ⟨r0, r1, r2, r3⟩ := three Rm2
  go_wp2_with fail
  have RF := ((Rm2.put 0 (.int .i64 (fr (c1 l)))).put 1 (.int .i64 (fr (c1 (c2 l))))).put 2 (.int .i64 (0))
  have BF := ((Bm2.setCell (p := ⟨w.heap.size, 0, none⟩) (Nat.le_refl _) (.int .i64 (fr (c1 l)))).setCell (p := ⟨w.heap.size, 1, none⟩) (Nat.le_refl _) (.int .i64 (fr (c1 (c2 l))))).setCell (p := ⟨w.heap.size, 2, none⟩) (Nat.le_refl _) (.int .i64 (0))
  obtain ⟨r0, r1, r2, r3⟩ := three RF
  exact bodyPost_ret (v := .tuple #[.agg #[.int .i64 (fr (c1 l)), .int .i64 (fr (c1 (c2 l))), .int .i64 (0)], .string (bs (c2 (c2 l)))]) (by simp [results, Tryd.results42, go_sem, r0, r1, r2]) rfl ⟨rfl, BF⟩

end Go.Proofs.YtfdolapiikgebaaDoor.efFn
