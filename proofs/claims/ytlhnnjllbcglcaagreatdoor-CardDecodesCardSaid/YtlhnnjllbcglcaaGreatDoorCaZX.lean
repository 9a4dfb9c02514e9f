/- Joined texts: CaREqB CaREq -/
import Derived.Test.YtlhnnjllbcglcaaGreatDoorCaEqual
import Derived.Test.YtlhnnjllbcglcaaGreatDoorCaValidB
import Derived.BigRegion
import Derived.Deep.RegionHeld3
import Derived.Deep.RegionWith
/- Two cards that the reference compares. -/
namespace Go.Proofs.YtlhnnjllbcglcaaGreatDoor.caFn
open Go.ChangeShapes Go.WideShapes Go.ChangeAt Go.RowKit drMem efFn
set_option linter.unusedVariables false

/- two boxes of cards, that a call keeps -/
structure B2 (w : World) (ca cb : List Value) (W : World) : Prop where
  a : has W w.heap.size 32 ca
  b : has W (w.heap.size + 1) 32 cb
  hb : Below w.heap.size w W
theorem B2.below {w W W' : World} {ca cb : List Value} (h : B2 w ca cb W) (hb : Below W.heap.size W W') : B2 w ca cb W' := ⟨h.a.below hb h.a.lt, h.b.below hb h.b.lt, h.hb.trans (hb.mono h.hb.size)⟩
theorem B2.drew {w W : World} {ca cb : List Value} (h : B2 w ca cb W) : B2 w ca cb W.drew := ⟨h.a, h.b, h.hb.drew⟩
set_option maxRecDepth 100000 in
set_option maxHeartbeats 16000000 in
theorem rEqual_0 (s1 : ByteArray) (kd1 a1 b1 c1 d1 x1 m1 p1 t1 k1 : Int) (es1 : Option Addr) (en1 ec1 : Nat) (ts1 : Option Addr) (tc1 : Nat) (r1 : Int) (e1 : List Ef) (l1 : List Tr) (s2 : ByteArray) (kd2 a2 b2 c2 d2 x2 m2 p2 t2 k2 : Int) (es2 : Option Addr) (en2 ec2 : Nat) (ts2 : Option Addr) (tc2 : Nat) (r2 : Int) (e2 : List Ef) (l2 : List Tr) (n : Nat) (w : World) (h1 : CdAt w es1 en1 e1 ts1 n l1) (h2 : CdAt w es2 en2 e2 ts2 n l2) (h0 : n = 0)
    (g0 : (s1.toList == s2.toList) = true) (g1 : (kd1 == kd2) = true) (g2 : maFn.eq5 a1 b1 c1 d1 x1 a2 b2 c2 d2 x2 = true) (g3 : (m1 == m2) = true) (g4 : (p1 == p2) = true) (g5 : (t1 == t2) = true) (g6 : (k1 == k2) = true) (g7 : (r1 == r2) = true) (g8 : sameB e1 e2 = true) :
    Calls Tryz.prog 28 #[cV s1 kd1 a1 b1 c1 d1 x1 m1 p1 t1 k1 es1 en1 ec1 ts1 n tc1 r1, cV s2 kd2 a2 b2 c2 d2 x2 m2 p2 t2 k2 es2 en2 ec2 ts2 n tc2 r2] w fun e w' => e = .returned (.bool (sameT l1 l2)) ∧ Below w.heap.size w w' := by
  have B1 : Below w.heap.size w ((w.alloc (.cells #[.string s1, .int .i64 kd1, .int .i64 a1, .int .i64 b1, .int .i64 c1, .int .i64 d1, .int .i64 x1, .int .i64 m1, .int .i64 p1, .int .i64 t1, .int .i64 k1, .slice es1 en1 ec1, .slice ts1 n tc1, .int .i64 r1] 32)).alloc (.cells #[.string s2, .int .i64 kd2, .int .i64 a2, .int .i64 b2, .int .i64 c2, .int .i64 d2, .int .i64 x2, .int .i64 m2, .int .i64 p2, .int .i64 t2, .int .i64 k2, .slice es2 en2 ec2, .slice ts2 n tc2, .int .i64 r2] 32)) := ((Below.refl _ _).alloc (Nat.le_refl _) _).alloc (by simp) _
  have HS := Same_any es1 es2 en1 en2 ec1 ec2 e1 e2 _ (h1.e.below B1 (Nat.le_refl _)) (h2.e.below B1 (Nat.le_refl _))
  have HB : Hid (B2 w (cL s1 kd1 a1 b1 c1 d1 x1 m1 p1 t1 k1 es1 en1 ec1 ts1 n tc1 r1) (cL s2 kd2 a2 b2 c2 d2 x2 m2 p2 t2 k2 es2 en2 ec2 ts2 n tc2 r2) ((w.alloc (.cells #[.string s1, .int .i64 kd1, .int .i64 a1, .int .i64 b1, .int .i64 c1, .int .i64 d1, .int .i64 x1, .int .i64 m1, .int .i64 p1, .int .i64 t1, .int .i64 k1, .slice es1 en1 ec1, .slice ts1 n tc1, .int .i64 r1] 32)).alloc (.cells #[.string s2, .int .i64 kd2, .int .i64 a2, .int .i64 b2, .int .i64 c2, .int .i64 d2, .int .i64 x2, .int .i64 m2, .int .i64 p2, .int .i64 t2, .int .i64 k2, .slice es2 en2 ec2, .slice ts2 n tc2, .int .i64 r2] 32))) := Lib.hid ⟨(new0 w 32 (cL s1 kd1 a1 b1 c1 d1 x1 m1 p1 t1 k1 es1 en1 ec1 ts1 n tc1 r1)).alloc _, by have := has.new (w.alloc (.cells #[.string s1, .int .i64 kd1, .int .i64 a1, .int .i64 b1, .int .i64 c1, .int .i64 d1, .int .i64 x1, .int .i64 m1, .int .i64 p1, .int .i64 t1, .int .i64 k1, .slice es1 en1 ec1, .slice ts1 n tc1, .int .i64 r1] 32)) 32 (cL s2 kd2 a2 b2 c2 d2 x2 m2 p2 t2 k2 es2 en2 ec2 ts2 n tc2 r2); simpa using this, B1⟩
  have n0 : (s1.toList != s2.toList) = false := by unfold bne; rw [g0]; rfl
  have n1 : (kd1 != kd2) = false := by unfold bne; rw [g1]; rfl
  have n3 : (m1 != m2) = false := by unfold bne; rw [g3]; rfl
  have n4 : (p1 != p2) = false := by unfold bne; rw [g4]; rfl
  have n5 : (t1 != t2) = false := by unfold bne; rw [g5]; rfl
  have n6 : (k1 != k2) = false := by unfold bne; rw [g6]; rfl
  have n7 : (r1 != r2) = false := by unfold bne; rw [g7]; rfl
  have EC := maFn.neC_run a1 b1 c1 d1 x1 a2 b2 c2 d2 x2
  rw [g2] at EC
  rw [g8] at HS
  have hl1 := h1.t.n
  have hl2 := h2.t.n
  have hm := h1.t.m
  have L1 := Lib.hid hl1
  have L2 := Lib.hid hl2
  have H0 := Lib.hid h0
  have hne : ((n : Int) != (n : Int)) = false := by simp
  clear h1 h2 hl1 hl2 B1 g2 g8 h0
  go_enter Tryz.func28, Tryz.ntmps28
  go_wp2_with fail
  refine HS.mono ?_; rintro e w1 ⟨rfl, hb⟩
  have HB2 := Lib.hid (HB.out.below hb)
  clear hb HS EC
  have u1 : w1.cell? ⟨w.heap.size, 12, none⟩ = some (.slice ts1 n tc1) := HB2.out.a.cell 12
  have u2 : w1.cell? ⟨w.heap.size + 1, 12, none⟩ = some (.slice ts2 n tc2) := HB2.out.b.cell 12
  have hd0 : ¬ (0 : Int) < (n : Int) := by have := H0.out; omega
  go_wp2_with fail
  refine wp_loop_rounds 1 ?_
  rw [rounds_succ]
  go_wp2_with fail
  go_ret
  have e : sameT l1 l2 = true := sameT_of (by rw [List.eq_nil_of_length_eq_zero (L1.out.trans H0.out), List.eq_nil_of_length_eq_zero (L2.out.trans H0.out)])
  exact ⟨by rw [e]; rfl, HB2.out.hb⟩
set_option maxRecDepth 100000 in
set_option maxHeartbeats 16000000 in
theorem rEqual_1 (s1 : ByteArray) (kd1 a1 b1 c1 d1 x1 m1 p1 t1 k1 : Int) (es1 : Option Addr) (en1 ec1 : Nat) (tb1 to1 : Nat) (tc1 : Nat) (r1 : Int) (e1 : List Ef) (l1 : List Tr) (s2 : ByteArray) (kd2 a2 b2 c2 d2 x2 m2 p2 t2 k2 : Int) (es2 : Option Addr) (en2 ec2 : Nat) (tb2 to2 : Nat) (tc2 : Nat) (r2 : Int) (e2 : List Ef) (l2 : List Tr) (n : Nat) (w : World) (h1 : CdAt w es1 en1 e1 (some ⟨tb1, to1, none⟩) n l1) (h2 : CdAt w es2 en2 e2 (some ⟨tb2, to2, none⟩) n l2) (h0 : 0 < n)
    (g0 : (s1.toList == s2.toList) = true) (g1 : (kd1 == kd2) = true) (g2 : maFn.eq5 a1 b1 c1 d1 x1 a2 b2 c2 d2 x2 = true) (g3 : (m1 == m2) = true) (g4 : (p1 == p2) = true) (g5 : (t1 == t2) = true) (g6 : (k1 == k2) = true) (g7 : (r1 == r2) = true) (g8 : sameB e1 e2 = true) :
    Calls Tryz.prog 28 #[cV s1 kd1 a1 b1 c1 d1 x1 m1 p1 t1 k1 es1 en1 ec1 (some ⟨tb1, to1, none⟩) n tc1 r1, cV s2 kd2 a2 b2 c2 d2 x2 m2 p2 t2 k2 es2 en2 ec2 (some ⟨tb2, to2, none⟩) n tc2 r2] w fun e w' => e = .returned (.bool (sameT l1 l2)) ∧ Below w.heap.size w w' := by
  have B1 : Below w.heap.size w ((w.alloc (.cells #[.string s1, .int .i64 kd1, .int .i64 a1, .int .i64 b1, .int .i64 c1, .int .i64 d1, .int .i64 x1, .int .i64 m1, .int .i64 p1, .int .i64 t1, .int .i64 k1, .slice es1 en1 ec1, .slice (some ⟨tb1, to1, none⟩) n tc1, .int .i64 r1] 32)).alloc (.cells #[.string s2, .int .i64 kd2, .int .i64 a2, .int .i64 b2, .int .i64 c2, .int .i64 d2, .int .i64 x2, .int .i64 m2, .int .i64 p2, .int .i64 t2, .int .i64 k2, .slice es2 en2 ec2, .slice (some ⟨tb2, to2, none⟩) n tc2, .int .i64 r2] 32)) := ((Below.refl _ _).alloc (Nat.le_refl _) _).alloc (by simp) _
  have HS := Same_any es1 es2 en1 en2 ec1 ec2 e1 e2 _ (h1.e.below B1 (Nat.le_refl _)) (h2.e.below B1 (Nat.le_refl _))
  have HB : Hid (B2 w (cL s1 kd1 a1 b1 c1 d1 x1 m1 p1 t1 k1 es1 en1 ec1 (some ⟨tb1, to1, none⟩) n tc1 r1) (cL s2 kd2 a2 b2 c2 d2 x2 m2 p2 t2 k2 es2 en2 ec2 (some ⟨tb2, to2, none⟩) n tc2 r2) ((w.alloc (.cells #[.string s1, .int .i64 kd1, .int .i64 a1, .int .i64 b1, .int .i64 c1, .int .i64 d1, .int .i64 x1, .int .i64 m1, .int .i64 p1, .int .i64 t1, .int .i64 k1, .slice es1 en1 ec1, .slice (some ⟨tb1, to1, none⟩) n tc1, .int .i64 r1] 32)).alloc (.cells #[.string s2, .int .i64 kd2, .int .i64 a2, .int .i64 b2, .int .i64 c2, .int .i64 d2, .int .i64 x2, .int .i64 m2, .int .i64 p2, .int .i64 t2, .int .i64 k2, .slice es2 en2 ec2, .slice (some ⟨tb2, to2, none⟩) n tc2, .int .i64 r2] 32))) := Lib.hid ⟨(new0 w 32 (cL s1 kd1 a1 b1 c1 d1 x1 m1 p1 t1 k1 es1 en1 ec1 (some ⟨tb1, to1, none⟩) n tc1 r1)).alloc _, by have := has.new (w.alloc (.cells #[.string s1, .int .i64 kd1, .int .i64 a1, .int .i64 b1, .int .i64 c1, .int .i64 d1, .int .i64 x1, .int .i64 m1, .int .i64 p1, .int .i64 t1, .int .i64 k1, .slice es1 en1 ec1, .slice (some ⟨tb1, to1, none⟩) n tc1, .int .i64 r1] 32)) 32 (cL s2 kd2 a2 b2 c2 d2 x2 m2 p2 t2 k2 es2 en2 ec2 (some ⟨tb2, to2, none⟩) n tc2 r2); simpa using this, B1⟩
  have n0 : (s1.toList != s2.toList) = false := by unfold bne; rw [g0]; rfl
  have n1 : (kd1 != kd2) = false := by unfold bne; rw [g1]; rfl
  have n3 : (m1 != m2) = false := by unfold bne; rw [g3]; rfl
  have n4 : (p1 != p2) = false := by unfold bne; rw [g4]; rfl
  have n5 : (t1 != t2) = false := by unfold bne; rw [g5]; rfl
  have n6 : (k1 != k2) = false := by unfold bne; rw [g6]; rfl
  have n7 : (r1 != r2) = false := by unfold bne; rw [g7]; rfl
  have EC := maFn.neC_run a1 b1 c1 d1 x1 a2 b2 c2 d2 x2
  rw [g2] at EC
  rw [g8] at HS
  have hl1 := h1.t.n
  have hl2 := h2.t.n
  have hm := h1.t.m
  obtain ⟨b1', o1', q1, hb1, hc1⟩ := h1.t.c h0
  obtain ⟨b2', o2', q2, hb2, hc2⟩ := h2.t.c h0
  cases q1; cases q2
  have C1 : Hid (∀ k, k < n → ∃ s m c, TrAt w tb1 (to1 + k * 2) (l1.getD k default) s m c) := Lib.hid fun k hk => hc1 k _ (getT (by omega))
  have C2 : Hid (∀ k, k < n → ∃ s m c, TrAt w tb2 (to2 + k * 2) (l2.getD k default) s m c) := Lib.hid fun k hk => hc2 k _ (getT (by omega))
  clear hc1 hc2
  have L1 := Lib.hid hl1
  have L2 := Lib.hid hl2
  have H0 := Lib.hid h0
  have hne : ((n : Int) != (n : Int)) = false := by simp
  clear h1 h2 hl1 hl2 B1 g2 g8
  go_enter Tryz.func28, Tryz.ntmps28
  go_wp2_with fail
  refine HS.mono ?_; rintro e w1 ⟨rfl, hb⟩
  have HB2 := Lib.hid (HB.out.below hb)
  clear hb HS EC
  have u1 : w1.cell? ⟨w.heap.size, 12, none⟩ = some (.slice (some ⟨tb1, to1, none⟩) n tc1) := HB2.out.a.cell 12
  have u2 : w1.cell? ⟨w.heap.size + 1, 12, none⟩ = some (.slice (some ⟨tb2, to2, none⟩) n tc2) := HB2.out.b.cell 12
  go_wp2_with fail
  clear u1 u2
  go_loopw [5] (fun i wr => ∃ q : Nat, q ≤ n ∧ i = .int .i64 q ∧ Hid (l1.take q = l2.take q ∧ B2 w (cL s1 kd1 a1 b1 c1 d1 x1 m1 p1 t1 k1 es1 en1 ec1 (some ⟨tb1, to1, none⟩) n tc1 r1) (cL s2 kd2 a2 b2 c2 d2 x2 m2 p2 t2 k2 es2 en2 ec2 (some ⟨tb2, to2, none⟩) n tc2 r2) wr)) (fun i _ => n - (intOf i).toNat)
  case atStart => exact ⟨0, Nat.zero_le _, rfl, Lib.hid ⟨rfl, HB2.out⟩⟩
  case round =>
    obtain ⟨q, hq, rfl, HT⟩ := hrel
    have u1 : wr.cell? ⟨w.heap.size, 12, none⟩ = some (.slice (some ⟨tb1, to1, none⟩) n tc1) := HT.out.2.a.cell 12
    by_cases hlt : q < n
    · obtain ⟨z1, y1, v1, hat1⟩ := C1.out q hlt
      obtain ⟨z2, y2, v2, hat2⟩ := C2.out q hlt
      obtain ⟨vd0, vd1, de⟩ := hat1.below HT.out.2.drew.hb hb1 (Nat.le_refl _)
      obtain ⟨f0, f1, fe⟩ := hat2.below HT.out.2.drew.hb hb2 (Nat.le_refl _)
      clear hat1 hat2
      have t1' : wr.drew.cell? ⟨w.heap.size, 12, none⟩ = some (.slice (some ⟨tb1, to1, none⟩) n tc1) := HT.out.2.a.cell 12
      have t2' : wr.drew.cell? ⟨w.heap.size + 1, 12, none⟩ = some (.slice (some ⟨tb2, to2, none⟩) n tc2) := HT.out.2.b.cell 12
      have HX := Lib.hid (fun h => takeT_succ (by rw [L1.out]; exact hlt) (by rw [L2.out]; exact hlt) HT.out.1 h)
      have HY := Lib.hid (fun h => sameT_ne (a := l1) (b := l2) q h)
      generalize l1.getD q default = x at *
      generalize l2.getD q default = y at *
      obtain ⟨xw, xe⟩ := x
      obtain ⟨yw, ye⟩ := y
      dsimp only at vd0 vd1 de f0 f1 fe
      have HSM := Same_any z1 z2 y1 y2 v1 v2 xe ye wr.drew de fe
      have HBd := Lib.hid HT.out.2.drew
      clear de fe
      cases hw : (xw == yw)
      · have hx : (⟨xw, xe⟩ : Tr) ≠ ⟨yw, ye⟩ := fun e => by have : xw = yw := congrArg Tr.w e; rw [this] at hw; simp at hw
        have es := HY.out hx
        have ES := Lib.hid es
        have nw : (xw != yw) = true := by unfold bne; rw [hw]; rfl
        clear hx es HX HY
        go_wp2_with fail
        go_region
        all_goals
          go_wp2_with fail
          go_ret
          exact ⟨by rw [ES.out]; rfl, HBd.out.hb.trans (Below.refl _ _)⟩
      · have nw : (xw != yw) = false := by unfold bne; rw [hw]; rfl
        have hxy : xw = yw := by simpa using hw
        have HXY := Lib.hid hxy
        clear hxy hw
        have HZ := Lib.hid (fun (hs : sameB xe ye = false) => HY.out (fun e => by have : xe = ye := congrArg Tr.e e; rw [sameB_of this] at hs; exact Bool.noConfusion hs))
        have HX3 := Lib.hid (fun (hs : sameB xe ye = true) => HX.out (by rw [HXY.out, (show xe = ye from of_decide_eq_true hs)]))
        clear HX HY
        cases hs : sameB xe ye
        all_goals
          have HS2 := Lib.hid hs
          rw [hs] at HSM
          clear hs
          go_wp2_with fail
          go_region_held3 (fun w' => w'.cell? ⟨w.heap.size, 12, none⟩ = some (.slice (some ⟨tb1, to1, none⟩) n tc1) ∧ w'.cell? ⟨w.heap.size + 1, 12, none⟩ = some (.slice (some ⟨tb2, to2, none⟩) n tc2) ∧ w'.cell? ⟨tb1, to1 + q * 2, none⟩ = some (.int .i64 xw) ∧ w'.cell? ⟨tb1, to1 + q * 2 + 1, none⟩ = some (.slice z1 y1 v1) ∧ w'.cell? ⟨tb2, to2 + q * 2, none⟩ = some (.int .i64 yw) ∧ w'.cell? ⟨tb2, to2 + q * 2 + 1, none⟩ = some (.slice z2 y2 v2) ∧ B2 w (cL s1 kd1 a1 b1 c1 d1 x1 m1 p1 t1 k1 es1 en1 ec1 (some ⟨tb1, to1, none⟩) n tc1 r1) (cL s2 kd2 a2 b2 c2 d2 x2 m2 p2 t2 k2 es2 en2 ec2 (some ⟨tb2, to2, none⟩) n tc2 r2) w') (first | assumption | (exact ⟨t1', t2', vd0, vd1, f0, f1, HBd.out⟩) | (exact ⟨by assumption, by assumption, by assumption, by assumption, by assumption, by assumption, by assumption⟩)) (first | (go_at_call 41; (with_reducible refine HSM.mono ?_); rintro e wa ⟨rfl, hba⟩; have Ba := HBd.out.below hba; have r1 : wa.cell? ⟨w.heap.size, 12, none⟩ = some (.slice (some ⟨tb1, to1, none⟩) n tc1) := Ba.a.cell 12; have r2 : wa.cell? ⟨w.heap.size + 1, 12, none⟩ = some (.slice (some ⟨tb2, to2, none⟩) n tc2) := Ba.b.cell 12; have r3 := (hba.cell (p := ⟨tb1, to1 + q * 2, none⟩) (World.block_lt_of_cell? _ _ vd0)).trans vd0; have r4 := (hba.cell (p := ⟨tb1, to1 + q * 2 + 1, none⟩) (World.block_lt_of_cell? _ _ vd1)).trans vd1; have r5 := (hba.cell (p := ⟨tb2, to2 + q * 2, none⟩) (World.block_lt_of_cell? _ _ f0)).trans f0; have r6 := (hba.cell (p := ⟨tb2, to2 + q * 2 + 1, none⟩) (World.block_lt_of_cell? _ _ f1)).trans f1; clear hba))
        · have ES := Lib.hid (HZ.out HS2.out)
          have HBa := Lib.hid Ba.hb
          clear HZ HX3 HS2
          go_wp2_with fail
          go_ret
          exact ⟨by rw [ES.out]; rfl, HBa.out⟩
        · have HX4 := Lib.hid (HX3.out HS2.out)
          have HBa := Lib.hid Ba
          clear HZ HX3 HS2
          go_wp2_with fail
          exact ⟨⟨q + 1, by omega, by go_num, Lib.hid ⟨HX4.out, HBa.out⟩⟩, by simp [intOf]; omega⟩
    · obtain rfl : q = n := by omega
      have es : sameT l1 l2 = true := sameT_of (by have := HT.out.1; rw [List.take_of_length_le (by rw [L1.out]; omega), List.take_of_length_le (by rw [L2.out]; omega)] at this; exact this)
      have ES := Lib.hid es
      clear es
      go_wp2_with fail
      go_ret
      exact ⟨by rw [ES.out]; rfl, HT.out.2.hb⟩
end Go.Proofs.YtlhnnjllbcglcaaGreatDoor.caFn

/- Two cards that the reference compares. -/
namespace Go.Proofs.YtlhnnjllbcglcaaGreatDoor.caFn
open Go.ChangeShapes Go.WideShapes Go.ChangeAt Go.RowKit drMem efFn
set_option linter.unusedVariables false

set_option maxRecDepth 100000 in
set_option maxHeartbeats 16000000 in
theorem rEqualV_any (s1 : ByteArray) (kd1 a1 b1 c1 d1 x1 m1 p1 t1 k1 : Int) (es1 : Option Addr) (en1 ec1 : Nat) (ts1 : Option Addr) (tn1 tc1 : Nat) (r1 : Int) (e1 : List Ef) (l1 : List Tr) (s2 : ByteArray) (kd2 a2 b2 c2 d2 x2 m2 p2 t2 k2 : Int) (es2 : Option Addr) (en2 ec2 : Nat) (ts2 : Option Addr) (tn2 tc2 : Nat) (r2 : Int) (e2 : List Ef) (l2 : List Tr) (w : World) (h1 : CdAt w es1 en1 e1 ts1 tn1 l1) (h2 : CdAt w es2 en2 e2 ts2 tn2 l2) :
    Calls Tryz.prog 28 #[cV s1 kd1 a1 b1 c1 d1 x1 m1 p1 t1 k1 es1 en1 ec1 ts1 tn1 tc1 r1, cV s2 kd2 a2 b2 c2 d2 x2 m2 p2 t2 k2 es2 en2 ec2 ts2 tn2 tc2 r2] w fun e w' => e = .returned (.bool ((s1.toList == s2.toList) && ((kd1 == kd2) && (maFn.eq5 a1 b1 c1 d1 x1 a2 b2 c2 d2 x2 && ((m1 == m2) && ((p1 == p2) && ((t1 == t2) && ((k1 == k2) && ((r1 == r2) && (sameB e1 e2 && sameT l1 l2)))))))))) ∧ Below w.heap.size w w' := by
  by_cases hA : (s1.toList == s2.toList) = true ∧ (kd1 == kd2) = true ∧ maFn.eq5 a1 b1 c1 d1 x1 a2 b2 c2 d2 x2 = true ∧ (m1 == m2) = true ∧ (p1 == p2) = true ∧ (t1 == t2) = true ∧ (k1 == k2) = true ∧ (r1 == r2) = true ∧ sameB e1 e2 = true ∧ tn1 = tn2
  · obtain ⟨g0, g1, g2, g3, g4, g5, g6, g7, g8, hn⟩ := hA
    subst hn
    rw [g0, g1, g2, g3, g4, g5, g6, g7, g8]
    simp only [Bool.true_and]
    rcases Nat.eq_zero_or_pos tn1 with h0 | h0
    · exact rEqual_0 s1 kd1 a1 b1 c1 d1 x1 m1 p1 t1 k1 es1 en1 ec1 ts1 tc1 r1 e1 l1 s2 kd2 a2 b2 c2 d2 x2 m2 p2 t2 k2 es2 en2 ec2 ts2 tc2 r2 e2 l2 tn1 w h1 h2 h0 g0 g1 g2 g3 g4 g5 g6 g7 g8
    · obtain ⟨b1', o1', q1, _, _⟩ := h1.t.c h0
      obtain ⟨b2', o2', q2, _, _⟩ := h2.t.c h0
      cases q1; cases q2
      exact rEqual_1 s1 kd1 a1 b1 c1 d1 x1 m1 p1 t1 k1 es1 en1 ec1 b1' o1' tc1 r1 e1 l1 s2 kd2 a2 b2 c2 d2 x2 m2 p2 t2 k2 es2 en2 ec2 b2' o2' tc2 r2 e2 l2 tn1 w h1 h2 h0 g0 g1 g2 g3 g4 g5 g6 g7 g8
  have HN := Lib.hid hA
  clear hA
  have B1 : Below w.heap.size w ((w.alloc (.cells #[.string s1, .int .i64 kd1, .int .i64 a1, .int .i64 b1, .int .i64 c1, .int .i64 d1, .int .i64 x1, .int .i64 m1, .int .i64 p1, .int .i64 t1, .int .i64 k1, .slice es1 en1 ec1, .slice ts1 tn1 tc1, .int .i64 r1] 32)).alloc (.cells #[.string s2, .int .i64 kd2, .int .i64 a2, .int .i64 b2, .int .i64 c2, .int .i64 d2, .int .i64 x2, .int .i64 m2, .int .i64 p2, .int .i64 t2, .int .i64 k2, .slice es2 en2 ec2, .slice ts2 tn2 tc2, .int .i64 r2] 32)) := ((Below.refl _ _).alloc (Nat.le_refl _) _).alloc (by simp) _
  have HS := Same_any es1 es2 en1 en2 ec1 ec2 e1 e2 _ (h1.e.below B1 (Nat.le_refl _)) (h2.e.below B1 (Nat.le_refl _))
  have HB : Hid (B2 w (cL s1 kd1 a1 b1 c1 d1 x1 m1 p1 t1 k1 es1 en1 ec1 ts1 tn1 tc1 r1) (cL s2 kd2 a2 b2 c2 d2 x2 m2 p2 t2 k2 es2 en2 ec2 ts2 tn2 tc2 r2) ((w.alloc (.cells #[.string s1, .int .i64 kd1, .int .i64 a1, .int .i64 b1, .int .i64 c1, .int .i64 d1, .int .i64 x1, .int .i64 m1, .int .i64 p1, .int .i64 t1, .int .i64 k1, .slice es1 en1 ec1, .slice ts1 tn1 tc1, .int .i64 r1] 32)).alloc (.cells #[.string s2, .int .i64 kd2, .int .i64 a2, .int .i64 b2, .int .i64 c2, .int .i64 d2, .int .i64 x2, .int .i64 m2, .int .i64 p2, .int .i64 t2, .int .i64 k2, .slice es2 en2 ec2, .slice ts2 tn2 tc2, .int .i64 r2] 32))) := Lib.hid ⟨(new0 w 32 (cL s1 kd1 a1 b1 c1 d1 x1 m1 p1 t1 k1 es1 en1 ec1 ts1 tn1 tc1 r1)).alloc _, by have := has.new (w.alloc (.cells #[.string s1, .int .i64 kd1, .int .i64 a1, .int .i64 b1, .int .i64 c1, .int .i64 d1, .int .i64 x1, .int .i64 m1, .int .i64 p1, .int .i64 t1, .int .i64 k1, .slice es1 en1 ec1, .slice ts1 tn1 tc1, .int .i64 r1] 32)) 32 (cL s2 kd2 a2 b2 c2 d2 x2 m2 p2 t2 k2 es2 en2 ec2 ts2 tn2 tc2 r2); simpa using this, B1⟩
  have H1 := Lib.hid h1.t
  have H2 := Lib.hid h2.t
  have EC := maFn.neC_run a1 b1 c1 d1 x1 a2 b2 c2 d2 x2
  clear h1 h2 B1
  cases g0 : (s1.toList == s2.toList)
  · have n0 : (s1.toList != s2.toList) = true := by unfold bne; rw [g0]; rfl
    go_enter Tryz.func28, Tryz.ntmps28
    go_wp2
    go_ret
    exact ⟨rfl, HB.out.hb⟩
  have n0 : (s1.toList != s2.toList) = false := by unfold bne; rw [g0]; rfl
  cases g1 : (kd1 == kd2)
  · have n1 : (kd1 != kd2) = true := by unfold bne; rw [g1]; rfl
    go_enter Tryz.func28, Tryz.ntmps28
    go_wp2
    go_ret
    exact ⟨rfl, HB.out.hb⟩
  have n1 : (kd1 != kd2) = false := by unfold bne; rw [g1]; rfl
  cases g2 : (maFn.eq5 a1 b1 c1 d1 x1 a2 b2 c2 d2 x2)
  all_goals rw [g2] at EC
  · skip
    go_enter Tryz.func28, Tryz.ntmps28
    go_wp2
    go_ret
    exact ⟨rfl, HB.out.hb⟩
  cases g3 : (m1 == m2)
  · have n3 : (m1 != m2) = true := by unfold bne; rw [g3]; rfl
    go_enter Tryz.func28, Tryz.ntmps28
    go_wp2
    go_ret
    exact ⟨rfl, HB.out.hb⟩
  have n3 : (m1 != m2) = false := by unfold bne; rw [g3]; rfl
  cases g4 : (p1 == p2)
  · have n4 : (p1 != p2) = true := by unfold bne; rw [g4]; rfl
    go_enter Tryz.func28, Tryz.ntmps28
    go_wp2
    go_ret
    exact ⟨rfl, HB.out.hb⟩
  have n4 : (p1 != p2) = false := by unfold bne; rw [g4]; rfl
  cases g5 : (t1 == t2)
  · have n5 : (t1 != t2) = true := by unfold bne; rw [g5]; rfl
    go_enter Tryz.func28, Tryz.ntmps28
    go_wp2
    go_ret
    exact ⟨rfl, HB.out.hb⟩
  have n5 : (t1 != t2) = false := by unfold bne; rw [g5]; rfl
  cases g6 : (k1 == k2)
  · have n6 : (k1 != k2) = true := by unfold bne; rw [g6]; rfl
    go_enter Tryz.func28, Tryz.ntmps28
    go_wp2
    go_ret
    exact ⟨rfl, HB.out.hb⟩
  have n6 : (k1 != k2) = false := by unfold bne; rw [g6]; rfl
  cases g7 : (r1 == r2)
  · have n7 : (r1 != r2) = true := by unfold bne; rw [g7]; rfl
    go_enter Tryz.func28, Tryz.ntmps28
    go_wp2
    go_ret
    exact ⟨rfl, HB.out.hb⟩
  have n7 : (r1 != r2) = false := by unfold bne; rw [g7]; rfl
  cases g8 : sameB e1 e2
  all_goals
    rw [g8] at HS
    go_enter Tryz.func28, Tryz.ntmps28
    go_wp2_with fail
    refine HS.mono ?_; rintro e w1 ⟨rfl, hb1⟩
    have HB2 := Lib.hid (HB.out.below hb1)
    clear hb1
  · go_wp2_with fail
    go_ret
    exact ⟨rfl, HB2.out.hb⟩
  · have u1 : w1.cell? ⟨w.heap.size, 12, none⟩ = some (.slice ts1 tn1 tc1) := HB2.out.a.cell 12
    have u2 : w1.cell? ⟨w.heap.size + 1, 12, none⟩ = some (.slice ts2 tn2 tc2) := HB2.out.b.cell 12
    by_cases hn : tn1 = tn2
    · exact (HN.out ⟨g0, g1, g2, g3, g4, g5, g6, g7, g8, hn⟩).elim
    · have e : sameT l1 l2 = false := sameT_len (by rw [H1.out.n, H2.out.n]; exact hn)
      have HE := Lib.hid e
      have hne : ((tn1 : Int) != (tn2 : Int)) = true := by rw [bne_iff_ne]; omega
      clear e hn
      go_wp2_with fail
      go_ret
      exact ⟨by rw [HE.out]; rfl, HB2.out.hb⟩
end Go.Proofs.YtlhnnjllbcglcaaGreatDoor.caFn