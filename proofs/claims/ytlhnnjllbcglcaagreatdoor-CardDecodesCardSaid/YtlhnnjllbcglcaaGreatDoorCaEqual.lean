/- Two cards that are compared: what Equal returns. -/
import Derived.Test.YtlhnnjllbcglcaaGreatDoorCaEq
import Derived.Test.YtlhnnjllbcglcaaGreatDoorCaMaEq
namespace Go.Proofs.YtlhnnjllbcglcaaGreatDoor.caFn
open Go.ChangeShapes Go.WideShapes Go.ChangeAt Go.RowKit drMem efFn
set_option linter.unusedVariables false

set_option maxRecDepth 100000 in
set_option maxHeartbeats 8000000 in
theorem EqualV_any (s1 : ByteArray) (kd1 a1 b1 c1 d1 x1 m1 p1 t1 k1 : Int) (es1 : Option Addr) (en1 ec1 : Nat) (ts1 : Option Addr) (tn1 tc1 : Nat) (r1 : Int) (e1 : List Ef) (l1 : List Tr) (s2 : ByteArray) (kd2 a2 b2 c2 d2 x2 m2 p2 t2 k2 : Int) (es2 : Option Addr) (en2 ec2 : Nat) (ts2 : Option Addr) (tn2 tc2 : Nat) (r2 : Int) (e2 : List Ef) (l2 : List Tr) (w : World) (h1 : CdAt w es1 en1 e1 ts1 tn1 l1) (h2 : CdAt w es2 en2 e2 ts2 tn2 l2) :
    Calls Tryz.prog 61 #[cV s1 kd1 a1 b1 c1 d1 x1 m1 p1 t1 k1 es1 en1 ec1 ts1 tn1 tc1 r1, cV s2 kd2 a2 b2 c2 d2 x2 m2 p2 t2 k2 es2 en2 ec2 ts2 tn2 tc2 r2] w fun e w' => e = .returned (.bool ((s1.toList == s2.toList) && ((kd1 == kd2) && ((r1 == r2) && (maFn.eq5 a1 b1 c1 d1 x1 a2 b2 c2 d2 x2 && ((m1 == m2) && ((p1 == p2) && ((t1 == t2) && ((k1 == k2) && (sameB e1 e2 && sameT l1 l2)))))))))) ∧ Below w.heap.size w w' := by
  have B1 : Below w.heap.size w ((w.alloc (.cells #[.string s1, .int .i64 kd1, .int .i64 a1, .int .i64 b1, .int .i64 c1, .int .i64 d1, .int .i64 x1, .int .i64 m1, .int .i64 p1, .int .i64 t1, .int .i64 k1, .slice es1 en1 ec1, .slice ts1 tn1 tc1, .int .i64 r1] 32)).alloc (.cells #[.string s2, .int .i64 kd2, .int .i64 a2, .int .i64 b2, .int .i64 c2, .int .i64 d2, .int .i64 x2, .int .i64 m2, .int .i64 p2, .int .i64 t2, .int .i64 k2, .slice es2 en2 ec2, .slice ts2 tn2 tc2, .int .i64 r2] 32)) := ((Below.refl _ _).alloc (Nat.le_refl _) _).alloc (by simp) _
  have HS := slEq_any es1 es2 en1 en2 ec1 ec2 e1 e2 _ (h1.e.below B1 (Nat.le_refl _)) (h2.e.below B1 (Nat.le_refl _))
  have HM1 := Lib.hid ((new0 w 32 (cL s1 kd1 a1 b1 c1 d1 x1 m1 p1 t1 k1 es1 en1 ec1 ts1 tn1 tc1 r1)).alloc (.cells #[.string s2, .int .i64 kd2, .int .i64 a2, .int .i64 b2, .int .i64 c2, .int .i64 d2, .int .i64 x2, .int .i64 m2, .int .i64 p2, .int .i64 t2, .int .i64 k2, .slice es2 en2 ec2, .slice ts2 tn2 tc2, .int .i64 r2] 32))
  have HM2 := Lib.hid (new0 (w.alloc (.cells #[.string s1, .int .i64 kd1, .int .i64 a1, .int .i64 b1, .int .i64 c1, .int .i64 d1, .int .i64 x1, .int .i64 m1, .int .i64 p1, .int .i64 t1, .int .i64 k1, .slice es1 en1 ec1, .slice ts1 tn1 tc1, .int .i64 r1] 32)) 32 (cL s2 kd2 a2 b2 c2 d2 x2 m2 p2 t2 k2 es2 en2 ec2 ts2 tn2 tc2 r2))
  have HT1 := Lib.hid (h1.t.below B1 (Nat.le_refl _))
  have HT2 := Lib.hid (h2.t.below B1 (Nat.le_refl _))
  have HB1 := Lib.hid B1
  have EC := maFn.eqC_run a1 b1 c1 d1 x1 a2 b2 c2 d2 x2
  clear h1 h2 B1
  cases g0 : (s1.toList == s2.toList)
  · go_enter Tryz.func61, Tryz.ntmps61
    go_wp2
    go_ret
    exact ⟨rfl, HB1.out⟩
  cases g1 : (kd1 == kd2)
  · go_enter Tryz.func61, Tryz.ntmps61
    go_wp2
    go_ret
    exact ⟨rfl, HB1.out⟩
  cases g2 : (r1 == r2)
  · go_enter Tryz.func61, Tryz.ntmps61
    go_wp2
    go_ret
    exact ⟨rfl, HB1.out⟩
  cases g3 : (maFn.eq5 a1 b1 c1 d1 x1 a2 b2 c2 d2 x2)
  all_goals rw [g3] at EC
  · go_enter Tryz.func61, Tryz.ntmps61
    go_wp2
    go_ret
    exact ⟨rfl, HB1.out⟩
  cases g4 : (m1 == m2)
  · go_enter Tryz.func61, Tryz.ntmps61
    go_wp2
    go_ret
    exact ⟨rfl, HB1.out⟩
  cases g5 : (p1 == p2)
  · go_enter Tryz.func61, Tryz.ntmps61
    go_wp2
    go_ret
    exact ⟨rfl, HB1.out⟩
  cases g6 : (t1 == t2)
  · go_enter Tryz.func61, Tryz.ntmps61
    go_wp2
    go_ret
    exact ⟨rfl, HB1.out⟩
  cases g7 : (k1 == k2)
  · go_enter Tryz.func61, Tryz.ntmps61
    go_wp2
    go_ret
    exact ⟨rfl, HB1.out⟩
  cases g8 : sameB e1 e2
  all_goals
    rw [g8] at HS
    go_enter Tryz.func61, Tryz.ntmps61
    go_wp2_with fail
    refine HS.mono ?_; rintro e w1 ⟨rfl, hb1⟩
    have HN1 := Lib.hid (HM1.out.below hb1 HM1.out.lt)
    have HN2 := Lib.hid (HM2.out.below hb1 HM2.out.lt)
    have HU1 := Lib.hid (HT1.out.below hb1 (Nat.le_refl _))
    have HU2 := Lib.hid (HT2.out.below hb1 (Nat.le_refl _))
    have HB2 := Lib.hid (next HB1.out hb1)
    clear hb1
  · go_wp2_with fail
    go_ret
    exact ⟨rfl, HB2.out⟩
  · have HF := equalF_any ts1 ts2 tn1 tn2 tc1 tc2 l1 l2 w1 HU1.out HU2.out
    have u1 : w1.cell? ⟨w.heap.size, 12, none⟩ = some (.slice ts1 tn1 tc1) := HN1.out.cell 12
    have u2 : w1.cell? ⟨(w.alloc (.cells #[.string s1, .int .i64 kd1, .int .i64 a1, .int .i64 b1, .int .i64 c1, .int .i64 d1, .int .i64 x1, .int .i64 m1, .int .i64 p1, .int .i64 t1, .int .i64 k1, .slice es1 en1 ec1, .slice ts1 tn1 tc1, .int .i64 r1] 32)).heap.size, 12, none⟩ = some (.slice ts2 tn2 tc2) := HN2.out.cell 12
    simp only [World.size_alloc] at u2
    go_wp2_with fail
    refine HF.mono ?_; rintro e w2 ⟨rfl, hb2⟩
    have HB3 := Lib.hid (next HB2.out hb2)
    clear hb2
    go_wp2_with fail
    go_ret
    exact ⟨rfl, HB3.out⟩
end Go.Proofs.YtlhnnjllbcglcaaGreatDoor.caFn
