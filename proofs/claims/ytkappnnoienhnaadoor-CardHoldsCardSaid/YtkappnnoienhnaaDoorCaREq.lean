/- Two cards that the reference compares. -/
import Derived.Test.YtkappnnoienhnaaDoorCaREqB
import Derived.Test.YtkappnnoienhnaaDoorCaValidB
import Derived.BigRegion
import Derived.Deep.RegionHeld3
import Derived.Deep.RegionWith
namespace Go.Proofs.YtkappnnoienhnaaDoor.caFn
open Go.ChangeShapes Go.WideShapes Go.ChangeAt Go.RowKit drMem efFn
set_option linter.unusedVariables false

set_option maxRecDepth 100000 in
set_option maxHeartbeats 16000000 in
theorem rEqualV_any (s1 : ByteArray) (kd1 a1 b1 c1 d1 x1 m1 p1 t1 k1 : Int) (es1 : Option Addr) (en1 ec1 : Nat) (ts1 : Option Addr) (tn1 tc1 : Nat) (r1 : Int) (e1 : List Ef) (l1 : List Tr) (s2 : ByteArray) (kd2 a2 b2 c2 d2 x2 m2 p2 t2 k2 : Int) (es2 : Option Addr) (en2 ec2 : Nat) (ts2 : Option Addr) (tn2 tc2 : Nat) (r2 : Int) (e2 : List Ef) (l2 : List Tr) (w : World) (h1 : CdAt w es1 en1 e1 ts1 tn1 l1) (h2 : CdAt w es2 en2 e2 ts2 tn2 l2) :
    Calls Tryd.prog 11 #[cV s1 kd1 a1 b1 c1 d1 x1 m1 p1 t1 k1 es1 en1 ec1 ts1 tn1 tc1 r1, cV s2 kd2 a2 b2 c2 d2 x2 m2 p2 t2 k2 es2 en2 ec2 ts2 tn2 tc2 r2] w fun e w' => e = .returned (.bool ((s1.toList == s2.toList) && ((kd1 == kd2) && (maFn.eq5 a1 b1 c1 d1 x1 a2 b2 c2 d2 x2 && ((m1 == m2) && ((p1 == p2) && ((t1 == t2) && ((k1 == k2) && ((r1 == r2) && (sameB e1 e2 && sameT l1 l2)))))))))) ∧ Below w.heap.size w w' := by
  by_cases hA : (s1.toList == s2.toList) = true ∧ (kd1 == kd2) = true ∧ maFn.eq5 a1 b1 c1 d1 x1 a2 b2 c2 d2 x2 = true ∧ (m1 == m2) = true ∧ (p1 == p2) = true ∧ (t1 == t2) = true ∧ (k1 == k2) = true ∧ (r1 == r2) = true ∧ sameB e1 e2 = true ∧ tn1 = tn2
  · obtain ⟨g0, g1, g2, g3, g4, g5, g6, g7, g8, hn⟩ := hA
    subst hn
    rw [g0, g1, g2, g3, g4, g5, g6, g7, g8]
    simp only [Bool.true_and]
    rcases Nat.eq_zero_or_pos tn1 with h0 | h0
    · exact rEqual_0 s1 kd1 a1 b1 c1 d1 x1 m1 p1 t1 k1 es1 en1 ec1 ts1 tc1 r1 e1 l1 s2 kd2 a2 b2 c2 d2 x2 m2 p2 t2 k2 es2 en2 ec2 ts2 tc2 r2 e2 l2 tn1 w h1 h2 h0 g0 g1 g2 g3 g4 g5 g6 g7 g8
    · obtain ⟨b1', o1', q1, _, _⟩ := h1.t.c h0
      obtain ⟨b2', o2', q2, _, _⟩ := h2.t.c h0
      cases q1; cases q2
      exact rEqual_1 s1 kd1 a1 b1 c1 d1 x1 m1 p1 t1 k1 es1 en1 ec1 b1' o1' tc1 r1 e1 l1 s2 kd2 a2 b2 c2 d2 x2 m2 p2 t2 k2 es2 en2 ec2 b2' o2' tc2 r2 e2 l2 tn1 w h1 h2 h0 g0 g1 g2 g3 g4 g5 g6 g7 g8
  have HN := Lib.hid hA
  clear hA
  have B1 : Below w.heap.size w ((w.alloc (.cells #[.string s1, .int .i64 kd1, .int .i64 a1, .int .i64 b1, .int .i64 c1, .int .i64 d1, .int .i64 x1, .int .i64 m1, .int .i64 p1, .int .i64 t1, .int .i64 k1, .slice es1 en1 ec1, .slice ts1 tn1 tc1, .int .i64 r1] 34)).alloc (.cells #[.string s2, .int .i64 kd2, .int .i64 a2, .int .i64 b2, .int .i64 c2, .int .i64 d2, .int .i64 x2, .int .i64 m2, .int .i64 p2, .int .i64 t2, .int .i64 k2, .slice es2 en2 ec2, .slice ts2 tn2 tc2, .int .i64 r2] 34)) := ((Below.refl _ _).alloc (Nat.le_refl _) _).alloc (by simp) _
  have HS := Same_any es1 es2 en1 en2 ec1 ec2 e1 e2 _ (h1.e.below B1 (Nat.le_refl _)) (h2.e.below B1 (Nat.le_refl _))
  have HB : Hid (B2 w (cL s1 kd1 a1 b1 c1 d1 x1 m1 p1 t1 k1 es1 en1 ec1 ts1 tn1 tc1 r1) (cL s2 kd2 a2 b2 c2 d2 x2 m2 p2 t2 k2 es2 en2 ec2 ts2 tn2 tc2 r2) ((w.alloc (.cells #[.string s1, .int .i64 kd1, .int .i64 a1, .int .i64 b1, .int .i64 c1, .int .i64 d1, .int .i64 x1, .int .i64 m1, .int .i64 p1, .int .i64 t1, .int .i64 k1, .slice es1 en1 ec1, .slice ts1 tn1 tc1, .int .i64 r1] 34)).alloc (.cells #[.string s2, .int .i64 kd2, .int .i64 a2, .int .i64 b2, .int .i64 c2, .int .i64 d2, .int .i64 x2, .int .i64 m2, .int .i64 p2, .int .i64 t2, .int .i64 k2, .slice es2 en2 ec2, .slice ts2 tn2 tc2, .int .i64 r2] 34))) := Lib.hid ⟨(new0 w 34 (cL s1 kd1 a1 b1 c1 d1 x1 m1 p1 t1 k1 es1 en1 ec1 ts1 tn1 tc1 r1)).alloc _, by have := has.new (w.alloc (.cells #[.string s1, .int .i64 kd1, .int .i64 a1, .int .i64 b1, .int .i64 c1, .int .i64 d1, .int .i64 x1, .int .i64 m1, .int .i64 p1, .int .i64 t1, .int .i64 k1, .slice es1 en1 ec1, .slice ts1 tn1 tc1, .int .i64 r1] 34)) 34 (cL s2 kd2 a2 b2 c2 d2 x2 m2 p2 t2 k2 es2 en2 ec2 ts2 tn2 tc2 r2); simpa using this, B1⟩
  have H1 := Lib.hid h1.t
  have H2 := Lib.hid h2.t
  have EC := maFn.neC_run a1 b1 c1 d1 x1 a2 b2 c2 d2 x2
  clear h1 h2 B1
  cases g0 : (s1.toList == s2.toList)
  · have n0 : (s1.toList != s2.toList) = true := by unfold bne; rw [g0]; rfl
    go_enter Tryd.func11, Tryd.ntmps11
    go_wp2
    go_ret
    exact ⟨rfl, HB.out.hb⟩
  have n0 : (s1.toList != s2.toList) = false := by unfold bne; rw [g0]; rfl
  cases g1 : (kd1 == kd2)
  · have n1 : (kd1 != kd2) = true := by unfold bne; rw [g1]; rfl
    go_enter Tryd.func11, Tryd.ntmps11
    go_wp2
    go_ret
    exact ⟨rfl, HB.out.hb⟩
  have n1 : (kd1 != kd2) = false := by unfold bne; rw [g1]; rfl
  cases g2 : (maFn.eq5 a1 b1 c1 d1 x1 a2 b2 c2 d2 x2)
  all_goals rw [g2] at EC
  · skip
    go_enter Tryd.func11, Tryd.ntmps11
    go_wp2
    go_ret
    exact ⟨rfl, HB.out.hb⟩
  cases g3 : (m1 == m2)
  · have n3 : (m1 != m2) = true := by unfold bne; rw [g3]; rfl
    go_enter Tryd.func11, Tryd.ntmps11
    go_wp2
    go_ret
    exact ⟨rfl, HB.out.hb⟩
  have n3 : (m1 != m2) = false := by unfold bne; rw [g3]; rfl
  cases g4 : (p1 == p2)
  · have n4 : (p1 != p2) = true := by unfold bne; rw [g4]; rfl
    go_enter Tryd.func11, Tryd.ntmps11
    go_wp2
    go_ret
    exact ⟨rfl, HB.out.hb⟩
  have n4 : (p1 != p2) = false := by unfold bne; rw [g4]; rfl
  cases g5 : (t1 == t2)
  · have n5 : (t1 != t2) = true := by unfold bne; rw [g5]; rfl
    go_enter Tryd.func11, Tryd.ntmps11
    go_wp2
    go_ret
    exact ⟨rfl, HB.out.hb⟩
  have n5 : (t1 != t2) = false := by unfold bne; rw [g5]; rfl
  cases g6 : (k1 == k2)
  · have n6 : (k1 != k2) = true := by unfold bne; rw [g6]; rfl
    go_enter Tryd.func11, Tryd.ntmps11
    go_wp2
    go_ret
    exact ⟨rfl, HB.out.hb⟩
  have n6 : (k1 != k2) = false := by unfold bne; rw [g6]; rfl
  cases g7 : (r1 == r2)
  · have n7 : (r1 != r2) = true := by unfold bne; rw [g7]; rfl
    go_enter Tryd.func11, Tryd.ntmps11
    go_wp2
    go_ret
    exact ⟨rfl, HB.out.hb⟩
  have n7 : (r1 != r2) = false := by unfold bne; rw [g7]; rfl
  cases g8 : sameB e1 e2
  all_goals
    rw [g8] at HS
    go_enter Tryd.func11, Tryd.ntmps11
    go_wp2_with fail
    refine HS.mono ?_; rintro e w1 ⟨rfl, hb1⟩
    have HB2 := Lib.hid (HB.out.below hb1)
    clear hb1
  · go_wp2_with fail
    go_ret
    exact ⟨rfl, HB2.out.hb⟩
  · have u1 : w1.cell? ⟨w.heap.size, 12, none⟩ = some (.slice ts1 tn1 tc1) := HB2.out.a.cell 12
    have u2 : w1.cell? ⟨w.heap.size + 1, 12, none⟩ = some (.slice ts2 tn2 tc2) := HB2.out.b.cell 12
    by_cases hn : tn1 = tn2
    · exact (HN.out ⟨g0, g1, g2, g3, g4, g5, g6, g7, g8, hn⟩).elim
    · have e : sameT l1 l2 = false := sameT_len (by rw [H1.out.n, H2.out.n]; exact hn)
      have HE := Lib.hid e
      have hne : ((tn1 : Int) != (tn2 : Int)) = true := by rw [bne_iff_ne]; omega
      clear e hn
      go_wp2_with fail
      go_ret
      exact ⟨by rw [HE.out]; rfl, HB2.out.hb⟩
end Go.Proofs.YtkappnnoienhnaaDoor.caFn