/- Joined texts: CaRTrig CaRVa CaRVb CaRVc CaRValid -/
import Derived.Test.YtlhnnjllbcglcaaGreatDoorCaTrigs
import Derived.Test.YtlhnnjllbcglcaaGreatDoorCaZR
import Derived.Test.YtlhnnjllbcglcaaGreatDoorCaZT
import Derived.Test.YtlhnnjllbcglcaaGreatDoorCaZK
import Derived.Test.YtlhnnjllbcglcaaGreatDoorCaValidB
import Derived.Deep.CutBlock
import Derived.Deep.DeepCutAuto
import Derived.BigRegion
import Derived.Deep.RegionHeld3
/- Which triggers are valid, by the reference. -/
namespace Go.Proofs.YtlhnnjllbcglcaaGreatDoor.caFn
open Go.ChangeShapes Go.WideShapes Go.ChangeAt Go.RowKit drMem efFn
set_option linter.unusedVariables false

set_option maxRecDepth 100000 in
theorem rtargets_any (sp : Option Addr) (n cap : Nat) (l : List Ef) (w : World) (h : EfsAt w sp n l) :
    Calls Tryz.prog 31 #[.slice sp n cap] w fun e w' => e = .returned (.int .i64 (tgN l : Nat)) ∧ w = w' := by
  have hn := h.n
  have hm := h.m
  rcases Nat.eq_zero_or_pos n with h0 | h0
  · subst h0
    have e : tgN l = 0 := by rw [List.eq_nil_of_length_eq_zero hn]; rfl
    rw [e]
    clear e h hn hm
    go_enter Tryz.func31, Tryz.ntmps31
    go_wp2
    refine wp_loop_rounds 1 ?_
    rw [rounds_succ]
    go_wp2
    go_ret
    exact ⟨rfl, rfl⟩
  · obtain ⟨b, off, rfl, hbl, hc⟩ := h.c h0
    have C : Hid (∀ k, k < n → EfAt w b (off + k * 5) (l.getD k default)) := Lib.hid fun k hk => hc k _ (get_some (by omega))
    have HN := Lib.hid hn
    clear hc h hn
    go_enter Tryz.func31, Tryz.ntmps31
    go_wp2
    go_loopw [3, 4] (fun v i wr => ∃ k : Nat, ∃ z : Int, k ≤ n ∧ i = .int .i64 k ∧ v = .int .i64 z ∧ wr = w ∧ Hid (z = (tgN (l.take k) : Nat))) (fun _ i _ => n - (intOf i).toNat)
    case atStart => exact ⟨0, 0, Nat.zero_le _, rfl, rfl, rfl, Lib.hid (by simp [tgN])⟩
    case round =>
      obtain ⟨k, z, hk, rfl, rfl, rfl, HT⟩ := hrel
      by_cases hlt : k < n
      · obtain ⟨c0, c1, c2, c3, c4⟩ := C.out k hlt
        have HX := Lib.hid (tg_yes (l := l) (k := k) (by rw [HN.out]; exact hlt))
        have HY := Lib.hid (tg_no (l := l) (k := k) (by rw [HN.out]; exact hlt))
        generalize l.getD k default = x at *
        obtain ⟨xc, xt, xn, xm, xk⟩ := x
        dsimp only at c0 c1 c2 c3 c4
        have hz0 : 0 ≤ z := by have := HT.out; omega
        have hz1 : z < 9223372036854775807 := by have := HT.out; have := tg_le (l.take k); have := List.length_take_le k l; omega
        cases hx : (xt != 0)
        · go_wp2
          exact ⟨⟨k + 1, z, by omega, by go_num, rfl, by first | rfl | trivial, Lib.hid (by rw [HY.out hx]; exact HT.out)⟩, by simp [intOf]; omega⟩
        · go_wp2
          exact ⟨⟨k + 1, z + 1, by omega, by go_num, by go_num, by first | rfl | trivial, Lib.hid (by rw [HX.out hx, HT.out]; omega)⟩, by simp [intOf]; omega⟩
      · obtain rfl : k = n := by omega
        have e : z = (tgN l : Nat) := by
          rw [HT.out, List.take_of_length_le (by rw [HN.out]; exact Nat.le_refl _)]
        go_wp2
        go_ret
        exact ⟨ret_int e, rfl⟩
set_option maxRecDepth 100000 in
set_option maxHeartbeats 2000000 in
theorem rtrigger_any (k : Int) (s : Option Addr) (n c : Nat) (l : List Ef) (w : World) (h : EfsAt w s n l) :
    Calls Tryz.prog 19 #[tV k s n c] w fun e w' => e = .returned (.bool (trB ⟨k, l⟩)) ∧ Below w.heap.size w w' := by
  have hn := h.n
  have e : trB ⟨k, l⟩ = (decide (1 ≤ k) && (decide (k ≤ 3) && (decide (1 ≤ n) && (decide (n ≤ 2) && (allB l && decide (tgN l = 0)))))) := by rw [← hn]; rfl
  rw [e]
  have M0 := new0 w 47 (tL k s n c)
  have B0 : Below w.heap.size w (w.alloc (.cells #[.int .i64 k, .slice s n c] 47)) := (Below.refl _ _).alloc (Nat.le_refl _) _
  have E0 := h.below B0 (Nat.le_refl _)
  have HM0 := Lib.hid M0
  have HB0 := Lib.hid B0
  have HA := rAll_any s n c l _ E0
  have HE0 := Lib.hid E0
  clear hn e h M0 B0 E0
  by_cases g0 : 1 ≤ k
  · by_cases g1 : k ≤ 3
    · by_cases g2 : n = 1
      · have q1 : ((n : Int) == 1) = true := by rw [beq_iff_eq]; omega
        have g5 : 1 ≤ n ∧ n ≤ 2 := by omega
        clear g2
        · cases ha : allB l
          all_goals
            rw [ha] at HA
            rw [decide_eq_true g0, decide_eq_true g1, decide_eq_true (show 1 ≤ n by omega), decide_eq_true (show n ≤ 2 by omega)]
            go_enter Tryz.func19, Tryz.ntmps19
            go_wp2_with fail
            refine HA.mono ?_; rintro e w1 ⟨rfl, hb1⟩
            have HB1 := Lib.hid (next HB0.out hb1)
            have HM1 := Lib.hid (HM0.out.below hb1 HM0.out.lt)
            obtain ⟨u0, u1, u2⟩ := two HM1.out
            have HE1 := Lib.hid (HE0.out.below hb1 (Nat.le_refl _))
            clear hb1
          · go_wp2_with fail
            go_ret
            exact ⟨rfl, HB1.out⟩
          · have HT := rtargets_any s n c l w1 HE1.out
            go_wp2_with fail
            refine HT.mono ?_; rintro e w2 ⟨rfl, rfl⟩
            go_wp2_with fail
            go_ret
            exact ⟨ret_bool (by rw [Bool.eq_iff_iff]; simp), HB1.out⟩
      · by_cases g3 : n = 2
        · have q1 : ((n : Int) == 1) = false := by rw [beq_eq_false_iff_ne]; omega
          have q2 : ((n : Int) == 2) = true := by rw [beq_iff_eq]; omega
          have g5 : 1 ≤ n ∧ n ≤ 2 := by omega
          clear g2 g3
          cases ha : allB l
          all_goals
            rw [ha] at HA
            rw [decide_eq_true g0, decide_eq_true g1, decide_eq_true (show 1 ≤ n by omega), decide_eq_true (show n ≤ 2 by omega)]
            go_enter Tryz.func19, Tryz.ntmps19
            go_wp2_with fail
            refine HA.mono ?_; rintro e w1 ⟨rfl, hb1⟩
            have HB1 := Lib.hid (next HB0.out hb1)
            have HM1 := Lib.hid (HM0.out.below hb1 HM0.out.lt)
            obtain ⟨u0, u1, u2⟩ := two HM1.out
            have HE1 := Lib.hid (HE0.out.below hb1 (Nat.le_refl _))
            clear hb1
          · go_wp2_with fail
            go_ret
            exact ⟨rfl, HB1.out⟩
          · have HT := rtargets_any s n c l w1 HE1.out
            go_wp2_with fail
            refine HT.mono ?_; rintro e w2 ⟨rfl, rfl⟩
            go_wp2_with fail
            go_ret
            exact ⟨ret_bool (by rw [Bool.eq_iff_iff]; simp), HB1.out⟩
        · have q1 : ((n : Int) == 1) = false := by rw [beq_eq_false_iff_ne]; omega
          have q2 : ((n : Int) == 2) = false := by rw [beq_eq_false_iff_ne]; omega
          have g4 : (decide (1 ≤ n) && (decide (n ≤ 2) && (allB l && decide (tgN l = 0)))) = false := by
            by_cases h1 : 1 ≤ n
            · rw [decide_eq_false (show ¬ n ≤ 2 by omega)]; simp
            · rw [decide_eq_false h1]; simp
          rw [g4]
          clear g2 g3 g4
          go_enter Tryz.func19, Tryz.ntmps19
          go_wp2
          go_ret
          exact ⟨ret_bool (by simp), HB0.out⟩
    · rw [decide_eq_false g1]
      go_enter Tryz.func19, Tryz.ntmps19
      go_wp2
      go_ret
      exact ⟨ret_bool (by simp), HB0.out⟩
  · rw [decide_eq_false g0]
    go_enter Tryz.func19, Tryz.ntmps19
    go_wp2
    go_ret
    exact ⟨ret_bool (by simp), HB0.out⟩
end Go.Proofs.YtlhnnjllbcglcaaGreatDoor.caFn

/- Which sources are valid, by the reference. -/
namespace Go.Proofs.YtlhnnjllbcglcaaGreatDoor.caFn
open Go.ChangeShapes Go.WideShapes Go.ChangeAt Go.RowKit drMem efFn
set_option linter.unusedVariables false

set_option maxRecDepth 100000 in
set_option maxHeartbeats 16000000 in
theorem rvalid_src (s : ByteArray) (a b c d x m p t k : Int) (es : Option Addr) (en ec : Nat) (ts : Option Addr) (tn tc : Nat) (r : Int) (e : List Ef) (l : List Tr) (w : World) (h : CdAt w es en e ts tn l) (h0 : nameB s.data.toList = true) (h1 : 1 ≤ r) (h2 : r ≤ 4) :
    Calls Tryz.prog 7 #[cV s 1 a b c d x m p t k es en ec ts tn tc r] w fun v w' => v = .returned (.bool (srcB ⟨s.data.toList, 1, a, b, c, d, x, m, p, t, k, e, l, r⟩)) ∧ Below w.heap.size w w' := by
  have HER : Hid (srcB ⟨s.data.toList, 1, a, b, c, d, x, m, p, t, k, e, l, r⟩ = (maFn.okN 3 m && (zeroC a b c d x && (p == 0 && (t == 0 && (k == 0 && (decide (e = []) && decide (l = [])))))))) := Lib.hid rfl
  generalize srcB ⟨s.data.toList, 1, a, b, c, d, x, m, p, t, k, e, l, r⟩ = zz at *
  obtain ⟨zn, hzn⟩ : ∃ zn, (p == 0 && (t == 0 && (k == 0 && ((tn : Int) == 0)))) = zn := ⟨_, rfl⟩
  have HZN := Lib.hid hzn
  have HLE := Lib.hid h.e.n
  have HLT := Lib.hid h.t.n
  have HM0 := Lib.hid (new0 w 32 (cL s 1 a b c d x m p t k es en ec ts tn tc r))
  have HB0 := Lib.hid (show Below w.heap.size w (w.alloc (.cells #[.string s, .int .i64 1, .int .i64 a, .int .i64 b, .int .i64 c, .int .i64 d, .int .i64 x, .int .i64 m, .int .i64 p, .int .i64 t, .int .i64 k, .slice es en ec, .slice ts tn tc, .int .i64 r] 32)) from (Below.refl _ _).alloc (Nat.le_refl _) _)
  have HH := Lib.hid h
  have HNM := rNamed_any s (w.alloc (.cells #[.string s, .int .i64 1, .int .i64 a, .int .i64 b, .int .i64 c, .int .i64 d, .int .i64 x, .int .i64 m, .int .i64 p, .int .i64 t, .int .i64 k, .slice es en ec, .slice ts tn tc, .int .i64 r] 32))
  rw [h0] at HNM
  have hme := h.e.m
  have hmt := h.t.m
  clear h hzn h0
  obtain ⟨cx0, cx1, cx2, cx3, cx4, cx5, cx6, cx7, cx8, cx9, cx10, cx11, cx12, cx13, cx14⟩ := card14 HM0.out
  go_enter Tryz.func7, Tryz.ntmps7
  go_wp2_with fail
  refine HNM.mono ?_; rintro v w1 ⟨rfl, rfl⟩
  go_upto_region 3 with fail
  go_cut [3] from 7 to 39 (fun s3 wx => s3 = .bool zn ∧ wx = (w.alloc (.cells #[.string s, .int .i64 1, .int .i64 a, .int .i64 b, .int .i64 c, .int .i64 d, .int .i64 x, .int .i64 m, .int .i64 p, .int .i64 t, .int .i64 k, .slice es en ec, .slice ts tn tc, .int .i64 r] 32)))
  case first =>
    cases g0 : (p == 0)
    · go_wp2_with fail
      go_meet
      case rel => exact ⟨by rw [← HZN.out, g0]; rfl, rfl⟩
    cases g1 : (t == 0)
    · go_wp2_with fail
      go_meet
      case rel => exact ⟨by rw [← HZN.out, g0, g1]; rfl, rfl⟩
    cases g2 : (k == 0)
    · go_wp2_with fail
      go_meet
      case rel => exact ⟨by rw [← HZN.out, g0, g1, g2]; rfl, rfl⟩
    cases g3 : ((tn : Int) == 0)
    all_goals
      go_wp2_with fail
      go_meet
      case rel => exact ⟨by rw [← HZN.out, g0, g1, g2, g3]; rfl, rfl⟩
  case rest =>
    obtain ⟨rfl, rfl⟩ := hcut
    have ez : zz = (decide (0 ≤ m) && (decide (m ≤ 3) && (((en : Int) == 0) && (zn && maFn.eq5 a b c d x 0 0 0 0 0)))) := by
      have e1 : decide (e = []) = ((en : Int) == 0) := by
        rw [Bool.eq_iff_iff]; simp only [decide_eq_true_eq, beq_iff_eq]; rw [← HLE.out]
        exact ⟨fun h => by rw [h]; rfl, fun h => List.eq_nil_of_length_eq_zero (by omega)⟩
      have e2 : decide (l = []) = ((tn : Int) == 0) := by
        rw [Bool.eq_iff_iff]; simp only [decide_eq_true_eq, beq_iff_eq]; rw [← HLT.out]
        exact ⟨fun h => by rw [h]; rfl, fun h => List.eq_nil_of_length_eq_zero (by omega)⟩
      rw [HER.out, e1, e2, ← HZN.out]
      unfold maFn.okN zeroC
      rw [Bool.eq_iff_iff]
      simp only [Bool.and_eq_true, decide_eq_true_eq]
      grind
    have HEZ := Lib.hid ez
    have EC := maFn.eqC_run a b c d x 0 0 0 0 0
    clear ez
    by_cases g0 : 0 ≤ m
    case neg =>
      have G : Hid (¬ (0 ≤ m)) := Lib.hid (by omega)
      go_wp2_with fail
      go_ret
      exact ⟨ret_bool (by rw [HEZ.out, decide_eq_false (show ¬ (0 ≤ m) by have := G.out; omega)]; rfl), HB0.out⟩
    by_cases g1 : m ≤ 3
    case neg =>
      have G : Hid (¬ (m ≤ 3)) := Lib.hid (by omega)
      go_wp2_with fail
      go_ret
      exact ⟨ret_bool (by rw [HEZ.out, decide_eq_false (show ¬ (m ≤ 3) by have := G.out; omega)]; simp), HB0.out⟩
    cases g2 : ((en : Int) == 0)
    · go_wp2_with fail
      go_ret
      exact ⟨ret_bool (by rw [HEZ.out, g2]; simp), HB0.out⟩
    cases zn
    · go_wp2_with fail
      go_ret
      exact ⟨ret_bool (by rw [HEZ.out]; simp), HB0.out⟩
    cases g3 : maFn.eq5 a b c d x 0 0 0 0 0
    all_goals
      rw [g3] at EC
      go_wp2_with fail
      go_ret
      exact ⟨ret_bool (by rw [HEZ.out, g2, g3, decide_eq_true g0, decide_eq_true g1]; rfl), HB0.out⟩

end Go.Proofs.YtlhnnjllbcglcaaGreatDoor.caFn

/- Which creatures are valid, by the reference. -/
namespace Go.Proofs.YtlhnnjllbcglcaaGreatDoor.caFn
open Go.ChangeShapes Go.WideShapes Go.ChangeAt Go.RowKit drMem efFn
set_option linter.unusedVariables false

set_option maxRecDepth 100000 in
set_option maxHeartbeats 16000000 in
theorem rvalid_cre (s : ByteArray) (a b c d x m p t k : Int) (es : Option Addr) (en ec : Nat) (ts : Option Addr) (tn tc : Nat) (r : Int) (e : List Ef) (l : List Tr) (w : World) (h : CdAt w es en e ts tn l) (h0 : nameB s.data.toList = true) (h1 : 1 ≤ r) (h2 : r ≤ 4) :
    Calls Tryz.prog 7 #[cV s 2 a b c d x m p t k es en ec ts tn tc r] w fun v w' => v = .returned (.bool (creB ⟨s.data.toList, 2, a, b, c, d, x, m, p, t, k, e, l, r⟩)) ∧ Below w.heap.size w w' := by
  have HER : Hid (creB ⟨s.data.toList, 2, a, b, c, d, x, m, p, t, k, e, l, r⟩ = (maFn.okC a b c d x && ((m == 0) && (decide (0 ≤ p) && (decide (p ≤ 20) && (decide (1 ≤ t) && (decide (t ≤ 20) && (decide (0 ≤ k ∧ k ≤ 15) && (allB e && trsB l))))))))) := Lib.hid rfl
  generalize creB ⟨s.data.toList, 2, a, b, c, d, x, m, p, t, k, e, l, r⟩ = zz at *
  obtain ⟨zn, hzn⟩ : ∃ zn, (p == 0 && (t == 0 && (k == 0 && ((tn : Int) == 0)))) = zn := ⟨_, rfl⟩
  have HZN := Lib.hid hzn
  have HLE := Lib.hid h.e.n
  have HLT := Lib.hid h.t.n
  have HM0 := Lib.hid (new0 w 32 (cL s 2 a b c d x m p t k es en ec ts tn tc r))
  have HB0 := Lib.hid (show Below w.heap.size w (w.alloc (.cells #[.string s, .int .i64 2, .int .i64 a, .int .i64 b, .int .i64 c, .int .i64 d, .int .i64 x, .int .i64 m, .int .i64 p, .int .i64 t, .int .i64 k, .slice es en ec, .slice ts tn tc, .int .i64 r] 32)) from (Below.refl _ _).alloc (Nat.le_refl _) _)
  have HH := Lib.hid h
  have HNM := rNamed_any s (w.alloc (.cells #[.string s, .int .i64 2, .int .i64 a, .int .i64 b, .int .i64 c, .int .i64 d, .int .i64 x, .int .i64 m, .int .i64 p, .int .i64 t, .int .i64 k, .slice es en ec, .slice ts tn tc, .int .i64 r] 32))
  rw [h0] at HNM
  have hme := h.e.m
  have hmt := h.t.m
  clear h hzn h0
  obtain ⟨cx0, cx1, cx2, cx3, cx4, cx5, cx6, cx7, cx8, cx9, cx10, cx11, cx12, cx13, cx14⟩ := card14 HM0.out
  go_enter Tryz.func7, Tryz.ntmps7
  go_wp2_with fail
  refine HNM.mono ?_; rintro v w1 ⟨rfl, rfl⟩
  go_upto_region 3 with fail
  go_cut [3] from 7 to 39 (fun s3 wx => s3 = .bool zn ∧ wx = (w.alloc (.cells #[.string s, .int .i64 2, .int .i64 a, .int .i64 b, .int .i64 c, .int .i64 d, .int .i64 x, .int .i64 m, .int .i64 p, .int .i64 t, .int .i64 k, .slice es en ec, .slice ts tn tc, .int .i64 r] 32)))
  case first =>
    cases g0 : (p == 0)
    · go_wp2_with fail
      go_meet
      case rel => exact ⟨by rw [← HZN.out, g0]; rfl, rfl⟩
    cases g1 : (t == 0)
    · go_wp2_with fail
      go_meet
      case rel => exact ⟨by rw [← HZN.out, g0, g1]; rfl, rfl⟩
    cases g2 : (k == 0)
    · go_wp2_with fail
      go_meet
      case rel => exact ⟨by rw [← HZN.out, g0, g1, g2]; rfl, rfl⟩
    cases g3 : ((tn : Int) == 0)
    all_goals
      go_wp2_with fail
      go_meet
      case rel => exact ⟨by rw [← HZN.out, g0, g1, g2, g3]; rfl, rfl⟩
  case rest =>
    obtain ⟨rfl, rfl⟩ := hcut
    cases g0 : (m != 0)
    rotate_left
    · have G : Hid ((m == 0) = false) := Lib.hid (by rw [bne] at g0; simpa using g0)
      go_wp2_with fail
      go_ret
      exact ⟨ret_bool (by rw [HER.out, G.out]; simp), HB0.out⟩
    have G0 : Hid ((m == 0) = true) := Lib.hid (by rw [bne] at g0; simpa using g0)
    have HV := maFn.rValidCost_any a b c d x (w.alloc (.cells #[.string s, .int .i64 2, .int .i64 a, .int .i64 b, .int .i64 c, .int .i64 d, .int .i64 x, .int .i64 m, .int .i64 p, .int .i64 t, .int .i64 k, .slice es en ec, .slice ts tn tc, .int .i64 r] 32))
    go_wp2_with fail
    refine HV.mono ?_; rintro v w1 ⟨rfl, hb⟩
    have HM1 := Lib.hid (HM0.out.below hb HM0.out.lt)
    have HB1 := Lib.hid (next HB0.out hb)
    clear hb HV
    clear cx0 cx1 cx2 cx3 cx4 cx5 cx6 cx7 cx8 cx9 cx10 cx11 cx12 cx13 cx14
    obtain ⟨cx0, cx1, cx2, cx3, cx4, cx5, cx6, cx7, cx8, cx9, cx10, cx11, cx12, cx13, cx14⟩ := card14 HM1.out
    cases g1 : maFn.okC a b c d x
    · go_wp2_with fail
      go_ret
      exact ⟨ret_bool (by rw [HER.out, g1]; rfl), HB1.out⟩
    by_cases g2 : 0 ≤ p
    case neg =>
      have G : Hid (¬ (0 ≤ p)) := Lib.hid (by omega)
      go_wp2_with fail
      go_ret
      exact ⟨ret_bool (by rw [HER.out, decide_eq_false (show ¬ (0 ≤ p) by have := G.out; omega)]; simp), HB1.out⟩
    by_cases g3 : p ≤ 20
    case neg =>
      have G : Hid (¬ (p ≤ 20)) := Lib.hid (by omega)
      go_wp2_with fail
      go_ret
      exact ⟨ret_bool (by rw [HER.out, decide_eq_false (show ¬ (p ≤ 20) by have := G.out; omega)]; simp), HB1.out⟩
    by_cases g4 : 1 ≤ t
    case neg =>
      have G : Hid (¬ (1 ≤ t)) := Lib.hid (by omega)
      go_wp2_with fail
      go_ret
      exact ⟨ret_bool (by rw [HER.out, decide_eq_false (show ¬ (1 ≤ t) by have := G.out; omega)]; simp), HB1.out⟩
    by_cases g5 : t ≤ 20
    case neg =>
      have G : Hid (¬ (t ≤ 20)) := Lib.hid (by omega)
      go_wp2_with fail
      go_ret
      exact ⟨ret_bool (by rw [HER.out, decide_eq_false (show ¬ (t ≤ 20) by have := G.out; omega)]; simp), HB1.out⟩
    by_cases g6 : 0 ≤ k
    case neg =>
      have G : Hid (¬ (0 ≤ k ∧ k ≤ 15)) := Lib.hid (by omega)
      go_wp2_with fail
      go_ret
      exact ⟨ret_bool (by rw [HER.out, decide_eq_false (show ¬ (0 ≤ k ∧ k ≤ 15) by have := G.out; omega)]; simp), HB1.out⟩
    by_cases g7 : k ≤ 15
    case neg =>
      have G : Hid (¬ (0 ≤ k ∧ k ≤ 15)) := Lib.hid (by omega)
      go_wp2_with fail
      go_ret
      exact ⟨ret_bool (by rw [HER.out, decide_eq_false (show ¬ (0 ≤ k ∧ k ≤ 15) by have := G.out; omega)]; simp), HB1.out⟩
    have HA := rAll_any es en ec e w1 (HH.out.e.below HB1.out (Nat.le_refl _))
    go_wp2_with fail
    refine HA.mono ?_; rintro v w2 ⟨rfl, hb⟩
    have HM2 := Lib.hid (HM1.out.below hb HM1.out.lt)
    have HB2 := Lib.hid (next HB1.out hb)
    clear hb HA
    clear cx0 cx1 cx2 cx3 cx4 cx5 cx6 cx7 cx8 cx9 cx10 cx11 cx12 cx13 cx14
    obtain ⟨cx0, cx1, cx2, cx3, cx4, cx5, cx6, cx7, cx8, cx9, cx10, cx11, cx12, cx13, cx14⟩ := card14 HM2.out
    have ez : zz = (allB e && trsB l) := by
      rw [HER.out, g1, G0.out, decide_eq_true g2, decide_eq_true g3, decide_eq_true g4, decide_eq_true g5, decide_eq_true (And.intro g6 g7)]; rfl
    have HEZ := Lib.hid ez
    clear ez
    cases g8 : allB e
    · go_wp2_with fail
      go_ret
      exact ⟨ret_bool (by rw [HEZ.out, g8]; rfl), HB2.out⟩
    have ez : zz = trsB l := by rw [HEZ.out, g8]; rfl
    have HEY := Lib.hid ez
    clear ez
    by_cases g9 : tn ≤ 2
    case neg =>
      have g9' : ¬ (tn : Int) ≤ 2 := by omega
      have G : Hid (¬ (tn ≤ 2)) := Lib.hid (by omega)
      clear g9
      go_wp2_with fail
      go_ret
      exact ⟨ret_bool (by rw [HEY.out]; unfold trsB; rw [HLT.out, decide_eq_false (show ¬ tn ≤ 2 by have := G.out; omega)]; rfl), HB2.out⟩
    have g9' : (tn : Int) ≤ 2 := by omega
    have ez : zz = trsOk l tn := by rw [HEY.out]; unfold trsB; rw [HLT.out, decide_eq_true g9]; rfl
    have HEX := Lib.hid ez
    clear ez
    have HGE : Hid (0 < tn → ∃ tb toff, ts = some ⟨tb, toff, none⟩ ∧ tb < w.heap.size ∧ ∀ q, q < tn → ∃ s n c, TrAt w tb (toff + q * 2) (l.getD q default) s n c) := Lib.hid fun h0 => by
      obtain ⟨tb, toff, he, hb, hc⟩ := HH.out.t.c h0
      exact ⟨tb, toff, he, hb, fun q hq => hc q _ (getT (by rw [HLT.out]; exact hq))⟩
    go_wp2_with fail
    clear cx0 cx1 cx2 cx3 cx4 cx5 cx6 cx7 cx8 cx9 cx10 cx11 cx12 cx13 cx14
    go_loopw [4] (fun i wr => ∃ q : Nat, q ≤ tn ∧ i = .int .i64 q ∧ Hid (trsOk l q = true) ∧ Hid (has wr w.heap.size 32 (cL s 2 a b c d x m p t k es en ec ts tn tc r)) ∧ Hid (Below w.heap.size w wr)) (fun i _ => tn - (intOf i).toNat)
    case atStart => exact ⟨0, Nat.zero_le _, rfl, Lib.hid rfl, HM2, HB2⟩
    case round =>
      obtain ⟨q, hq, rfl, HTO, HM, HB⟩ := hrel
      by_cases hlt : q < tn
      · obtain ⟨tb, toff, hts, htb, hc⟩ := HGE.out (by omega)
        obtain ⟨s', n', c', hat⟩ := hc q hlt
        obtain ⟨c0, c1, hye⟩ := hat.below HB.out htb (Nat.le_refl _)
        have HSU := Lib.hid (trsOk_succ l q)
        have HNO := Lib.hid (trsOk_no l q tn hlt)
        have HTW : Hid (q = 1 → ∃ j0, (l.take 1).any (fun u => u.w == (l.getD 1 default).w) = (j0 == (l.getD 1 default).w) ∧ wr.cell? ⟨tb, toff, none⟩ = some (.int .i64 j0)) := Lib.hid fun hq1 => by
          subst hq1
          obtain ⟨s0, n0, m0, h0⟩ := hc 0 (by omega)
          obtain ⟨k0, _, _⟩ := h0.below HB.out htb (Nat.le_refl _)
          rw [Nat.zero_mul, Nat.add_zero] at k0
          refine ⟨_, ?_, k0⟩
          have hl0 : 0 < l.length := by rw [HLT.out]; omega
          have e1 : l.take 1 = [l.getD 0 default] := by
            cases l with
            | nil => simp at hl0
            | cons y r => simp
          rw [e1]; simp
        have HWQ : Hid (q = 0 ∨ q = 1) := Lib.hid (by omega)
        have cy12 : wr.cell? ⟨w.heap.size, 12, none⟩ = some (.slice (some ⟨tb, toff, none⟩) tn tc) := by rw [← hts]; exact HM.out.cell 12
        clear hat hc hts
        obtain ⟨y, hy⟩ : ∃ y, l.getD q default = y := ⟨_, rfl⟩
        rw [hy] at c0 hye HSU HNO
        have HYQ := Lib.hid hy
        clear hy
        obtain ⟨yw, ye⟩ := y
        dsimp only at c0 c1 hye
        have HC0 := Lib.hid c0
        have HC1 := Lib.hid c1
        have HRT := rtrigger_any yw s' n' c' ye wr hye
        cases g10 : trB ⟨yw, ye⟩
        · rw [g10] at HRT HSU HNO
          go_wp2_with fail
          have HRTd := rtrigger_any yw s' n' c' ye wr.drew (hye.below ((Below.refl _ wr).drew) (Nat.le_refl _))
          rw [g10] at HRTd
          refine wp_region_held_drew (S := (fun w' => w'.cell? ⟨w.heap.size, 12, none⟩ = some (.slice (some ⟨tb, toff, none⟩) tn tc) ∧ w'.cell? ⟨tb, toff + q * 2, none⟩ = some (.int .i64 yw) ∧ w'.cell? ⟨tb, toff + q * 2 + 1, none⟩ = some (.slice s' n' c'))) (by kernel_rfl) ?_ (fun hH0 => ?_)
          · exact ⟨cy12, HC0.out, HC1.out⟩
          refine wpAnyH_take (i := 0) (oi := _) (v := ?_) rfl (by kernel_rfl) (by kernel_rfl) (by kernel_rfl) (fun _ _ _ h => h) (Or.inl ⟨by rfl, ?_⟩) (by assumption) ?_
          rotate_left
          · intro w hSw; (try dsimp only at hSw); obtain ⟨x0, x1, x2⟩ := hSw; first | (go_simp; done) | (go_simp; with_reducible rfl)
          try simp only [go_sem, Act.put, List.getElem_toArray, List.getElem_cons_zero, List.setIfInBounds_toArray, List.set_cons_succ, List.set_cons_zero]
          refine wpAnyH_take (i := 1) (oi := _) (v := ?_) rfl (by kernel_rfl) (by kernel_rfl) (by kernel_rfl) (fun _ _ _ h => h) (Or.inl ⟨by rfl, ?_⟩) (by assumption) ?_
          rotate_left
          · intro w hSw; (try dsimp only at hSw); obtain ⟨x0, x1, x2⟩ := hSw; first | (go_simp; done) | (go_simp; with_reducible rfl)
          try simp only [go_sem, Act.put, List.getElem_toArray, List.getElem_cons_succ, List.getElem_cons_zero, List.setIfInBounds_toArray, List.set_cons_succ, List.set_cons_zero]
          refine wpAnyH_take (i := 2) (oi := _) (v := ?_) rfl (by kernel_rfl) (by kernel_rfl) (by kernel_rfl) (fun _ _ _ h => h) (Or.inl ⟨by rfl, ?_⟩) (by assumption) ?_
          rotate_left
          · intro w hSw; (try dsimp only at hSw); obtain ⟨x0, x1, x2⟩ := hSw; first | (go_simp; done) | (go_simp; with_reducible rfl)
          try simp only [go_sem, Act.put, List.getElem_toArray, List.getElem_cons_succ, List.getElem_cons_zero, List.setIfInBounds_toArray, List.set_cons_succ, List.set_cons_zero]
          refine wpAnyH_take (i := 3) (oi := _) (v := ?_) rfl (by kernel_rfl) (by kernel_rfl) (by kernel_rfl) (fun _ _ _ h => h) (Or.inl ⟨by rfl, ?_⟩) (by assumption) ?_
          rotate_left
          · intro w hSw; (try dsimp only at hSw); obtain ⟨x0, x1, x2⟩ := hSw; first | (go_simp; done) | (go_simp; with_reducible rfl)
          try simp only [go_sem, Act.put, List.getElem_toArray, List.getElem_cons_succ, List.getElem_cons_zero, List.setIfInBounds_toArray, List.set_cons_succ, List.set_cons_zero]
          refine wpAnyH_take (i := 4) (oi := _) (v := ?_) rfl (by kernel_rfl) (by kernel_rfl) (by kernel_rfl) (fun _ _ _ h => h) (Or.inl ⟨by rfl, ?_⟩) (by assumption) ?_
          rotate_left
          · intro w hSw; (try dsimp only at hSw); obtain ⟨x0, x1, x2⟩ := hSw; first | (go_simp; done) | (go_simp; with_reducible rfl)
          try simp only [go_sem, Act.put, List.getElem_toArray, List.getElem_cons_succ, List.getElem_cons_zero, List.setIfInBounds_toArray, List.set_cons_succ, List.set_cons_zero]
          refine wpAnyH_ready (rs := [5]) (by kernel_rfl) (by simp) ?_
          refine AllReadyH.cons (o := _) rfl (fun K hK => ?_) AllReadyH.nil
          go_simp; refine (HRTd).mono ?_; rintro vv w6 ⟨rfl, hb6⟩; have HBq : Hid (Below wr.heap.size wr w6) := Lib.hid ((show Below wr.heap.size wr wr.drew from (Below.refl _ _).drew).trans hb6); have HBr := Lib.hid (HB.out.trans (HBq.out.mono HB.out.size)); have HMr := Lib.hid (HM.out.below HBq.out HM.out.lt); have HB1 := HBr; clear hb6
          refine hK.out _ _ ?_ (fun hH1 => ?_)
          · exact ⟨(HBq.out.cell (p := ⟨w.heap.size, 12, none⟩) HM.out.lt).trans cy12, (HBq.out.cell (p := ⟨tb, _, none⟩) (Nat.lt_of_lt_of_le htb HB.out.size)).trans HC0.out, (HBq.out.cell (p := ⟨tb, _, none⟩) (Nat.lt_of_lt_of_le htb HB.out.size)).trans HC1.out⟩
          clear hK K hH0
          try simp only [go_sem, Act.put, List.getElem_toArray, List.getElem_cons_succ, List.getElem_cons_zero, List.setIfInBounds_toArray, List.set_cons_succ, List.set_cons_zero]
          refine wpAnyH_take (i := 6) (oi := _) (v := ?_) rfl (by kernel_rfl) (by kernel_rfl) (by kernel_rfl) (fun _ _ _ h => h) (Or.inl ⟨by rfl, ?_⟩) (by assumption) ?_
          rotate_left
          · intro w hSw; (try dsimp only at hSw); obtain ⟨x0, x1, x2⟩ := hSw; first | (go_simp; done) | (go_simp; with_reducible rfl)
          try simp only [go_sem, Act.put, List.getElem_toArray, List.getElem_cons_succ, List.getElem_cons_zero, List.setIfInBounds_toArray, List.set_cons_succ, List.set_cons_zero]
          refine wpAnyH_take (i := 7) (oi := _) (v := ?_) rfl (by kernel_rfl) (by kernel_rfl) (by kernel_rfl) (fun _ _ _ h => h) (Or.inl ⟨by rfl, ?_⟩) (by assumption) ?_
          rotate_left
          · intro w hSw; (try dsimp only at hSw); obtain ⟨x0, x1, x2⟩ := hSw; first | (go_simp; done) | (go_simp; with_reducible rfl)
          try simp only [go_sem, Act.put, List.getElem_toArray, List.getElem_cons_succ, List.getElem_cons_zero, List.setIfInBounds_toArray, List.set_cons_succ, List.set_cons_zero]
          refine wpAnyH_take (i := 8) (oi := _) (v := undef) rfl (by kernel_rfl) (by kernel_rfl) (by kernel_rfl) (fun _ _ _ h => h) (Or.inr ⟨by kernel_rfl, rfl⟩) (by assumption) ?_
          try simp only [go_sem, Act.put, List.getElem_toArray, List.getElem_cons_succ, List.getElem_cons_zero, List.setIfInBounds_toArray, List.set_cons_succ, List.set_cons_zero]
          refine wpAnyH_take (i := 9) (oi := _) (v := undef) rfl (by kernel_rfl) (by kernel_rfl) (by kernel_rfl) (fun _ _ _ h => h) (Or.inr ⟨by kernel_rfl, rfl⟩) (by assumption) ?_
          try simp only [go_sem, Act.put, List.getElem_toArray, List.getElem_cons_succ, List.getElem_cons_zero, List.setIfInBounds_toArray, List.set_cons_succ, List.set_cons_zero]
          refine wpAnyH_take (i := 10) (oi := _) (v := undef) rfl (by kernel_rfl) (by kernel_rfl) (by kernel_rfl) (fun _ _ _ h => h) (Or.inr ⟨by kernel_rfl, rfl⟩) (by assumption) ?_
          try simp only [go_sem, Act.put, List.getElem_toArray, List.getElem_cons_succ, List.getElem_cons_zero, List.setIfInBounds_toArray, List.set_cons_succ, List.set_cons_zero]
          refine wpAnyH_take (i := 11) (oi := _) (v := undef) rfl (by kernel_rfl) (by kernel_rfl) (by kernel_rfl) (fun _ _ _ h => h) (Or.inr ⟨by kernel_rfl, rfl⟩) (by assumption) ?_
          try simp only [go_sem, Act.put, List.getElem_toArray, List.getElem_cons_succ, List.getElem_cons_zero, List.setIfInBounds_toArray, List.set_cons_succ, List.set_cons_zero]
          refine wpAnyH_take (i := 12) (oi := _) (v := undef) rfl (by kernel_rfl) (by kernel_rfl) (by kernel_rfl) (fun _ _ _ h => h) (Or.inr ⟨by kernel_rfl, rfl⟩) (by assumption) ?_
          try simp only [go_sem, Act.put, List.getElem_toArray, List.getElem_cons_succ, List.getElem_cons_zero, List.setIfInBounds_toArray, List.set_cons_succ, List.set_cons_zero]
          refine wpAnyH_take (i := 13) (oi := _) (v := undef) rfl (by kernel_rfl) (by kernel_rfl) (by kernel_rfl) (fun _ _ _ h => h) (Or.inr ⟨by kernel_rfl, rfl⟩) (by assumption) ?_
          try simp only [go_sem, Act.put, List.getElem_toArray, List.getElem_cons_succ, List.getElem_cons_zero, List.setIfInBounds_toArray, List.set_cons_succ, List.set_cons_zero]
          refine wpAnyH_take (i := 14) (oi := _) (v := undef) rfl (by kernel_rfl) (by kernel_rfl) (by kernel_rfl) (fun _ _ _ h => h) (Or.inr ⟨by kernel_rfl, rfl⟩) (by assumption) ?_
          try simp only [go_sem, Act.put, List.getElem_toArray, List.getElem_cons_succ, List.getElem_cons_zero, List.setIfInBounds_toArray, List.set_cons_succ, List.set_cons_zero]
          refine wpAnyH_take (i := 15) (oi := _) (v := undef) rfl (by kernel_rfl) (by kernel_rfl) (by kernel_rfl) (fun _ _ _ h => h) (Or.inr ⟨by kernel_rfl, rfl⟩) (by assumption) ?_
          try simp only [go_sem, Act.put, List.getElem_toArray, List.getElem_cons_succ, List.getElem_cons_zero, List.setIfInBounds_toArray, List.set_cons_succ, List.set_cons_zero]
          refine wpAnyH_take (i := 16) (oi := _) (v := undef) rfl (by kernel_rfl) (by kernel_rfl) (by kernel_rfl) (fun _ _ _ h => h) (Or.inr ⟨by kernel_rfl, rfl⟩) (by assumption) ?_
          try simp only [go_sem, Act.put, List.getElem_toArray, List.getElem_cons_succ, List.getElem_cons_zero, List.setIfInBounds_toArray, List.set_cons_succ, List.set_cons_zero]
          refine wpAnyH_take (i := 17) (oi := _) (v := undef) rfl (by kernel_rfl) (by kernel_rfl) (by kernel_rfl) (fun _ _ _ h => h) (Or.inr ⟨by kernel_rfl, rfl⟩) (by assumption) ?_
          try simp only [go_sem, Act.put, List.getElem_toArray, List.getElem_cons_succ, List.getElem_cons_zero, List.setIfInBounds_toArray, List.set_cons_succ, List.set_cons_zero]
          refine wpAnyH_take (i := 18) (oi := _) (v := undef) rfl (by kernel_rfl) (by kernel_rfl) (by kernel_rfl) (fun _ _ _ h => h) (Or.inr ⟨by kernel_rfl, rfl⟩) (by assumption) ?_
          try simp only [go_sem, Act.put, List.getElem_toArray, List.getElem_cons_succ, List.getElem_cons_zero, List.setIfInBounds_toArray, List.set_cons_succ, List.set_cons_zero]
          refine wpAnyH_take (i := 19) (oi := _) (v := undef) rfl (by kernel_rfl) (by kernel_rfl) (by kernel_rfl) (fun _ _ _ h => h) (Or.inr ⟨by kernel_rfl, rfl⟩) (by assumption) ?_
          try simp only [go_sem, Act.put, List.getElem_toArray, List.getElem_cons_succ, List.getElem_cons_zero, List.setIfInBounds_toArray, List.set_cons_succ, List.set_cons_zero]
          refine wpAnyH_take (i := 20) (oi := _) (v := undef) rfl (by kernel_rfl) (by kernel_rfl) (by kernel_rfl) (fun _ _ _ h => h) (Or.inr ⟨by kernel_rfl, rfl⟩) (by assumption) ?_
          try simp only [go_sem, Act.put, List.getElem_toArray, List.getElem_cons_succ, List.getElem_cons_zero, List.setIfInBounds_toArray, List.set_cons_succ, List.set_cons_zero]
          refine wpAnyH_take (i := 21) (oi := _) (v := undef) rfl (by kernel_rfl) (by kernel_rfl) (by kernel_rfl) (fun _ _ _ h => h) (Or.inr ⟨by kernel_rfl, rfl⟩) (by assumption) ?_
          try simp only [go_sem, Act.put, List.getElem_toArray, List.getElem_cons_succ, List.getElem_cons_zero, List.setIfInBounds_toArray, List.set_cons_succ, List.set_cons_zero]
          refine wpAnyH_take (i := 22) (oi := _) (v := undef) rfl (by kernel_rfl) (by kernel_rfl) (by kernel_rfl) (fun _ _ _ h => h) (Or.inr ⟨by kernel_rfl, rfl⟩) (by assumption) ?_
          try simp only [go_sem, Act.put, List.getElem_toArray, List.getElem_cons_succ, List.getElem_cons_zero, List.setIfInBounds_toArray, List.set_cons_succ, List.set_cons_zero]
          refine wpAnyH_take (i := 23) (oi := _) (v := ?_) rfl (by kernel_rfl) (by kernel_rfl) (by kernel_rfl) (fun _ _ _ h => h) (Or.inl ⟨by rfl, ?_⟩) (by assumption) ?_
          rotate_left
          · intro w hSw; (try dsimp only at hSw); obtain ⟨x0, x1, x2⟩ := hSw; first | (go_simp; done) | (go_simp; with_reducible rfl)
          try simp only [go_sem, Act.put, List.getElem_toArray, List.getElem_cons_succ, List.getElem_cons_zero, List.setIfInBounds_toArray, List.set_cons_succ, List.set_cons_zero]
          refine wpAnyH_done (by kernel_rfl) ?_ _
          go_wp2_with fail
          go_ret
          exact ⟨ret_bool (by rw [HEX.out]; exact (HNO.out rfl).symm), HB1.out⟩
        · rw [g10] at HRT HSU HNO
          rcases HWQ.out with hq0 | hq1
          · have q1 : ((q : Int) == 1) = false := by rw [beq_eq_false_iff_ne]; omega
            have hs : trsOk l (q + 1) = true := by rw [HSU.out, HTO.out, hq0]; simp
            have HS := Lib.hid hs
            have HQ0 := Lib.hid hq0
            clear hs hq0
            go_wp2_with fail
            have HRTd := rtrigger_any yw s' n' c' ye wr.drew (hye.below ((Below.refl _ wr).drew) (Nat.le_refl _))
            rw [g10] at HRTd
            refine wp_region_held_drew (S := (fun w' => w'.cell? ⟨w.heap.size, 12, none⟩ = some (.slice (some ⟨tb, toff, none⟩) tn tc) ∧ w'.cell? ⟨tb, toff + q * 2, none⟩ = some (.int .i64 yw) ∧ w'.cell? ⟨tb, toff + q * 2 + 1, none⟩ = some (.slice s' n' c'))) (by kernel_rfl) ?_ (fun hH0 => ?_)
            · exact ⟨cy12, HC0.out, HC1.out⟩
            refine wpAnyH_take (i := 0) (oi := _) (v := ?_) rfl (by kernel_rfl) (by kernel_rfl) (by kernel_rfl) (fun _ _ _ h => h) (Or.inl ⟨by rfl, ?_⟩) (by assumption) ?_
            rotate_left
            · intro w hSw; (try dsimp only at hSw); obtain ⟨x0, x1, x2⟩ := hSw; first | (go_simp; done) | (go_simp; with_reducible rfl)
            try simp only [go_sem, Act.put, List.getElem_toArray, List.getElem_cons_zero, List.setIfInBounds_toArray, List.set_cons_succ, List.set_cons_zero]
            refine wpAnyH_take (i := 1) (oi := _) (v := ?_) rfl (by kernel_rfl) (by kernel_rfl) (by kernel_rfl) (fun _ _ _ h => h) (Or.inl ⟨by rfl, ?_⟩) (by assumption) ?_
            rotate_left
            · intro w hSw; (try dsimp only at hSw); obtain ⟨x0, x1, x2⟩ := hSw; first | (go_simp; done) | (go_simp; with_reducible rfl)
            try simp only [go_sem, Act.put, List.getElem_toArray, List.getElem_cons_succ, List.getElem_cons_zero, List.setIfInBounds_toArray, List.set_cons_succ, List.set_cons_zero]
            refine wpAnyH_take (i := 2) (oi := _) (v := ?_) rfl (by kernel_rfl) (by kernel_rfl) (by kernel_rfl) (fun _ _ _ h => h) (Or.inl ⟨by rfl, ?_⟩) (by assumption) ?_
            rotate_left
            · intro w hSw; (try dsimp only at hSw); obtain ⟨x0, x1, x2⟩ := hSw; first | (go_simp; done) | (go_simp; with_reducible rfl)
            try simp only [go_sem, Act.put, List.getElem_toArray, List.getElem_cons_succ, List.getElem_cons_zero, List.setIfInBounds_toArray, List.set_cons_succ, List.set_cons_zero]
            refine wpAnyH_take (i := 3) (oi := _) (v := ?_) rfl (by kernel_rfl) (by kernel_rfl) (by kernel_rfl) (fun _ _ _ h => h) (Or.inl ⟨by rfl, ?_⟩) (by assumption) ?_
            rotate_left
            · intro w hSw; (try dsimp only at hSw); obtain ⟨x0, x1, x2⟩ := hSw; first | (go_simp; done) | (go_simp; with_reducible rfl)
            try simp only [go_sem, Act.put, List.getElem_toArray, List.getElem_cons_succ, List.getElem_cons_zero, List.setIfInBounds_toArray, List.set_cons_succ, List.set_cons_zero]
            refine wpAnyH_take (i := 4) (oi := _) (v := ?_) rfl (by kernel_rfl) (by kernel_rfl) (by kernel_rfl) (fun _ _ _ h => h) (Or.inl ⟨by rfl, ?_⟩) (by assumption) ?_
            rotate_left
            · intro w hSw; (try dsimp only at hSw); obtain ⟨x0, x1, x2⟩ := hSw; first | (go_simp; done) | (go_simp; with_reducible rfl)
            try simp only [go_sem, Act.put, List.getElem_toArray, List.getElem_cons_succ, List.getElem_cons_zero, List.setIfInBounds_toArray, List.set_cons_succ, List.set_cons_zero]
            refine wpAnyH_ready (rs := [5]) (by kernel_rfl) (by simp) ?_
            refine AllReadyH.cons (o := _) rfl (fun K hK => ?_) AllReadyH.nil
            go_simp; refine (HRTd).mono ?_; rintro vv w6 ⟨rfl, hb6⟩; have HBq : Hid (Below wr.heap.size wr w6) := Lib.hid ((show Below wr.heap.size wr wr.drew from (Below.refl _ _).drew).trans hb6); have HBr := Lib.hid (HB.out.trans (HBq.out.mono HB.out.size)); have HMr := Lib.hid (HM.out.below HBq.out HM.out.lt); have HB1 := HBr; clear hb6
            refine hK.out _ _ ?_ (fun hH1 => ?_)
            · exact ⟨(HBq.out.cell (p := ⟨w.heap.size, 12, none⟩) HM.out.lt).trans cy12, (HBq.out.cell (p := ⟨tb, _, none⟩) (Nat.lt_of_lt_of_le htb HB.out.size)).trans HC0.out, (HBq.out.cell (p := ⟨tb, _, none⟩) (Nat.lt_of_lt_of_le htb HB.out.size)).trans HC1.out⟩
            clear hK K hH0
            try simp only [go_sem, Act.put, List.getElem_toArray, List.getElem_cons_succ, List.getElem_cons_zero, List.setIfInBounds_toArray, List.set_cons_succ, List.set_cons_zero]
            refine wpAnyH_take (i := 6) (oi := _) (v := ?_) rfl (by kernel_rfl) (by kernel_rfl) (by kernel_rfl) (fun _ _ _ h => h) (Or.inl ⟨by rfl, ?_⟩) (by assumption) ?_
            rotate_left
            · intro w hSw; (try dsimp only at hSw); obtain ⟨x0, x1, x2⟩ := hSw; first | (go_simp; done) | (go_simp; with_reducible rfl)
            try simp only [go_sem, Act.put, List.getElem_toArray, List.getElem_cons_succ, List.getElem_cons_zero, List.setIfInBounds_toArray, List.set_cons_succ, List.set_cons_zero]
            refine wpAnyH_take (i := 7) (oi := _) (v := ?_) rfl (by kernel_rfl) (by kernel_rfl) (by kernel_rfl) (fun _ _ _ h => h) (Or.inl ⟨by rfl, ?_⟩) (by assumption) ?_
            rotate_left
            · intro w hSw; (try dsimp only at hSw); obtain ⟨x0, x1, x2⟩ := hSw; first | (go_simp; done) | (go_simp; with_reducible rfl)
            try simp only [go_sem, Act.put, List.getElem_toArray, List.getElem_cons_succ, List.getElem_cons_zero, List.setIfInBounds_toArray, List.set_cons_succ, List.set_cons_zero]
            refine wpAnyH_take (i := 8) (oi := _) (v := ?_) rfl (by kernel_rfl) (by kernel_rfl) (by kernel_rfl) (fun _ _ _ h => h) (Or.inl ⟨by rfl, ?_⟩) (by assumption) ?_
            rotate_left
            · intro w hSw; (try dsimp only at hSw); obtain ⟨x0, x1, x2⟩ := hSw; first | (go_simp; done) | (go_simp; with_reducible rfl)
            try simp only [go_sem, Act.put, List.getElem_toArray, List.getElem_cons_succ, List.getElem_cons_zero, List.setIfInBounds_toArray, List.set_cons_succ, List.set_cons_zero]
            refine wpAnyH_take (i := 9) (oi := _) (v := ?_) rfl (by kernel_rfl) (by kernel_rfl) (by kernel_rfl) (fun _ _ _ h => h) (Or.inl ⟨by rfl, ?_⟩) (by assumption) ?_
            rotate_left
            · intro w hSw; (try dsimp only at hSw); obtain ⟨x0, x1, x2⟩ := hSw; first | (go_simp; done) | (go_simp; with_reducible rfl)
            try simp only [go_sem, Act.put, List.getElem_toArray, List.getElem_cons_succ, List.getElem_cons_zero, List.setIfInBounds_toArray, List.set_cons_succ, List.set_cons_zero]
            refine wpAnyH_take (i := 10) (oi := _) (v := ?_) rfl (by kernel_rfl) (by kernel_rfl) (by kernel_rfl) (fun _ _ _ h => h) (Or.inl ⟨by rfl, ?_⟩) (by assumption) ?_
            rotate_left
            · intro w hSw; (try dsimp only at hSw); obtain ⟨x0, x1, x2⟩ := hSw; first | (go_simp; done) | (go_simp; with_reducible rfl)
            try simp only [go_sem, Act.put, List.getElem_toArray, List.getElem_cons_succ, List.getElem_cons_zero, List.setIfInBounds_toArray, List.set_cons_succ, List.set_cons_zero]
            refine wpAnyH_take (i := 11) (oi := _) (v := undef) rfl (by kernel_rfl) (by kernel_rfl) (by kernel_rfl) (fun _ _ _ h => h) (Or.inr ⟨by kernel_rfl, rfl⟩) (by assumption) ?_
            try simp only [go_sem, Act.put, List.getElem_toArray, List.getElem_cons_succ, List.getElem_cons_zero, List.setIfInBounds_toArray, List.set_cons_succ, List.set_cons_zero]
            refine wpAnyH_take (i := 12) (oi := _) (v := undef) rfl (by kernel_rfl) (by kernel_rfl) (by kernel_rfl) (fun _ _ _ h => h) (Or.inr ⟨by kernel_rfl, rfl⟩) (by assumption) ?_
            try simp only [go_sem, Act.put, List.getElem_toArray, List.getElem_cons_succ, List.getElem_cons_zero, List.setIfInBounds_toArray, List.set_cons_succ, List.set_cons_zero]
            refine wpAnyH_take (i := 13) (oi := _) (v := undef) rfl (by kernel_rfl) (by kernel_rfl) (by kernel_rfl) (fun _ _ _ h => h) (Or.inr ⟨by kernel_rfl, rfl⟩) (by assumption) ?_
            try simp only [go_sem, Act.put, List.getElem_toArray, List.getElem_cons_succ, List.getElem_cons_zero, List.setIfInBounds_toArray, List.set_cons_succ, List.set_cons_zero]
            refine wpAnyH_take (i := 14) (oi := _) (v := undef) rfl (by kernel_rfl) (by kernel_rfl) (by kernel_rfl) (fun _ _ _ h => h) (Or.inr ⟨by kernel_rfl, rfl⟩) (by assumption) ?_
            try simp only [go_sem, Act.put, List.getElem_toArray, List.getElem_cons_succ, List.getElem_cons_zero, List.setIfInBounds_toArray, List.set_cons_succ, List.set_cons_zero]
            refine wpAnyH_take (i := 15) (oi := _) (v := undef) rfl (by kernel_rfl) (by kernel_rfl) (by kernel_rfl) (fun _ _ _ h => h) (Or.inr ⟨by kernel_rfl, rfl⟩) (by assumption) ?_
            try simp only [go_sem, Act.put, List.getElem_toArray, List.getElem_cons_succ, List.getElem_cons_zero, List.setIfInBounds_toArray, List.set_cons_succ, List.set_cons_zero]
            refine wpAnyH_take (i := 16) (oi := _) (v := undef) rfl (by kernel_rfl) (by kernel_rfl) (by kernel_rfl) (fun _ _ _ h => h) (Or.inr ⟨by kernel_rfl, rfl⟩) (by assumption) ?_
            try simp only [go_sem, Act.put, List.getElem_toArray, List.getElem_cons_succ, List.getElem_cons_zero, List.setIfInBounds_toArray, List.set_cons_succ, List.set_cons_zero]
            refine wpAnyH_take (i := 17) (oi := _) (v := undef) rfl (by kernel_rfl) (by kernel_rfl) (by kernel_rfl) (fun _ _ _ h => h) (Or.inr ⟨by kernel_rfl, rfl⟩) (by assumption) ?_
            try simp only [go_sem, Act.put, List.getElem_toArray, List.getElem_cons_succ, List.getElem_cons_zero, List.setIfInBounds_toArray, List.set_cons_succ, List.set_cons_zero]
            refine wpAnyH_take (i := 18) (oi := _) (v := undef) rfl (by kernel_rfl) (by kernel_rfl) (by kernel_rfl) (fun _ _ _ h => h) (Or.inr ⟨by kernel_rfl, rfl⟩) (by assumption) ?_
            try simp only [go_sem, Act.put, List.getElem_toArray, List.getElem_cons_succ, List.getElem_cons_zero, List.setIfInBounds_toArray, List.set_cons_succ, List.set_cons_zero]
            refine wpAnyH_take (i := 19) (oi := _) (v := undef) rfl (by kernel_rfl) (by kernel_rfl) (by kernel_rfl) (fun _ _ _ h => h) (Or.inr ⟨by kernel_rfl, rfl⟩) (by assumption) ?_
            try simp only [go_sem, Act.put, List.getElem_toArray, List.getElem_cons_succ, List.getElem_cons_zero, List.setIfInBounds_toArray, List.set_cons_succ, List.set_cons_zero]
            refine wpAnyH_take (i := 20) (oi := _) (v := undef) rfl (by kernel_rfl) (by kernel_rfl) (by kernel_rfl) (fun _ _ _ h => h) (Or.inr ⟨by kernel_rfl, rfl⟩) (by assumption) ?_
            try simp only [go_sem, Act.put, List.getElem_toArray, List.getElem_cons_succ, List.getElem_cons_zero, List.setIfInBounds_toArray, List.set_cons_succ, List.set_cons_zero]
            refine wpAnyH_take (i := 21) (oi := _) (v := undef) rfl (by kernel_rfl) (by kernel_rfl) (by kernel_rfl) (fun _ _ _ h => h) (Or.inr ⟨by kernel_rfl, rfl⟩) (by assumption) ?_
            try simp only [go_sem, Act.put, List.getElem_toArray, List.getElem_cons_succ, List.getElem_cons_zero, List.setIfInBounds_toArray, List.set_cons_succ, List.set_cons_zero]
            refine wpAnyH_take (i := 22) (oi := _) (v := ?_) rfl (by kernel_rfl) (by kernel_rfl) (by kernel_rfl) (fun _ _ _ h => h) (Or.inl ⟨by rfl, ?_⟩) (by assumption) ?_
            rotate_left
            · intro w hSw; (try dsimp only at hSw); obtain ⟨x0, x1, x2⟩ := hSw; first | (go_simp; done) | (go_simp; with_reducible rfl)
            try simp only [go_sem, Act.put, List.getElem_toArray, List.getElem_cons_succ, List.getElem_cons_zero, List.setIfInBounds_toArray, List.set_cons_succ, List.set_cons_zero]
            refine wpAnyH_take (i := 23) (oi := _) (v := ?_) rfl (by kernel_rfl) (by kernel_rfl) (by kernel_rfl) (fun _ _ _ h => h) (Or.inl ⟨by rfl, ?_⟩) (by assumption) ?_
            rotate_left
            · intro w hSw; (try dsimp only at hSw); obtain ⟨x0, x1, x2⟩ := hSw; first | (go_simp; done) | (go_simp; with_reducible rfl)
            try simp only [go_sem, Act.put, List.getElem_toArray, List.getElem_cons_succ, List.getElem_cons_zero, List.setIfInBounds_toArray, List.set_cons_succ, List.set_cons_zero]
            refine wpAnyH_done (by kernel_rfl) ?_ _
            go_wp2_with fail
            exact ⟨⟨q + 1, by omega, by go_num, HS, HMr, HBr⟩, by simp [intOf]; omega⟩
          · have q1 : ((q : Int) == 1) = true := by rw [beq_iff_eq]; omega
            obtain ⟨j0, hj0, k0⟩ := HTW.out hq1
            have hyw : (l.getD 1 default).w = yw := by rw [← hq1, HYQ.out]
            rw [hyw] at hj0
            have k1 : wr.cell? ⟨tb, toff + 2, none⟩ = some (.int .i64 yw) := by rw [hq1] at c0; exact c0
            have hn1 : (0 : Int) < (tn : Int) := by omega
            have hn2 : (1 : Int) < (tn : Int) := by omega
            have hn3 : 0 < tn := by omega
            have hn4 : 1 < tn := by omega
            have HK0 := Lib.hid k0
            have HK1 := Lib.hid k1
            have HX : Hid (trsOk l (q + 1) = !(j0 == yw)) := Lib.hid (by rw [HSU.out, HTO.out, hq1, hj0]; simp)
            have HN : Hid ((j0 == yw) = true → trsOk l tn = false) := Lib.hid fun h => HNO.out (by rw [hq1, hj0, h]; rfl)
            have HQ1 := Lib.hid hq1
            clear hj0 hyw hq1 k0 k1
            cases g11 : (j0 == yw)
            · go_wp2_with fail
              have HRTd := rtrigger_any yw s' n' c' ye wr.drew (hye.below ((Below.refl _ wr).drew) (Nat.le_refl _))
              rw [g10] at HRTd
              refine wp_region_held_drew (S := (fun w' => w'.cell? ⟨w.heap.size, 12, none⟩ = some (.slice (some ⟨tb, toff, none⟩) tn tc) ∧ w'.cell? ⟨tb, toff + q * 2, none⟩ = some (.int .i64 yw) ∧ w'.cell? ⟨tb, toff + q * 2 + 1, none⟩ = some (.slice s' n' c') ∧ w'.cell? ⟨tb, toff, none⟩ = some (.int .i64 j0) ∧ w'.cell? ⟨tb, toff + 2, none⟩ = some (.int .i64 yw))) (by kernel_rfl) ?_ (fun hH0 => ?_)
              · exact ⟨cy12, HC0.out, HC1.out, HK0.out, HK1.out⟩
              refine wpAnyH_take (i := 0) (oi := _) (v := ?_) rfl (by kernel_rfl) (by kernel_rfl) (by kernel_rfl) (fun _ _ _ h => h) (Or.inl ⟨by rfl, ?_⟩) (by assumption) ?_
              rotate_left
              · intro w hSw; (try dsimp only at hSw); obtain ⟨x0, x1, x2, x3, x4⟩ := hSw; first | (go_simp; done) | (go_simp; with_reducible rfl)
              try simp only [go_sem, Act.put, List.getElem_toArray, List.getElem_cons_zero, List.setIfInBounds_toArray, List.set_cons_succ, List.set_cons_zero]
              refine wpAnyH_take (i := 1) (oi := _) (v := ?_) rfl (by kernel_rfl) (by kernel_rfl) (by kernel_rfl) (fun _ _ _ h => h) (Or.inl ⟨by rfl, ?_⟩) (by assumption) ?_
              rotate_left
              · intro w hSw; (try dsimp only at hSw); obtain ⟨x0, x1, x2, x3, x4⟩ := hSw; first | (go_simp; done) | (go_simp; with_reducible rfl)
              try simp only [go_sem, Act.put, List.getElem_toArray, List.getElem_cons_succ, List.getElem_cons_zero, List.setIfInBounds_toArray, List.set_cons_succ, List.set_cons_zero]
              refine wpAnyH_take (i := 2) (oi := _) (v := ?_) rfl (by kernel_rfl) (by kernel_rfl) (by kernel_rfl) (fun _ _ _ h => h) (Or.inl ⟨by rfl, ?_⟩) (by assumption) ?_
              rotate_left
              · intro w hSw; (try dsimp only at hSw); obtain ⟨x0, x1, x2, x3, x4⟩ := hSw; first | (go_simp; done) | (go_simp; with_reducible rfl)
              try simp only [go_sem, Act.put, List.getElem_toArray, List.getElem_cons_succ, List.getElem_cons_zero, List.setIfInBounds_toArray, List.set_cons_succ, List.set_cons_zero]
              refine wpAnyH_take (i := 3) (oi := _) (v := ?_) rfl (by kernel_rfl) (by kernel_rfl) (by kernel_rfl) (fun _ _ _ h => h) (Or.inl ⟨by rfl, ?_⟩) (by assumption) ?_
              rotate_left
              · intro w hSw; (try dsimp only at hSw); obtain ⟨x0, x1, x2, x3, x4⟩ := hSw; first | (go_simp; done) | (go_simp; with_reducible rfl)
              try simp only [go_sem, Act.put, List.getElem_toArray, List.getElem_cons_succ, List.getElem_cons_zero, List.setIfInBounds_toArray, List.set_cons_succ, List.set_cons_zero]
              refine wpAnyH_take (i := 4) (oi := _) (v := ?_) rfl (by kernel_rfl) (by kernel_rfl) (by kernel_rfl) (fun _ _ _ h => h) (Or.inl ⟨by rfl, ?_⟩) (by assumption) ?_
              rotate_left
              · intro w hSw; (try dsimp only at hSw); obtain ⟨x0, x1, x2, x3, x4⟩ := hSw; first | (go_simp; done) | (go_simp; with_reducible rfl)
              try simp only [go_sem, Act.put, List.getElem_toArray, List.getElem_cons_succ, List.getElem_cons_zero, List.setIfInBounds_toArray, List.set_cons_succ, List.set_cons_zero]
              refine wpAnyH_ready (rs := [5]) (by kernel_rfl) (by simp) ?_
              refine AllReadyH.cons (o := _) rfl (fun K hK => ?_) AllReadyH.nil
              go_simp; refine (HRTd).mono ?_; rintro vv w6 ⟨rfl, hb6⟩; have HBq : Hid (Below wr.heap.size wr w6) := Lib.hid ((show Below wr.heap.size wr wr.drew from (Below.refl _ _).drew).trans hb6); have HBr := Lib.hid (HB.out.trans (HBq.out.mono HB.out.size)); have HMr := Lib.hid (HM.out.below HBq.out HM.out.lt); have HB1 := HBr; clear hb6
              refine hK.out _ _ ?_ (fun hH1 => ?_)
              · exact ⟨(HBq.out.cell (p := ⟨w.heap.size, 12, none⟩) HM.out.lt).trans cy12, (HBq.out.cell (p := ⟨tb, _, none⟩) (Nat.lt_of_lt_of_le htb HB.out.size)).trans HC0.out, (HBq.out.cell (p := ⟨tb, _, none⟩) (Nat.lt_of_lt_of_le htb HB.out.size)).trans HC1.out, (HBq.out.cell (p := ⟨tb, _, none⟩) (Nat.lt_of_lt_of_le htb HB.out.size)).trans HK0.out, (HBq.out.cell (p := ⟨tb, _, none⟩) (Nat.lt_of_lt_of_le htb HB.out.size)).trans HK1.out⟩
              clear hK K hH0
              try simp only [go_sem, Act.put, List.getElem_toArray, List.getElem_cons_succ, List.getElem_cons_zero, List.setIfInBounds_toArray, List.set_cons_succ, List.set_cons_zero]
              refine wpAnyH_take (i := 6) (oi := _) (v := ?_) rfl (by kernel_rfl) (by kernel_rfl) (by kernel_rfl) (fun _ _ _ h => h) (Or.inl ⟨by rfl, ?_⟩) (by assumption) ?_
              rotate_left
              · intro w hSw; (try dsimp only at hSw); obtain ⟨x0, x1, x2, x3, x4⟩ := hSw; first | (go_simp; done) | (go_simp; with_reducible rfl)
              try simp only [go_sem, Act.put, List.getElem_toArray, List.getElem_cons_succ, List.getElem_cons_zero, List.setIfInBounds_toArray, List.set_cons_succ, List.set_cons_zero]
              refine wpAnyH_take (i := 7) (oi := _) (v := ?_) rfl (by kernel_rfl) (by kernel_rfl) (by kernel_rfl) (fun _ _ _ h => h) (Or.inl ⟨by rfl, ?_⟩) (by assumption) ?_
              rotate_left
              · intro w hSw; (try dsimp only at hSw); obtain ⟨x0, x1, x2, x3, x4⟩ := hSw; first | (go_simp; done) | (go_simp; with_reducible rfl)
              try simp only [go_sem, Act.put, List.getElem_toArray, List.getElem_cons_succ, List.getElem_cons_zero, List.setIfInBounds_toArray, List.set_cons_succ, List.set_cons_zero]
              refine wpAnyH_take (i := 8) (oi := _) (v := ?_) rfl (by kernel_rfl) (by kernel_rfl) (by kernel_rfl) (fun _ _ _ h => h) (Or.inl ⟨by rfl, ?_⟩) (by assumption) ?_
              rotate_left
              · intro w hSw; (try dsimp only at hSw); obtain ⟨x0, x1, x2, x3, x4⟩ := hSw; first | (go_simp; done) | (go_simp; with_reducible rfl)
              try simp only [go_sem, Act.put, List.getElem_toArray, List.getElem_cons_succ, List.getElem_cons_zero, List.setIfInBounds_toArray, List.set_cons_succ, List.set_cons_zero]
              refine wpAnyH_take (i := 9) (oi := _) (v := ?_) rfl (by kernel_rfl) (by kernel_rfl) (by kernel_rfl) (fun _ _ _ h => h) (Or.inl ⟨by rfl, ?_⟩) (by assumption) ?_
              rotate_left
              · intro w hSw; (try dsimp only at hSw); obtain ⟨x0, x1, x2, x3, x4⟩ := hSw; first | (go_simp; done) | (go_simp; with_reducible rfl)
              try simp only [go_sem, Act.put, List.getElem_toArray, List.getElem_cons_succ, List.getElem_cons_zero, List.setIfInBounds_toArray, List.set_cons_succ, List.set_cons_zero]
              refine wpAnyH_take (i := 10) (oi := _) (v := ?_) rfl (by kernel_rfl) (by kernel_rfl) (by kernel_rfl) (fun _ _ _ h => h) (Or.inl ⟨by rfl, ?_⟩) (by assumption) ?_
              rotate_left
              · intro w hSw; (try dsimp only at hSw); obtain ⟨x0, x1, x2, x3, x4⟩ := hSw; first | (go_simp; done) | (go_simp; with_reducible rfl)
              try simp only [go_sem, Act.put, List.getElem_toArray, List.getElem_cons_succ, List.getElem_cons_zero, List.setIfInBounds_toArray, List.set_cons_succ, List.set_cons_zero]
              refine wpAnyH_take (i := 11) (oi := _) (v := ?_) rfl (by kernel_rfl) (by kernel_rfl) (by kernel_rfl) (fun _ _ _ h => h) (Or.inl ⟨by rfl, ?_⟩) (by assumption) ?_
              rotate_left
              · intro w hSw; (try dsimp only at hSw); obtain ⟨x0, x1, x2, x3, x4⟩ := hSw; first | (go_simp; done) | (go_simp; with_reducible rfl)
              try simp only [go_sem, Act.put, List.getElem_toArray, List.getElem_cons_succ, List.getElem_cons_zero, List.setIfInBounds_toArray, List.set_cons_succ, List.set_cons_zero]
              refine wpAnyH_take (i := 12) (oi := _) (v := ?_) rfl (by kernel_rfl) (by kernel_rfl) (by kernel_rfl) (fun _ _ _ h => h) (Or.inl ⟨by rfl, ?_⟩) (by assumption) ?_
              rotate_left
              · intro w hSw; (try dsimp only at hSw); obtain ⟨x0, x1, x2, x3, x4⟩ := hSw; first | (go_simp; done) | (go_simp; with_reducible rfl)
              try simp only [go_sem, Act.put, List.getElem_toArray, List.getElem_cons_succ, List.getElem_cons_zero, List.setIfInBounds_toArray, List.set_cons_succ, List.set_cons_zero]
              refine wpAnyH_take (i := 13) (oi := _) (v := ?_) rfl (by kernel_rfl) (by kernel_rfl) (by kernel_rfl) (fun _ _ _ h => h) (Or.inl ⟨by rfl, ?_⟩) (by assumption) ?_
              rotate_left
              · intro w hSw; (try dsimp only at hSw); obtain ⟨x0, x1, x2, x3, x4⟩ := hSw; first | (go_simp; done) | (go_simp; with_reducible rfl)
              try simp only [go_sem, Act.put, List.getElem_toArray, List.getElem_cons_succ, List.getElem_cons_zero, List.setIfInBounds_toArray, List.set_cons_succ, List.set_cons_zero]
              refine wpAnyH_take (i := 14) (oi := _) (v := ?_) rfl (by kernel_rfl) (by kernel_rfl) (by kernel_rfl) (fun _ _ _ h => h) (Or.inl ⟨by rfl, ?_⟩) (by assumption) ?_
              rotate_left
              · intro w hSw; (try dsimp only at hSw); obtain ⟨x0, x1, x2, x3, x4⟩ := hSw; first | (go_simp; done) | (go_simp; with_reducible rfl)
              try simp only [go_sem, Act.put, List.getElem_toArray, List.getElem_cons_succ, List.getElem_cons_zero, List.setIfInBounds_toArray, List.set_cons_succ, List.set_cons_zero]
              refine wpAnyH_take (i := 15) (oi := _) (v := ?_) rfl (by kernel_rfl) (by kernel_rfl) (by kernel_rfl) (fun _ _ _ h => h) (Or.inl ⟨by rfl, ?_⟩) (by assumption) ?_
              rotate_left
              · intro w hSw; (try dsimp only at hSw); obtain ⟨x0, x1, x2, x3, x4⟩ := hSw; first | (go_simp; done) | (go_simp; with_reducible rfl)
              try simp only [go_sem, Act.put, List.getElem_toArray, List.getElem_cons_succ, List.getElem_cons_zero, List.setIfInBounds_toArray, List.set_cons_succ, List.set_cons_zero]
              refine wpAnyH_take (i := 16) (oi := _) (v := ?_) rfl (by kernel_rfl) (by kernel_rfl) (by kernel_rfl) (fun _ _ _ h => h) (Or.inl ⟨by rfl, ?_⟩) (by assumption) ?_
              rotate_left
              · intro w hSw; (try dsimp only at hSw); obtain ⟨x0, x1, x2, x3, x4⟩ := hSw; first | (go_simp; done) | (go_simp; with_reducible rfl)
              try simp only [go_sem, Act.put, List.getElem_toArray, List.getElem_cons_succ, List.getElem_cons_zero, List.setIfInBounds_toArray, List.set_cons_succ, List.set_cons_zero]
              refine wpAnyH_take (i := 17) (oi := _) (v := ?_) rfl (by kernel_rfl) (by kernel_rfl) (by kernel_rfl) (fun _ _ _ h => h) (Or.inl ⟨by rfl, ?_⟩) (by assumption) ?_
              rotate_left
              · intro w hSw; (try dsimp only at hSw); obtain ⟨x0, x1, x2, x3, x4⟩ := hSw; first | (go_simp; done) | (go_simp; with_reducible rfl)
              try simp only [go_sem, Act.put, List.getElem_toArray, List.getElem_cons_succ, List.getElem_cons_zero, List.setIfInBounds_toArray, List.set_cons_succ, List.set_cons_zero]
              refine wpAnyH_take (i := 18) (oi := _) (v := ?_) rfl (by kernel_rfl) (by kernel_rfl) (by kernel_rfl) (fun _ _ _ h => h) (Or.inl ⟨by rfl, ?_⟩) (by assumption) ?_
              rotate_left
              · intro w hSw; (try dsimp only at hSw); obtain ⟨x0, x1, x2, x3, x4⟩ := hSw; first | (go_simp; done) | (go_simp; with_reducible rfl)
              try simp only [go_sem, Act.put, List.getElem_toArray, List.getElem_cons_succ, List.getElem_cons_zero, List.setIfInBounds_toArray, List.set_cons_succ, List.set_cons_zero]
              refine wpAnyH_take (i := 19) (oi := _) (v := ?_) rfl (by kernel_rfl) (by kernel_rfl) (by kernel_rfl) (fun _ _ _ h => h) (Or.inl ⟨by rfl, ?_⟩) (by assumption) ?_
              rotate_left
              · intro w hSw; (try dsimp only at hSw); obtain ⟨x0, x1, x2, x3, x4⟩ := hSw; first | (go_simp; done) | (go_simp; with_reducible rfl)
              try simp only [go_sem, Act.put, List.getElem_toArray, List.getElem_cons_succ, List.getElem_cons_zero, List.setIfInBounds_toArray, List.set_cons_succ, List.set_cons_zero]
              refine wpAnyH_take (i := 20) (oi := _) (v := ?_) rfl (by kernel_rfl) (by kernel_rfl) (by kernel_rfl) (fun _ _ _ h => h) (Or.inl ⟨by rfl, ?_⟩) (by assumption) ?_
              rotate_left
              · intro w hSw; (try dsimp only at hSw); obtain ⟨x0, x1, x2, x3, x4⟩ := hSw; first | (go_simp; done) | (go_simp; with_reducible rfl)
              try simp only [go_sem, Act.put, List.getElem_toArray, List.getElem_cons_succ, List.getElem_cons_zero, List.setIfInBounds_toArray, List.set_cons_succ, List.set_cons_zero]
              refine wpAnyH_take (i := 21) (oi := _) (v := ?_) rfl (by kernel_rfl) (by kernel_rfl) (by kernel_rfl) (fun _ _ _ h => h) (Or.inl ⟨by rfl, ?_⟩) (by assumption) ?_
              rotate_left
              · intro w hSw; (try dsimp only at hSw); obtain ⟨x0, x1, x2, x3, x4⟩ := hSw; first | (go_simp; done) | (go_simp; with_reducible rfl)
              try simp only [go_sem, Act.put, List.getElem_toArray, List.getElem_cons_succ, List.getElem_cons_zero, List.setIfInBounds_toArray, List.set_cons_succ, List.set_cons_zero]
              refine wpAnyH_take (i := 22) (oi := _) (v := ?_) rfl (by kernel_rfl) (by kernel_rfl) (by kernel_rfl) (fun _ _ _ h => h) (Or.inl ⟨by rfl, ?_⟩) (by assumption) ?_
              rotate_left
              · intro w hSw; (try dsimp only at hSw); obtain ⟨x0, x1, x2, x3, x4⟩ := hSw; first | (go_simp; done) | (go_simp; with_reducible rfl)
              try simp only [go_sem, Act.put, List.getElem_toArray, List.getElem_cons_succ, List.getElem_cons_zero, List.setIfInBounds_toArray, List.set_cons_succ, List.set_cons_zero]
              refine wpAnyH_take (i := 23) (oi := _) (v := ?_) rfl (by kernel_rfl) (by kernel_rfl) (by kernel_rfl) (fun _ _ _ h => h) (Or.inl ⟨by rfl, ?_⟩) (by assumption) ?_
              rotate_left
              · intro w hSw; (try dsimp only at hSw); obtain ⟨x0, x1, x2, x3, x4⟩ := hSw; first | (go_simp; done) | (go_simp; with_reducible rfl)
              try simp only [go_sem, Act.put, List.getElem_toArray, List.getElem_cons_succ, List.getElem_cons_zero, List.setIfInBounds_toArray, List.set_cons_succ, List.set_cons_zero]
              refine wpAnyH_done (by kernel_rfl) ?_ _
              go_wp2_with fail
              exact ⟨⟨q + 1, by omega, by go_num, Lib.hid (by rw [HX.out, g11]; rfl), HMr, HBr⟩, by simp [intOf]; omega⟩
            · go_wp2_with fail
              have HRTd := rtrigger_any yw s' n' c' ye wr.drew (hye.below ((Below.refl _ wr).drew) (Nat.le_refl _))
              rw [g10] at HRTd
              refine wp_region_held_drew (S := (fun w' => w'.cell? ⟨w.heap.size, 12, none⟩ = some (.slice (some ⟨tb, toff, none⟩) tn tc) ∧ w'.cell? ⟨tb, toff + q * 2, none⟩ = some (.int .i64 yw) ∧ w'.cell? ⟨tb, toff + q * 2 + 1, none⟩ = some (.slice s' n' c') ∧ w'.cell? ⟨tb, toff, none⟩ = some (.int .i64 j0) ∧ w'.cell? ⟨tb, toff + 2, none⟩ = some (.int .i64 yw))) (by kernel_rfl) ?_ (fun hH0 => ?_)
              · exact ⟨cy12, HC0.out, HC1.out, HK0.out, HK1.out⟩
              refine wpAnyH_take (i := 0) (oi := _) (v := ?_) rfl (by kernel_rfl) (by kernel_rfl) (by kernel_rfl) (fun _ _ _ h => h) (Or.inl ⟨by rfl, ?_⟩) (by assumption) ?_
              rotate_left
              · intro w hSw; (try dsimp only at hSw); obtain ⟨x0, x1, x2, x3, x4⟩ := hSw; first | (go_simp; done) | (go_simp; with_reducible rfl)
              try simp only [go_sem, Act.put, List.getElem_toArray, List.getElem_cons_zero, List.setIfInBounds_toArray, List.set_cons_succ, List.set_cons_zero]
              refine wpAnyH_take (i := 1) (oi := _) (v := ?_) rfl (by kernel_rfl) (by kernel_rfl) (by kernel_rfl) (fun _ _ _ h => h) (Or.inl ⟨by rfl, ?_⟩) (by assumption) ?_
              rotate_left
              · intro w hSw; (try dsimp only at hSw); obtain ⟨x0, x1, x2, x3, x4⟩ := hSw; first | (go_simp; done) | (go_simp; with_reducible rfl)
              try simp only [go_sem, Act.put, List.getElem_toArray, List.getElem_cons_succ, List.getElem_cons_zero, List.setIfInBounds_toArray, List.set_cons_succ, List.set_cons_zero]
              refine wpAnyH_take (i := 2) (oi := _) (v := ?_) rfl (by kernel_rfl) (by kernel_rfl) (by kernel_rfl) (fun _ _ _ h => h) (Or.inl ⟨by rfl, ?_⟩) (by assumption) ?_
              rotate_left
              · intro w hSw; (try dsimp only at hSw); obtain ⟨x0, x1, x2, x3, x4⟩ := hSw; first | (go_simp; done) | (go_simp; with_reducible rfl)
              try simp only [go_sem, Act.put, List.getElem_toArray, List.getElem_cons_succ, List.getElem_cons_zero, List.setIfInBounds_toArray, List.set_cons_succ, List.set_cons_zero]
              refine wpAnyH_take (i := 3) (oi := _) (v := ?_) rfl (by kernel_rfl) (by kernel_rfl) (by kernel_rfl) (fun _ _ _ h => h) (Or.inl ⟨by rfl, ?_⟩) (by assumption) ?_
              rotate_left
              · intro w hSw; (try dsimp only at hSw); obtain ⟨x0, x1, x2, x3, x4⟩ := hSw; first | (go_simp; done) | (go_simp; with_reducible rfl)
              try simp only [go_sem, Act.put, List.getElem_toArray, List.getElem_cons_succ, List.getElem_cons_zero, List.setIfInBounds_toArray, List.set_cons_succ, List.set_cons_zero]
              refine wpAnyH_take (i := 4) (oi := _) (v := ?_) rfl (by kernel_rfl) (by kernel_rfl) (by kernel_rfl) (fun _ _ _ h => h) (Or.inl ⟨by rfl, ?_⟩) (by assumption) ?_
              rotate_left
              · intro w hSw; (try dsimp only at hSw); obtain ⟨x0, x1, x2, x3, x4⟩ := hSw; first | (go_simp; done) | (go_simp; with_reducible rfl)
              try simp only [go_sem, Act.put, List.getElem_toArray, List.getElem_cons_succ, List.getElem_cons_zero, List.setIfInBounds_toArray, List.set_cons_succ, List.set_cons_zero]
              refine wpAnyH_ready (rs := [5]) (by kernel_rfl) (by simp) ?_
              refine AllReadyH.cons (o := _) rfl (fun K hK => ?_) AllReadyH.nil
              go_simp; refine (HRTd).mono ?_; rintro vv w6 ⟨rfl, hb6⟩; have HBq : Hid (Below wr.heap.size wr w6) := Lib.hid ((show Below wr.heap.size wr wr.drew from (Below.refl _ _).drew).trans hb6); have HBr := Lib.hid (HB.out.trans (HBq.out.mono HB.out.size)); have HMr := Lib.hid (HM.out.below HBq.out HM.out.lt); have HB1 := HBr; clear hb6
              refine hK.out _ _ ?_ (fun hH1 => ?_)
              · exact ⟨(HBq.out.cell (p := ⟨w.heap.size, 12, none⟩) HM.out.lt).trans cy12, (HBq.out.cell (p := ⟨tb, _, none⟩) (Nat.lt_of_lt_of_le htb HB.out.size)).trans HC0.out, (HBq.out.cell (p := ⟨tb, _, none⟩) (Nat.lt_of_lt_of_le htb HB.out.size)).trans HC1.out, (HBq.out.cell (p := ⟨tb, _, none⟩) (Nat.lt_of_lt_of_le htb HB.out.size)).trans HK0.out, (HBq.out.cell (p := ⟨tb, _, none⟩) (Nat.lt_of_lt_of_le htb HB.out.size)).trans HK1.out⟩
              clear hK K hH0
              try simp only [go_sem, Act.put, List.getElem_toArray, List.getElem_cons_succ, List.getElem_cons_zero, List.setIfInBounds_toArray, List.set_cons_succ, List.set_cons_zero]
              refine wpAnyH_take (i := 6) (oi := _) (v := ?_) rfl (by kernel_rfl) (by kernel_rfl) (by kernel_rfl) (fun _ _ _ h => h) (Or.inl ⟨by rfl, ?_⟩) (by assumption) ?_
              rotate_left
              · intro w hSw; (try dsimp only at hSw); obtain ⟨x0, x1, x2, x3, x4⟩ := hSw; first | (go_simp; done) | (go_simp; with_reducible rfl)
              try simp only [go_sem, Act.put, List.getElem_toArray, List.getElem_cons_succ, List.getElem_cons_zero, List.setIfInBounds_toArray, List.set_cons_succ, List.set_cons_zero]
              refine wpAnyH_take (i := 7) (oi := _) (v := ?_) rfl (by kernel_rfl) (by kernel_rfl) (by kernel_rfl) (fun _ _ _ h => h) (Or.inl ⟨by rfl, ?_⟩) (by assumption) ?_
              rotate_left
              · intro w hSw; (try dsimp only at hSw); obtain ⟨x0, x1, x2, x3, x4⟩ := hSw; first | (go_simp; done) | (go_simp; with_reducible rfl)
              try simp only [go_sem, Act.put, List.getElem_toArray, List.getElem_cons_succ, List.getElem_cons_zero, List.setIfInBounds_toArray, List.set_cons_succ, List.set_cons_zero]
              refine wpAnyH_take (i := 8) (oi := _) (v := ?_) rfl (by kernel_rfl) (by kernel_rfl) (by kernel_rfl) (fun _ _ _ h => h) (Or.inl ⟨by rfl, ?_⟩) (by assumption) ?_
              rotate_left
              · intro w hSw; (try dsimp only at hSw); obtain ⟨x0, x1, x2, x3, x4⟩ := hSw; first | (go_simp; done) | (go_simp; with_reducible rfl)
              try simp only [go_sem, Act.put, List.getElem_toArray, List.getElem_cons_succ, List.getElem_cons_zero, List.setIfInBounds_toArray, List.set_cons_succ, List.set_cons_zero]
              refine wpAnyH_take (i := 9) (oi := _) (v := ?_) rfl (by kernel_rfl) (by kernel_rfl) (by kernel_rfl) (fun _ _ _ h => h) (Or.inl ⟨by rfl, ?_⟩) (by assumption) ?_
              rotate_left
              · intro w hSw; (try dsimp only at hSw); obtain ⟨x0, x1, x2, x3, x4⟩ := hSw; first | (go_simp; done) | (go_simp; with_reducible rfl)
              try simp only [go_sem, Act.put, List.getElem_toArray, List.getElem_cons_succ, List.getElem_cons_zero, List.setIfInBounds_toArray, List.set_cons_succ, List.set_cons_zero]
              refine wpAnyH_take (i := 10) (oi := _) (v := ?_) rfl (by kernel_rfl) (by kernel_rfl) (by kernel_rfl) (fun _ _ _ h => h) (Or.inl ⟨by rfl, ?_⟩) (by assumption) ?_
              rotate_left
              · intro w hSw; (try dsimp only at hSw); obtain ⟨x0, x1, x2, x3, x4⟩ := hSw; first | (go_simp; done) | (go_simp; with_reducible rfl)
              try simp only [go_sem, Act.put, List.getElem_toArray, List.getElem_cons_succ, List.getElem_cons_zero, List.setIfInBounds_toArray, List.set_cons_succ, List.set_cons_zero]
              refine wpAnyH_take (i := 11) (oi := _) (v := ?_) rfl (by kernel_rfl) (by kernel_rfl) (by kernel_rfl) (fun _ _ _ h => h) (Or.inl ⟨by rfl, ?_⟩) (by assumption) ?_
              rotate_left
              · intro w hSw; (try dsimp only at hSw); obtain ⟨x0, x1, x2, x3, x4⟩ := hSw; first | (go_simp; done) | (go_simp; with_reducible rfl)
              try simp only [go_sem, Act.put, List.getElem_toArray, List.getElem_cons_succ, List.getElem_cons_zero, List.setIfInBounds_toArray, List.set_cons_succ, List.set_cons_zero]
              refine wpAnyH_take (i := 12) (oi := _) (v := ?_) rfl (by kernel_rfl) (by kernel_rfl) (by kernel_rfl) (fun _ _ _ h => h) (Or.inl ⟨by rfl, ?_⟩) (by assumption) ?_
              rotate_left
              · intro w hSw; (try dsimp only at hSw); obtain ⟨x0, x1, x2, x3, x4⟩ := hSw; first | (go_simp; done) | (go_simp; with_reducible rfl)
              try simp only [go_sem, Act.put, List.getElem_toArray, List.getElem_cons_succ, List.getElem_cons_zero, List.setIfInBounds_toArray, List.set_cons_succ, List.set_cons_zero]
              refine wpAnyH_take (i := 13) (oi := _) (v := ?_) rfl (by kernel_rfl) (by kernel_rfl) (by kernel_rfl) (fun _ _ _ h => h) (Or.inl ⟨by rfl, ?_⟩) (by assumption) ?_
              rotate_left
              · intro w hSw; (try dsimp only at hSw); obtain ⟨x0, x1, x2, x3, x4⟩ := hSw; first | (go_simp; done) | (go_simp; with_reducible rfl)
              try simp only [go_sem, Act.put, List.getElem_toArray, List.getElem_cons_succ, List.getElem_cons_zero, List.setIfInBounds_toArray, List.set_cons_succ, List.set_cons_zero]
              refine wpAnyH_take (i := 14) (oi := _) (v := ?_) rfl (by kernel_rfl) (by kernel_rfl) (by kernel_rfl) (fun _ _ _ h => h) (Or.inl ⟨by rfl, ?_⟩) (by assumption) ?_
              rotate_left
              · intro w hSw; (try dsimp only at hSw); obtain ⟨x0, x1, x2, x3, x4⟩ := hSw; first | (go_simp; done) | (go_simp; with_reducible rfl)
              try simp only [go_sem, Act.put, List.getElem_toArray, List.getElem_cons_succ, List.getElem_cons_zero, List.setIfInBounds_toArray, List.set_cons_succ, List.set_cons_zero]
              refine wpAnyH_take (i := 15) (oi := _) (v := ?_) rfl (by kernel_rfl) (by kernel_rfl) (by kernel_rfl) (fun _ _ _ h => h) (Or.inl ⟨by rfl, ?_⟩) (by assumption) ?_
              rotate_left
              · intro w hSw; (try dsimp only at hSw); obtain ⟨x0, x1, x2, x3, x4⟩ := hSw; first | (go_simp; done) | (go_simp; with_reducible rfl)
              try simp only [go_sem, Act.put, List.getElem_toArray, List.getElem_cons_succ, List.getElem_cons_zero, List.setIfInBounds_toArray, List.set_cons_succ, List.set_cons_zero]
              refine wpAnyH_take (i := 16) (oi := _) (v := ?_) rfl (by kernel_rfl) (by kernel_rfl) (by kernel_rfl) (fun _ _ _ h => h) (Or.inl ⟨by rfl, ?_⟩) (by assumption) ?_
              rotate_left
              · intro w hSw; (try dsimp only at hSw); obtain ⟨x0, x1, x2, x3, x4⟩ := hSw; first | (go_simp; done) | (go_simp; with_reducible rfl)
              try simp only [go_sem, Act.put, List.getElem_toArray, List.getElem_cons_succ, List.getElem_cons_zero, List.setIfInBounds_toArray, List.set_cons_succ, List.set_cons_zero]
              refine wpAnyH_take (i := 17) (oi := _) (v := ?_) rfl (by kernel_rfl) (by kernel_rfl) (by kernel_rfl) (fun _ _ _ h => h) (Or.inl ⟨by rfl, ?_⟩) (by assumption) ?_
              rotate_left
              · intro w hSw; (try dsimp only at hSw); obtain ⟨x0, x1, x2, x3, x4⟩ := hSw; first | (go_simp; done) | (go_simp; with_reducible rfl)
              try simp only [go_sem, Act.put, List.getElem_toArray, List.getElem_cons_succ, List.getElem_cons_zero, List.setIfInBounds_toArray, List.set_cons_succ, List.set_cons_zero]
              refine wpAnyH_take (i := 18) (oi := _) (v := ?_) rfl (by kernel_rfl) (by kernel_rfl) (by kernel_rfl) (fun _ _ _ h => h) (Or.inl ⟨by rfl, ?_⟩) (by assumption) ?_
              rotate_left
              · intro w hSw; (try dsimp only at hSw); obtain ⟨x0, x1, x2, x3, x4⟩ := hSw; first | (go_simp; done) | (go_simp; with_reducible rfl)
              try simp only [go_sem, Act.put, List.getElem_toArray, List.getElem_cons_succ, List.getElem_cons_zero, List.setIfInBounds_toArray, List.set_cons_succ, List.set_cons_zero]
              refine wpAnyH_take (i := 19) (oi := _) (v := ?_) rfl (by kernel_rfl) (by kernel_rfl) (by kernel_rfl) (fun _ _ _ h => h) (Or.inl ⟨by rfl, ?_⟩) (by assumption) ?_
              rotate_left
              · intro w hSw; (try dsimp only at hSw); obtain ⟨x0, x1, x2, x3, x4⟩ := hSw; first | (go_simp; done) | (go_simp; with_reducible rfl)
              try simp only [go_sem, Act.put, List.getElem_toArray, List.getElem_cons_succ, List.getElem_cons_zero, List.setIfInBounds_toArray, List.set_cons_succ, List.set_cons_zero]
              refine wpAnyH_take (i := 20) (oi := _) (v := ?_) rfl (by kernel_rfl) (by kernel_rfl) (by kernel_rfl) (fun _ _ _ h => h) (Or.inl ⟨by rfl, ?_⟩) (by assumption) ?_
              rotate_left
              · intro w hSw; (try dsimp only at hSw); obtain ⟨x0, x1, x2, x3, x4⟩ := hSw; first | (go_simp; done) | (go_simp; with_reducible rfl)
              try simp only [go_sem, Act.put, List.getElem_toArray, List.getElem_cons_succ, List.getElem_cons_zero, List.setIfInBounds_toArray, List.set_cons_succ, List.set_cons_zero]
              refine wpAnyH_take (i := 21) (oi := _) (v := ?_) rfl (by kernel_rfl) (by kernel_rfl) (by kernel_rfl) (fun _ _ _ h => h) (Or.inl ⟨by rfl, ?_⟩) (by assumption) ?_
              rotate_left
              · intro w hSw; (try dsimp only at hSw); obtain ⟨x0, x1, x2, x3, x4⟩ := hSw; first | (go_simp; done) | (go_simp; with_reducible rfl)
              try simp only [go_sem, Act.put, List.getElem_toArray, List.getElem_cons_succ, List.getElem_cons_zero, List.setIfInBounds_toArray, List.set_cons_succ, List.set_cons_zero]
              refine wpAnyH_take (i := 22) (oi := _) (v := ?_) rfl (by kernel_rfl) (by kernel_rfl) (by kernel_rfl) (fun _ _ _ h => h) (Or.inl ⟨by rfl, ?_⟩) (by assumption) ?_
              rotate_left
              · intro w hSw; (try dsimp only at hSw); obtain ⟨x0, x1, x2, x3, x4⟩ := hSw; first | (go_simp; done) | (go_simp; with_reducible rfl)
              try simp only [go_sem, Act.put, List.getElem_toArray, List.getElem_cons_succ, List.getElem_cons_zero, List.setIfInBounds_toArray, List.set_cons_succ, List.set_cons_zero]
              refine wpAnyH_take (i := 23) (oi := _) (v := ?_) rfl (by kernel_rfl) (by kernel_rfl) (by kernel_rfl) (fun _ _ _ h => h) (Or.inl ⟨by rfl, ?_⟩) (by assumption) ?_
              rotate_left
              · intro w hSw; (try dsimp only at hSw); obtain ⟨x0, x1, x2, x3, x4⟩ := hSw; first | (go_simp; done) | (go_simp; with_reducible rfl)
              try simp only [go_sem, Act.put, List.getElem_toArray, List.getElem_cons_succ, List.getElem_cons_zero, List.setIfInBounds_toArray, List.set_cons_succ, List.set_cons_zero]
              refine wpAnyH_done (by kernel_rfl) ?_ _
              go_wp2_with fail
              go_ret
              exact ⟨ret_bool (by rw [HEX.out]; exact (HN.out g11).symm), HBr.out⟩
      · obtain rfl : tn = q := by omega
        obtain ⟨cx0, cx1, cx2, cx3, cx4, cx5, cx6, cx7, cx8, cx9, cx10, cx11, cx12, cx13, cx14⟩ := card14 HM.out
        go_wp2_with fail
        go_ret
        exact ⟨ret_bool (by rw [HEX.out]; exact HTO.out.symm), HB.out⟩

end Go.Proofs.YtlhnnjllbcglcaaGreatDoor.caFn

/- Which spells and tricks are valid, by the reference. -/
namespace Go.Proofs.YtlhnnjllbcglcaaGreatDoor.caFn
open Go.ChangeShapes Go.WideShapes Go.ChangeAt Go.RowKit drMem efFn
set_option linter.unusedVariables false

set_option maxRecDepth 100000 in
set_option maxHeartbeats 16000000 in
theorem rvalid_3 (s : ByteArray) (a b c d x m p t k : Int) (es : Option Addr) (en ec : Nat) (ts : Option Addr) (tn tc : Nat) (r : Int) (e : List Ef) (l : List Tr) (w : World) (h : CdAt w es en e ts tn l) (h0 : nameB s.data.toList = true) (h1 : 1 ≤ r) (h2 : r ≤ 4) :
    Calls Tryz.prog 7 #[cV s 3 a b c d x m p t k es en ec ts tn tc r] w fun v w' => v = .returned (.bool (splB ⟨s.data.toList, 3, a, b, c, d, x, m, p, t, k, e, l, r⟩)) ∧ Below w.heap.size w w' := by
  have HER : Hid (splB ⟨s.data.toList, 3, a, b, c, d, x, m, p, t, k, e, l, r⟩ = (maFn.okC a b c d x && (decide (0 < e.length) && (allB e && (!e.any onB && (m == 0 && (p == 0 && (t == 0 && (k == 0 && decide (l = [])))))))))) := Lib.hid rfl
  generalize splB ⟨s.data.toList, 3, a, b, c, d, x, m, p, t, k, e, l, r⟩ = zz at *
  obtain ⟨zn, hzn⟩ : ∃ zn, (p == 0 && (t == 0 && (k == 0 && ((tn : Int) == 0)))) = zn := ⟨_, rfl⟩
  have HZN := Lib.hid hzn
  have HLE := Lib.hid h.e.n
  have HLT := Lib.hid h.t.n
  have HM0 := Lib.hid (new0 w 32 (cL s 3 a b c d x m p t k es en ec ts tn tc r))
  have HB0 := Lib.hid (show Below w.heap.size w (w.alloc (.cells #[.string s, .int .i64 3, .int .i64 a, .int .i64 b, .int .i64 c, .int .i64 d, .int .i64 x, .int .i64 m, .int .i64 p, .int .i64 t, .int .i64 k, .slice es en ec, .slice ts tn tc, .int .i64 r] 32)) from (Below.refl _ _).alloc (Nat.le_refl _) _)
  have HH := Lib.hid h
  have HNM := rNamed_any s (w.alloc (.cells #[.string s, .int .i64 3, .int .i64 a, .int .i64 b, .int .i64 c, .int .i64 d, .int .i64 x, .int .i64 m, .int .i64 p, .int .i64 t, .int .i64 k, .slice es en ec, .slice ts tn tc, .int .i64 r] 32))
  rw [h0] at HNM
  have hme := h.e.m
  have hmt := h.t.m
  clear h hzn h0
  obtain ⟨cx0, cx1, cx2, cx3, cx4, cx5, cx6, cx7, cx8, cx9, cx10, cx11, cx12, cx13, cx14⟩ := card14 HM0.out
  go_enter Tryz.func7, Tryz.ntmps7
  go_wp2_with fail
  refine HNM.mono ?_; rintro v w1 ⟨rfl, rfl⟩
  go_upto_region 3 with fail
  go_cut [3] from 7 to 39 (fun s3 wx => s3 = .bool zn ∧ wx = (w.alloc (.cells #[.string s, .int .i64 3, .int .i64 a, .int .i64 b, .int .i64 c, .int .i64 d, .int .i64 x, .int .i64 m, .int .i64 p, .int .i64 t, .int .i64 k, .slice es en ec, .slice ts tn tc, .int .i64 r] 32)))
  case first =>
    cases g0 : (p == 0)
    · go_wp2_with fail
      go_meet
      case rel => exact ⟨by rw [← HZN.out, g0]; rfl, rfl⟩
    cases g1 : (t == 0)
    · go_wp2_with fail
      go_meet
      case rel => exact ⟨by rw [← HZN.out, g0, g1]; rfl, rfl⟩
    cases g2 : (k == 0)
    · go_wp2_with fail
      go_meet
      case rel => exact ⟨by rw [← HZN.out, g0, g1, g2]; rfl, rfl⟩
    cases g3 : ((tn : Int) == 0)
    all_goals
      go_wp2_with fail
      go_meet
      case rel => exact ⟨by rw [← HZN.out, g0, g1, g2, g3]; rfl, rfl⟩
  case rest =>
    obtain ⟨rfl, rfl⟩ := hcut
    have HGE : Hid (0 < en → ∃ eb eoff, es = some ⟨eb, eoff, none⟩ ∧ eb < w.heap.size ∧ ∀ q, q < en → EfAt w eb (eoff + q * 5) (e.getD q default)) := Lib.hid fun h0 => by
      obtain ⟨eb, eoff, he, hb, hc⟩ := HH.out.e.c h0
      exact ⟨eb, eoff, he, hb, fun q hq => hc q _ (get_some (by rw [HLE.out]; exact hq))⟩
    have ez : e.any onB = false → zz = ((m == 0) && (maFn.okC a b c d x && (decide (0 < en) && (allB e && zn)))) := fun hany => by
      have e2 : decide (l = []) = ((tn : Int) == 0) := by
        rw [Bool.eq_iff_iff]; simp only [decide_eq_true_eq, beq_iff_eq]; rw [← HLT.out]
        exact ⟨fun h => by rw [h]; rfl, fun h => List.eq_nil_of_length_eq_zero (by omega)⟩
      rw [HER.out, e2, ← HZN.out, hany, HLE.out]
      rw [Bool.eq_iff_iff]
      simp only [Bool.and_eq_true, decide_eq_true_eq, Bool.not_false]
      grind
    have HEZ := Lib.hid ez
    clear ez
    go_wp2_with fail
    clear cx0 cx1 cx2 cx3 cx4 cx5 cx6 cx7 cx8 cx9 cx10 cx11 cx12 cx13 cx14
    go_loopw [5] (fun i wr => ∃ q : Nat, q ≤ en ∧ i = .int .i64 q ∧ Hid (∀ j, j < q → onB (e.getD j default) = false) ∧ Hid (has wr w.heap.size 32 (cL s 3 a b c d x m p t k es en ec ts tn tc r)) ∧ Hid (Below w.heap.size w wr)) (fun i _ => en - (intOf i).toNat)
    case atStart => exact ⟨0, Nat.zero_le _, rfl, Lib.hid (fun j hj => absurd hj (by omega)), HM0, HB0⟩
    case round =>
      obtain ⟨q, hq, rfl, HO, HM, HB⟩ := hrel
      by_cases hlt : q < en
      · obtain ⟨eb, eoff, hes, heb, hc⟩ := HGE.out (by omega)
        obtain ⟨c0, c1, c2, c3, c4⟩ := (hc q hlt).below HB.out heb
        have cy11 : wr.cell? ⟨w.heap.size, 11, none⟩ = some (.slice (some ⟨eb, eoff, none⟩) en ec) := by rw [← hes]; exact HM.out.cell 11
        clear hc hes
        have HBAD : Hid (onB (e.getD q default) = true → zz = false) := Lib.hid fun h => by
          have : e.any onB = true := by
            rw [List.any_eq_true]
            exact ⟨e.getD q default, by rw [List.getD_eq_getElem?_getD, List.getElem?_eq_getElem (by rw [HLE.out]; exact hlt)]; exact List.getElem_mem _, h⟩
          rw [HER.out, this]; simp
        have HGO : Hid (onB (e.getD q default) = false → ∀ j, j < q + 1 → onB (e.getD j default) = false) := Lib.hid fun h j hj => by
          by_cases h2 : j < q
          · exact HO.out j h2
          · obtain rfl : j = q := by omega
            exact h
        generalize e.getD q default = y at *
        obtain ⟨xc, xt, xn, xm, xk⟩ := y
        dsimp only at c0 c1 c2 c3 c4
        have HM' := Lib.hid (HM.out.alloc (.cells #[.int .i64 xc, .int .i64 xt, .int .i64 xn, .int .i64 xm, .int .i64 xk] 51))
        have HB' := Lib.hid (HB.out.alloc HB.out.size (.cells #[.int .i64 xc, .int .i64 xt, .int .i64 xn, .int .i64 xm, .int .i64 xk] 51))
        have HON : Hid (onB ⟨xc, xt, xn, xm, xk⟩ = ((xc == 8 || xc == 9) && xt == 0)) := Lib.hid rfl
        cases h0 : (xt == 0)
        · have G := Lib.hid (HGO.out (by rw [HON.out, h0]; simp))
          clear HBAD HGO HON
          go_wp2_with fail
          exact ⟨⟨q + 1, by omega, by go_num, G, HM', HB'⟩, by simp [intOf]; omega⟩
        cases h8 : (xc == 8)
        · cases h9 : (xc == 9)
          · have G := Lib.hid (HGO.out (by rw [HON.out, h8, h9]; rfl))
            clear HBAD HGO HON
            go_wp2_with fail
            exact ⟨⟨q + 1, by omega, by go_num, G, HM', HB'⟩, by simp [intOf]; omega⟩
          · have G := Lib.hid (HBAD.out (by rw [HON.out, h0, h8, h9]; rfl))
            clear HBAD HGO HON
            go_wp2_with fail
            go_ret
            exact ⟨ret_bool G.out.symm, HB'.out⟩
        · have G := Lib.hid (HBAD.out (by rw [HON.out, h0, h8]; rfl))
          clear HBAD HGO HON
          go_wp2_with fail
          go_ret
          exact ⟨ret_bool G.out.symm, HB'.out⟩
      · obtain rfl : en = q := by omega
        have hany : e.any onB = false := by
          rw [List.any_eq_false]
          intro y hy
          obtain ⟨j, hj, rfl⟩ := List.getElem_of_mem hy
          have := HO.out j (by rw [← HLE.out]; exact hj)
          rw [List.getD_eq_getElem?_getD, List.getElem?_eq_getElem hj] at this
          simpa using this
        have HEY := Lib.hid (HEZ.out hany)
        clear hany
        obtain ⟨cx0, cx1, cx2, cx3, cx4, cx5, cx6, cx7, cx8, cx9, cx10, cx11, cx12, cx13, cx14⟩ := card14 HM.out
        cases g0 : (m == 0)
        · go_wp2_with fail
          go_ret
          exact ⟨ret_bool (by rw [HEY.out, g0]; rfl), HB.out⟩
        have HV := maFn.rValidCost_any a b c d x wr
        go_wp2_with fail
        refine HV.mono ?_; rintro v w1 ⟨rfl, hb⟩
        have HM1 := Lib.hid (HM.out.below hb HM.out.lt)
        have HB1 := Lib.hid (next HB.out hb)
        clear hb HV
        clear cx0 cx1 cx2 cx3 cx4 cx5 cx6 cx7 cx8 cx9 cx10 cx11 cx12 cx13 cx14
        obtain ⟨cx0, cx1, cx2, cx3, cx4, cx5, cx6, cx7, cx8, cx9, cx10, cx11, cx12, cx13, cx14⟩ := card14 HM1.out
        cases g1 : maFn.okC a b c d x
        · go_wp2_with fail
          go_ret
          exact ⟨ret_bool (by rw [HEY.out, g1]; simp), HB1.out⟩
        by_cases g2 : 0 < en
        case neg =>
          have g2' : ¬ (0 : Int) < (en : Int) := by omega
          have G : Hid (decide (0 < en) = false) := Lib.hid (decide_eq_false g2)
          clear g2
          go_wp2_with fail
          go_ret
          exact ⟨ret_bool (by rw [HEY.out, G.out]; simp), HB1.out⟩
        have g2' : (0 : Int) < (en : Int) := by omega
        have G : Hid (decide (0 < en) = true) := Lib.hid (decide_eq_true g2)
        have HA := rAll_any es en ec e w1 (HH.out.e.below HB1.out (Nat.le_refl _))
        go_wp2_with fail
        refine HA.mono ?_; rintro v w2 ⟨rfl, hb⟩
        have HM2 := Lib.hid (HM1.out.below hb HM1.out.lt)
        have HB2 := Lib.hid (next HB1.out hb)
        clear hb HA
        clear cx0 cx1 cx2 cx3 cx4 cx5 cx6 cx7 cx8 cx9 cx10 cx11 cx12 cx13 cx14
        cases g3 : allB e
        all_goals
          go_wp2_with fail
          go_ret
          exact ⟨ret_bool (by rw [HEY.out, g0, g1, G.out, g3]; simp), HB2.out⟩
set_option maxRecDepth 100000 in
set_option maxHeartbeats 16000000 in
theorem rvalid_4 (s : ByteArray) (a b c d x m p t k : Int) (es : Option Addr) (en ec : Nat) (ts : Option Addr) (tn tc : Nat) (r : Int) (e : List Ef) (l : List Tr) (w : World) (h : CdAt w es en e ts tn l) (h0 : nameB s.data.toList = true) (h1 : 1 ≤ r) (h2 : r ≤ 4) :
    Calls Tryz.prog 7 #[cV s 4 a b c d x m p t k es en ec ts tn tc r] w fun v w' => v = .returned (.bool (splB ⟨s.data.toList, 4, a, b, c, d, x, m, p, t, k, e, l, r⟩)) ∧ Below w.heap.size w w' := by
  have HER : Hid (splB ⟨s.data.toList, 4, a, b, c, d, x, m, p, t, k, e, l, r⟩ = (maFn.okC a b c d x && (decide (0 < e.length) && (allB e && (!e.any onB && (m == 0 && (p == 0 && (t == 0 && (k == 0 && decide (l = [])))))))))) := Lib.hid rfl
  generalize splB ⟨s.data.toList, 4, a, b, c, d, x, m, p, t, k, e, l, r⟩ = zz at *
  obtain ⟨zn, hzn⟩ : ∃ zn, (p == 0 && (t == 0 && (k == 0 && ((tn : Int) == 0)))) = zn := ⟨_, rfl⟩
  have HZN := Lib.hid hzn
  have HLE := Lib.hid h.e.n
  have HLT := Lib.hid h.t.n
  have HM0 := Lib.hid (new0 w 32 (cL s 4 a b c d x m p t k es en ec ts tn tc r))
  have HB0 := Lib.hid (show Below w.heap.size w (w.alloc (.cells #[.string s, .int .i64 4, .int .i64 a, .int .i64 b, .int .i64 c, .int .i64 d, .int .i64 x, .int .i64 m, .int .i64 p, .int .i64 t, .int .i64 k, .slice es en ec, .slice ts tn tc, .int .i64 r] 32)) from (Below.refl _ _).alloc (Nat.le_refl _) _)
  have HH := Lib.hid h
  have HNM := rNamed_any s (w.alloc (.cells #[.string s, .int .i64 4, .int .i64 a, .int .i64 b, .int .i64 c, .int .i64 d, .int .i64 x, .int .i64 m, .int .i64 p, .int .i64 t, .int .i64 k, .slice es en ec, .slice ts tn tc, .int .i64 r] 32))
  rw [h0] at HNM
  have hme := h.e.m
  have hmt := h.t.m
  clear h hzn h0
  obtain ⟨cx0, cx1, cx2, cx3, cx4, cx5, cx6, cx7, cx8, cx9, cx10, cx11, cx12, cx13, cx14⟩ := card14 HM0.out
  go_enter Tryz.func7, Tryz.ntmps7
  go_wp2_with fail
  refine HNM.mono ?_; rintro v w1 ⟨rfl, rfl⟩
  go_upto_region 3 with fail
  go_cut [3] from 7 to 39 (fun s3 wx => s3 = .bool zn ∧ wx = (w.alloc (.cells #[.string s, .int .i64 4, .int .i64 a, .int .i64 b, .int .i64 c, .int .i64 d, .int .i64 x, .int .i64 m, .int .i64 p, .int .i64 t, .int .i64 k, .slice es en ec, .slice ts tn tc, .int .i64 r] 32)))
  case first =>
    cases g0 : (p == 0)
    · go_wp2_with fail
      go_meet
      case rel => exact ⟨by rw [← HZN.out, g0]; rfl, rfl⟩
    cases g1 : (t == 0)
    · go_wp2_with fail
      go_meet
      case rel => exact ⟨by rw [← HZN.out, g0, g1]; rfl, rfl⟩
    cases g2 : (k == 0)
    · go_wp2_with fail
      go_meet
      case rel => exact ⟨by rw [← HZN.out, g0, g1, g2]; rfl, rfl⟩
    cases g3 : ((tn : Int) == 0)
    all_goals
      go_wp2_with fail
      go_meet
      case rel => exact ⟨by rw [← HZN.out, g0, g1, g2, g3]; rfl, rfl⟩
  case rest =>
    obtain ⟨rfl, rfl⟩ := hcut
    have HGE : Hid (0 < en → ∃ eb eoff, es = some ⟨eb, eoff, none⟩ ∧ eb < w.heap.size ∧ ∀ q, q < en → EfAt w eb (eoff + q * 5) (e.getD q default)) := Lib.hid fun h0 => by
      obtain ⟨eb, eoff, he, hb, hc⟩ := HH.out.e.c h0
      exact ⟨eb, eoff, he, hb, fun q hq => hc q _ (get_some (by rw [HLE.out]; exact hq))⟩
    have ez : e.any onB = false → zz = ((m == 0) && (maFn.okC a b c d x && (decide (0 < en) && (allB e && zn)))) := fun hany => by
      have e2 : decide (l = []) = ((tn : Int) == 0) := by
        rw [Bool.eq_iff_iff]; simp only [decide_eq_true_eq, beq_iff_eq]; rw [← HLT.out]
        exact ⟨fun h => by rw [h]; rfl, fun h => List.eq_nil_of_length_eq_zero (by omega)⟩
      rw [HER.out, e2, ← HZN.out, hany, HLE.out]
      rw [Bool.eq_iff_iff]
      simp only [Bool.and_eq_true, decide_eq_true_eq, Bool.not_false]
      grind
    have HEZ := Lib.hid ez
    clear ez
    go_wp2_with fail
    clear cx0 cx1 cx2 cx3 cx4 cx5 cx6 cx7 cx8 cx9 cx10 cx11 cx12 cx13 cx14
    go_loopw [5] (fun i wr => ∃ q : Nat, q ≤ en ∧ i = .int .i64 q ∧ Hid (∀ j, j < q → onB (e.getD j default) = false) ∧ Hid (has wr w.heap.size 32 (cL s 4 a b c d x m p t k es en ec ts tn tc r)) ∧ Hid (Below w.heap.size w wr)) (fun i _ => en - (intOf i).toNat)
    case atStart => exact ⟨0, Nat.zero_le _, rfl, Lib.hid (fun j hj => absurd hj (by omega)), HM0, HB0⟩
    case round =>
      obtain ⟨q, hq, rfl, HO, HM, HB⟩ := hrel
      by_cases hlt : q < en
      · obtain ⟨eb, eoff, hes, heb, hc⟩ := HGE.out (by omega)
        obtain ⟨c0, c1, c2, c3, c4⟩ := (hc q hlt).below HB.out heb
        have cy11 : wr.cell? ⟨w.heap.size, 11, none⟩ = some (.slice (some ⟨eb, eoff, none⟩) en ec) := by rw [← hes]; exact HM.out.cell 11
        clear hc hes
        have HBAD : Hid (onB (e.getD q default) = true → zz = false) := Lib.hid fun h => by
          have : e.any onB = true := by
            rw [List.any_eq_true]
            exact ⟨e.getD q default, by rw [List.getD_eq_getElem?_getD, List.getElem?_eq_getElem (by rw [HLE.out]; exact hlt)]; exact List.getElem_mem _, h⟩
          rw [HER.out, this]; simp
        have HGO : Hid (onB (e.getD q default) = false → ∀ j, j < q + 1 → onB (e.getD j default) = false) := Lib.hid fun h j hj => by
          by_cases h2 : j < q
          · exact HO.out j h2
          · obtain rfl : j = q := by omega
            exact h
        generalize e.getD q default = y at *
        obtain ⟨xc, xt, xn, xm, xk⟩ := y
        dsimp only at c0 c1 c2 c3 c4
        have HM' := Lib.hid (HM.out.alloc (.cells #[.int .i64 xc, .int .i64 xt, .int .i64 xn, .int .i64 xm, .int .i64 xk] 51))
        have HB' := Lib.hid (HB.out.alloc HB.out.size (.cells #[.int .i64 xc, .int .i64 xt, .int .i64 xn, .int .i64 xm, .int .i64 xk] 51))
        have HON : Hid (onB ⟨xc, xt, xn, xm, xk⟩ = ((xc == 8 || xc == 9) && xt == 0)) := Lib.hid rfl
        cases h0 : (xt == 0)
        · have G := Lib.hid (HGO.out (by rw [HON.out, h0]; simp))
          clear HBAD HGO HON
          go_wp2_with fail
          exact ⟨⟨q + 1, by omega, by go_num, G, HM', HB'⟩, by simp [intOf]; omega⟩
        cases h8 : (xc == 8)
        · cases h9 : (xc == 9)
          · have G := Lib.hid (HGO.out (by rw [HON.out, h8, h9]; rfl))
            clear HBAD HGO HON
            go_wp2_with fail
            exact ⟨⟨q + 1, by omega, by go_num, G, HM', HB'⟩, by simp [intOf]; omega⟩
          · have G := Lib.hid (HBAD.out (by rw [HON.out, h0, h8, h9]; rfl))
            clear HBAD HGO HON
            go_wp2_with fail
            go_ret
            exact ⟨ret_bool G.out.symm, HB'.out⟩
        · have G := Lib.hid (HBAD.out (by rw [HON.out, h0, h8]; rfl))
          clear HBAD HGO HON
          go_wp2_with fail
          go_ret
          exact ⟨ret_bool G.out.symm, HB'.out⟩
      · obtain rfl : en = q := by omega
        have hany : e.any onB = false := by
          rw [List.any_eq_false]
          intro y hy
          obtain ⟨j, hj, rfl⟩ := List.getElem_of_mem hy
          have := HO.out j (by rw [← HLE.out]; exact hj)
          rw [List.getD_eq_getElem?_getD, List.getElem?_eq_getElem hj] at this
          simpa using this
        have HEY := Lib.hid (HEZ.out hany)
        clear hany
        obtain ⟨cx0, cx1, cx2, cx3, cx4, cx5, cx6, cx7, cx8, cx9, cx10, cx11, cx12, cx13, cx14⟩ := card14 HM.out
        cases g0 : (m == 0)
        · go_wp2_with fail
          go_ret
          exact ⟨ret_bool (by rw [HEY.out, g0]; rfl), HB.out⟩
        have HV := maFn.rValidCost_any a b c d x wr
        go_wp2_with fail
        refine HV.mono ?_; rintro v w1 ⟨rfl, hb⟩
        have HM1 := Lib.hid (HM.out.below hb HM.out.lt)
        have HB1 := Lib.hid (next HB.out hb)
        clear hb HV
        clear cx0 cx1 cx2 cx3 cx4 cx5 cx6 cx7 cx8 cx9 cx10 cx11 cx12 cx13 cx14
        obtain ⟨cx0, cx1, cx2, cx3, cx4, cx5, cx6, cx7, cx8, cx9, cx10, cx11, cx12, cx13, cx14⟩ := card14 HM1.out
        cases g1 : maFn.okC a b c d x
        · go_wp2_with fail
          go_ret
          exact ⟨ret_bool (by rw [HEY.out, g1]; simp), HB1.out⟩
        by_cases g2 : 0 < en
        case neg =>
          have g2' : ¬ (0 : Int) < (en : Int) := by omega
          have G : Hid (decide (0 < en) = false) := Lib.hid (decide_eq_false g2)
          clear g2
          go_wp2_with fail
          go_ret
          exact ⟨ret_bool (by rw [HEY.out, G.out]; simp), HB1.out⟩
        have g2' : (0 : Int) < (en : Int) := by omega
        have G : Hid (decide (0 < en) = true) := Lib.hid (decide_eq_true g2)
        have HA := rAll_any es en ec e w1 (HH.out.e.below HB1.out (Nat.le_refl _))
        go_wp2_with fail
        refine HA.mono ?_; rintro v w2 ⟨rfl, hb⟩
        have HM2 := Lib.hid (HM1.out.below hb HM1.out.lt)
        have HB2 := Lib.hid (next HB1.out hb)
        clear hb HA
        clear cx0 cx1 cx2 cx3 cx4 cx5 cx6 cx7 cx8 cx9 cx10 cx11 cx12 cx13 cx14
        cases g3 : allB e
        all_goals
          go_wp2_with fail
          go_ret
          exact ⟨ret_bool (by rw [HEY.out, g0, g1, G.out, g3]; simp), HB2.out⟩

end Go.Proofs.YtlhnnjllbcglcaaGreatDoor.caFn

/- Which cards are valid, by the reference. -/
namespace Go.Proofs.YtlhnnjllbcglcaaGreatDoor.caFn
open Go.ChangeShapes Go.WideShapes Go.ChangeAt Go.RowKit drMem efFn
set_option linter.unusedVariables false

set_option maxRecDepth 100000 in
set_option maxHeartbeats 16000000 in
theorem rvalid_0 (s : ByteArray) (kd : Int) (a b c d x m p t k : Int) (es : Option Addr) (en ec : Nat) (ts : Option Addr) (tn tc : Nat) (r : Int) (e : List Ef) (l : List Tr) (w : World) (h : CdAt w es en e ts tn l) (h0 : nameB s.data.toList = true) (h1 : 1 ≤ r) (h2 : r ≤ 4) (hk : ¬ (1 ≤ kd ∧ kd ≤ 4)) :
    Calls Tryz.prog 7 #[cV s kd a b c d x m p t k es en ec ts tn tc r] w fun v w' => v = .returned (.bool false) ∧ Below w.heap.size w w' := by
  have e1 : (kd == 1) = false := by rw [beq_eq_false_iff_ne]; omega
  have e2 : (kd == 2) = false := by rw [beq_eq_false_iff_ne]; omega
  have e3 : (kd == 3) = false := by rw [beq_eq_false_iff_ne]; omega
  have e4 : (kd == 4) = false := by rw [beq_eq_false_iff_ne]; omega
  clear hk
  obtain ⟨zn, hzn⟩ : ∃ zn, (p == 0 && (t == 0 && (k == 0 && ((tn : Int) == 0)))) = zn := ⟨_, rfl⟩
  have HZN := Lib.hid hzn
  have HLE := Lib.hid h.e.n
  have HLT := Lib.hid h.t.n
  have HM0 := Lib.hid (new0 w 32 (cL s kd a b c d x m p t k es en ec ts tn tc r))
  have HB0 := Lib.hid (show Below w.heap.size w (w.alloc (.cells #[.string s, .int .i64 kd, .int .i64 a, .int .i64 b, .int .i64 c, .int .i64 d, .int .i64 x, .int .i64 m, .int .i64 p, .int .i64 t, .int .i64 k, .slice es en ec, .slice ts tn tc, .int .i64 r] 32)) from (Below.refl _ _).alloc (Nat.le_refl _) _)
  have HH := Lib.hid h
  have HNM := rNamed_any s (w.alloc (.cells #[.string s, .int .i64 kd, .int .i64 a, .int .i64 b, .int .i64 c, .int .i64 d, .int .i64 x, .int .i64 m, .int .i64 p, .int .i64 t, .int .i64 k, .slice es en ec, .slice ts tn tc, .int .i64 r] 32))
  rw [h0] at HNM
  have hme := h.e.m
  have hmt := h.t.m
  clear h hzn h0
  obtain ⟨cx0, cx1, cx2, cx3, cx4, cx5, cx6, cx7, cx8, cx9, cx10, cx11, cx12, cx13, cx14⟩ := card14 HM0.out
  go_enter Tryz.func7, Tryz.ntmps7
  go_wp2_with fail
  refine HNM.mono ?_; rintro v w1 ⟨rfl, rfl⟩
  go_upto_region 3 with fail
  go_cut [3] from 7 to 39 (fun s3 wx => s3 = .bool zn ∧ wx = (w.alloc (.cells #[.string s, .int .i64 kd, .int .i64 a, .int .i64 b, .int .i64 c, .int .i64 d, .int .i64 x, .int .i64 m, .int .i64 p, .int .i64 t, .int .i64 k, .slice es en ec, .slice ts tn tc, .int .i64 r] 32)))
  case first =>
    cases g0 : (p == 0)
    · go_wp2_with fail
      go_meet
      case rel => exact ⟨by rw [← HZN.out, g0]; rfl, rfl⟩
    cases g1 : (t == 0)
    · go_wp2_with fail
      go_meet
      case rel => exact ⟨by rw [← HZN.out, g0, g1]; rfl, rfl⟩
    cases g2 : (k == 0)
    · go_wp2_with fail
      go_meet
      case rel => exact ⟨by rw [← HZN.out, g0, g1, g2]; rfl, rfl⟩
    cases g3 : ((tn : Int) == 0)
    all_goals
      go_wp2_with fail
      go_meet
      case rel => exact ⟨by rw [← HZN.out, g0, g1, g2, g3]; rfl, rfl⟩
  case rest =>
    obtain ⟨rfl, rfl⟩ := hcut
    go_wp2_with fail
    go_ret
    exact ⟨rfl, HB0.out⟩
set_option maxRecDepth 100000 in
set_option maxHeartbeats 4000000 in
theorem rvalid_h (s : ByteArray) (kd : Int) (a b c d x m p t k : Int) (es : Option Addr) (en ec : Nat) (ts : Option Addr) (tn tc : Nat) (r : Int) (e : List Ef) (l : List Tr) (w : World) (h : CdAt w es en e ts tn l) (hh : nameB s.data.toList = false ∨ ¬ 1 ≤ r ∨ ¬ r ≤ 4) :
    Calls Tryz.prog 7 #[cV s kd a b c d x m p t k es en ec ts tn tc r] w fun v w' => v = .returned (.bool false) ∧ Below w.heap.size w w' := by
  have HM0 := Lib.hid (new0 w 32 (cL s kd a b c d x m p t k es en ec ts tn tc r))
  have HB0 := Lib.hid (show Below w.heap.size w (w.alloc (.cells #[.string s, .int .i64 kd, .int .i64 a, .int .i64 b, .int .i64 c, .int .i64 d, .int .i64 x, .int .i64 m, .int .i64 p, .int .i64 t, .int .i64 k, .slice es en ec, .slice ts tn tc, .int .i64 r] 32)) from (Below.refl _ _).alloc (Nat.le_refl _) _)
  have HNM := rNamed_any s (w.alloc (.cells #[.string s, .int .i64 kd, .int .i64 a, .int .i64 b, .int .i64 c, .int .i64 d, .int .i64 x, .int .i64 m, .int .i64 p, .int .i64 t, .int .i64 k, .slice es en ec, .slice ts tn tc, .int .i64 r] 32))
  have HS := Lib.hid hh
  clear h hh
  obtain ⟨cx0, cx1, cx2, cx3, cx4, cx5, cx6, cx7, cx8, cx9, cx10, cx11, cx12, cx13, cx14⟩ := card14 HM0.out
  cases g0 : nameB s.data.toList
  all_goals rw [g0] at HNM
  · go_enter Tryz.func7, Tryz.ntmps7
    go_wp2_with fail
    refine HNM.mono ?_; rintro v w1 ⟨rfl, rfl⟩
    go_wp2_with fail
    go_ret
    exact ⟨rfl, HB0.out⟩
  by_cases g1 : 1 ≤ r
  case neg =>
    go_enter Tryz.func7, Tryz.ntmps7
    go_wp2_with fail
    refine HNM.mono ?_; rintro v w1 ⟨rfl, rfl⟩
    go_wp2_with fail
    go_ret
    exact ⟨rfl, HB0.out⟩
  by_cases g2 : r ≤ 4
  case neg =>
    go_enter Tryz.func7, Tryz.ntmps7
    go_wp2_with fail
    refine HNM.mono ?_; rintro v w1 ⟨rfl, rfl⟩
    go_wp2_with fail
    go_ret
    exact ⟨rfl, HB0.out⟩
  exfalso
  rcases HS.out with h | h | h
  · rw [g0] at h; cases h
  · exact h g1
  · exact h g2
theorem rValid_c (s : ByteArray) (kd : Int) (a b c d x m p t k : Int) (es : Option Addr) (en ec : Nat) (ts : Option Addr) (tn tc : Nat) (r : Int) (e : List Ef) (l : List Tr) (w : World) (h : CdAt w es en e ts tn l) :
    Calls Tryz.prog 7 #[cV s kd a b c d x m p t k es en ec ts tn tc r] w fun v w' => v = .returned (.bool (okCd ⟨s.data.toList, kd, a, b, c, d, x, m, p, t, k, e, l, r⟩)) ∧ Below w.heap.size w w' := by
  have er : okCd ⟨s.data.toList, kd, a, b, c, d, x, m, p, t, k, e, l, r⟩ = (nameB s.data.toList && (decide (1 ≤ r) && (decide (r ≤ 4) && kindB ⟨s.data.toList, kd, a, b, c, d, x, m, p, t, k, e, l, r⟩))) := rfl
  by_cases hh : nameB s.data.toList = false ∨ ¬ 1 ≤ r ∨ ¬ r ≤ 4
  · have hf : okCd ⟨s.data.toList, kd, a, b, c, d, x, m, p, t, k, e, l, r⟩ = false := by
      rw [er]
      rcases hh with h | h | h
      · rw [h]; rfl
      · rw [decide_eq_false h]; simp
      · rw [decide_eq_false h]; simp
    rw [hf]
    exact rvalid_h s kd a b c d x m p t k es en ec ts tn tc r e l w h hh
  · obtain ⟨h0, h12⟩ := not_or.1 hh
    obtain ⟨h1, h2⟩ := not_or.1 h12
    have h0 : nameB s.data.toList = true := by simpa using h0
    have h1 := Decidable.not_not.1 h1
    have h2 := Decidable.not_not.1 h2
    have e2 : okCd ⟨s.data.toList, kd, a, b, c, d, x, m, p, t, k, e, l, r⟩ = kindB ⟨s.data.toList, kd, a, b, c, d, x, m, p, t, k, e, l, r⟩ := by rw [er, h0, decide_eq_true h1, decide_eq_true h2]; rfl
    rw [e2]
    by_cases k1 : kd = 1
    · subst k1
      rw [show kindB ⟨s.data.toList, 1, a, b, c, d, x, m, p, t, k, e, l, r⟩ = srcB ⟨s.data.toList, 1, a, b, c, d, x, m, p, t, k, e, l, r⟩ from if_pos rfl]
      exact rvalid_src s a b c d x m p t k es en ec ts tn tc r e l w h h0 h1 h2
    by_cases k2 : kd = 2
    · subst k2
      rw [show kindB ⟨s.data.toList, 2, a, b, c, d, x, m, p, t, k, e, l, r⟩ = creB ⟨s.data.toList, 2, a, b, c, d, x, m, p, t, k, e, l, r⟩ from (if_neg (show ¬ (2 : Int) = 1 by decide)).trans (if_pos rfl)]
      exact rvalid_cre s a b c d x m p t k es en ec ts tn tc r e l w h h0 h1 h2
    by_cases k3 : kd = 3
    · subst k3
      rw [show kindB ⟨s.data.toList, 3, a, b, c, d, x, m, p, t, k, e, l, r⟩ = splB ⟨s.data.toList, 3, a, b, c, d, x, m, p, t, k, e, l, r⟩ from (if_neg (show ¬ (3 : Int) = 1 by decide)).trans ((if_neg (show ¬ (3 : Int) = 2 by decide)).trans (if_pos (.inl rfl)))]
      exact rvalid_3 s a b c d x m p t k es en ec ts tn tc r e l w h h0 h1 h2
    by_cases k4 : kd = 4
    · subst k4
      rw [show kindB ⟨s.data.toList, 4, a, b, c, d, x, m, p, t, k, e, l, r⟩ = splB ⟨s.data.toList, 4, a, b, c, d, x, m, p, t, k, e, l, r⟩ from (if_neg (show ¬ (4 : Int) = 1 by decide)).trans ((if_neg (show ¬ (4 : Int) = 2 by decide)).trans (if_pos (.inr rfl)))]
      exact rvalid_4 s a b c d x m p t k es en ec ts tn tc r e l w h h0 h1 h2
    rw [show kindB ⟨s.data.toList, kd, a, b, c, d, x, m, p, t, k, e, l, r⟩ = false from (if_neg k1).trans ((if_neg k2).trans (if_neg (by rintro (h | h) <;> contradiction)))]
    exact rvalid_0 s kd a b c d x m p t k es en ec ts tn tc r e l w h h0 h1 h2 (by omega)

end Go.Proofs.YtlhnnjllbcglcaaGreatDoor.caFn
