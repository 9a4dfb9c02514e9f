/- Which cards are valid: creatures, spells, tricks, all. -/
import Derived.Test.YtlhnnjllbcglcaaGreatDoorCaValid
import Derived.Test.YtlhnnjllbcglcaaGreatDoorCaHas
namespace Go.Proofs.YtlhnnjllbcglcaaGreatDoor.caFn
open Go.ChangeShapes Go.WideShapes Go.ChangeAt Go.RowKit drMem efFn
set_option linter.unusedVariables false

theorem card14 {w : World} {g : Nat} {t : TypeId} {v0 v1 v2 v3 v4 v5 v6 v7 v8 v9 va vb vc vd : Value} (h : has w g t [v0, v1, v2, v3, v4, v5, v6, v7, v8, v9, va, vb, vc, vd]) :
    w.cell? ⟨g, 0, none⟩ = some v0 ∧ w.cell? ⟨g, 1, none⟩ = some v1 ∧ w.cell? ⟨g, 2, none⟩ = some v2 ∧ w.cell? ⟨g, 3, none⟩ = some v3 ∧ w.cell? ⟨g, 4, none⟩ = some v4 ∧ w.cell? ⟨g, 5, none⟩ = some v5 ∧ w.cell? ⟨g, 6, none⟩ = some v6 ∧ w.cell? ⟨g, 7, none⟩ = some v7 ∧ w.cell? ⟨g, 8, none⟩ = some v8 ∧ w.cell? ⟨g, 9, none⟩ = some v9 ∧ w.cell? ⟨g, 10, none⟩ = some va ∧ w.cell? ⟨g, 11, none⟩ = some vb ∧ w.cell? ⟨g, 12, none⟩ = some vc ∧ w.cell? ⟨g, 13, none⟩ = some vd ∧ ∀ i, w.frozen? ⟨g, i, none⟩ = false :=
  ⟨h.cell 0, h.cell 1, h.cell 2, h.cell 3, h.cell 4, h.cell 5, h.cell 6, h.cell 7, h.cell 8, h.cell 9, h.cell 10, h.cell 11, h.cell 12, h.cell 13, h.free⟩

set_option maxRecDepth 100000 in
set_option maxHeartbeats 8000000 in
theorem validCreature_any (s : ByteArray) (kd a b c d x m p t k : Int) (es : Option Addr) (en ec : Nat) (ts : Option Addr) (tn tc : Nat) (r : Int) (e : List Ef) (l : List Tr) (w : World) (h : CdAt w es en e ts tn l) (htc : tn ≤ tc) :
    Calls Tryz.prog 44 #[cV s kd a b c d x m p t k es en ec ts tn tc r] w fun v w' => v = .returned (.bool (creB ⟨s.data.toList, kd, a, b, c, d, x, m, p, t, k, e, l, r⟩)) ∧ Below w.heap.size w w' := by
  have er : creB ⟨s.data.toList, kd, a, b, c, d, x, m, p, t, k, e, l, r⟩ = (maFn.okC a b c d x && ((m == 0) && (decide (0 ≤ p) && (decide (p ≤ 20) && (decide (1 ≤ t) && (decide (t ≤ 20) && (decide (0 ≤ k ∧ k ≤ 15) && (allB e && trsB l)))))))) := rfl
  rw [er]
  clear er
  have M0 := new0 w 32 (cL s kd a b c d x m p t k es en ec ts tn tc r)
  have B0 : Below w.heap.size w (w.alloc (.cells #[.string s, .int .i64 kd, .int .i64 a, .int .i64 b, .int .i64 c, .int .i64 d, .int .i64 x, .int .i64 m, .int .i64 p, .int .i64 t, .int .i64 k, .slice es en ec, .slice ts tn tc, .int .i64 r] 32)) := (Below.refl _ _).alloc (Nat.le_refl _) _
  have HM0 := Lib.hid M0
  have HB0 := Lib.hid B0
  have HC0 := Lib.hid (h.below B0 (Nat.le_refl _))
  have HV := maFn.ValidCost_any a b c d x (w.alloc (.cells #[.string s, .int .i64 kd, .int .i64 a, .int .i64 b, .int .i64 c, .int .i64 d, .int .i64 x, .int .i64 m, .int .i64 p, .int .i64 t, .int .i64 k, .slice es en ec, .slice ts tn tc, .int .i64 r] 32))
  have HH := has15 k
  clear h M0 B0
  cases g0 : maFn.okC a b c d x
  all_goals rw [g0] at HV
  · skip
    go_enter Tryz.func44, Tryz.ntmps44
    go_wp2_with fail
    refine HV.mono ?_; rintro v w1 ⟨rfl, hb⟩
    have HM1 := Lib.hid (HM0.out.below hb HM0.out.lt)
    have HB1 := Lib.hid (next HB0.out hb)
    have HC1 := Lib.hid (HC0.out.below hb (Nat.le_refl _))
    clear hb
    obtain ⟨u0, u1, u2, u3, u4, u5, u6, u7, u8, u9, ua, ub, uc, ud, uf⟩ := card14 HM1.out
    go_wp2_with fail
    go_ret
    exact ⟨rfl, HB1.out⟩
  cases g1 : (m == 0)
  · skip
    go_enter Tryz.func44, Tryz.ntmps44
    go_wp2_with fail
    refine HV.mono ?_; rintro v w1 ⟨rfl, hb⟩
    have HM1 := Lib.hid (HM0.out.below hb HM0.out.lt)
    have HB1 := Lib.hid (next HB0.out hb)
    have HC1 := Lib.hid (HC0.out.below hb (Nat.le_refl _))
    clear hb
    obtain ⟨u0, u1, u2, u3, u4, u5, u6, u7, u8, u9, ua, ub, uc, ud, uf⟩ := card14 HM1.out
    go_wp2_with fail
    go_ret
    exact ⟨rfl, HB1.out⟩
  by_cases g2 : 0 ≤ p
  case neg =>
    rw [decide_eq_false g2]
    go_enter Tryz.func44, Tryz.ntmps44
    go_wp2_with fail
    refine HV.mono ?_; rintro v w1 ⟨rfl, hb⟩
    have HM1 := Lib.hid (HM0.out.below hb HM0.out.lt)
    have HB1 := Lib.hid (next HB0.out hb)
    have HC1 := Lib.hid (HC0.out.below hb (Nat.le_refl _))
    clear hb
    obtain ⟨u0, u1, u2, u3, u4, u5, u6, u7, u8, u9, ua, ub, uc, ud, uf⟩ := card14 HM1.out
    go_wp2_with fail
    go_ret
    exact ⟨rfl, HB1.out⟩
  rw [decide_eq_true g2]
  by_cases g3 : p ≤ 20
  case neg =>
    rw [decide_eq_false g3]
    go_enter Tryz.func44, Tryz.ntmps44
    go_wp2_with fail
    refine HV.mono ?_; rintro v w1 ⟨rfl, hb⟩
    have HM1 := Lib.hid (HM0.out.below hb HM0.out.lt)
    have HB1 := Lib.hid (next HB0.out hb)
    have HC1 := Lib.hid (HC0.out.below hb (Nat.le_refl _))
    clear hb
    obtain ⟨u0, u1, u2, u3, u4, u5, u6, u7, u8, u9, ua, ub, uc, ud, uf⟩ := card14 HM1.out
    go_wp2_with fail
    go_ret
    exact ⟨rfl, HB1.out⟩
  rw [decide_eq_true g3]
  by_cases g4 : 1 ≤ t
  case neg =>
    rw [decide_eq_false g4]
    go_enter Tryz.func44, Tryz.ntmps44
    go_wp2_with fail
    refine HV.mono ?_; rintro v w1 ⟨rfl, hb⟩
    have HM1 := Lib.hid (HM0.out.below hb HM0.out.lt)
    have HB1 := Lib.hid (next HB0.out hb)
    have HC1 := Lib.hid (HC0.out.below hb (Nat.le_refl _))
    clear hb
    obtain ⟨u0, u1, u2, u3, u4, u5, u6, u7, u8, u9, ua, ub, uc, ud, uf⟩ := card14 HM1.out
    go_wp2_with fail
    go_ret
    exact ⟨rfl, HB1.out⟩
  rw [decide_eq_true g4]
  by_cases g5 : t ≤ 20
  case neg =>
    rw [decide_eq_false g5]
    go_enter Tryz.func44, Tryz.ntmps44
    go_wp2_with fail
    refine HV.mono ?_; rintro v w1 ⟨rfl, hb⟩
    have HM1 := Lib.hid (HM0.out.below hb HM0.out.lt)
    have HB1 := Lib.hid (next HB0.out hb)
    have HC1 := Lib.hid (HC0.out.below hb (Nat.le_refl _))
    clear hb
    obtain ⟨u0, u1, u2, u3, u4, u5, u6, u7, u8, u9, ua, ub, uc, ud, uf⟩ := card14 HM1.out
    go_wp2_with fail
    go_ret
    exact ⟨rfl, HB1.out⟩
  rw [decide_eq_true g5]
  by_cases g6 : 0 ≤ k ∧ k ≤ 15
  case neg =>
    rw [decide_eq_false g6] at HH ⊢
    clear g6
    have HK := Has_any 15 k
    rw [HH] at HK
    go_enter Tryz.func44, Tryz.ntmps44
    go_wp2_with fail
    refine HV.mono ?_; rintro v w1 ⟨rfl, hb⟩
    have HM1 := Lib.hid (HM0.out.below hb HM0.out.lt)
    have HB1 := Lib.hid (next HB0.out hb)
    have HC1 := Lib.hid (HC0.out.below hb (Nat.le_refl _))
    clear hb
    obtain ⟨u0, u1, u2, u3, u4, u5, u6, u7, u8, u9, ua, ub, uc, ud, uf⟩ := card14 HM1.out
    go_wp2_with fail
    refine (HK _).mono ?_; rintro v w2 ⟨rfl, hw2⟩
    subst hw2
    go_wp2_with fail
    go_ret
    exact ⟨rfl, HB1.out⟩
  rw [decide_eq_true g6] at HH ⊢
  clear g6
  have HK := Has_any 15 k
  rw [HH] at HK
  go_enter Tryz.func44, Tryz.ntmps44
  go_wp2_with fail
  refine HV.mono ?_; rintro v w1 ⟨rfl, hb⟩
  have HM1 := Lib.hid (HM0.out.below hb HM0.out.lt)
  have HB1 := Lib.hid (next HB0.out hb)
  have HC1 := Lib.hid (HC0.out.below hb (Nat.le_refl _))
  clear hb
  obtain ⟨u0, u1, u2, u3, u4, u5, u6, u7, u8, u9, ua, ub, uc, ud, uf⟩ := card14 HM1.out
  go_wp2_with fail
  refine (HK _).mono ?_; rintro v w2 ⟨rfl, hw2⟩
  subst hw2
  have HA := All_any es en ec e w1 HC1.out.e
  cases g7 : allB e
  all_goals
    rw [g7] at HA
    go_wp2_with fail
    refine HA.mono ?_; rintro v w2 ⟨rfl, hb⟩
    have HM2 := Lib.hid (HM1.out.below hb HM1.out.lt)
    have HB2 := Lib.hid (next HB1.out hb)
    have HC2 := Lib.hid (HC1.out.below hb (Nat.le_refl _))
    clear hb
    clear u0 u1 u2 u3 u4 u5 u6 u7 u8 u9 ua ub uc ud uf
    obtain ⟨u0, u1, u2, u3, u4, u5, u6, u7, u8, u9, ua, ub, uc, ud, uf⟩ := card14 HM2.out
  · skip
    go_wp2_with fail
    go_ret
    exact ⟨ret_bool (by rw [g7]; rfl), HB2.out⟩
  have HT := validTriggers_any ts tn tc l w2 HC2.out.t htc
  go_wp2_with fail
  refine HT.mono ?_; rintro v w3 ⟨rfl, hb⟩
  have HM3 := Lib.hid (HM2.out.below hb HM2.out.lt)
  have HB3 := Lib.hid (next HB2.out hb)
  have HC3 := Lib.hid (HC2.out.below hb (Nat.le_refl _))
  clear hb
  go_wp2_with fail
  go_ret
  exact ⟨ret_bool (by rw [g7]; rfl), HB3.out⟩

set_option maxRecDepth 100000 in
set_option maxHeartbeats 8000000 in
theorem validSpell_any (s : ByteArray) (kd a b c d x m p t k : Int) (es : Option Addr) (en ec : Nat) (ts : Option Addr) (tn tc : Nat) (r : Int) (e : List Ef) (l : List Tr) (w : World) (h : CdAt w es en e ts tn l) :
    Calls Tryz.prog 45 #[cV s kd a b c d x m p t k es en ec ts tn tc r] w fun v w' => v = .returned (.bool (splB ⟨s.data.toList, kd, a, b, c, d, x, m, p, t, k, e, l, r⟩)) ∧ Below w.heap.size w w' := by
  have hn := h.e.n
  have er : splB ⟨s.data.toList, kd, a, b, c, d, x, m, p, t, k, e, l, r⟩ = (maFn.okC a b c d x && (decide (0 < en) && (allB e && (!e.any onB && ((m == 0) && ((p == 0) && ((t == 0) && ((k == 0) && sameT l [])))))))) := by rw [← hn]; rfl
  rw [er]
  obtain ⟨z, hz⟩ : ∃ z, ((m == 0) && ((p == 0) && ((t == 0) && ((k == 0) && sameT l [])))) = z := ⟨_, rfl⟩
  rw [hz]
  clear er hn
  have M0 := new0 w 32 (cL s kd a b c d x m p t k es en ec ts tn tc r)
  have B0 : Below w.heap.size w (w.alloc (.cells #[.string s, .int .i64 kd, .int .i64 a, .int .i64 b, .int .i64 c, .int .i64 d, .int .i64 x, .int .i64 m, .int .i64 p, .int .i64 t, .int .i64 k, .slice es en ec, .slice ts tn tc, .int .i64 r] 32)) := (Below.refl _ _).alloc (Nat.le_refl _) _
  have HM0 := Lib.hid M0
  have HB0 := Lib.hid B0
  have HC0 := Lib.hid (h.below B0 (Nat.le_refl _))
  have HV := maFn.ValidCost_any a b c d x (w.alloc (.cells #[.string s, .int .i64 kd, .int .i64 a, .int .i64 b, .int .i64 c, .int .i64 d, .int .i64 x, .int .i64 m, .int .i64 p, .int .i64 t, .int .i64 k, .slice es en ec, .slice ts tn tc, .int .i64 r] 32))
  clear h M0 B0
  cases g0 : maFn.okC a b c d x
  all_goals rw [g0] at HV
  · skip
    go_enter Tryz.func45, Tryz.ntmps45
    go_wp2_with fail
    refine HV.mono ?_; rintro v w1 ⟨rfl, hb⟩
    have HM1 := Lib.hid (HM0.out.below hb HM0.out.lt)
    have HB1 := Lib.hid (next HB0.out hb)
    have HC1 := Lib.hid (HC0.out.below hb (Nat.le_refl _))
    clear hb
    obtain ⟨u0, u1, u2, u3, u4, u5, u6, u7, u8, u9, ua, ub, uc, ud, uf⟩ := card14 HM1.out
    go_wp2_with fail
    go_ret
    exact ⟨rfl, HB1.out⟩
  by_cases g1 : 0 < en
  case neg =>
    have g1' : ¬ (0 : Int) < (en : Int) := by omega
    rw [decide_eq_false g1]
    go_enter Tryz.func45, Tryz.ntmps45
    go_wp2_with fail
    refine HV.mono ?_; rintro v w1 ⟨rfl, hb⟩
    have HM1 := Lib.hid (HM0.out.below hb HM0.out.lt)
    have HB1 := Lib.hid (next HB0.out hb)
    have HC1 := Lib.hid (HC0.out.below hb (Nat.le_refl _))
    clear hb
    obtain ⟨u0, u1, u2, u3, u4, u5, u6, u7, u8, u9, ua, ub, uc, ud, uf⟩ := card14 HM1.out
    go_wp2_with fail
    go_ret
    exact ⟨rfl, HB1.out⟩
  have g1' : (0 : Int) < (en : Int) := by omega
  rw [decide_eq_true g1]
  go_enter Tryz.func45, Tryz.ntmps45
  go_wp2_with fail
  refine HV.mono ?_; rintro v w1 ⟨rfl, hb⟩
  have HM1 := Lib.hid (HM0.out.below hb HM0.out.lt)
  have HB1 := Lib.hid (next HB0.out hb)
  have HC1 := Lib.hid (HC0.out.below hb (Nat.le_refl _))
  clear hb
  obtain ⟨u0, u1, u2, u3, u4, u5, u6, u7, u8, u9, ua, ub, uc, ud, uf⟩ := card14 HM1.out
  have HA := All_any es en ec e w1 HC1.out.e
  cases g2 : allB e
  all_goals
    rw [g2] at HA
    go_wp2_with fail
    refine HA.mono ?_; rintro v w2 ⟨rfl, hb⟩
    have HM2 := Lib.hid (HM1.out.below hb HM1.out.lt)
    have HB2 := Lib.hid (next HB1.out hb)
    have HC2 := Lib.hid (HC1.out.below hb (Nat.le_refl _))
    clear hb
    clear u0 u1 u2 u3 u4 u5 u6 u7 u8 u9 ua ub uc ud uf
    obtain ⟨u0, u1, u2, u3, u4, u5, u6, u7, u8, u9, ua, ub, uc, ud, uf⟩ := card14 HM2.out
  · skip
    go_wp2_with fail
    go_ret
    exact ⟨ret_bool (by rw [g2]; rfl), HB2.out⟩
  have HO := containsE_any es en ec e w2 HC2.out.e
  cases g3 : e.any onB
  all_goals
    rw [g3] at HO
    go_wp2_with fail
    refine HO.mono ?_; rintro v w3 ⟨rfl, hb⟩
    have HM3 := Lib.hid (HM2.out.below hb HM2.out.lt)
    have HB3 := Lib.hid (next HB2.out hb)
    have HC3 := Lib.hid (HC2.out.below hb (Nat.le_refl _))
    clear hb
    clear u0 u1 u2 u3 u4 u5 u6 u7 u8 u9 ua ub uc ud uf
    obtain ⟨u0, u1, u2, u3, u4, u5, u6, u7, u8, u9, ua, ub, uc, ud, uf⟩ := card14 HM3.out
  rotate_left
  · skip
    go_wp2_with fail
    go_ret
    exact ⟨ret_bool (by rw [g2, g3]; rfl), HB3.out⟩
  have HQ := EqualV_any s kd a b c d x m p t k es en ec ts tn tc r e l s kd a b c d x 0 0 0 0 es en ec none 0 0 r e [] w3 HC3.out ⟨HC3.out.e, TrsAt.nil _ _⟩
  rw [str_same, beq_self_eq_true, beq_self_eq_true, maFn.eq5_same, sameB_of rfl] at HQ
  simp only [Bool.true_and] at HQ
  rw [hz] at HQ
  go_wp2_with fail
  refine HQ.mono ?_; rintro v w4 ⟨rfl, hb⟩
  have HM4 := Lib.hid (HM3.out.below hb HM3.out.lt)
  have HB4 := Lib.hid (next HB3.out hb)
  have HC4 := Lib.hid (HC3.out.below hb (Nat.le_refl _))
  clear hb
  go_wp2_with fail
  go_ret
  exact ⟨ret_bool (by rw [g2, g3]; rfl), HB4.out⟩

set_option maxRecDepth 100000 in
set_option maxHeartbeats 8000000 in
theorem ValidV_any (s : ByteArray) (kd a b c d x m p t k : Int) (es : Option Addr) (en ec : Nat) (ts : Option Addr) (tn tc : Nat) (r : Int) (e : List Ef) (l : List Tr) (w : World) (h : CdAt w es en e ts tn l) (htc : tn ≤ tc) :
    Calls Tryz.prog 29 #[cV s kd a b c d x m p t k es en ec ts tn tc r] w fun v w' => v = .returned (.bool (okCd ⟨s.data.toList, kd, a, b, c, d, x, m, p, t, k, e, l, r⟩)) ∧ Below w.heap.size w w' := by
  have er : okCd ⟨s.data.toList, kd, a, b, c, d, x, m, p, t, k, e, l, r⟩ = (nameB s.data.toList && (decide (1 ≤ r) && (decide (r ≤ 4) && kindB ⟨s.data.toList, kd, a, b, c, d, x, m, p, t, k, e, l, r⟩))) := rfl
  rw [er]
  clear er
  have HN := validName_any s (w.alloc (.cells #[.string s, .int .i64 kd, .int .i64 a, .int .i64 b, .int .i64 c, .int .i64 d, .int .i64 x, .int .i64 m, .int .i64 p, .int .i64 t, .int .i64 k, .slice es en ec, .slice ts tn tc, .int .i64 r] 32))
  have B0 : Below w.heap.size w (w.alloc (.cells #[.string s, .int .i64 kd, .int .i64 a, .int .i64 b, .int .i64 c, .int .i64 d, .int .i64 x, .int .i64 m, .int .i64 p, .int .i64 t, .int .i64 k, .slice es en ec, .slice ts tn tc, .int .i64 r] 32)) := (Below.refl _ _).alloc (Nat.le_refl _) _
  have HB0 := Lib.hid B0
  have HS := validSource_any s kd a b c d x m p t k es en ec ts tn tc r e l _ (h.below B0 (Nat.le_refl _))
  have HR := validCreature_any s kd a b c d x m p t k es en ec ts tn tc r e l _ (h.below B0 (Nat.le_refl _)) htc
  have HP := validSpell_any s kd a b c d x m p t k es en ec ts tn tc r e l _ (h.below B0 (Nat.le_refl _))
  have K1 : kd = 1 → kindB ⟨s.data.toList, kd, a, b, c, d, x, m, p, t, k, e, l, r⟩ = srcB ⟨s.data.toList, kd, a, b, c, d, x, m, p, t, k, e, l, r⟩ := fun h => if_pos h
  have K2 : kd = 2 → kindB ⟨s.data.toList, kd, a, b, c, d, x, m, p, t, k, e, l, r⟩ = creB ⟨s.data.toList, kd, a, b, c, d, x, m, p, t, k, e, l, r⟩ := fun h => (if_neg (by show ¬ kd = 1; omega)).trans (if_pos h)
  have K3 : (kd = 3 ∨ kd = 4) → kindB ⟨s.data.toList, kd, a, b, c, d, x, m, p, t, k, e, l, r⟩ = splB ⟨s.data.toList, kd, a, b, c, d, x, m, p, t, k, e, l, r⟩ := fun h => (if_neg (by show ¬ kd = 1; omega)).trans ((if_neg (by show ¬ kd = 2; omega)).trans (if_pos h))
  have K0 : ¬ (1 ≤ kd ∧ kd ≤ 4) → kindB ⟨s.data.toList, kd, a, b, c, d, x, m, p, t, k, e, l, r⟩ = false := fun h => (if_neg (by show ¬ kd = 1; omega)).trans ((if_neg (by show ¬ kd = 2; omega)).trans (if_neg (by show ¬ (kd = 3 ∨ kd = 4); omega)))
  generalize kindB ⟨s.data.toList, kd, a, b, c, d, x, m, p, t, k, e, l, r⟩ = z at *
  generalize srcB ⟨s.data.toList, kd, a, b, c, d, x, m, p, t, k, e, l, r⟩ = z1 at *
  generalize creB ⟨s.data.toList, kd, a, b, c, d, x, m, p, t, k, e, l, r⟩ = z2 at *
  generalize splB ⟨s.data.toList, kd, a, b, c, d, x, m, p, t, k, e, l, r⟩ = z3 at *
  have HK1 := Lib.hid K1; have HK2 := Lib.hid K2; have HK3 := Lib.hid K3; have HK0 := Lib.hid K0
  clear h B0 K0 K1 K2 K3
  cases g0 : nameB s.data.toList
  all_goals rw [g0] at HN
  · skip
    go_enter Tryz.func29, Tryz.ntmps29
    go_wp2_with fail
    refine HN.mono ?_; rintro v w1 ⟨rfl, hw1⟩
    subst hw1
    go_wp2_with fail
    go_ret
    exact ⟨rfl, HB0.out⟩
  by_cases g1 : 1 ≤ r
  case neg =>
    rw [decide_eq_false g1]
    go_enter Tryz.func29, Tryz.ntmps29
    go_wp2_with fail
    refine HN.mono ?_; rintro v w1 ⟨rfl, hw1⟩
    subst hw1
    go_wp2_with fail
    go_ret
    exact ⟨rfl, HB0.out⟩
  rw [decide_eq_true g1]
  by_cases g2 : r ≤ 4
  case neg =>
    rw [decide_eq_false g2]
    go_enter Tryz.func29, Tryz.ntmps29
    go_wp2_with fail
    refine HN.mono ?_; rintro v w1 ⟨rfl, hw1⟩
    subst hw1
    go_wp2_with fail
    go_ret
    exact ⟨rfl, HB0.out⟩
  rw [decide_eq_true g2]
  by_cases k1 : kd = 1
  case pos =>
    subst k1
    go_enter Tryz.func29, Tryz.ntmps29
    go_wp2_with fail
    refine HN.mono ?_; rintro v w1 ⟨rfl, hw1⟩
    subst hw1
    go_wp2_with fail
    refine HS.mono ?_; rintro v w2 ⟨rfl, hb⟩
    have HB1 := Lib.hid (next HB0.out hb)
    clear hb
    go_wp2_with fail
    go_ret
    exact ⟨ret_bool (by rw [HK1.out (by first | trivial | decide)]; rfl), HB1.out⟩
  by_cases k2 : kd = 2
  case pos =>
    subst k2
    go_enter Tryz.func29, Tryz.ntmps29
    go_wp2_with fail
    refine HN.mono ?_; rintro v w1 ⟨rfl, hw1⟩
    subst hw1
    go_wp2_with fail
    refine HR.mono ?_; rintro v w2 ⟨rfl, hb⟩
    have HB1 := Lib.hid (next HB0.out hb)
    clear hb
    go_wp2_with fail
    go_ret
    exact ⟨ret_bool (by rw [HK2.out (by first | trivial | decide)]; rfl), HB1.out⟩
  by_cases k3 : kd = 3
  case pos =>
    subst k3
    go_enter Tryz.func29, Tryz.ntmps29
    go_wp2_with fail
    refine HN.mono ?_; rintro v w1 ⟨rfl, hw1⟩
    subst hw1
    go_wp2_with fail
    refine HP.mono ?_; rintro v w2 ⟨rfl, hb⟩
    have HB1 := Lib.hid (next HB0.out hb)
    clear hb
    go_wp2_with fail
    go_ret
    exact ⟨ret_bool (by rw [HK3.out (by first | trivial | decide)]; rfl), HB1.out⟩
  by_cases k4 : kd = 4
  case pos =>
    subst k4
    go_enter Tryz.func29, Tryz.ntmps29
    go_wp2_with fail
    refine HN.mono ?_; rintro v w1 ⟨rfl, hw1⟩
    subst hw1
    go_wp2_with fail
    refine HP.mono ?_; rintro v w2 ⟨rfl, hb⟩
    have HB1 := Lib.hid (next HB0.out hb)
    clear hb
    go_wp2_with fail
    go_ret
    exact ⟨ret_bool (by rw [HK3.out (by first | trivial | decide)]; rfl), HB1.out⟩
  go_enter Tryz.func29, Tryz.ntmps29
  go_wp2_with fail
  refine HN.mono ?_; rintro v w1 ⟨rfl, hw1⟩
  subst hw1
  go_wp2_with fail
  go_ret
  exact ⟨ret_bool (by rw [HK0.out (by omega)]; rfl), HB0.out⟩
end Go.Proofs.YtlhnnjllbcglcaaGreatDoor.caFn
