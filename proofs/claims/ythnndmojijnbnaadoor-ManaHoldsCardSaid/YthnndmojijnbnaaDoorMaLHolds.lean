/- ManaHolds: pools and costs that are none, and costs that can be paid. -/
import Derived.Test.YthnndmojijnbnaaDoorMaLPays
namespace Go.Proofs.YthnndmojijnbnaaDoor.maFn
open Go.ChangeShapes Go.WideShapes Go.ChangeAt Go.RowKit drMem
set_option linter.unusedVariables false

theorem MW.drewN {w wx : World} {a b c d p q r s x : Int} (h : MW w a b c d p q r s x wx) (n : Nat) : MW w a b c d p q r s x (wx.drewN n) := ⟨h.hm.drewN n, h.hc.drewN n, ⟨h.hb.os, h.hb.tape, h.hb.output, h.hb.size, h.hb.block⟩⟩
theorem take1_le (m : P4) : (take1 m).a ≤ m.a ∧ (take1 m).b ≤ m.b ∧ (take1 m).c ≤ m.c ∧ (take1 m).d ≤ m.d := by
  unfold take1
  (repeat' split) <;> simp <;> omega
theorem payN_le (m : P4) : ∀ k, (payN k m).a ≤ m.a ∧ (payN k m).b ≤ m.b ∧ (payN k m).c ≤ m.c ∧ (payN k m).d ≤ m.d
  | 0 => ⟨Int.le_refl _, Int.le_refl _, Int.le_refl _, Int.le_refl _⟩
  | k + 1 => by
    have h1 := payN_le m k
    have h2 := take1_le (payN k m)
    show (take1 (payN k m)).a ≤ _ ∧ (take1 (payN k m)).b ≤ _ ∧ (take1 (payN k m)).c ≤ _ ∧ (take1 (payN k m)).d ≤ _
    omega
theorem pay_may (a b c d p q r s : Int) (x : Nat) (hm : okM 99 a b c d = true) (hk : okC p q r s x = true) (hy : may a b c d p q r s x = true) :
    ∃ e f g h : Int, (∀ w, Calls Tryd.prog 29 #[.agg #[.int .i64 a, .int .i64 b, .int .i64 c, .int .i64 d], .agg #[.int .i64 p, .int .i64 q, .int .i64 r, .int .i64 s, .int .i64 (x : Nat)]] w fun z w' => z = .returned (.tuple #[.agg #[.int .i64 e, .int .i64 f, .int .i64 g, .int .i64 h], .int .i64 0]) ∧ Below w.heap.size w w') ∧
      okM 99 e f g h = true ∧ (e ≤ a - p ∧ f ≤ b - q ∧ g ≤ c - r ∧ h ≤ d - s) ∧ a + b + c + d - (e + f + g + h) = p + q + r + s + x := by
  refine ⟨_, _, _, _, fun w => Pay_yes a b c d p q r s x w hm hk hy, ?_⟩
  obtain ⟨⟨a0, a1⟩, ⟨b0, b1⟩, ⟨c0, c1⟩, ⟨e0, e1⟩⟩ := (okM_iff _ _ _ _ _).1 hm
  obtain ⟨⟨⟨p0, p1⟩, ⟨q0, q1⟩, ⟨r0, r1⟩, ⟨s0, s1⟩⟩, x0, x1⟩ := (okC_iff _ _ _ _ _).1 hk
  obtain ⟨⟨pa, qb, rc, sd⟩, xl⟩ := (may_iff _ _ _ _ _ _ _ _ _).1 hy
  have hok : (P4.mk (a - p) (b - q) (c - r) (d - s)).ok = true := by unfold P4.ok; rw [okM_iff]; simp only; omega
  have hsum : (x : Int) ≤ (P4.mk (a - p) (b - q) (c - r) (d - s)).sum := by unfold lf de at xl; unfold P4.sum; simp only; omega
  obtain ⟨h1, h2⟩ := payN_ok _ hok x hsum
  have h3 := payN_le (P4.mk (a - p) (b - q) (c - r) (d - s)) x
  unfold P4.sum at h2
  simp only at h2 h3
  exact ⟨h1, h3, by omega⟩

set_option maxRecDepth 100000 in
theorem holds_bad (a b c d p q r s x : Int) (w : World) (h : okM 99 a b c d = false ∨ okC p q r s x = false) (hE : E w) :
    Calls Tryd.prog 7 #[.agg #[.int .i64 a, .int .i64 b, .int .i64 c, .int .i64 d], .agg #[.int .i64 p, .int .i64 q, .int .i64 r, .int .i64 s, .int .i64 x]] w fun z w' => z = .returned (.bool true) ∧ Below w.heap.size w w' := by
  have HE := Lib.hid hE
  clear hE
  by_cases hm : okM 99 a b c d = true
  · have hk : okC p q r s x = false := by rcases h with h | h; (rw [h] at hm; cases hm); exact h
    have d1 : (!okM 99 a b c d) = false := by rw [hm]; rfl
    have d2 : (!okC p q r s x) = true := by rw [hk]; rfl
    clear h hm hk
    go_enter Tryd.func7, Tryd.ntmps7
    go_wp2_with fail
    refine (Valid_any _ _ _ _ _).mono ?_; rintro z w1 ⟨rfl, hb1⟩
    have K1 := (new1 w _ 25 [.int .i64 p, .int .i64 q, .int .i64 r, .int .i64 s, .int .i64 x]).below hb1 (by simp)
    have B1 : Below w.heap.size w w1 := next (by go_grown) hb1
    clear hb1
    obtain ⟨u0, u1, u2, u3, u4, u5⟩ := five K1
    go_wp2_with fail
    refine (ValidCost_any _ _ _ _ _ _).mono ?_; rintro z w2 ⟨rfl, hb2⟩
    have B2 : Below w.heap.size w w2 := next B1 hb2
    clear u0 u1 u2 u3 u4 u5 hb2 K1
    go_wp2_with fail
    refine (known_true _ (HE.out.below B2)).mono ?_; rintro z w3 ⟨rfl, hb3⟩
    go_wp2_with fail
    go_ret
    exact ⟨rfl, next B2 hb3⟩
  · have d1 : (!okM 99 a b c d) = true := by simpa using hm
    clear h hm
    go_enter Tryd.func7, Tryd.ntmps7
    go_wp2_with fail
    refine (Valid_any _ _ _ _ _).mono ?_; rintro z w1 ⟨rfl, hb1⟩
    have B1 : Below w.heap.size w w1 := next (by go_grown) hb1
    clear hb1
    go_wp2_with fail
    refine (known_true _ (HE.out.below B1)).mono ?_; rintro z w3 ⟨rfl, hb3⟩
    go_wp2_with fail
    go_ret
    exact ⟨rfl, next B1 hb3⟩


set_option maxRecDepth 100000 in
set_option maxHeartbeats 8000000 in
theorem holds_may (a b c d : Int) (p q r s x : Nat) (w : World) (hm : okM 99 a b c d = true) (hk : okC p q r s x = true) (hy : may a b c d p q r s x = true) (hE : E w) :
    Calls Tryd.prog 7 #[.agg #[.int .i64 a, .int .i64 b, .int .i64 c, .int .i64 d], .agg #[.int .i64 ((p : Nat)), .int .i64 ((q : Nat)), .int .i64 ((r : Nat)), .int .i64 ((s : Nat)), .int .i64 ((x : Nat))]] w fun z w' => z = .returned (.bool true) ∧ Below w.heap.size w w' := by
  have HE := Lib.hid hE
  have HK := Lib.hid hk
  obtain ⟨e, f, g, h, HP, hv, hle, hsum⟩ := pay_may a b c d p q r s x hm hk hy
  have HM : ∀ w, Calls Tryd.prog 22 #[.agg #[.int .i64 a, .int .i64 b, .int .i64 c, .int .i64 d], .agg #[.int .i64 ((p : Nat)), .int .i64 ((q : Nat)), .int .i64 ((r : Nat)), .int .i64 ((s : Nat)), .int .i64 ((x : Nat))]] w fun z w' => z = .returned (.agg #[.int .i64 0, .int .i64 0, .int .i64 0, .int .i64 0, .int .i64 0]) ∧ Below w.heap.size w w' := fun w => by
    have h1 := Missing_yes a b c d p q r s x w hm hk
    obtain ⟨⟨i1, i2, i3, i4⟩, i5⟩ := (eq5_iff _ _ _ _ _ _ _ _ _ _).1 hy
    rw [i1, i2, i3, i4, i5] at h1
    exact h1
  have HC : ∀ w, Calls Tryd.prog 21 #[.agg #[.int .i64 a, .int .i64 b, .int .i64 c, .int .i64 d], .agg #[.int .i64 ((p : Nat)), .int .i64 ((q : Nat)), .int .i64 ((r : Nat)), .int .i64 ((s : Nat)), .int .i64 ((x : Nat))]] w fun z w' => z = .returned (.bool true) ∧ Below w.heap.size w w' := fun w => by
    have h1 := Can_yes a b c d p q r s x w hm hk
    rw [hy] at h1
    exact h1
  have hz := same5 0 0 0 0 0
  have HT1 := fun w => Total_yes a b c d w hm
  have HT2 := fun w => Total_yes e f g h w hv
  have HV := fun w => Value_yes p q r s x w hk
  have d1 : (!okM 99 a b c d) = false := by rw [hm]; rfl
  have d2 : (!okC p q r s x) = false := by rw [hk]; rfl
  obtain ⟨⟨a0, a1⟩, ⟨b0, b1⟩, ⟨c0, c1⟩, ⟨k0, k1⟩⟩ := (okM_iff _ _ _ _ _).1 hm
  obtain ⟨⟨e0, e1⟩, ⟨f0, f1⟩, ⟨g0, g1⟩, ⟨h0, h1⟩⟩ := (okM_iff _ _ _ _ _).1 hv
  obtain ⟨l1, l2, l3, l4⟩ := hle
  have HSUM := Lib.hid hsum
  clear hE hm hk hy hv hsum
  go_enter Tryd.func7, Tryd.ntmps7
  go_wp2_with fail
  refine (Valid_any _ _ _ _ _).mono ?_; rintro z w1 ⟨rfl, hb1⟩
  have M1 : MW w a b c d p q r s x w1 := ⟨((new0 w 23 [.int .i64 a, .int .i64 b, .int .i64 c, .int .i64 d]).alloc _).below hb1 (by simp; omega), (new1 w _ 25 [.int .i64 ((p : Nat)), .int .i64 ((q : Nat)), .int .i64 ((r : Nat)), .int .i64 ((s : Nat)), .int .i64 ((x : Nat))]).below hb1 (by simp), next (by go_grown) hb1⟩
  clear hb1
  obtain ⟨u0, u1, u2, u3, u4, u5⟩ := five M1.hc
  go_wp2_with fail
  refine (ValidCost_any _ _ _ _ _ _).mono ?_; rintro z w2 ⟨rfl, hb2⟩
  have M2 := M1.below hb2
  clear u0 u1 u2 u3 u4 u5 hb2 M1
  obtain ⟨u0, u1, u2, u3, u4, u5⟩ := five M2.hc
  go_wp2_with fail
  refine (Text_yes _ _ _ _ _ _ HK.out).mono ?_; rintro z w3 ⟨rfl, hb3⟩
  have M3 := M2.below hb3
  clear u0 u1 u2 u3 u4 u5 hb3 M2
  obtain ⟨u0, u1, u2, u3, u4, u5⟩ := five M3.hc
  go_wp2_with fail
  refine (parses_true _ _ _ _ _ _ _ (fun w hw => Parse_yes _ _ _ _ _ HK.out w hw) _ (HE.out.below M3.hb)).mono ?_; rintro z w4 ⟨rfl, hb4⟩
  have M4 := M3.below hb4
  clear u0 u1 u2 u3 u4 u5 hb4 M3
  obtain ⟨t0, t1, t2, t3, t5⟩ := four M4.hm
  obtain ⟨u0, u1, u2, u3, u4, u5⟩ := five M4.hc
  go_wp2_with fail
  refine (HP _).mono ?_; rintro z w5 ⟨rfl, hb5⟩
  have M5 := M4.below hb5
  clear t0 t1 t2 t3 t5 u0 u1 u2 u3 u4 u5 hb5 M4
  have z5 : w.heap.size + 1 < w5.heap.size := M5.hc.lt
  obtain ⟨w6, hw6⟩ : ∃ w6, w6 = w5.alloc (.cells #[.int .i64 e, .int .i64 f, .int .i64 g, .int .i64 h] 23) := ⟨_, rfl⟩
  have M6 : MW w a b c d p q r s x w6 := by rw [hw6]; exact M5.alloc _
  have V6 : has w6 w5.heap.size 23 [.int .i64 e, .int .i64 f, .int .i64 g, .int .i64 h] := by rw [hw6]; exact new0 w5 _ _
  have HW6 := Lib.hid hw6
  clear hw6 M5
  obtain ⟨t0, t1, t2, t3, t5⟩ := four M6.hm
  obtain ⟨u0, u1, u2, u3, u4, u5⟩ := five M6.hc
  go_upto_region 7 with fail
  rw [← HW6.out]
  go_wp2_with fail
  refine (HM _).mono ?_; rintro z w7 ⟨rfl, hb7⟩
  have M7 := M6.below hb7
  have V7 := V6.below hb7 V6.lt
  have z7 : w5.heap.size < w7.heap.size := V7.lt
  clear t0 t1 t2 t3 t5 u0 u1 u2 u3 u4 u5 hb7 M6 V6 HW6
  obtain ⟨w8, hw8⟩ : ∃ w8, w8 = w7.alloc (.cells #[.int .i64 0, .int .i64 0, .int .i64 0, .int .i64 0, .int .i64 0] 25) := ⟨_, rfl⟩
  have M8 : MW w a b c d p q r s x w8 := by rw [hw8]; exact M7.alloc _
  have V8 : has w8 w5.heap.size 23 [.int .i64 e, .int .i64 f, .int .i64 g, .int .i64 h] := by rw [hw8]; exact V7.alloc _
  have Y8 : has w8 w7.heap.size 25 [.int .i64 0, .int .i64 0, .int .i64 0, .int .i64 0, .int .i64 0] := by rw [hw8]; exact new0 w7 _ _
  have HW8 := Lib.hid hw8
  clear hw8 M7 V7
  obtain ⟨t0, t1, t2, t3, t5⟩ := four M8.hm
  obtain ⟨u0, u1, u2, u3, u4, u5⟩ := five M8.hc
  go_upto_region 8 with fail
  rw [← HW8.out]
  go_wp2_with fail
  refine (HC _).mono ?_; rintro z w9 ⟨rfl, hb9⟩
  have M9 := M8.below hb9
  have V9 := V8.below hb9 V8.lt
  have Y9 := Y8.below hb9 Y8.lt
  clear t0 t1 t2 t3 t5 u0 u1 u2 u3 u4 u5 hb9 M8 V8 Y8 HW8
  obtain ⟨y0, y1, y2, y3, y4, y5⟩ := five Y9

  have hne : (IntKind.i64.wrap (a + b + c + d - (e + f + g + h)) != ((p : Int) + q + r + s + x)) = false := by
    rw [HSUM.out, IntWalk.i64_in _ (by have := HK.out; rw [okC_iff] at this; omega)]; simp
  have hne2 : ((a + b + c + d - (e + f + g + h)) != ((p : Int) + q + r + s + x)) = false := by rw [HSUM.out]; simp
  go_wp2_with fail
  obtain ⟨t0, t1, t2, t3, t5⟩ := four M9.hm
  obtain ⟨u0, u1, u2, u3, u4, u5⟩ := five M9.hc
  obtain ⟨v0, v1, v2, v3, v5⟩ := four V9
  have M' := M9.drew
  have V' : has w9.drew w5.heap.size 23 [.int .i64 e, .int .i64 f, .int .i64 g, .int .i64 h] := V9
  clear y0 y1 y2 y3 y4 y5 Y9 HP HM HC hz
  go_region_held3 (fun w' => w'.cell? ⟨w.heap.size, 0, none⟩ = some (.int .i64 a) ∧ w'.cell? ⟨w.heap.size, 1, none⟩ = some (.int .i64 b) ∧ w'.cell? ⟨w.heap.size, 2, none⟩ = some (.int .i64 c) ∧ w'.cell? ⟨w.heap.size, 3, none⟩ = some (.int .i64 d) ∧ w'.cell? ⟨w5.heap.size, 0, none⟩ = some (.int .i64 e) ∧ w'.cell? ⟨w5.heap.size, 1, none⟩ = some (.int .i64 f) ∧ w'.cell? ⟨w5.heap.size, 2, none⟩ = some (.int .i64 g) ∧ w'.cell? ⟨w5.heap.size, 3, none⟩ = some (.int .i64 h) ∧ w'.cell? ⟨w.heap.size + 1, 0, none⟩ = some (.int .i64 (p : Nat)) ∧ w'.cell? ⟨w.heap.size + 1, 1, none⟩ = some (.int .i64 (q : Nat)) ∧ w'.cell? ⟨w.heap.size + 1, 2, none⟩ = some (.int .i64 (r : Nat)) ∧ w'.cell? ⟨w.heap.size + 1, 3, none⟩ = some (.int .i64 (s : Nat)) ∧ w'.cell? ⟨w.heap.size + 1, 4, none⟩ = some (.int .i64 (x : Nat)) ∧ MW w a b c d p q r s x w' ∧ has w' w5.heap.size 23 [.int .i64 e, .int .i64 f, .int .i64 g, .int .i64 h]) (first | assumption | (refine ⟨?_, ?_, ?_, ?_, ?_, ?_, ?_, ?_, ?_, ?_, ?_, ?_, ?_, ?_, ?_⟩ <;> first | assumption | go_keep)) (first | (go_at_call 14; first | ((with_reducible refine (HT1 _).mono ?_); rintro z wa ⟨rfl, hbwa⟩; have Mwa := M'.below hbwa; have Vwa := V'.below hbwa V'.lt; clear hbwa; obtain ⟨t0, t1, t2, t3, t5⟩ := four Mwa.hm; obtain ⟨u0, u1, u2, u3, u4, u5⟩ := five Mwa.hc; obtain ⟨v0, v1, v2, v3, v5⟩ := four Vwa) | ((with_reducible refine (HT2 _).mono ?_); rintro z wb ⟨rfl, hbwb⟩; have Mwb := Mwa.below hbwb; have Vwb := Vwa.below hbwb Vwa.lt; clear hbwb; obtain ⟨t0, t1, t2, t3, t5⟩ := four Mwb.hm; obtain ⟨u0, u1, u2, u3, u4, u5⟩ := five Mwb.hc; obtain ⟨v0, v1, v2, v3, v5⟩ := four Vwb)) | (go_at_call 15; first | ((with_reducible refine (HV _).mono ?_); rintro z wc ⟨rfl, hbwc⟩; have Mwc := Mwb.below hbwc; have Vwc := Vwb.below hbwc Vwb.lt; clear hbwc; obtain ⟨t0, t1, t2, t3, t5⟩ := four Mwc.hm; obtain ⟨u0, u1, u2, u3, u4, u5⟩ := five Mwc.hc; obtain ⟨v0, v1, v2, v3, v5⟩ := four Vwc)))
  go_wp2_with fail
  have HX := Lib.hid Mwc
  have HV := Lib.hid Vwc
  clear hne hne2 t0 t1 t2 t3 t5 u0 u1 u2 u3 u4 u5 v0 v1 v2 v3 v5 M' V' Mwa Mwb Mwc Vwa Vwb Vwc M9 V9 HT1 HT2
  go_loopw [70] (fun s70 wr => ∃ k : Nat, k ≤ 4 ∧ s70 = .int .i64 k ∧ Hid (MW w a b c d p q r s x wr) ∧ Hid (has wr w5.heap.size 23 [.int .i64 e, .int .i64 f, .int .i64 g, .int .i64 h])) (fun s70 _ => 4 - (intOf s70).toNat)
  case atStart => exact ⟨0, by omega, rfl, HX, HV⟩
  case round =>
    clear HX HV
    obtain ⟨k, hk4, hk6, HX, HV⟩ := hrel
    obtain ⟨t0, t1, t2, t3, t5⟩ := four HX.out.hm
    obtain ⟨u0, u1, u2, u3, u4, u5⟩ := five HX.out.hc
    obtain ⟨v0, v1, v2, v3, v5⟩ := four HV.out
    have hk' : k = 0 ∨ k = 1 ∨ k = 2 ∨ k = 3 ∨ k = 4 := by omega
    clear hk4
    rcases hk' with rfl | rfl | rfl | rfl | rfl
    · replace hk6 : _ = Value.int .i64 0 := hk6
      subst hk6
      have e1 : IntKind.i64.wrap (a - e) = a - e := IntWalk.i64_in _ (by omega)
      have e2 : decide (e < 0) = false := by simp; omega
      have e3 : decide (a - e < (p : Int)) = false := by simp; omega
      clear l1 l2 l3 l4
      go_wp2_with fail
      go_quiet (fail)
      all_goals
        go_wp2_with fail
        go_roundw
        case rel => exact ⟨0 + 1, by omega, by go_num, Lib.hid (HX.out.drewN _), HV.out.drewN _⟩
        case measure => simp [intOf]
    · replace hk6 : _ = Value.int .i64 1 := hk6
      subst hk6
      have e1 : IntKind.i64.wrap (b - f) = b - f := IntWalk.i64_in _ (by omega)
      have e2 : decide (f < 0) = false := by simp; omega
      have e3 : decide (b - f < (q : Int)) = false := by simp; omega
      clear l1 l2 l3 l4
      go_wp2_with fail
      go_quiet (fail)
      all_goals
        go_wp2_with fail
        go_roundw
        case rel => exact ⟨1 + 1, by omega, by go_num, Lib.hid (HX.out.drewN _), HV.out.drewN _⟩
        case measure => simp [intOf]
    · replace hk6 : _ = Value.int .i64 2 := hk6
      subst hk6
      have e1 : IntKind.i64.wrap (c - g) = c - g := IntWalk.i64_in _ (by omega)
      have e2 : decide (g < 0) = false := by simp; omega
      have e3 : decide (c - g < (r : Int)) = false := by simp; omega
      clear l1 l2 l3 l4
      go_wp2_with fail
      go_quiet (fail)
      all_goals
        go_wp2_with fail
        go_roundw
        case rel => exact ⟨2 + 1, by omega, by go_num, Lib.hid (HX.out.drewN _), HV.out.drewN _⟩
        case measure => simp [intOf]
    · replace hk6 : _ = Value.int .i64 3 := hk6
      subst hk6
      have e1 : IntKind.i64.wrap (d - h) = d - h := IntWalk.i64_in _ (by omega)
      have e2 : decide (h < 0) = false := by simp; omega
      have e3 : decide (d - h < (s : Int)) = false := by simp; omega
      clear l1 l2 l3 l4
      go_wp2_with fail
      go_quiet (fail)
      all_goals
        go_wp2_with fail
        go_roundw
        case rel => exact ⟨3 + 1, by omega, by go_num, Lib.hid (HX.out.drewN _), HV.out.drewN _⟩
        case measure => simp [intOf]
    · replace hk6 : _ = Value.int .i64 4 := hk6
      subst hk6
      go_wp2_with fail
      refine (known_true _ (HE.out.below HX.out.hb)).mono ?_; rintro z w3 ⟨rfl, hb3⟩
      go_wp2_with fail
      go_ret
      exact ⟨rfl, next HX.out.hb hb3⟩

end Go.Proofs.YthnndmojijnbnaaDoor.maFn
