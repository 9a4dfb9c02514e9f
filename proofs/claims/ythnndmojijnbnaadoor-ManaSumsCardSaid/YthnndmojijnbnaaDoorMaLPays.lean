/- ManaPays. -/
import Derived.Test.YthnndmojijnbnaaDoorMaLSums
import Derived.Test.YthnndmojijnbnaaDoorMaRPay
import Derived.Test.YthnndmojijnbnaaDoorMaNo
namespace Go.Proofs.YthnndmojijnbnaaDoor.maFn
open Go.ChangeShapes Go.WideShapes Go.ChangeAt Go.RowKit drMem
set_option linter.unusedVariables false

/- what Pay, Can and Missing return, and the reference beside them -/
structure PE (a b c d p q r s x e f g h y i j l m o : Int) : Prop where
  pay : ∀ w, Calls Tryd.prog 29 #[.agg #[.int .i64 a, .int .i64 b, .int .i64 c, .int .i64 d], .agg #[.int .i64 p, .int .i64 q, .int .i64 r, .int .i64 s, .int .i64 x]] w fun z w' => z = .returned (.tuple #[.agg #[.int .i64 e, .int .i64 f, .int .i64 g, .int .i64 h], .int .i64 y]) ∧ Below w.heap.size w w'
  rpay : ∀ w, Calls Tryd.prog 18 #[.agg #[.int .i64 a, .int .i64 b, .int .i64 c, .int .i64 d], .agg #[.int .i64 p, .int .i64 q, .int .i64 r, .int .i64 s, .int .i64 x]] w fun z w' => z = .returned (.tuple #[.agg #[.int .i64 e, .int .i64 f, .int .i64 g, .int .i64 h], .int .i64 y]) ∧ Below w.heap.size w w'
  can : ∀ w, Calls Tryd.prog 21 #[.agg #[.int .i64 a, .int .i64 b, .int .i64 c, .int .i64 d], .agg #[.int .i64 p, .int .i64 q, .int .i64 r, .int .i64 s, .int .i64 x]] w fun z w' => z = .returned (.bool (y == 0)) ∧ Below w.heap.size w w'
  mis : ∀ w, Calls Tryd.prog 22 #[.agg #[.int .i64 a, .int .i64 b, .int .i64 c, .int .i64 d], .agg #[.int .i64 p, .int .i64 q, .int .i64 r, .int .i64 s, .int .i64 x]] w fun z w' => z = .returned (.agg #[.int .i64 i, .int .i64 j, .int .i64 l, .int .i64 m, .int .i64 o]) ∧ Below w.heap.size w w'
  rmis : (okM 99 a b c d && okC p q r s x) = true → ∀ w, Calls Tryd.prog 19 #[.agg #[.int .i64 a, .int .i64 b, .int .i64 c, .int .i64 d], .agg #[.int .i64 p, .int .i64 q, .int .i64 r, .int .i64 s, .int .i64 x]] w fun z w' => z = .returned (.agg #[.int .i64 i, .int .i64 j, .int .i64 l, .int .i64 m, .int .i64 o]) ∧ Below w.heap.size w w'
  none : (okM 99 a b c d && okC p q r s x) = false → i = 0 ∧ j = 0 ∧ l = 0 ∧ m = 0 ∧ o = 0
theorem pay_ex (a b c d p q r s x : Int) : ∃ e f g h y i j l m o, PE a b c d p q r s x e f g h y i j l m o := by
  by_cases hm : okM 99 a b c d = true
  · by_cases hk : okC p q r s x = true
    · have hv : (okM 99 a b c d && okC p q r s x) = true := by rw [hm, hk]; rfl
      obtain ⟨X, rfl⟩ := Int.eq_ofNat_of_zero_le ((okC_iff _ _ _ _ _).1 hk).2.1
      by_cases hy : may a b c d p q r s X = true
      · exact ⟨_, _, _, _, _, _, _, _, _, _, ⟨fun w => Pay_yes a b c d p q r s X w hm hk hy, fun w => rPay_yes a b c d p q r s X w hm hk hy, fun w => by have := Can_yes a b c d p q r s X w hm hk; rw [hy] at this; exact this,
          fun w => Missing_yes a b c d p q r s X w hm hk, fun _ w => Missing_ref a b c d p q r s X w hm hk, fun h => by rw [hv] at h; cases h⟩⟩
      · have hy : may a b c d p q r s X = false := by simpa using hy
        exact ⟨_, _, _, _, _, _, _, _, _, _, ⟨fun w => Pay_no a b c d p q r s X w hm hk hy, fun w => rPay_no a b c d p q r s X w hm hk hy, fun w => by have := Can_yes a b c d p q r s X w hm hk; rw [hy] at this; exact this,
          fun w => Missing_yes a b c d p q r s X w hm hk, fun _ w => Missing_ref a b c d p q r s X w hm hk, fun h => by rw [hv] at h; cases h⟩⟩
    · have hk : okC p q r s x = false := by simpa using hk
      have hv : (okM 99 a b c d && okC p q r s x) = false := by rw [hk, Bool.and_false]
      exact ⟨_, _, _, _, _, _, _, _, _, _, ⟨fun w => Pay_bad a b c d p q r s x w (.inr hk), fun w => rPay_bad a b c d p q r s x w (.inr hk), fun w => Can_no a b c d p q r s x w (.inr hk),
        fun w => Missing_no a b c d p q r s x w (.inr hk), fun h => (by rw [hv] at h; cases h), fun _ => ⟨rfl, rfl, rfl, rfl, rfl⟩⟩⟩
  · have hm : okM 99 a b c d = false := by simpa using hm
    have hv : (okM 99 a b c d && okC p q r s x) = false := by rw [hm, Bool.false_and]
    exact ⟨_, _, _, _, _, _, _, _, _, _, ⟨fun w => Pay_bad a b c d p q r s x w (.inl hm), fun w => rPay_bad a b c d p q r s x w (.inl hm), fun w => Can_no a b c d p q r s x w (.inl hm),
      fun w => Missing_no a b c d p q r s x w (.inl hm), fun h => (by rw [hv] at h; cases h), fun _ => ⟨rfl, rfl, rfl, rfl, rfl⟩⟩⟩


structure PB (w : World) (n : Nat) (a b c d p q r s x e f g h i j l m o : Int) (wx : World) : Prop where
  hw : MW w a b c d p q r s x wx
  hv : has wx n 23 [.int .i64 e, .int .i64 f, .int .i64 g, .int .i64 h]
  hy : has wx (n + 1) 25 [.int .i64 i, .int .i64 j, .int .i64 l, .int .i64 m, .int .i64 o]

set_option maxRecDepth 100000 in
set_option maxHeartbeats 8000000 in
theorem pays_law (a b c d p q r s x : Int) (w : World) (hE : E w) :
    Calls Tryd.prog 4 #[.agg #[.int .i64 a, .int .i64 b, .int .i64 c, .int .i64 d], .agg #[.int .i64 p, .int .i64 q, .int .i64 r, .int .i64 s, .int .i64 x]] w fun z w' => z = .returned (.bool true) ∧ Below w.heap.size w w' := by
  have HE := Lib.hid hE
  obtain ⟨e, f, g, h, y, i, j, l, m, o, hp⟩ := pay_ex a b c d p q r s x
  have HP := pays_true _ _ _ _ _ _ _ _ _ _ _ _ _ _ hp.pay
  have HRP := hp.rpay
  have HC := hp.can
  have HM := hp.mis
  have HX := Lib.hid hp
  have hq := same5 i j l m o
  clear hE hp
  go_enter Tryd.func4, Tryd.ntmps4
  go_wp2_with fail
  refine (HRP _).mono ?_; rintro z w1 ⟨rfl, hb1⟩
  have M1 : MW w a b c d p q r s x w1 := ⟨((new0 w 23 [.int .i64 a, .int .i64 b, .int .i64 c, .int .i64 d]).alloc _).below hb1 (by simp; omega), (new1 w _ 25 [.int .i64 p, .int .i64 q, .int .i64 r, .int .i64 s, .int .i64 x]).below hb1 (by simp), next (by go_grown) hb1⟩
  clear hb1 HRP
  obtain ⟨w2, hw2⟩ : ∃ w2, w2 = (w1.alloc (.cells #[.int .i64 e, .int .i64 f, .int .i64 g, .int .i64 h] 23)).alloc (.cells #[.int .i64 0, .int .i64 0, .int .i64 0, .int .i64 0, .int .i64 0] 25) := ⟨_, rfl⟩
  have P2 : PB w w1.heap.size a b c d p q r s x e f g h 0 0 0 0 0 w2 := by rw [hw2]; exact ⟨(M1.alloc _).alloc _, (new0 w1 _ _).alloc _, new1 w1 _ _ _⟩
  have HW := Lib.hid hw2
  have HP2 := Lib.hid P2
  have z1 : w.heap.size + 1 < w1.heap.size := M1.hc.lt
  clear hw2 M1 P2
  go_upto_region 3 with fail
  rw [← HW.out]
  clear HW
  go_cut [19] (fun s19 wx => s19 = .bool (okM 99 a b c d && okC p q r s x) ∧ Hid (PB w w1.heap.size a b c d p q r s x e f g h 0 0 0 0 0 wx))
  case first =>
    clear HP HC HM HX hq
    obtain ⟨t0, t1, t2, t3, t5⟩ := four HP2.out.hw.hm
    by_cases hm : okM 99 a b c d = true
    · have HV := fun w => (rValid_any a b c d w).mono fun e w' (h : _ ∧ _) => And.intro (h.1.trans (ret_bool hm)) h.2
      go_wp2_with fail
      refine (HV _).mono ?_; rintro z w3 ⟨rfl, hb3⟩
      have P3 : PB w w1.heap.size a b c d p q r s x e f g h 0 0 0 0 0 w3 := ⟨HP2.out.hw.below hb3, HP2.out.hv.below hb3 HP2.out.hv.lt, HP2.out.hy.below hb3 HP2.out.hy.lt⟩
      have HP3 := Lib.hid P3
      clear P3 hb3 t0 t1 t2 t3 t5
      obtain ⟨u0, u1, u2, u3, u4, u5⟩ := five HP3.out.hw.hc
      go_wp2_with fail
      refine (rValidCost_any _ _ _ _ _ _).mono ?_; rintro z w4 ⟨rfl, hb4⟩
      have P4 : PB w w1.heap.size a b c d p q r s x e f g h 0 0 0 0 0 w4 := ⟨HP3.out.hw.below hb4, HP3.out.hv.below hb4 HP3.out.hv.lt, HP3.out.hy.below hb4 HP3.out.hy.lt⟩
      have HP4 := Lib.hid P4
      clear P4 hb4 u0 u1 u2 u3 u4 u5
      go_wp2_with fail
      go_meet
      case rel => exact ⟨by rw [hm, Bool.true_and], HP4⟩
    · have hm : okM 99 a b c d = false := by simpa using hm
      have HV := fun w => (rValid_any a b c d w).mono fun e w' (h : _ ∧ _) => And.intro (h.1.trans (ret_bool hm)) h.2
      go_wp2_with fail
      refine (HV _).mono ?_; rintro z w3 ⟨rfl, hb3⟩
      have P3 : PB w w1.heap.size a b c d p q r s x e f g h 0 0 0 0 0 w3 := ⟨HP2.out.hw.below hb3, HP2.out.hv.below hb3 HP2.out.hv.lt, HP2.out.hy.below hb3 HP2.out.hy.lt⟩
      have HP3 := Lib.hid P3
      clear P3 hb3 t0 t1 t2 t3 t5
      go_wp2_with fail
      go_meet
      case rel => exact ⟨by rw [hm, Bool.false_and], HP3⟩
  case rest =>
    obtain ⟨rfl, HP3⟩ := hcut
    clear HP2 w2
    go_upto_if 19 with fail
    go_cut [] (fun wx => Hid (PB w w1.heap.size a b c d p q r s x e f g h i j l m o wx))
    case first =>
      clear HP HC HM hq
      by_cases hv : (okM 99 a b c d && okC p q r s x) = true
      · rw [hv]
        have HS := HX.out.rmis hv
        obtain ⟨t0, t1, t2, t3, t5⟩ := four HP3.out.hw.hm
        obtain ⟨u0, u1, u2, u3, u4, u5⟩ := five HP3.out.hw.hc
        go_wp2_with fail
        refine (HS _).mono ?_; rintro z w4 ⟨rfl, hb4⟩
        have P4 : PB w w1.heap.size a b c d p q r s x e f g h 0 0 0 0 0 w4 := ⟨HP3.out.hw.below hb4, HP3.out.hv.below hb4 HP3.out.hv.lt, HP3.out.hy.below hb4 HP3.out.hy.lt⟩
        have HP4 := Lib.hid P4
        clear P4 hb4 t0 t1 t2 t3 t5 u0 u1 u2 u3 u4 u5
        obtain ⟨y0, y1, y2, y3, y4, y5⟩ := five HP4.out.hy
        go_wp2_with fail
        go_meet
        case rel =>
          have h1 := HP4.out.hw.hb.size
          have h2 := HP4.out.hw.hb
          refine Lib.hid ⟨⟨((((HP4.out.hw.hm.far ?_ _).far ?_ _).far ?_ _).far ?_ _).far ?_ _, ((((HP4.out.hw.hc.far ?_ _).far ?_ _).far ?_ _).far ?_ _).far ?_ _, ?_⟩, ((((HP4.out.hv.far ?_ _).far ?_ _).far ?_ _).far ?_ _).far ?_ _, ((((HP4.out.hy.put 0 _).put 1 _).put 2 _).put 3 _).put 4 _⟩
          all_goals first
            | (show _ ≠ w1.heap.size + 1; omega)
            | go_grown
      · have hv : (okM 99 a b c d && okC p q r s x) = false := by simpa using hv
        obtain ⟨h1, h2, h3, h4, h5⟩ := HX.out.none hv
        have H0 : PB w w1.heap.size a b c d p q r s x e f g h i j l m o wc := by rw [h1, h2, h3, h4, h5]; exact HP3.out
        have HH := Lib.hid H0
        clear h1 h2 h3 h4 h5 H0
        rw [hv]
        go_wp2_with fail
        go_meet
        case rel => exact HH
    case rest =>
      have HP5 := hcut
      clear HP3 HX
      have M5 := HP5.out.hw
      have V5 := HP5.out.hv
      have Y5 := HP5.out.hy
      obtain ⟨t0, t1, t2, t3, t5⟩ := four M5.hm
      obtain ⟨u0, u1, u2, u3, u4, u5⟩ := five M5.hc
      obtain ⟨v0, v1, v2, v3, v5⟩ := four V5
      obtain ⟨y0, y1, y2, y3, y4, y5⟩ := five Y5
      have M' := M5.drew
      have V' : has wc.drew w1.heap.size 23 [.int .i64 e, .int .i64 f, .int .i64 g, .int .i64 h] := V5
      have Y' : has wc.drew (w1.heap.size + 1) 25 [.int .i64 i, .int .i64 j, .int .i64 l, .int .i64 m, .int .i64 o] := Y5
      go_wp2_with fail
      go_region_held3 (fun w' => w'.cell? ⟨w.heap.size, 0, none⟩ = some (.int .i64 a) ∧ w'.cell? ⟨w.heap.size, 1, none⟩ = some (.int .i64 b) ∧ w'.cell? ⟨w.heap.size, 2, none⟩ = some (.int .i64 c) ∧ w'.cell? ⟨w.heap.size, 3, none⟩ = some (.int .i64 d) ∧ w'.cell? ⟨w.heap.size + 1, 0, none⟩ = some (.int .i64 p) ∧ w'.cell? ⟨w.heap.size + 1, 1, none⟩ = some (.int .i64 q) ∧ w'.cell? ⟨w.heap.size + 1, 2, none⟩ = some (.int .i64 r) ∧ w'.cell? ⟨w.heap.size + 1, 3, none⟩ = some (.int .i64 s) ∧ w'.cell? ⟨w.heap.size + 1, 4, none⟩ = some (.int .i64 x) ∧ w'.cell? ⟨w1.heap.size, 0, none⟩ = some (.int .i64 e) ∧ w'.cell? ⟨w1.heap.size, 1, none⟩ = some (.int .i64 f) ∧ w'.cell? ⟨w1.heap.size, 2, none⟩ = some (.int .i64 g) ∧ w'.cell? ⟨w1.heap.size, 3, none⟩ = some (.int .i64 h) ∧ w'.cell? ⟨w1.heap.size + 1, 0, none⟩ = some (.int .i64 i) ∧ w'.cell? ⟨w1.heap.size + 1, 1, none⟩ = some (.int .i64 j) ∧ w'.cell? ⟨w1.heap.size + 1, 2, none⟩ = some (.int .i64 l) ∧ w'.cell? ⟨w1.heap.size + 1, 3, none⟩ = some (.int .i64 m) ∧ w'.cell? ⟨w1.heap.size + 1, 4, none⟩ = some (.int .i64 o) ∧ MW w a b c d p q r s x w' ∧ has w' (w1.heap.size) 23 [.int .i64 e, .int .i64 f, .int .i64 g, .int .i64 h] ∧ has w' (w1.heap.size + 1) 25 [.int .i64 i, .int .i64 j, .int .i64 l, .int .i64 m, .int .i64 o]) (first | assumption | (refine ⟨?_, ?_, ?_, ?_, ?_, ?_, ?_, ?_, ?_, ?_, ?_, ?_, ?_, ?_, ?_, ?_, ?_, ?_, ?_, ?_, ?_⟩ <;> first | assumption | go_keep)) (first | (go_at_call 20; (with_reducible refine (HP _).mono ?_); rintro z wa ⟨rfl, hbwa⟩; have Mwa := M'.below hbwa; have Vwa := V'.below hbwa V'.lt; have Ywa := Y'.below hbwa Y'.lt; clear hbwa; obtain ⟨t0, t1, t2, t3, t5⟩ := four Mwa.hm; obtain ⟨u0, u1, u2, u3, u4, u5⟩ := five Mwa.hc; obtain ⟨v0, v1, v2, v3, v5⟩ := four Vwa; obtain ⟨y0, y1, y2, y3, y4, y5⟩ := five Ywa) | (go_at_call 21; (with_reducible refine (HC _).mono ?_); rintro z wb ⟨rfl, hbwb⟩; have Mwb := Mwa.below hbwb; have Vwb := Vwa.below hbwb Vwa.lt; have Ywb := Ywa.below hbwb Ywa.lt; clear hbwb; obtain ⟨t0, t1, t2, t3, t5⟩ := four Mwb.hm; obtain ⟨u0, u1, u2, u3, u4, u5⟩ := five Mwb.hc; obtain ⟨v0, v1, v2, v3, v5⟩ := four Vwb; obtain ⟨y0, y1, y2, y3, y4, y5⟩ := five Ywb) | (go_at_call 22; (with_reducible refine (HM _).mono ?_); rintro z we ⟨rfl, hbwe⟩; have Mwe := Mwb.below hbwe; have Vwe := Vwb.below hbwe Vwb.lt; have Ywe := Ywb.below hbwe Ywb.lt; clear hbwe; obtain ⟨t0, t1, t2, t3, t5⟩ := four Mwe.hm; obtain ⟨u0, u1, u2, u3, u4, u5⟩ := five Mwe.hc; obtain ⟨v0, v1, v2, v3, v5⟩ := four Vwe; obtain ⟨y0, y1, y2, y3, y4, y5⟩ := five Ywe) | (go_at_call 17; (with_reducible refine (known_true _ (HE.out.below Mwe.hb)).mono ?_); rintro z wd ⟨rfl, hbwd⟩; have Mwd := Mwe.below hbwd; have Vwd := Vwe.below hbwd Vwe.lt; have Ywd := Ywe.below hbwd Ywe.lt; clear hbwd; obtain ⟨t0, t1, t2, t3, t5⟩ := four Mwd.hm; obtain ⟨u0, u1, u2, u3, u4, u5⟩ := five Mwd.hc; obtain ⟨v0, v1, v2, v3, v5⟩ := four Vwd; obtain ⟨y0, y1, y2, y3, y4, y5⟩ := five Ywd))
      all_goals
        go_wp2_with fail
        go_ret
        exact ⟨rfl, Mwd.hb⟩

end Go.Proofs.YthnndmojijnbnaaDoor.maFn
