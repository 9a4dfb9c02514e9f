/- ManaSums. -/
import Derived.Test.YthnndmojijnbnaaDoorMaKnown
import Derived.Test.YthnndmojijnbnaaDoorMaRef
import Derived.Test.YthnndmojijnbnaaDoorMaAdd
import Derived.Deep.DeepCutAuto
namespace Go.Proofs.YthnndmojijnbnaaDoor.maFn
open Go.ChangeShapes Go.WideShapes Go.ChangeAt Go.RowKit drMem
set_option linter.unusedVariables false

structure MW (w : World) (a b c d p q r s x : Int) (wx : World) : Prop where
  hm : has wx w.heap.size 23 [.int .i64 a, .int .i64 b, .int .i64 c, .int .i64 d]
  hc : has wx (w.heap.size + 1) 25 [.int .i64 p, .int .i64 q, .int .i64 r, .int .i64 s, .int .i64 x]
  hb : Below w.heap.size w wx
theorem MW.below {w wx wy : World} {a b c d p q r s x : Int} (h : MW w a b c d p q r s x wx) (hb : Below wx.heap.size wx wy) : MW w a b c d p q r s x wy := ⟨h.hm.below hb h.hm.lt, h.hc.below hb h.hc.lt, next h.hb hb⟩
theorem MW.drew {w wx : World} {a b c d p q r s x : Int} (h : MW w a b c d p q r s x wx) : MW w a b c d p q r s x wx.drew := ⟨h.hm, h.hc, h.hb.drew⟩
theorem MW.alloc {w wx : World} {a b c d p q r s x : Int} (h : MW w a b c d p q r s x wx) (o : Obj) : MW w a b c d p q r s x (wx.alloc o) := ⟨h.hm.alloc _, h.hc.alloc _, h.hb.alloc h.hb.size _⟩

/- what Total, Value and Add return, and the reference beside them -/
theorem tot_ex (a b c d : Int) : ∃ t : Int, (∀ w, Calls Tryd.prog 14 #[.agg #[.int .i64 a, .int .i64 b, .int .i64 c, .int .i64 d]] w fun z w' => z = .returned (.int .i64 t) ∧ Below w.heap.size w w') ∧
    (okM 99 a b c d = true → ∀ w, Calls Tryd.prog 9 #[.agg #[.int .i64 a, .int .i64 b, .int .i64 c, .int .i64 d]] w fun z w' => z = .returned (.int .i64 t) ∧ Below w.heap.size w w') ∧ (okM 99 a b c d = false → t = 0) := by
  by_cases h : okM 99 a b c d = true
  · exact ⟨a + b + c + d, fun w => Total_yes a b c d w h, fun _ w => rSum_any a b c d w h, fun h' => by rw [h] at h'; cases h'⟩
  · have h : okM 99 a b c d = false := by simpa using h
    exact ⟨0, fun w => Total_no a b c d w h, fun h' => (by rw [h] at h'; cases h'), fun _ => rfl⟩
theorem val_ex (p q r s x : Int) : ∃ t : Int, (∀ w, Calls Tryd.prog 15 #[.agg #[.int .i64 p, .int .i64 q, .int .i64 r, .int .i64 s, .int .i64 x]] w fun z w' => z = .returned (.int .i64 t) ∧ Below w.heap.size w w') ∧
    (okC p q r s x = true → p + q + r + s + x = t) ∧ (okC p q r s x = false → t = 0) := by
  by_cases h : okC p q r s x = true
  · exact ⟨p + q + r + s + x, fun w => Value_yes p q r s x w h, fun _ => rfl, fun h' => by rw [h] at h'; cases h'⟩
  · have h : okC p q r s x = false := by simpa using h
    exact ⟨0, fun w => Value_no p q r s x w h, fun h' => (by rw [h] at h'; cases h'), fun _ => rfl⟩
theorem add_ex (a b c d k n : Int) (n1 : n ≤ 9223372036854775807) : ∃ e f g h y : Int, (∀ w, Calls Tryd.prog 32 #[.agg #[.int .i64 a, .int .i64 b, .int .i64 c, .int .i64 d], .int .i64 k, .int .i64 n] w fun z w' => z = .returned (.tuple #[.agg #[.int .i64 e, .int .i64 f, .int .i64 g, .int .i64 h], .int .i64 y]) ∧ Below w.heap.size w w') ∧
    (∀ w, Calls Tryd.prog 11 #[.agg #[.int .i64 a, .int .i64 b, .int .i64 c, .int .i64 d], .int .i64 k, .int .i64 n] w fun z w' => z = .returned (.tuple #[.agg #[.int .i64 e, .int .i64 f, .int .i64 g, .int .i64 h], .int .i64 y]) ∧ Below w.heap.size w w') := by
  by_cases h : adArg a b c d k n = true
  · exact ⟨_, _, _, _, _, fun w => Add_yes a b c d k n w h n1, fun w => rAdd_yes a b c d k n w h n1⟩
  · have h : adArg a b c d k n = false := by simpa using h
    exact ⟨_, _, _, _, _, fun w => Add_no a b c d k n w h, fun w => rAdd_no a b c d k n w h⟩


set_option maxRecDepth 100000 in
set_option maxHeartbeats 8000000 in
theorem sums_law (a b c d p q r s x k n : Int) (w : World) (n1 : n ≤ 9223372036854775807) (hE : E w) :
    Calls Tryd.prog 3 #[.agg #[.int .i64 a, .int .i64 b, .int .i64 c, .int .i64 d], .agg #[.int .i64 p, .int .i64 q, .int .i64 r, .int .i64 s, .int .i64 x], .int .i64 k, .int .i64 n] w fun z w' => z = .returned (.bool true) ∧ Below w.heap.size w w' := by
  have HE := Lib.hid hE
  obtain ⟨tot, HT, HS, hT0⟩ := tot_ex a b c d
  obtain ⟨val, HV, hV1, hV0⟩ := val_ex p q r s x
  obtain ⟨e, f, g, h, y, hA, HRA⟩ := add_ex a b c d k n n1
  have HA := adds_true _ _ _ _ _ _ _ _ _ _ _ hA
  have HST := Lib.hid HS
  have HT0 := Lib.hid hT0; have HV1 := Lib.hid hV1; have HV0 := Lib.hid hV0
  clear hE hT0 hV1 hV0 hA n1 HS
  go_enter Tryd.func3, Tryd.ntmps3
  go_upto_if 14 with (go_at_call 8; refine (rValid_any _ _ _ _ _).mono ?_; rintro z w1 ⟨rfl, hb1⟩; have HB1 := Lib.hid hb1; clear hb1)
  have M1 : Hid (MW w a b c d p q r s x w1) := Lib.hid ⟨((new0 w 23 [.int .i64 a, .int .i64 b, .int .i64 c, .int .i64 d]).alloc _).below HB1.out (by simp; omega), (new1 w _ 25 [.int .i64 p, .int .i64 q, .int .i64 r, .int .i64 s, .int .i64 x]).below HB1.out (by simp), next (by go_grown) HB1.out⟩
  clear HB1
  go_cut [9] (fun s9 wx => s9 = .int .i64 tot ∧ Hid (MW w a b c d p q r s x wx))
  case first =>
    by_cases hm : okM 99 a b c d = true
    · have HS := HST.out hm
      obtain ⟨t0, t1, t2, t3, t5⟩ := four M1.out.hm
      rw [hm]
      go_wp2_with fail
      refine (HS _).mono ?_; rintro z w2 ⟨rfl, hb2⟩
      have M2 := Lib.hid (M1.out.below hb2)
      clear hb2 t0 t1 t2 t3 t5
      go_wp2_with fail
      go_meet
      case rel => exact ⟨rfl, M2⟩
    · have hm : okM 99 a b c d = false := by simpa using hm
      have h0 := HT0.out hm
      have H0 := Lib.hid h0
      clear h0
      rw [hm]
      go_wp2_with fail
      go_meet
      case rel => exact ⟨by rw [H0.out], M1⟩
  case rest =>
    obtain ⟨rfl, M2⟩ := hcut
    clear M1 HST HT0
    obtain ⟨u0, u1, u2, u3, u4, u5⟩ := five M2.out.hc
    go_upto_if 18 with (go_at_call 10; refine (rValidCost_any _ _ _ _ _ _).mono ?_; rintro z w3 ⟨rfl, hb3⟩; have HB3 := Lib.hid hb3; clear hb3)
    have M3 := Lib.hid (M2.out.below HB3.out)
    clear HB3 M2 u0 u1 u2 u3 u4 u5
    go_cut [10] (fun s10 wx => s10 = .int .i64 val ∧ Hid (MW w a b c d p q r s x wx))
    case first =>
      by_cases hk : okC p q r s x = true
      · have hv := HV1.out hk
        have hm : okM 99 p q r s = true := by rw [okC_iff] at hk; rw [okM_iff]; omega
        have hs : IntKind.i64.wrap (p + q + r + s + x) = val := by rw [hv]; exact IntWalk.i64_in _ (by rw [okC_iff] at hk; omega)
        have HW := Lib.hid hs
        have HS := fun w => rSum_any p q r s w hm
        clear hv hm hs
        rw [hk]
        go_wp2_with fail
        have M' := M3.out.drew
        obtain ⟨u0, u1, u2, u3, u4, u5⟩ := five M3.out.hc
        go_region_held3 (fun w' => w'.cell? ⟨w.heap.size + 1, 0, none⟩ = some (.int .i64 p) ∧ w'.cell? ⟨w.heap.size + 1, 1, none⟩ = some (.int .i64 q) ∧ w'.cell? ⟨w.heap.size + 1, 2, none⟩ = some (.int .i64 r) ∧ w'.cell? ⟨w.heap.size + 1, 3, none⟩ = some (.int .i64 s) ∧ w'.cell? ⟨w.heap.size + 1, 4, none⟩ = some (.int .i64 x) ∧ MW w a b c d p q r s x w') (first | assumption | (refine ⟨?_, ?_, ?_, ?_, ?_, ?_⟩ <;> first | assumption | go_keep)) (first | (go_at_call 9; (with_reducible refine (HS _).mono ?_); rintro z wa ⟨rfl, hbwa⟩; have Mwa := M'.below hbwa; clear hbwa; obtain ⟨u0, u1, u2, u3, u4, u5⟩ := five Mwa.hc))
        all_goals
          go_wp2_with fail
          go_meet
          case rel => exact ⟨by rw [HW.out], Lib.hid Mwa⟩
      · have hk : okC p q r s x = false := by simpa using hk
        have h0 := HV0.out hk
        have H0 := Lib.hid h0
        clear h0
        rw [hk]
        go_wp2_with fail
        go_meet
        case rel => exact ⟨by rw [H0.out], M3⟩
    case rest =>
      obtain ⟨rfl, M4⟩ := hcut
      clear M3 HV1 HV0
      obtain ⟨t0, t1, t2, t3, t5⟩ := four M4.out.hm
      go_wp2_with fail
      refine (HRA _).mono ?_; rintro z w5 ⟨rfl, hb5⟩
      have M5 := M4.out.below hb5
      clear hb5 M4 HRA t0 t1 t2 t3 t5
      obtain ⟨w6, hw6⟩ : ∃ w6, w6 = w5.alloc (.cells #[.int .i64 e, .int .i64 f, .int .i64 g, .int .i64 h] 23) := ⟨_, rfl⟩
      have M6 : MW w a b c d p q r s x w6 := by rw [hw6]; exact M5.alloc _
      have V6 : has w6 w5.heap.size 23 [.int .i64 e, .int .i64 f, .int .i64 g, .int .i64 h] := by rw [hw6]; exact new0 w5 _ _
      have HW := Lib.hid hw6
      clear hw6
      go_wp2_with fail
      rw [← HW.out]
      obtain ⟨t0, t1, t2, t3, t5⟩ := four M6.hm
      obtain ⟨u0, u1, u2, u3, u4, u5⟩ := five M6.hc
      obtain ⟨v0, v1, v2, v3, v5⟩ := four V6
      have M' := M6.drew
      have V' : has w6.drew w5.heap.size 23 [.int .i64 e, .int .i64 f, .int .i64 g, .int .i64 h] := V6
      go_region_held3 (fun w' => w'.cell? ⟨w.heap.size, 0, none⟩ = some (.int .i64 a) ∧ w'.cell? ⟨w.heap.size, 1, none⟩ = some (.int .i64 b) ∧ w'.cell? ⟨w.heap.size, 2, none⟩ = some (.int .i64 c) ∧ w'.cell? ⟨w.heap.size, 3, none⟩ = some (.int .i64 d) ∧ w'.cell? ⟨w.heap.size + 1, 0, none⟩ = some (.int .i64 p) ∧ w'.cell? ⟨w.heap.size + 1, 1, none⟩ = some (.int .i64 q) ∧ w'.cell? ⟨w.heap.size + 1, 2, none⟩ = some (.int .i64 r) ∧ w'.cell? ⟨w.heap.size + 1, 3, none⟩ = some (.int .i64 s) ∧ w'.cell? ⟨w.heap.size + 1, 4, none⟩ = some (.int .i64 x) ∧ w'.cell? ⟨w5.heap.size, 0, none⟩ = some (.int .i64 e) ∧ w'.cell? ⟨w5.heap.size, 1, none⟩ = some (.int .i64 f) ∧ w'.cell? ⟨w5.heap.size, 2, none⟩ = some (.int .i64 g) ∧ w'.cell? ⟨w5.heap.size, 3, none⟩ = some (.int .i64 h) ∧ MW w a b c d p q r s x w' ∧ has w' w5.heap.size 23 [.int .i64 e, .int .i64 f, .int .i64 g, .int .i64 h]) (first | assumption | (refine ⟨?_, ?_, ?_, ?_, ?_, ?_, ?_, ?_, ?_, ?_, ?_, ?_, ?_, ?_, ?_⟩ <;> first | assumption | go_keep)) (first | (go_at_call 12; (with_reducible refine (Valid_any _ _ _ _ _).mono ?_); rintro z wa ⟨rfl, hbwa⟩; have Mwa := M'.below hbwa; have Vwa := V'.below hbwa V'.lt; clear hbwa; obtain ⟨t0, t1, t2, t3, t5⟩ := four Mwa.hm; obtain ⟨u0, u1, u2, u3, u4, u5⟩ := five Mwa.hc; obtain ⟨v0, v1, v2, v3, v5⟩ := four Vwa) | (go_at_call 8; (with_reducible refine (rValid_any _ _ _ _ _).mono ?_); rintro z wb ⟨rfl, hbwb⟩; have Mwb := Mwa.below hbwb; have Vwb := Vwa.below hbwb Vwa.lt; clear hbwb; obtain ⟨t0, t1, t2, t3, t5⟩ := four Mwb.hm; obtain ⟨u0, u1, u2, u3, u4, u5⟩ := five Mwb.hc; obtain ⟨v0, v1, v2, v3, v5⟩ := four Vwb) | (go_at_call 13; (with_reducible refine (ValidCost_any _ _ _ _ _ _).mono ?_); rintro z wc ⟨rfl, hbwc⟩; have Mwc := Mwb.below hbwc; have Vwc := Vwb.below hbwc Vwb.lt; clear hbwc; obtain ⟨t0, t1, t2, t3, t5⟩ := four Mwc.hm; obtain ⟨u0, u1, u2, u3, u4, u5⟩ := five Mwc.hc; obtain ⟨v0, v1, v2, v3, v5⟩ := four Vwc) | (go_at_call 10; (with_reducible refine (rValidCost_any _ _ _ _ _ _).mono ?_); rintro z wd ⟨rfl, hbwd⟩; have Mwd := Mwc.below hbwd; have Vwd := Vwc.below hbwd Vwc.lt; clear hbwd; obtain ⟨t0, t1, t2, t3, t5⟩ := four Mwd.hm; obtain ⟨u0, u1, u2, u3, u4, u5⟩ := five Mwd.hc; obtain ⟨v0, v1, v2, v3, v5⟩ := four Vwd) | (go_at_call 14; (with_reducible refine (HT _).mono ?_); rintro z we ⟨rfl, hbwe⟩; have Mwe := Mwd.below hbwe; have Vwe := Vwd.below hbwe Vwd.lt; clear hbwe; obtain ⟨t0, t1, t2, t3, t5⟩ := four Mwe.hm; obtain ⟨u0, u1, u2, u3, u4, u5⟩ := five Mwe.hc; obtain ⟨v0, v1, v2, v3, v5⟩ := four Vwe) | (go_at_call 15; (with_reducible refine (HV _).mono ?_); rintro z wf ⟨rfl, hbwf⟩; have Mwf := Mwe.below hbwf; have Vwf := Vwe.below hbwf Vwe.lt; clear hbwf; obtain ⟨t0, t1, t2, t3, t5⟩ := four Mwf.hm; obtain ⟨u0, u1, u2, u3, u4, u5⟩ := five Mwf.hc; obtain ⟨v0, v1, v2, v3, v5⟩ := four Vwf) | (go_at_call 16; (with_reducible refine (HA _).mono ?_); rintro z wg ⟨rfl, hbwg⟩; have Mwg := Mwf.below hbwg; have Vwg := Vwf.below hbwg Vwf.lt; clear hbwg; obtain ⟨t0, t1, t2, t3, t5⟩ := four Mwg.hm; obtain ⟨u0, u1, u2, u3, u4, u5⟩ := five Mwg.hc; obtain ⟨v0, v1, v2, v3, v5⟩ := four Vwg) | (go_at_call 17; (with_reducible refine (known_true _ (HE.out.below Mwg.hb)).mono ?_); rintro z wh ⟨rfl, hbwh⟩; have Mwh := Mwg.below hbwh; have Vwh := Vwg.below hbwh Vwg.lt; clear hbwh; obtain ⟨t0, t1, t2, t3, t5⟩ := four Mwh.hm; obtain ⟨u0, u1, u2, u3, u4, u5⟩ := five Mwh.hc; obtain ⟨v0, v1, v2, v3, v5⟩ := four Vwh))
      all_goals
        go_wp2_with fail
        go_ret
        exact ⟨rfl, Mwh.hb⟩

end Go.Proofs.YthnndmojijnbnaaDoor.maFn
