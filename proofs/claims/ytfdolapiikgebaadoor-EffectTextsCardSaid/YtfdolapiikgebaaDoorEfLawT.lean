/- The law EffectTexts. -/
import Derived.Test.YtfdolapiikgebaaDoorEfLawE
import Derived.Deep.RegionHeld3
namespace Go.Proofs.YtfdolapiikgebaaDoor.efFn
open Go.ChangeShapes Go.WideShapes Go.ChangeAt Go.RowKit drMem
set_option linter.unusedVariables false

theorem paZ_yes {l : List UInt8} (h : isTx l) : paZ l = (cand l, 0) := if_pos h
theorem paZ_no {l : List UInt8} (h : ¬ isTx l) : paZ l = (⟨0, 0, 0, 0, 0⟩, 6) := if_neg h
theorem rpaZ_yes {l : List UInt8} (h : isTx l) : rpaZ l = (cand l, true) := if_pos h
theorem rpaZ_no {l : List UInt8} (h : ¬ isTx l) : rpaZ l = (⟨0, 0, 0, 0, 0⟩, false) := if_neg h
set_option maxRecDepth 100000 in
set_option maxHeartbeats 4000000 in
theorem Texts_law (x : Ef) (l : List UInt8) (w : World) (hG : G w) (hl : l.length ≤ 9223372036854775807) :
    Calls Tryd.prog 7 #[x.v, .string (bs l)] w (lawPost w) := by
  have HG := Lib.hid hG
  clear hG
  obtain ⟨xc, xt, xn, xm, xk⟩ := x
  have hsz := bs_size l
  by_cases h60 : l.length ≤ 60
  · have hl60 := h60
    have M0 : has (w.alloc (.cells #[.int .i64 xc, .int .i64 xt, .int .i64 xn, .int .i64 xm, .int .i64 xk] 28)) w.heap.size 28 (eL xc xt xn xm xk) := new0 w 28 (eL xc xt xn xm xk)
    have B0 : Below w.heap.size w (w.alloc (.cells #[.int .i64 xc, .int .i64 xt, .int .i64 xn, .int .i64 xm, .int .i64 xk] 28)) := (Below.refl _ _).alloc (Nat.le_refl _) _
    have HV := rValid_any xc xt xn xm xk
    cases hok : okE xc xt xn xm xk
    · rw [hok] at HV
      have HT := fun w h => texts_any ⟨xc, xt, xn, xm, xk⟩ [] 2 w h
      rw [txZ_no (e := ⟨xc, xt, xn, xm, xk⟩) hok, decide_eq_true rfl] at HT
      clear hok
      obtain ⟨u0, u1, u2, u3, u4, u5⟩ := five M0
      go_enter Tryd.func7, Tryd.ntmps7
      go_wp2_with fail
      refine (HV _).mono ?_; rintro e w1 ⟨rfl, hb1⟩
      have M1 := M0.below hb1 M0.lt
      have HB := Lib.hid (next B0 hb1)
      clear hb1 u0 u1 u2 u3 u4 u5 B0 M0 HV
      obtain ⟨u0, u1, u2, u3, u4, u5⟩ := five M1
      go_wp2_with fail
      refine (HT _ (HG.out.below HB.out)).mono ?_; rintro e w2 ⟨rfl, hb2⟩
      have HB := Lib.hid (next HB.out hb2)
      clear hb2 u0 u1 u2 u3 u4 u5 M1 HT
      have HRP := rParse_all l
      by_cases htx : isTx l
      · have HP := fun w h => parses_any l (cand l) 0 w h (by omega)
        rw [paZ_yes htx, decide_eq_true rfl] at HP
        rw [rpaZ_yes htx] at HRP
        generalize cand l = y at HP HRP
        obtain ⟨yc, yt, yn, ym, yk⟩ := y
        clear htx
        go_wp2_with fail
        refine (HRP _).mono ?_; rintro e wP ⟨rfl, hbP⟩
        have BP := next HB.out hbP
        have HBP := Lib.hid BP
        clear hbP HRP
        have MS : has (wP.alloc (.cells #[.int .i64 yc, .int .i64 yt, .int .i64 yn, .int .i64 ym, .int .i64 yk] 28)) wP.heap.size 28 (eL yc yt yn ym yk) := new0 wP 28 (eL yc yt yn ym yk)
        have BS : Below w.heap.size w (wP.alloc (.cells #[.int .i64 yc, .int .i64 yt, .int .i64 yn, .int .i64 ym, .int .i64 yk] 28)) := BP.alloc BP.size _
        have HMS := Lib.hid MS
        have HBS := Lib.hid BS
        obtain ⟨s0, s1, s2, s3, s4, s5⟩ := five MS
        clear MS BS BP
        go_wp2_with fail
        refine (HP _ (HG.out.below HBS.out)).mono ?_; rintro e wQ ⟨rfl, hbQ⟩
        have HBQ := Lib.hid (next HBS.out hbQ)
        clear hbQ HP
        go_wp2_with fail
        refine (known_any _ (HG.out.below HBQ.out)).mono ?_; rintro e wR ⟨rfl, hbR⟩
        have HBR := Lib.hid (next HBQ.out hbR)
        clear hbR
        go_wp2_with fail
        go_ret
        exact ⟨rfl, HBR.out⟩
      · have HP := fun w h => parses_any l ⟨0, 0, 0, 0, 0⟩ 6 w h (by omega)
        rw [paZ_no htx, decide_eq_true rfl] at HP
        rw [rpaZ_no htx] at HRP
        clear htx
        go_wp2_with fail
        refine (HRP _).mono ?_; rintro e wP ⟨rfl, hbP⟩
        have BP := next HB.out hbP
        have HBP := Lib.hid BP
        clear hbP HRP
        have MS : has (wP.alloc (.cells #[.int .i64 0, .int .i64 0, .int .i64 0, .int .i64 0, .int .i64 0] 28)) wP.heap.size 28 (eL 0 0 0 0 0) := new0 wP 28 (eL 0 0 0 0 0)
        have BS : Below w.heap.size w (wP.alloc (.cells #[.int .i64 0, .int .i64 0, .int .i64 0, .int .i64 0, .int .i64 0] 28)) := BP.alloc BP.size _
        have HMS := Lib.hid MS
        have HBS := Lib.hid BS
        clear MS BS BP
        go_wp2_with fail
        refine (HP _ (HG.out.below HBS.out)).mono ?_; rintro e wQ ⟨rfl, hbQ⟩
        have HBQ := Lib.hid (next HBS.out hbQ)
        clear hbQ HP
        go_wp2_with fail
        refine (known_any _ (HG.out.below HBQ.out)).mono ?_; rintro e wR ⟨rfl, hbR⟩
        have HBR := Lib.hid (next HBQ.out hbR)
        clear hbR
        go_wp2_with fail
        go_ret
        exact ⟨rfl, HBR.out⟩
    · rw [hok] at HV
      have HTX := fun w => rText_yes ⟨xc, xt, xn, xm, xk⟩ w hok
      have HT := fun w h => texts_any ⟨xc, xt, xn, xm, xk⟩ (textE ⟨xc, xt, xn, xm, xk⟩) 0 w h
      rw [txZ_yes (e := ⟨xc, xt, xn, xm, xk⟩) hok, decide_eq_true rfl] at HT
      generalize textE ⟨xc, xt, xn, xm, xk⟩ = TT at HTX HT
      replace HTX : ∀ w : World, Calls Tryd.prog 21 #[eV xc xt xn xm xk] w fun r w' => r = .returned (.string (bs TT)) ∧ Below w.heap.size w w' := HTX
      replace HT : ∀ w : World, G w → Calls Tryd.prog 20 #[eV xc xt xn xm xk, .string (bs TT), .int .i64 0] w fun r w' => r = .returned (.bool true) ∧ Below w.heap.size w w' := HT
      clear hok
      obtain ⟨u0, u1, u2, u3, u4, u5⟩ := five M0
      go_enter Tryd.func7, Tryd.ntmps7
      go_wp2_with fail
      refine (HV _).mono ?_; rintro e w1 ⟨rfl, hb1⟩
      have M1 := M0.below hb1 M0.lt
      have HB := Lib.hid (next B0 hb1)
      clear hb1 u0 u1 u2 u3 u4 u5 B0 M0 HV
      obtain ⟨u0, u1, u2, u3, u4, u5⟩ := five M1
      go_wp2_with fail
      have MD : has w1.drew w.heap.size 28 (eL xc xt xn xm xk) := M1
      have BD : Below w.heap.size w w1.drew := HB.out.drew
      clear HB M1
      go_region_held3 (fun w' => w'.cell? ⟨w.heap.size, 0, none⟩ = some (.int .i64 xc) ∧ w'.cell? ⟨w.heap.size, 1, none⟩ = some (.int .i64 xt) ∧ w'.cell? ⟨w.heap.size, 2, none⟩ = some (.int .i64 xn) ∧ w'.cell? ⟨w.heap.size, 3, none⟩ = some (.int .i64 xm) ∧ w'.cell? ⟨w.heap.size, 4, none⟩ = some (.int .i64 xk) ∧ Below w.heap.size w w') (first | assumption | (refine ⟨?_, ?_, ?_, ?_, ?_, ?_⟩ <;> first | assumption | go_keep)) (first | (go_at_call 21; (with_reducible refine (HTX _).mono ?_); rintro e wa ⟨rfl, hba⟩; have Ma := MD.below hba MD.lt; have Ba := next BD hba; clear hba; obtain ⟨u0, u1, u2, u3, u4, u5⟩ := five Ma) | (go_at_call 20; (with_reducible refine (HT _ (HG.out.below (by assumption))).mono ?_); rintro e wb ⟨rfl, hbb⟩; have Bb := next Ba hbb; have Mb := Ma.below hbb Ma.lt; clear hbb; obtain ⟨u0, u1, u2, u3, u4, u5⟩ := five Mb))
      all_goals
        have HB := Lib.hid Bb
        clear u0 u1 u2 u3 u4 u5 Ma Ba Mb Bb MD BD HT HTX
        have HRP := rParse_all l
        by_cases htx : isTx l
        · have HP := fun w h => parses_any l (cand l) 0 w h (by omega)
          rw [paZ_yes htx, decide_eq_true rfl] at HP
          rw [rpaZ_yes htx] at HRP
          generalize cand l = y at HP HRP
          obtain ⟨yc, yt, yn, ym, yk⟩ := y
          clear htx
          go_wp2_with fail
          refine (HRP _).mono ?_; rintro e wP ⟨rfl, hbP⟩
          have BP := next HB.out hbP
          have HBP := Lib.hid BP
          clear hbP HRP
          have MS : has (wP.alloc (.cells #[.int .i64 yc, .int .i64 yt, .int .i64 yn, .int .i64 ym, .int .i64 yk] 28)) wP.heap.size 28 (eL yc yt yn ym yk) := new0 wP 28 (eL yc yt yn ym yk)
          have BS : Below w.heap.size w (wP.alloc (.cells #[.int .i64 yc, .int .i64 yt, .int .i64 yn, .int .i64 ym, .int .i64 yk] 28)) := BP.alloc BP.size _
          have HMS := Lib.hid MS
          have HBS := Lib.hid BS
          obtain ⟨s0, s1, s2, s3, s4, s5⟩ := five MS
          clear MS BS BP
          go_wp2_with fail
          refine (HP _ (HG.out.below HBS.out)).mono ?_; rintro e wQ ⟨rfl, hbQ⟩
          have HBQ := Lib.hid (next HBS.out hbQ)
          clear hbQ HP
          go_wp2_with fail
          refine (known_any _ (HG.out.below HBQ.out)).mono ?_; rintro e wR ⟨rfl, hbR⟩
          have HBR := Lib.hid (next HBQ.out hbR)
          clear hbR
          go_wp2_with fail
          go_ret
          exact ⟨rfl, HBR.out⟩
        · have HP := fun w h => parses_any l ⟨0, 0, 0, 0, 0⟩ 6 w h (by omega)
          rw [paZ_no htx, decide_eq_true rfl] at HP
          rw [rpaZ_no htx] at HRP
          clear htx
          go_wp2_with fail
          refine (HRP _).mono ?_; rintro e wP ⟨rfl, hbP⟩
          have BP := next HB.out hbP
          have HBP := Lib.hid BP
          clear hbP HRP
          have MS : has (wP.alloc (.cells #[.int .i64 0, .int .i64 0, .int .i64 0, .int .i64 0, .int .i64 0] 28)) wP.heap.size 28 (eL 0 0 0 0 0) := new0 wP 28 (eL 0 0 0 0 0)
          have BS : Below w.heap.size w (wP.alloc (.cells #[.int .i64 0, .int .i64 0, .int .i64 0, .int .i64 0, .int .i64 0] 28)) := BP.alloc BP.size _
          have HMS := Lib.hid MS
          have HBS := Lib.hid BS
          clear MS BS BP
          go_wp2_with fail
          refine (HP _ (HG.out.below HBS.out)).mono ?_; rintro e wQ ⟨rfl, hbQ⟩
          have HBQ := Lib.hid (next HBS.out hbQ)
          clear hbQ HP
          go_wp2_with fail
          refine (known_any _ (HG.out.below HBQ.out)).mono ?_; rintro e wR ⟨rfl, hbR⟩
          have HBR := Lib.hid (next HBQ.out hbR)
          clear hbR
          go_wp2_with fail
          go_ret
          exact ⟨rfl, HBR.out⟩
  · have HK := known_any (w.alloc (.cells #[.int .i64 xc, .int .i64 xt, .int .i64 xn, .int .i64 xm, .int .i64 xk] 28)) (HG.out.below ((Below.refl _ _).alloc (Nat.le_refl _) _))
    go_enter Tryd.func7, Tryd.ntmps7
    go_wp2_with fail
    refine HK.mono ?_; rintro e w1 ⟨rfl, hb1⟩
    have HB := Lib.hid (next ((Below.refl _ _).alloc (Nat.le_refl _) _) hb1)
    clear hb1 HK
    go_wp2_with fail
    go_ret
    exact ⟨rfl, HB.out⟩
theorem Texts_row (x : Ef) (s : ByteArray) (w : World) (hG : G w) (hs : s.size ≤ maxLen) :
    Calls Tryd.prog 7 #[x.v, .string s] w (lawPost w) :=
  Texts_law x s.data.toList w hG (by have : s.size = s.data.toList.length := bs_size s.data.toList
                                     unfold maxLen at hs; omega)
end Go.Proofs.YtfdolapiikgebaaDoor.efFn
