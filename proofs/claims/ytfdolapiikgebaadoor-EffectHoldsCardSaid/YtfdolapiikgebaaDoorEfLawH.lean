/- The law EffectHolds. -/
import Derived.Test.YtfdolapiikgebaaDoorEfHBuf
import Derived.Test.YtfdolapiikgebaaDoorEfLawE
import Derived.Deep.RegionHeld3
namespace Go.Proofs.YtfdolapiikgebaaDoor.efFn
open Go.ChangeShapes Go.WideShapes Go.ChangeAt Go.RowKit drMem
set_option linter.unusedVariables false

theorem paZ_y {l : List UInt8} (h : isTx l) : paZ l = (cand l, 0) := if_pos h
theorem paZ_n {l : List UInt8} (h : ¬ isTx l) : paZ l = (⟨0, 0, 0, 0, 0⟩, 6) := if_neg h
set_option maxRecDepth 100000 in
set_option maxHeartbeats 16000000 in
theorem Holds_main (sp sq : Option Addr) (n cap nq cq : Nat) (l : List Ef) (lb st : List UInt8) (w : World) (hG : G w) (hE : EfsAt w sp n l) (hQ : BsAt w sq nq lb) (hcap : nq ≤ cq) (hnil : sq = none → nq = 0 ∧ cq = 0)
    (hn20 : n ≤ 20) (hq300 : nq ≤ 300) (hs60 : st.length ≤ 60) :
    Calls Tryd.prog 8 #[.slice sp n cap, .slice sq nq cq, .string (bs st)] w (lawPost w) := by
  obtain ⟨i0, hi, hz0, hz1, hz2⟩ := info_parts infoB
  have HI := Lib.hid hi
  have HG := Lib.hid hG
  have HE := Lib.hid hE
  have HQ := Lib.hid hQ
  have HNIL := Lib.hid hnil
  have hsz := bs_size st
  have hn := hE.n
  have hqn := hQ.n
  clear hG hE hQ hnil hi
  have HEN := Encode_any sp n cap l w HE.out
  have HA := fun W h => All_any sp n cap l W h
  cases ha : allB l
  · rw [encZ_no ha] at HEN
    have h0 : 0 < n := by
      rcases Nat.eq_zero_or_pos n with h | h
      · have hl : l = [] := List.eq_nil_of_length_eq_zero (by omega)
        rw [hl] at ha; cases ha
      · exact h
    rw [ha] at HA
    clear ha
    go_enter Tryd.func8, Tryd.ntmps8
    go_wp2_with fail
    refine HEN.mono ?_; rintro e w1 ⟨sr, nr, cr, rfl, hr, hb1⟩
    have HB := Lib.hid hb1
    clear hb1 HEN hr
    go_wp2_with fail
    refine (HA _ (HE.out.below HB.out (Nat.le_refl _))).mono ?_; rintro e w2 ⟨rfl, hb2⟩
    have HB := Lib.hid (next HB.out hb2)
    clear hb2 HA
    obtain ⟨b, off, hsp, hbl, hc⟩ := HE.out.c h0
    have C : Hid (∀ k, k < n → EfAt w b (off + k * 5) (l.getD k default)) := Lib.hid fun k hk => hc k _ (get_some (by omega))
    subst hsp
    clear hc
    go_wp2_with fail
    go_loopw [59] (fun i wr => ∃ k : Nat, k ≤ n ∧ i = .int .i64 k ∧ Hid (Below w.heap.size w wr)) (fun i _ => n - (intOf i).toNat)
    case atStart => exact ⟨0, Nat.zero_le _, rfl, HB⟩
    case round =>
      clear HB
      obtain ⟨k, hk, rfl, HB⟩ := hrel
      by_cases hlt : k < n
      · obtain ⟨c0, c1, c2, c3, c4⟩ := (C.out k hlt).below HB.out hbl
        generalize l.getD k default = x at *
        obtain ⟨xc, xt, xn, xm, xk⟩ := x
        dsimp only at c0 c1 c2 c3 c4
        have HT := fun w h => Text_any ⟨xc, xt, xn, xm, xk⟩ w h
        replace HT : ∀ w : World, G w → Calls Tryd.prog 25 #[eV xc xt xn xm xk] w fun r w' => r = .returned (.tuple #[.string (bs (txZ ⟨xc, xt, xn, xm, xk⟩).1), .int .i64 (txZ ⟨xc, xt, xn, xm, xk⟩).2]) ∧ Below w.heap.size w w' := HT
        have HV := Valid_any xc xt xn xm xk
        have MD : has (wr.alloc (.cells #[.int .i64 xc, .int .i64 xt, .int .i64 xn, .int .i64 xm, .int .i64 xk] 28)) wr.heap.size 28 (eL xc xt xn xm xk) := new0 wr 28 (eL xc xt xn xm xk)
        have HBD : Hid (Below w.heap.size w (wr.alloc (.cells #[.int .i64 xc, .int .i64 xt, .int .i64 xn, .int .i64 xm, .int .i64 xk] 28))) := Lib.hid (HB.out.alloc HB.out.size _)
        obtain ⟨u0, u1, u2, u3, u4, u5⟩ := five MD
        cases hok : okE xc xt xn xm xk
        · rw [txZ_no (e := ⟨xc, xt, xn, xm, xk⟩) hok] at HT
          rw [hok] at HV
          clear hok
          go_wp2_with fail
          refine (HT _ (HG.out.below HBD.out)).mono ?_; rintro e w1 ⟨rfl, hb1⟩
          have HB := Lib.hid (next HBD.out hb1)
          have M1 := MD.below hb1 MD.lt
          clear hb1 HT MD u0 u1 u2 u3 u4 u5 c0 c1 c2 c3 c4 HBD
          obtain ⟨u0, u1, u2, u3, u4, u5⟩ := five M1
          go_wp2_with fail
          refine (HV _).mono ?_; rintro e w2 ⟨rfl, hb2⟩
          have HB := Lib.hid (next HB.out hb2)
          clear hb2 HV M1 u0 u1 u2 u3 u4 u5
          go_wp2_with fail
          exact ⟨⟨k + 1, by omega, by go_num, HB⟩, by simp [intOf]; omega⟩
        · rw [txZ_yes (e := ⟨xc, xt, xn, xm, xk⟩) hok] at HT
          rw [hok] at HV
          obtain ⟨b0, b1, b2, b3, b4, b5, b6, b7, b8, b9⟩ := ok_bd (e := ⟨xc, xt, xn, xm, xk⟩) hok
          dsimp only at b4 b5 b6 b7
          have m1 : decide (xn < 0) = false := decide_eq_false (by omega)
          have m2 : decide (99 < xn) = false := decide_eq_false (by omega)
          have m3 : decide (xm < 0) = false := decide_eq_false (by omega)
          have m4 : decide (99 < xm) = false := decide_eq_false (by omega)
          clear b0 b1 b2 b3 b4 b5 b6 b7 b8 b9
          have HP := fun w h => parses_any (textE ⟨xc, xt, xn, xm, xk⟩) ⟨xc, xt, xn, xm, xk⟩ 0 w h (textE_len _)
          rw [pa_text (e := ⟨xc, xt, xn, xm, xk⟩) hok, decide_eq_true rfl] at HP
          generalize textE ⟨xc, xt, xn, xm, xk⟩ = TT at HT HP
          replace HP : ∀ w : World, G w → Calls Tryd.prog 23 #[.string (bs TT), eV xc xt xn xm xk, .int .i64 0] w fun r w' => r = .returned (.bool true) ∧ Below w.heap.size w w' := HP
          clear hok
          go_wp2_with fail
          refine (HT _ (HG.out.below HBD.out)).mono ?_; rintro e w1 ⟨rfl, hb1⟩
          have HB := Lib.hid (next HBD.out hb1)
          have M1 := MD.below hb1 MD.lt
          clear hb1 HT MD u0 u1 u2 u3 u4 u5 c0 c1 c2 c3 c4 HBD
          obtain ⟨u0, u1, u2, u3, u4, u5⟩ := five M1
          go_wp2_with fail
          refine (HV _).mono ?_; rintro e w2 ⟨rfl, hb2⟩
          have HB := Lib.hid (next HB.out hb2)
          have M2 := M1.below hb2 M1.lt
          clear hb2 HV M1 u0 u1 u2 u3 u4 u5
          obtain ⟨u0, u1, u2, u3, u4, u5⟩ := five M2
          go_wp2_with fail
          refine (HP _ (HG.out.below HB.out)).mono ?_; rintro e w3 ⟨rfl, hb3⟩
          have HB := Lib.hid (next HB.out hb3)
          have M3 := M2.below hb3 M2.lt
          clear hb3 HP M2 u0 u1 u2 u3 u4 u5
          obtain ⟨u0, u1, u2, u3, u4, u5⟩ := five M3
          go_wp2_with fail
          exact ⟨⟨k + 1, by omega, by go_num, HB⟩, by simp [intOf]; omega⟩
      · obtain rfl : k = n := by omega
        clear C
        have HD := fun W h => Decode_any sq nq cq lb W h hcap
        by_cases he : (decR lb).2.2 = 0
        · obtain ⟨N, hN4, e1, e2, e3⟩ := enc_dec he
          have HX : ∀ (sr : Option Addr) (cr : Nat) (W : World), Below w.heap.size w W → EfsAt W sr (decR lb).1.length (decR lb).1 → Calls Tryd.prog 16 #[.slice sr (decR lb).1.length cr, .slice sq (1 + 5 * N) cq, .int .i64 0] W fun e w' => e = .returned (.bool true) ∧ Below W.heap.size W w' := fun sr cr W hb hr => by
            have := encodes_any sr sq (decR lb).1.length cr (1 + 5 * N) cq (decR lb).1 (lb.take (1 + 5 * N)) 0 W hr ((HQ.out.below hb (Nat.le_refl _)).take _ (by omega))
            rw [e3, decide_eq_true rfl] at this
            exact this
          generalize decR lb = z at *
          obtain ⟨za, zb, zc⟩ := z
          unfold decPost at HD
          dsimp only at he e1 HD HX
          subst he
          subst e1
          obtain ⟨P, hP⟩ : ∃ P, P = 1 + 5 * N := ⟨_, rfl⟩
          rw [← hP] at HD HX
          replace HD : ∀ W : World, BsAt W sq nq lb → Calls Tryd.prog 26 #[.slice sq nq cq] W fun e w' => ∃ sr cr, e = .returned (.tuple #[.slice sr za.length cr, .int .i64 (P : Int), .int .i64 0]) ∧ EfsAt w' sr za.length za ∧ Below W.heap.size W w' := HD
          obtain ⟨qb, qo, hsq⟩ : ∃ b o, sq = some (⟨b, o, none⟩ : Addr) := by
            obtain ⟨b, o, h, _⟩ := HQ.out.c (by rw [bys_len]; omega)
            exact ⟨b, o, h⟩
          have hPq : P ≤ nq := by omega
          have hPc : P ≤ cq := by omega
          have hgt : decide ((nq : Int) < (P : Int)) = false := decide_eq_false (by omega)
          clear e2 e3 hP hN4
          subst hsq
          go_wp2_with fail
          refine (HD _ (HQ.out.below HB.out (Nat.le_refl _))).mono ?_; rintro e wD ⟨sr, cr, rfl, hr, hbD⟩
          have HB := Lib.hid (next HB.out hbD)
          have HX2 := HX sr cr wD HB.out hr
          clear hbD HD HX hr
          go_wp2_with fail
          refine HX2.mono ?_; rintro e wE ⟨rfl, hbE⟩
          have HB := Lib.hid (next HB.out hbE)
          clear hbE HX2
          have HP := fun w h => Parse_all st w h (by omega)
          by_cases htx : isTx st
          · rw [paZ_y htx] at HP
            have HT := fun w h => texts_any (cand st) st 0 w h
            rw [tx_parse htx, decide_eq_true rfl] at HT
            generalize cand st = y at HP HT
            obtain ⟨yc, yt, yn, ym, yk⟩ := y
            clear htx
            go_wp2_with fail
            refine (HP _ (HG.out.below HB.out)).mono ?_; rintro e wP ⟨rfl, hbP⟩
            have BP := next HB.out hbP
            have MS : has (wP.alloc (.cells #[.int .i64 yc, .int .i64 yt, .int .i64 yn, .int .i64 ym, .int .i64 yk] 28)) wP.heap.size 28 (eL yc yt yn ym yk) := new0 wP 28 (eL yc yt yn ym yk)
            have HBS : Hid (Below w.heap.size w (wP.alloc (.cells #[.int .i64 yc, .int .i64 yt, .int .i64 yn, .int .i64 ym, .int .i64 yk] 28))) := Lib.hid (BP.alloc BP.size _)
            obtain ⟨s0, s1, s2, s3, s4, s5⟩ := five MS
            clear hbP HP BP MS
            go_wp2_with fail
            refine (HT _ (HG.out.below HBS.out)).mono ?_; rintro e wQ ⟨rfl, hbQ⟩
            have HB := Lib.hid (next HBS.out hbQ)
            clear hbQ HT s0 s1 s2 s3 s4 s5
            go_wp2_with fail
            refine (known_any _ (HG.out.below HB.out)).mono ?_; rintro e wR ⟨rfl, hbR⟩
            have HB := Lib.hid (next HB.out hbR)
            clear hbR
            go_wp2_with fail
            go_ret
            exact ⟨rfl, HB.out⟩
          · rw [paZ_n htx] at HP
            clear htx
            go_wp2_with fail
            refine (HP _ (HG.out.below HB.out)).mono ?_; rintro e wP ⟨rfl, hbP⟩
            have BP := next HB.out hbP
            have HB : Hid (Below w.heap.size w (wP.alloc (.cells #[.int .i64 0, .int .i64 0, .int .i64 0, .int .i64 0, .int .i64 0] 28))) := Lib.hid (BP.alloc BP.size _)
            clear hbP HP BP
            go_wp2_with fail
            refine (known_any _ (HG.out.below HB.out)).mono ?_; rintro e wR ⟨rfl, hbR⟩
            have HB := Lib.hid (next HB.out hbR)
            clear hbR
            go_wp2_with fail
            go_ret
            exact ⟨rfl, HB.out⟩
        · generalize decR lb = z at *
          obtain ⟨za, zb, zc⟩ := z
          unfold decPost at HD
          dsimp only at he HD
          have hne : ((zc : Int) == 0) = false := by simpa using he
          clear he
          go_wp2_with fail
          refine (HD _ (HQ.out.below HB.out (Nat.le_refl _))).mono ?_; rintro e wD ⟨sr, cr, rfl, hr, hbD⟩
          have HB := Lib.hid (next HB.out hbD)
          clear hbD HD hr
          have HP := fun w h => Parse_all st w h (by omega)
          by_cases htx : isTx st
          · rw [paZ_y htx] at HP
            have HT := fun w h => texts_any (cand st) st 0 w h
            rw [tx_parse htx, decide_eq_true rfl] at HT
            generalize cand st = y at HP HT
            obtain ⟨yc, yt, yn, ym, yk⟩ := y
            clear htx
            go_wp2_with fail
            refine (HP _ (HG.out.below HB.out)).mono ?_; rintro e wP ⟨rfl, hbP⟩
            have BP := next HB.out hbP
            have MS : has (wP.alloc (.cells #[.int .i64 yc, .int .i64 yt, .int .i64 yn, .int .i64 ym, .int .i64 yk] 28)) wP.heap.size 28 (eL yc yt yn ym yk) := new0 wP 28 (eL yc yt yn ym yk)
            have HBS : Hid (Below w.heap.size w (wP.alloc (.cells #[.int .i64 yc, .int .i64 yt, .int .i64 yn, .int .i64 ym, .int .i64 yk] 28))) := Lib.hid (BP.alloc BP.size _)
            obtain ⟨s0, s1, s2, s3, s4, s5⟩ := five MS
            clear hbP HP BP MS
            go_wp2_with fail
            refine (HT _ (HG.out.below HBS.out)).mono ?_; rintro e wQ ⟨rfl, hbQ⟩
            have HB := Lib.hid (next HBS.out hbQ)
            clear hbQ HT s0 s1 s2 s3 s4 s5
            go_wp2_with fail
            refine (known_any _ (HG.out.below HB.out)).mono ?_; rintro e wR ⟨rfl, hbR⟩
            have HB := Lib.hid (next HB.out hbR)
            clear hbR
            go_wp2_with fail
            go_ret
            exact ⟨rfl, HB.out⟩
          · rw [paZ_n htx] at HP
            clear htx
            go_wp2_with fail
            refine (HP _ (HG.out.below HB.out)).mono ?_; rintro e wP ⟨rfl, hbP⟩
            have BP := next HB.out hbP
            have HB : Hid (Below w.heap.size w (wP.alloc (.cells #[.int .i64 0, .int .i64 0, .int .i64 0, .int .i64 0, .int .i64 0] 28))) := Lib.hid (BP.alloc BP.size _)
            clear hbP HP BP
            go_wp2_with fail
            refine (known_any _ (HG.out.below HB.out)).mono ?_; rintro e wR ⟨rfl, hbR⟩
            have HB := Lib.hid (next HB.out hbR)
            clear hbR
            go_wp2_with fail
            go_ret
            exact ⟨rfl, HB.out⟩
  · rw [encZ_yes ha] at HEN
    have HDX := dec_enc lb ha
    rw [ha] at HA
    have h4 := (all_bd ha).1
    clear ha
    go_enter Tryd.func8, Tryd.ntmps8
    go_wp2_with fail
    refine HEN.mono ?_; rintro e w1 ⟨sr, nr, cr, rfl, hr, hb1⟩
    have hrn := hr.n
    rw [encB_len] at hrn
    obtain ⟨xb, xo, rfl, _, _⟩ := hr.c (by rw [bys_len, encB_len]; omega)
    have HB := Lib.hid hb1
    clear hb1 HEN
    go_wp2_with fail
    refine (HA _ (HE.out.below HB.out (Nat.le_refl _))).mono ?_; rintro e w2 ⟨rfl, hb2⟩
    have HR := Lib.hid (hr.below hb2 (Nat.le_refl _))
    have HB := Lib.hid (next HB.out hb2)
    clear hb2 HA hr
    have z2 := HB.out.size
    generalize hrl : encB l = rl at *
    have hrl2 : rl.length = nr := HR.out.n
    go_wp2_with (first | (at_builtin; refine wpList_app (by rfl) _ _ 36 rfl w.heap.size 5 i0 (.int .u8 0) 1 Tryd.underlying36 HI.out hz0 hz1 hz2 rfl (.slice none 0 0) 0 [] rfl (World.ownsRow_nil _ _ _ _) (some ⟨xb, xo, none⟩) nr cr (bys rl) rfl (by intro h; cases h) (by rw [bys_len]; exact hrl2) HR.out.c (bys_one rl) (by unfold maxLen; omega) (by omega) z2 ?_; intro v3 w3 hown hgrow; have B3 := below_own HB.out (World.ownsRow_nil _ _ 5 1) hgrow z2; have O3 : w3.ownsRow w.heap.size 5 1 v3 nr (bys rl) := (by simpa using hown); have HO3 := Lib.hid O3; have HB3 := Lib.hid B3; have z3 := B3.size; clear hown hgrow O3 B3) | (at_builtin; refine wpList_app (by rfl) _ _ 36 rfl w.heap.size 5 i0 (.int .u8 0) 1 Tryd.underlying36 HI.out hz0 hz1 hz2 rfl v3 nr (bys rl) rfl HO3.out sq nq cq (bys lb) rfl HNIL.out (by rw [bys_len]; exact hqn) (HQ.out.below HB3.out (Nat.le_refl _)).c (bys_one lb) (by unfold maxLen; omega) (by omega) z3 ?_; intro v4 w4 hown hgrow; have B4 := below_own HB3.out HO3.out hgrow z3; have HO4 := Lib.hid hown; have HB4 := Lib.hid B4; clear hown hgrow B4; obtain ⟨sv, cv, rfl, hsv, hcv, _, _⟩ := own_form HO4.out; have HSV := Lib.hid hsv; clear hsv))
    have HBT : BsAt w4 sv (nr + nq) (rl ++ lb) := by
      have hbb : bys rl ++ bys lb = bys (rl ++ lb) := by simp [bys]
      have h5 := BsAt.of_src (l := rl ++ lb) (hbb ▸ HSV.out) (by rw [List.length_append]; omega)
      rw [List.length_append, hrl2, hqn] at h5
      exact h5
    have HDC := decodes_any sv sp (nr + nq) cv n cap (rl ++ lb) l (nr : Int) 0 w4 HBT hcv (HE.out.below HB4.out (Nat.le_refl _))
    rw [HDX, decide_eq_true ⟨rfl, by show ((1 + 5 * l.length : Nat) : Int) = (nr : Int); omega, rfl⟩] at HDC
    refine HDC.mono ?_; rintro e w5 ⟨rfl, hb5⟩
    have HB := Lib.hid (next HB4.out hb5)
    clear hb5 HDC HBT HDX HSV HO4 HB4 HO3 HB3 HR hrn hrl2 h4 hrl z2 z3 hcv hz0 hz1 hz2 HI
    rcases Nat.eq_zero_or_pos n with h0 | h0
    · clear hn
      subst h0
      go_wp2_with fail
      refine wp_loop_rounds 1 ?_
      rw [rounds_succ]
      have HD := fun W h => Decode_any sq nq cq lb W h hcap
      by_cases he : (decR lb).2.2 = 0
      · obtain ⟨N, hN4, e1, e2, e3⟩ := enc_dec he
        have HX : ∀ (sr : Option Addr) (cr : Nat) (W : World), Below w.heap.size w W → EfsAt W sr (decR lb).1.length (decR lb).1 → Calls Tryd.prog 16 #[.slice sr (decR lb).1.length cr, .slice sq (1 + 5 * N) cq, .int .i64 0] W fun e w' => e = .returned (.bool true) ∧ Below W.heap.size W w' := fun sr cr W hb hr => by
          have := encodes_any sr sq (decR lb).1.length cr (1 + 5 * N) cq (decR lb).1 (lb.take (1 + 5 * N)) 0 W hr ((HQ.out.below hb (Nat.le_refl _)).take _ (by omega))
          rw [e3, decide_eq_true rfl] at this
          exact this
        generalize decR lb = z at *
        obtain ⟨za, zb, zc⟩ := z
        unfold decPost at HD
        dsimp only at he e1 HD HX
        subst he
        subst e1
        obtain ⟨P, hP⟩ : ∃ P, P = 1 + 5 * N := ⟨_, rfl⟩
        rw [← hP] at HD HX
        replace HD : ∀ W : World, BsAt W sq nq lb → Calls Tryd.prog 26 #[.slice sq nq cq] W fun e w' => ∃ sr cr, e = .returned (.tuple #[.slice sr za.length cr, .int .i64 (P : Int), .int .i64 0]) ∧ EfsAt w' sr za.length za ∧ Below W.heap.size W w' := HD
        obtain ⟨qb, qo, hsq⟩ : ∃ b o, sq = some (⟨b, o, none⟩ : Addr) := by
          obtain ⟨b, o, h, _⟩ := HQ.out.c (by rw [bys_len]; omega)
          exact ⟨b, o, h⟩
        have hPq : P ≤ nq := by omega
        have hPc : P ≤ cq := by omega
        have hgt : decide ((nq : Int) < (P : Int)) = false := decide_eq_false (by omega)
        clear e2 e3 hP hN4
        subst hsq
        go_wp2_with fail
        refine (HD _ (HQ.out.below HB.out (Nat.le_refl _))).mono ?_; rintro e wD ⟨sr, cr, rfl, hr, hbD⟩
        have HB := Lib.hid (next HB.out hbD)
        have HX2 := HX sr cr wD HB.out hr
        clear hbD HD HX hr
        go_wp2_with fail
        refine HX2.mono ?_; rintro e wE ⟨rfl, hbE⟩
        have HB := Lib.hid (next HB.out hbE)
        clear hbE HX2
        have HP := fun w h => Parse_all st w h (by omega)
        by_cases htx : isTx st
        · rw [paZ_y htx] at HP
          have HT := fun w h => texts_any (cand st) st 0 w h
          rw [tx_parse htx, decide_eq_true rfl] at HT
          generalize cand st = y at HP HT
          obtain ⟨yc, yt, yn, ym, yk⟩ := y
          clear htx
          go_wp2_with fail
          refine (HP _ (HG.out.below HB.out)).mono ?_; rintro e wP ⟨rfl, hbP⟩
          have BP := next HB.out hbP
          have MS : has (wP.alloc (.cells #[.int .i64 yc, .int .i64 yt, .int .i64 yn, .int .i64 ym, .int .i64 yk] 28)) wP.heap.size 28 (eL yc yt yn ym yk) := new0 wP 28 (eL yc yt yn ym yk)
          have HBS : Hid (Below w.heap.size w (wP.alloc (.cells #[.int .i64 yc, .int .i64 yt, .int .i64 yn, .int .i64 ym, .int .i64 yk] 28))) := Lib.hid (BP.alloc BP.size _)
          obtain ⟨s0, s1, s2, s3, s4, s5⟩ := five MS
          clear hbP HP BP MS
          go_wp2_with fail
          refine (HT _ (HG.out.below HBS.out)).mono ?_; rintro e wQ ⟨rfl, hbQ⟩
          have HB := Lib.hid (next HBS.out hbQ)
          clear hbQ HT s0 s1 s2 s3 s4 s5
          go_wp2_with fail
          refine (known_any _ (HG.out.below HB.out)).mono ?_; rintro e wR ⟨rfl, hbR⟩
          have HB := Lib.hid (next HB.out hbR)
          clear hbR
          go_wp2_with fail
          go_ret
          exact ⟨rfl, HB.out⟩
        · rw [paZ_n htx] at HP
          clear htx
          go_wp2_with fail
          refine (HP _ (HG.out.below HB.out)).mono ?_; rintro e wP ⟨rfl, hbP⟩
          have BP := next HB.out hbP
          have HB : Hid (Below w.heap.size w (wP.alloc (.cells #[.int .i64 0, .int .i64 0, .int .i64 0, .int .i64 0, .int .i64 0] 28))) := Lib.hid (BP.alloc BP.size _)
          clear hbP HP BP
          go_wp2_with fail
          refine (known_any _ (HG.out.below HB.out)).mono ?_; rintro e wR ⟨rfl, hbR⟩
          have HB := Lib.hid (next HB.out hbR)
          clear hbR
          go_wp2_with fail
          go_ret
          exact ⟨rfl, HB.out⟩
      · generalize decR lb = z at *
        obtain ⟨za, zb, zc⟩ := z
        unfold decPost at HD
        dsimp only at he HD
        have hne : ((zc : Int) == 0) = false := by simpa using he
        clear he
        go_wp2_with fail
        refine (HD _ (HQ.out.below HB.out (Nat.le_refl _))).mono ?_; rintro e wD ⟨sr, cr, rfl, hr, hbD⟩
        have HB := Lib.hid (next HB.out hbD)
        clear hbD HD hr
        have HP := fun w h => Parse_all st w h (by omega)
        by_cases htx : isTx st
        · rw [paZ_y htx] at HP
          have HT := fun w h => texts_any (cand st) st 0 w h
          rw [tx_parse htx, decide_eq_true rfl] at HT
          generalize cand st = y at HP HT
          obtain ⟨yc, yt, yn, ym, yk⟩ := y
          clear htx
          go_wp2_with fail
          refine (HP _ (HG.out.below HB.out)).mono ?_; rintro e wP ⟨rfl, hbP⟩
          have BP := next HB.out hbP
          have MS : has (wP.alloc (.cells #[.int .i64 yc, .int .i64 yt, .int .i64 yn, .int .i64 ym, .int .i64 yk] 28)) wP.heap.size 28 (eL yc yt yn ym yk) := new0 wP 28 (eL yc yt yn ym yk)
          have HBS : Hid (Below w.heap.size w (wP.alloc (.cells #[.int .i64 yc, .int .i64 yt, .int .i64 yn, .int .i64 ym, .int .i64 yk] 28))) := Lib.hid (BP.alloc BP.size _)
          obtain ⟨s0, s1, s2, s3, s4, s5⟩ := five MS
          clear hbP HP BP MS
          go_wp2_with fail
          refine (HT _ (HG.out.below HBS.out)).mono ?_; rintro e wQ ⟨rfl, hbQ⟩
          have HB := Lib.hid (next HBS.out hbQ)
          clear hbQ HT s0 s1 s2 s3 s4 s5
          go_wp2_with fail
          refine (known_any _ (HG.out.below HB.out)).mono ?_; rintro e wR ⟨rfl, hbR⟩
          have HB := Lib.hid (next HB.out hbR)
          clear hbR
          go_wp2_with fail
          go_ret
          exact ⟨rfl, HB.out⟩
        · rw [paZ_n htx] at HP
          clear htx
          go_wp2_with fail
          refine (HP _ (HG.out.below HB.out)).mono ?_; rintro e wP ⟨rfl, hbP⟩
          have BP := next HB.out hbP
          have HB : Hid (Below w.heap.size w (wP.alloc (.cells #[.int .i64 0, .int .i64 0, .int .i64 0, .int .i64 0, .int .i64 0] 28))) := Lib.hid (BP.alloc BP.size _)
          clear hbP HP BP
          go_wp2_with fail
          refine (known_any _ (HG.out.below HB.out)).mono ?_; rintro e wR ⟨rfl, hbR⟩
          have HB := Lib.hid (next HB.out hbR)
          clear hbR
          go_wp2_with fail
          go_ret
          exact ⟨rfl, HB.out⟩
    · skip
      obtain ⟨b, off, hsp, hbl, hc⟩ := HE.out.c h0
      have C : Hid (∀ k, k < n → EfAt w b (off + k * 5) (l.getD k default)) := Lib.hid fun k hk => hc k _ (get_some (by omega))
      subst hsp
      clear hc
      go_wp2_with fail
      go_loopw [59] (fun i wr => ∃ k : Nat, k ≤ n ∧ i = .int .i64 k ∧ Hid (Below w.heap.size w wr)) (fun i _ => n - (intOf i).toNat)
      case atStart => exact ⟨0, Nat.zero_le _, rfl, HB⟩
      case round =>
        clear HB
        obtain ⟨k, hk, rfl, HB⟩ := hrel
        by_cases hlt : k < n
        · obtain ⟨c0, c1, c2, c3, c4⟩ := (C.out k hlt).below HB.out hbl
          generalize l.getD k default = x at *
          obtain ⟨xc, xt, xn, xm, xk⟩ := x
          dsimp only at c0 c1 c2 c3 c4
          have HT := fun w h => Text_any ⟨xc, xt, xn, xm, xk⟩ w h
          replace HT : ∀ w : World, G w → Calls Tryd.prog 25 #[eV xc xt xn xm xk] w fun r w' => r = .returned (.tuple #[.string (bs (txZ ⟨xc, xt, xn, xm, xk⟩).1), .int .i64 (txZ ⟨xc, xt, xn, xm, xk⟩).2]) ∧ Below w.heap.size w w' := HT
          have HV := Valid_any xc xt xn xm xk
          have MD : has (wr.alloc (.cells #[.int .i64 xc, .int .i64 xt, .int .i64 xn, .int .i64 xm, .int .i64 xk] 28)) wr.heap.size 28 (eL xc xt xn xm xk) := new0 wr 28 (eL xc xt xn xm xk)
          have HBD : Hid (Below w.heap.size w (wr.alloc (.cells #[.int .i64 xc, .int .i64 xt, .int .i64 xn, .int .i64 xm, .int .i64 xk] 28))) := Lib.hid (HB.out.alloc HB.out.size _)
          obtain ⟨u0, u1, u2, u3, u4, u5⟩ := five MD
          cases hok : okE xc xt xn xm xk
          · rw [txZ_no (e := ⟨xc, xt, xn, xm, xk⟩) hok] at HT
            rw [hok] at HV
            clear hok
            go_wp2_with fail
            refine (HT _ (HG.out.below HBD.out)).mono ?_; rintro e w1 ⟨rfl, hb1⟩
            have HB := Lib.hid (next HBD.out hb1)
            have M1 := MD.below hb1 MD.lt
            clear hb1 HT MD u0 u1 u2 u3 u4 u5 c0 c1 c2 c3 c4 HBD
            obtain ⟨u0, u1, u2, u3, u4, u5⟩ := five M1
            go_wp2_with fail
            refine (HV _).mono ?_; rintro e w2 ⟨rfl, hb2⟩
            have HB := Lib.hid (next HB.out hb2)
            clear hb2 HV M1 u0 u1 u2 u3 u4 u5
            go_wp2_with fail
            exact ⟨⟨k + 1, by omega, by go_num, HB⟩, by simp [intOf]; omega⟩
          · rw [txZ_yes (e := ⟨xc, xt, xn, xm, xk⟩) hok] at HT
            rw [hok] at HV
            obtain ⟨b0, b1, b2, b3, b4, b5, b6, b7, b8, b9⟩ := ok_bd (e := ⟨xc, xt, xn, xm, xk⟩) hok
            dsimp only at b4 b5 b6 b7
            have m1 : decide (xn < 0) = false := decide_eq_false (by omega)
            have m2 : decide (99 < xn) = false := decide_eq_false (by omega)
            have m3 : decide (xm < 0) = false := decide_eq_false (by omega)
            have m4 : decide (99 < xm) = false := decide_eq_false (by omega)
            clear b0 b1 b2 b3 b4 b5 b6 b7 b8 b9
            have HP := fun w h => parses_any (textE ⟨xc, xt, xn, xm, xk⟩) ⟨xc, xt, xn, xm, xk⟩ 0 w h (textE_len _)
            rw [pa_text (e := ⟨xc, xt, xn, xm, xk⟩) hok, decide_eq_true rfl] at HP
            generalize textE ⟨xc, xt, xn, xm, xk⟩ = TT at HT HP
            replace HP : ∀ w : World, G w → Calls Tryd.prog 23 #[.string (bs TT), eV xc xt xn xm xk, .int .i64 0] w fun r w' => r = .returned (.bool true) ∧ Below w.heap.size w w' := HP
            clear hok
            go_wp2_with fail
            refine (HT _ (HG.out.below HBD.out)).mono ?_; rintro e w1 ⟨rfl, hb1⟩
            have HB := Lib.hid (next HBD.out hb1)
            have M1 := MD.below hb1 MD.lt
            clear hb1 HT MD u0 u1 u2 u3 u4 u5 c0 c1 c2 c3 c4 HBD
            obtain ⟨u0, u1, u2, u3, u4, u5⟩ := five M1
            go_wp2_with fail
            refine (HV _).mono ?_; rintro e w2 ⟨rfl, hb2⟩
            have HB := Lib.hid (next HB.out hb2)
            have M2 := M1.below hb2 M1.lt
            clear hb2 HV M1 u0 u1 u2 u3 u4 u5
            obtain ⟨u0, u1, u2, u3, u4, u5⟩ := five M2
            go_wp2_with fail
            refine (HP _ (HG.out.below HB.out)).mono ?_; rintro e w3 ⟨rfl, hb3⟩
            have HB := Lib.hid (next HB.out hb3)
            have M3 := M2.below hb3 M2.lt
            clear hb3 HP M2 u0 u1 u2 u3 u4 u5
            obtain ⟨u0, u1, u2, u3, u4, u5⟩ := five M3
            go_wp2_with fail
            exact ⟨⟨k + 1, by omega, by go_num, HB⟩, by simp [intOf]; omega⟩
        · obtain rfl : k = n := by omega
          clear C
          have HD := fun W h => Decode_any sq nq cq lb W h hcap
          by_cases he : (decR lb).2.2 = 0
          · obtain ⟨N, hN4, e1, e2, e3⟩ := enc_dec he
            have HX : ∀ (sr : Option Addr) (cr : Nat) (W : World), Below w.heap.size w W → EfsAt W sr (decR lb).1.length (decR lb).1 → Calls Tryd.prog 16 #[.slice sr (decR lb).1.length cr, .slice sq (1 + 5 * N) cq, .int .i64 0] W fun e w' => e = .returned (.bool true) ∧ Below W.heap.size W w' := fun sr cr W hb hr => by
              have := encodes_any sr sq (decR lb).1.length cr (1 + 5 * N) cq (decR lb).1 (lb.take (1 + 5 * N)) 0 W hr ((HQ.out.below hb (Nat.le_refl _)).take _ (by omega))
              rw [e3, decide_eq_true rfl] at this
              exact this
            generalize decR lb = z at *
            obtain ⟨za, zb, zc⟩ := z
            unfold decPost at HD
            dsimp only at he e1 HD HX
            subst he
            subst e1
            obtain ⟨P, hP⟩ : ∃ P, P = 1 + 5 * N := ⟨_, rfl⟩
            rw [← hP] at HD HX
            replace HD : ∀ W : World, BsAt W sq nq lb → Calls Tryd.prog 26 #[.slice sq nq cq] W fun e w' => ∃ sr cr, e = .returned (.tuple #[.slice sr za.length cr, .int .i64 (P : Int), .int .i64 0]) ∧ EfsAt w' sr za.length za ∧ Below W.heap.size W w' := HD
            obtain ⟨qb, qo, hsq⟩ : ∃ b o, sq = some (⟨b, o, none⟩ : Addr) := by
              obtain ⟨b, o, h, _⟩ := HQ.out.c (by rw [bys_len]; omega)
              exact ⟨b, o, h⟩
            have hPq : P ≤ nq := by omega
            have hPc : P ≤ cq := by omega
            have hgt : decide ((nq : Int) < (P : Int)) = false := decide_eq_false (by omega)
            clear e2 e3 hP hN4
            subst hsq
            go_wp2_with fail
            refine (HD _ (HQ.out.below HB.out (Nat.le_refl _))).mono ?_; rintro e wD ⟨sr, cr, rfl, hr, hbD⟩
            have HB := Lib.hid (next HB.out hbD)
            have HX2 := HX sr cr wD HB.out hr
            clear hbD HD HX hr
            go_wp2_with fail
            refine HX2.mono ?_; rintro e wE ⟨rfl, hbE⟩
            have HB := Lib.hid (next HB.out hbE)
            clear hbE HX2
            have HP := fun w h => Parse_all st w h (by omega)
            by_cases htx : isTx st
            · rw [paZ_y htx] at HP
              have HT := fun w h => texts_any (cand st) st 0 w h
              rw [tx_parse htx, decide_eq_true rfl] at HT
              generalize cand st = y at HP HT
              obtain ⟨yc, yt, yn, ym, yk⟩ := y
              clear htx
              go_wp2_with fail
              refine (HP _ (HG.out.below HB.out)).mono ?_; rintro e wP ⟨rfl, hbP⟩
              have BP := next HB.out hbP
              have MS : has (wP.alloc (.cells #[.int .i64 yc, .int .i64 yt, .int .i64 yn, .int .i64 ym, .int .i64 yk] 28)) wP.heap.size 28 (eL yc yt yn ym yk) := new0 wP 28 (eL yc yt yn ym yk)
              have HBS : Hid (Below w.heap.size w (wP.alloc (.cells #[.int .i64 yc, .int .i64 yt, .int .i64 yn, .int .i64 ym, .int .i64 yk] 28))) := Lib.hid (BP.alloc BP.size _)
              obtain ⟨s0, s1, s2, s3, s4, s5⟩ := five MS
              clear hbP HP BP MS
              go_wp2_with fail
              refine (HT _ (HG.out.below HBS.out)).mono ?_; rintro e wQ ⟨rfl, hbQ⟩
              have HB := Lib.hid (next HBS.out hbQ)
              clear hbQ HT s0 s1 s2 s3 s4 s5
              go_wp2_with fail
              refine (known_any _ (HG.out.below HB.out)).mono ?_; rintro e wR ⟨rfl, hbR⟩
              have HB := Lib.hid (next HB.out hbR)
              clear hbR
              go_wp2_with fail
              go_ret
              exact ⟨rfl, HB.out⟩
            · rw [paZ_n htx] at HP
              clear htx
              go_wp2_with fail
              refine (HP _ (HG.out.below HB.out)).mono ?_; rintro e wP ⟨rfl, hbP⟩
              have BP := next HB.out hbP
              have HB : Hid (Below w.heap.size w (wP.alloc (.cells #[.int .i64 0, .int .i64 0, .int .i64 0, .int .i64 0, .int .i64 0] 28))) := Lib.hid (BP.alloc BP.size _)
              clear hbP HP BP
              go_wp2_with fail
              refine (known_any _ (HG.out.below HB.out)).mono ?_; rintro e wR ⟨rfl, hbR⟩
              have HB := Lib.hid (next HB.out hbR)
              clear hbR
              go_wp2_with fail
              go_ret
              exact ⟨rfl, HB.out⟩
          · generalize decR lb = z at *
            obtain ⟨za, zb, zc⟩ := z
            unfold decPost at HD
            dsimp only at he HD
            have hne : ((zc : Int) == 0) = false := by simpa using he
            clear he
            go_wp2_with fail
            refine (HD _ (HQ.out.below HB.out (Nat.le_refl _))).mono ?_; rintro e wD ⟨sr, cr, rfl, hr, hbD⟩
            have HB := Lib.hid (next HB.out hbD)
            clear hbD HD hr
            have HP := fun w h => Parse_all st w h (by omega)
            by_cases htx : isTx st
            · rw [paZ_y htx] at HP
              have HT := fun w h => texts_any (cand st) st 0 w h
              rw [tx_parse htx, decide_eq_true rfl] at HT
              generalize cand st = y at HP HT
              obtain ⟨yc, yt, yn, ym, yk⟩ := y
              clear htx
              go_wp2_with fail
              refine (HP _ (HG.out.below HB.out)).mono ?_; rintro e wP ⟨rfl, hbP⟩
              have BP := next HB.out hbP
              have MS : has (wP.alloc (.cells #[.int .i64 yc, .int .i64 yt, .int .i64 yn, .int .i64 ym, .int .i64 yk] 28)) wP.heap.size 28 (eL yc yt yn ym yk) := new0 wP 28 (eL yc yt yn ym yk)
              have HBS : Hid (Below w.heap.size w (wP.alloc (.cells #[.int .i64 yc, .int .i64 yt, .int .i64 yn, .int .i64 ym, .int .i64 yk] 28))) := Lib.hid (BP.alloc BP.size _)
              obtain ⟨s0, s1, s2, s3, s4, s5⟩ := five MS
              clear hbP HP BP MS
              go_wp2_with fail
              refine (HT _ (HG.out.below HBS.out)).mono ?_; rintro e wQ ⟨rfl, hbQ⟩
              have HB := Lib.hid (next HBS.out hbQ)
              clear hbQ HT s0 s1 s2 s3 s4 s5
              go_wp2_with fail
              refine (known_any _ (HG.out.below HB.out)).mono ?_; rintro e wR ⟨rfl, hbR⟩
              have HB := Lib.hid (next HB.out hbR)
              clear hbR
              go_wp2_with fail
              go_ret
              exact ⟨rfl, HB.out⟩
            · rw [paZ_n htx] at HP
              clear htx
              go_wp2_with fail
              refine (HP _ (HG.out.below HB.out)).mono ?_; rintro e wP ⟨rfl, hbP⟩
              have BP := next HB.out hbP
              have HB : Hid (Below w.heap.size w (wP.alloc (.cells #[.int .i64 0, .int .i64 0, .int .i64 0, .int .i64 0, .int .i64 0] 28))) := Lib.hid (BP.alloc BP.size _)
              clear hbP HP BP
              go_wp2_with fail
              refine (known_any _ (HG.out.below HB.out)).mono ?_; rintro e wR ⟨rfl, hbR⟩
              have HB := Lib.hid (next HB.out hbR)
              clear hbR
              go_wp2_with fail
              go_ret
              exact ⟨rfl, HB.out⟩
theorem Holds_law (sp sq : Option Addr) (n cap nq cq : Nat) (l : List Ef) (lb st : List UInt8) (w : World) (hG : G w) (hE : EfsAt w sp n l) (hQ : BsAt w sq nq lb) (hcap : nq ≤ cq) (hnil : sq = none → nq = 0 ∧ cq = 0) (hst : st.length ≤ 9223372036854775807) :
    Calls Tryd.prog 8 #[.slice sp n cap, .slice sq nq cq, .string (bs st)] w (lawPost w) := by
  have hm := hE.m
  have hqm := hQ.m
  have hsz := bs_size st
  by_cases hn : n ≤ 20
  · by_cases hq : nq ≤ 300
    · by_cases hs : st.length ≤ 60
      · exact Holds_main sp sq n cap nq cq l lb st w hG hE hQ hcap hnil hn hq hs
      · have HK := known_any w hG
        clear hE hQ hG hnil
        go_enter Tryd.func8, Tryd.ntmps8
        go_wp2_with fail
        refine HK.mono ?_; rintro e w1 ⟨rfl, hb1⟩
        have HB := Lib.hid hb1
        clear hb1 HK
        go_wp2_with fail
        go_ret
        exact ⟨rfl, HB.out⟩
    · have HK := known_any w hG
      clear hE hQ hG hnil
      go_enter Tryd.func8, Tryd.ntmps8
      go_wp2_with fail
      refine HK.mono ?_; rintro e w1 ⟨rfl, hb1⟩
      have HB := Lib.hid hb1
      clear hb1 HK
      go_wp2_with fail
      go_ret
      exact ⟨rfl, HB.out⟩
  · have HK := known_any w hG
    clear hE hQ hG hnil
    go_enter Tryd.func8, Tryd.ntmps8
    go_wp2_with fail
    refine HK.mono ?_; rintro e w1 ⟨rfl, hb1⟩
    have HB := Lib.hid hb1
    clear hb1 HK
    go_wp2_with fail
    go_ret
    exact ⟨rfl, HB.out⟩
end Go.Proofs.YtfdolapiikgebaaDoor.efFn
