/- The walk of the law that goes over the ids while it changes them. -/
import Derived.Test.YtefncefmolphfaaDoorIdItKit
import Derived.Deep.Light
namespace Go.Proofs.YtefncefmolphfaaDoor.idFnX
open Go.ChangeShapes Go.WideShapes Go.ChangeAt Go.RowKit Go.Shelf drMem idBits idFn
set_option linter.unusedVariables false
attribute [local go_sem] Oper.semAt_some

set_option maxRecDepth 100000 in
set_option maxHeartbeats 8000000 in
theorem iter_main (m : Nat) (m1 : 1 ≤ m) (m2 : m ≤ 200) (s2 : Option Addr) (n2 c2 : Nat) (acts : List ActR) (mn : Int) (w : World) (ha : ActsAt w s2 n2 acts) (h60 : n2 ≤ 60) (ht : tabAt w) :
    Calls Tryd.prog 5 #[.int .i64 (m : Int), .slice s2 n2 c2, .int .i64 mn] w (boolB true w) := by
  have d1 : decide ((m : Int) < 1) = false := by simp; omega
  have d2 : decide (200 < (m : Int)) = false := by simp; omega
  have d3 : decide (60 < (n2 : Int)) = false := by simp; omega
  have HA := Lib.hid ha
  have HT := Lib.hid ht
  clear ha ht
  refine (callsIn_wide (n := 4)).1 ?_
  refine callsIn_of_wp_marks Tryd.func5 rfl trivial ?_ rfl
  simp only [Tryd.ntmps5, List.size_toArray, List.length_cons, List.length_nil, Nat.reduceAdd, Nat.reduceSub, Array.replicate_succ, Array.replicate_zero, List.push_toArray, List.append_toArray, List.nil_append, List.cons_append]
  refine wpIn_wide.2 ?_
  obtain ⟨Q', hQ⟩ : ∃ Q', bodyPostM Fence.wide 4 Tryd.prog Tryd.f5 (boolB true w) = Q' := ⟨_, rfl⟩
  rw [hQ]
  have HQ := Lib.hid hQ
  clear hQ
  go_wp2_with fail
  have x0 : Below w.heap.size w (((w.alloc (.cells #[.int .i64 (m : Int)] 3)).alloc (.cells #[.int .i64 mn] 3)).alloc (.cells #[.bool false] 4)) := (((Below.refl _ w).alloc (Nat.le_refl _) _).alloc (by simp) _).alloc (by simp; omega) _
  have x3 : has (((w.alloc (.cells #[.int .i64 (m : Int)] 3)).alloc (.cells #[.int .i64 mn] 3)).alloc (.cells #[.bool false] 4)) w.heap.size 3 [.int .i64 (m : Int)] := ((has.new w _ [.int .i64 (m : Int)]).alloc _).alloc _
  have x5 : has (((w.alloc (.cells #[.int .i64 (m : Int)] 3)).alloc (.cells #[.int .i64 mn] 3)).alloc (.cells #[.bool false] 4)) (w.heap.size + 1) 3 [.int .i64 mn] := by
    have := (has.new (w.alloc (.cells #[.int .i64 (m : Int)] 3)) 3 [.int .i64 mn]).alloc (.cells #[.bool false] 4)
    simpa using this
  have x6 : has (((w.alloc (.cells #[.int .i64 (m : Int)] 3)).alloc (.cells #[.int .i64 mn] 3)).alloc (.cells #[.bool false] 4)) (w.heap.size + 1 + 1) 4 [.bool false] := by
    have := has.new ((w.alloc (.cells #[.int .i64 (m : Int)] 3)).alloc (.cells #[.int .i64 mn] 3)) 4 [.bool false]
    simpa using this
  obtain ⟨W0, hW0⟩ : ∃ W0, (((w.alloc (.cells #[.int .i64 (m : Int)] 3)).alloc (.cells #[.int .i64 mn] 3)).alloc (.cells #[.bool false] 4)) = W0 := ⟨_, rfl⟩
  rw [hW0] at x0 x3 x5 x6 ⊢
  clear hW0
  have X0 := Lib.hid x0
  have X3 := Lib.hid x3
  have X5 := Lib.hid x5
  have X6 := Lib.hid x6
  clear x0 x3 x5 x6
  refine (New_ok m W0 m1 (by omega) (HT.out.below X0.out HT.out.pos)).mono ?_
  rintro e w0 ⟨b, g, rfl, hi, hb, hg, hbl⟩
  obtain ⟨z, hz⟩ : ∃ z, w0.heap.size = z := ⟨_, rfl⟩
  have PX : Hid (SI w b g (List.replicate m false) (w0.alloc (.cells #[.pointer (some ⟨b, 0, none⟩)] 24))) := Lib.hid (SI.below ⟨hi, X0.out.trans (hbl.mono X0.out.size), Nat.le_trans X0.out.size hb, Nat.le_trans X0.out.size hg⟩ ((Below.refl _ _).alloc (Nat.le_refl _) _))
  have XX : Hid (XB w.heap.size m mn w0.heap.size b (w0.alloc (.cells #[.pointer (some ⟨b, 0, none⟩)] 24))) := Lib.hid ⟨(X3.out.below hbl X3.out.lt).alloc _, (X5.out.below hbl X5.out.lt).alloc _, (X6.out.below hbl X6.out.lt).alloc _, has.new w0 _ [.pointer (some ⟨b, 0, none⟩)]⟩
  have HZ : Hid (w.heap.size ≤ z ∧ z ≠ 0) := Lib.hid (by have := X0.out.size; have := hbl.size; have := HT.out.pos; omega)
  have y3 : (w0.alloc (.cells #[.pointer (some ⟨b, 0, none⟩)] 24)).cell? ⟨w.heap.size, 0, none⟩ = some (.int .i64 (m : Int)) := XX.out.c3.cell 0
  rw [hz] at XX
  have HZZ := Lib.hid hz
  clear hi hb hg hbl X0 X3 X5 X6 hz
  go_wp2_with fail
  rw [HZZ.out]
  clear y3
  obtain ⟨W1, hW1⟩ : ∃ W1, w0.alloc (.cells #[.pointer (some ⟨b, 0, none⟩)] 24) = W1 := ⟨_, rfl⟩
  rw [hW1] at PX XX ⊢
  clear hW1 HZZ
  refine (rNew_ok m W1 m1 (by omega)).mono ?_
  rintro e w1 ⟨q, c, rfl, hr, _, hb⟩
  have P0 : Hid (PI w (XB w.heap.size m mn z b) b g (List.replicate m false) q c (List.replicate m false) w1) := Lib.hid ⟨PX.out.below hb, hr, (XB.k _ _ _ _ _).b _ _ XX.out hb, XB.k _ _ _ _ _⟩
  have LN : Hid ((List.replicate m false).length = m) := Lib.hid (by simp)
  have cz : w1.cell? ⟨z, 0, none⟩ = some (.pointer (some ⟨b, 0, none⟩)) := P0.out.x.c7.cell 0
  clear hr hb PX XX
  go_wp2
  clear cz
  go_loopg [9, 48] n2 (fun gh v i wx => ∃ (j b g q c : Nat) (fl : List Bool), j ≤ n2 ∧ gh = n2 - j ∧ i = .int .i64 (j : Int) ∧ v = .slice (some ⟨q, 0, none⟩) m c ∧ Hid (PI w (XB w.heap.size m mn z b) b g fl q c fl wx) ∧ Hid (fl.length = m))
  case atStart => exact ⟨0, b, g, q, c, _, Nat.zero_le _, rfl, rfl, rfl, P0, LN⟩
  case round =>
    obtain ⟨j, b, g, q, c, fl, hj, rfl, rfl, rfl, HP, HL⟩ := hrel
    clear P0 LN
    by_cases hlt2 : j < n2
    · obtain ⟨ab, ao, rfl, hab, hcell⟩ := HA.out.c (by omega)
      obtain ⟨r, hr⟩ : ∃ r, acts[j]? = some r := ⟨_, List.getElem?_eq_getElem (by rw [HA.out.n]; exact hlt2)⟩
      have hact := hcell j r hr
      have e0 : wr.cell? ⟨ab, ao + j * 2, none⟩ = some (.int .i64 r.what) := (HP.out.s.f.cell (p := ⟨ab, ao + j * 2, none⟩) hab).trans hact.c0
      have e1 : wr.cell? ⟨ab, ao + j * 2 + 1, none⟩ = some (.int .i64 r.id) := (HP.out.s.f.cell (p := ⟨ab, ao + j * 2 + 1, none⟩) hab).trans hact.c1
      have hm2 := HA.out.m
      have HP1 := Lib.hid (HP.out.below ((Below.refl _ _).alloc (Nat.le_refl _) (.cells #[.int .i64 r.what, .int .i64 r.id] 33)))
      have cz := HP1.out.x.c7.cell 0
      simp only [List.getElem?_cons_zero] at cz
      clear hcell hact hr HP
      go_wp2_with fail
      refine (do_any w (XB w.heap.size m mn z b) b g fl q c m r _ HP1.out HL.out).mono ?_
      rintro e w3 ⟨b3, g3, fl3, q3, c3, rfl, hs, hl⟩
      have S3 := Lib.hid (PI.put hs HZ.out.1 HZ.out.2)
      have L3 := Lib.hid hl
      have fz := hs.x.c7.free 0
      have cz3 := hs.x.c7.cell 0
      simp only [List.getElem?_cons_zero] at cz3
      clear hs hl HP1 HL e0 e1 cz
      go_wp2
      go_roundg (n2 - (j + 1))
      case measure => go_light; omega
      case rel => go_light; exact ⟨j + 1, b3, g3, q3, c3, fl3, by omega, rfl, by go_num, rfl, S3, L3⟩
    · obtain rfl : j = n2 := by omega
      have HR := Lib.hid (rAll_any q c m fl wr HP.out.r HL.out)
      have HP0 := Lib.hid HP.out.s
      have HX := Lib.hid HP.out.x
      clear HP
      obtain ⟨cnt, hcnt⟩ : ∃ cnt, fl.count true = cnt := ⟨_, rfl⟩
      have HCN := Lib.hid hcnt
      clear hcnt
      go_wp2_with fail
      refine HR.out.mono ?_
      rintro e w1 ⟨sv, cv, rfl, hsv, hav, hb⟩
      rw [HCN.out]
      have hb2 : Below wr.heap.size wr (w1.alloc (.cells #[.slice sv cnt cv] 38)) := hb.alloc hb.size _
      have S1 := Lib.hid (HP0.out.below hb2)
      have X1 := Lib.hid ((XB.k _ _ _ _ _).b _ _ HX.out hb2)
      have SV := Lib.hid (hsv.below ((Below.refl _ w1).alloc (Nat.le_refl _) (.cells #[.slice sv cnt cv] 38)) (Nat.le_refl _))
      have C13 := Lib.hid (has.new w1 38 [.slice sv cnt cv])
      have AV : Hid (∀ a, sv = some a → g < a.block) := Lib.hid fun a ha => by have := hav a ha; have := HP0.out.i.glt; omega
      have GW : Hid (g < w1.heap.size) := Lib.hid (by have := HP0.out.i.glt; have := hb.size; omega)
      have cz := X1.out.c7.cell 0
      simp only [List.getElem?_cons_zero] at cz
      clear HP0 HX HR hb hb2 hsv hav
      obtain ⟨zs, hzs⟩ : ∃ zs, w1.heap.size = zs := ⟨_, rfl⟩
      have ZS := Lib.hid hzs
      clear hzs
      go_wp2_with fail
      clear cz
      obtain ⟨W2, hW2⟩ : ∃ W2, w1.alloc (.cells #[.slice sv cnt cv] 38) = W2 := ⟨_, rfl⟩
      have GW2 : Hid (g < W2.heap.size) := Lib.hid (by have := S1.out.i.glt; rw [hW2] at this; exact this)
      rw [hW2] at S1 X1 SV C13 ⊢
      rw [ZS.out] at C13 ⊢
      clear hW2 ZS GW
      refine (All_any S1.out.i).mono ?_
      rintro e w2 ⟨qi, bi, gj, rfl, hc, hI, hq1, hb1, hg1, hq2, hB1⟩
      have S2 := Lib.hid (S1.out.below hB1)
      have X2 := Lib.hid ((XB.k _ _ _ _ _).b _ _ X1.out hB1)
      have SV2 := Lib.hid (SV.out.below hB1 (Nat.le_refl _))
      have C132 := Lib.hid (C13.out.below hB1 C13.out.lt)
      have IT2 := Lib.hid hI
      have CQ2 := Lib.hid hc
      have BN : Hid (g < qi ∧ g < gj ∧ qi < w2.heap.size) := Lib.hid (by have := GW2.out; omega)
      clear hc hI hq1 hb1 hg1 hq2 hB1 S1 X1 SV C13 GW2
      have qf := func_nil
      go_wp2
      clear qf
      refine wp_loop_rounds 3 ?_
      rw [rounds_succ]
      go_wp2_with fail
      have hll : (ids fl fl.length).length = cnt := by rw [ids_len]; exact HCN.out
      obtain ⟨ws, hws⟩ : ∃ ws, ids fl fl.length = ws := ⟨_, rfl⟩
      have SQ := fun (W : World) n₁ hq hb hg hqg hbg hgg h0 hg0 hn₁ hc hI => seq_kf 3 (by omega) qi bi gj n₁ g fl W hq hb hg hqg hbg hgg h0 hg0 hn₁ hc hI
      rw [hws] at hll SV2 SQ
      have WL := Lib.hid hll
      have HSQ := Lib.hid SQ
      clear SQ hws hll
      obtain ⟨cn, cb, bd, hbn, hwn⟩ := cn_start (turn := 0) S2.out.i HL.out X2.out C132.out SV2.out AV.out IT2.out CQ2.out BN.out.1 BN.out.2.1 S2.out.f ((Below.refl _ _).alloc (Nat.le_refl _) _) (has.new w2 3 [.int .i64 0])
      simp only [World.size_alloc] at cn cb bd hbn hwn
      have hsz : ((w2.alloc (.cells #[.int .i64 0] 3)).alloc (.cells #[.int .i64 0] 3)).heap.size = w2.heap.size + 1 + 1 := by simp only [World.size_alloc]
      obtain ⟨Wr, hWr⟩ : ∃ Wr, (w2.alloc (.cells #[.int .i64 0] 3)).alloc (.cells #[.int .i64 0] 3) = Wr := ⟨_, rfl⟩
      rw [hWr] at cn bd hsz ⊢
      clear hWr
      obtain ⟨zt, hzt⟩ : ∃ zt, w2.heap.size = zt := ⟨_, rfl⟩
      rw [hzt] at cn cb bd hbn hwn hsz ⊢
      have CNH := Lib.hid cn
      have CBH := Lib.hid cb
      have BDH := Lib.hid bd
      have HSZ := Lib.hid hsz
      have HBN := Lib.hid hbn
      have HWN := Lib.hid hwn
      clear cn cb bd hsz hbn hwn hzt
      refine wp_join (fun D W => Wr.heap.size ≤ D ∧ W.heap[D]? = some (.deferred (some [])) ∧ ∃ k : Nat, BD w Wr (zt + 1) b g m k W ∧ (k : Int) = min (cnt : Int) (max 1 mn)) ?h1 ?h2
      case h1 =>
        refine (wpIn_wide (n := 4)).1 ?_
        refine' wpIn_rangeFunc_ownG rfl (by omega) (gf := 33) (lb := #[.pointer (some ⟨qi, 0, none⟩)]) rfl trivial (enters_of Tryd.func33 (by kernel_rfl) rfl)
          (HSQ.out Wr (zt + 1) CBH.out.lq CBH.out.lb CBH.out.lg CBH.out.nq CBH.out.nb CBH.out.ng (by omega) CBH.out.g0 (by rw [HSZ.out]; omega) CNH.out.cq CNH.out.it)
          (fun h k => h.trans k) (fun W l o o' hl _ _ _ => KF.ofPut W l o o' (by rw [HSZ.out] at hl; omega)) (Below.refl _ _) (fun _ => rfl)
          (II w Wr (zt + 1) b g m mn 0 ws) (IX w Wr (zt + 1) b g m mn 0 ws)
          (by rw [HSZ.out]; exact II.own HWN.out (by omega) HBN.out CBH.out.gl) (fun c => by rw [HSZ.out]; exact IX.own HWN.out (by omega) HBN.out CBH.out.gl c)
          ⟨BDH.out, List.nil_prefix, fun _ => .inl rfl⟩ (a₁ := _) ?assign ?body ?done ?stop
        case assign =>
          intro l x W K hK
          gi_wp2
          exact hK
        case body =>
          intro l pre x W hI hlt
          obtain ⟨bd, hp, ht⟩ := hI
          obtain ⟨k, hk⟩ : ∃ k, pre.length = k := ⟨_, rfl⟩
          have cn := CNH.out.keep CBH.out bd.f
          have e3 := cn.x.c3.cell 0
          have e5 := cn.x.c5.cell 0
          have e7 := cn.x.c7.cell 0
          have e6 := cn.x.c6.cell 0
          have e13 := cn.c13.cell 0
          have e15 := cn.c15.cell 0
          have e16 := bd.c16.cell 0
          have f16 := bd.c16.free 0
          have f6 := cn.x.c6.free 0
          rw [hk] at bd e16 ht
          simp only [List.getElem?_cons_zero] at e3 e5 e7 e6 e13 e15 e16
          have hkc : k ≤ cnt := by rw [← hk, ← WL.out]; exact hp.length_le
          by_cases hx : ws[k]? = some x
          · have hkl : k < ws.length := (List.getElem?_eq_some_iff.1 hx).1
            have hkl2 : k < cnt := by rw [← WL.out]; exact hkl
            obtain ⟨hb, off, hsv, _, _, hc⟩ := cn.s (by omega)
            have ew := hc k (.int .i64 x) (by simp [is, hx])
            rw [hsv] at e13
            have dk : decide ((cnt : Int) ≤ (k : Int)) = false := by simp; omega
            have dk2 : decide ((k : Int) < (cnt : Int)) = true := by simp; omega
            have hpp : Hid (pre ++ [x] <+: ws) := Lib.hid (pre_yes hp (by rw [hk]; exact hx))
            obtain ⟨kk, hkk⟩ : ∃ kk, k + 1 = kk := ⟨_, rfl⟩
            have ek : (k : Int) + 1 = (kk : Int) := by omega
            have hpl : Hid ((pre ++ [x]).length = kk) := Lib.hid (by rw [List.length_append, hk]; exact hkk)
            obtain ⟨bd1, gk1⟩ := bd.put HWN.out (by omega) HBN.out CBH.out.gl kk
            obtain ⟨fl1, hi1, hl1⟩ := bd1.i
            have HF := Lib.hid (Free_any hi1 x)
            have kb : kk ≤ 200 := by have := List.count_le_length (a := true) (l := fl); have := HCN.out; have := HL.out; omega
            have BD1 := Lib.hid bd1
            have GK1 := Lib.hid gk1
            have HL1 := Lib.hid hl1
            have HT1 := Lib.hid ht
            have HK := Lib.hid hkk
            have nz : z ≠ zt + 1 := Nat.ne_of_lt CBH.out.l7
            have nr : w.heap.size ≠ zt + 1 := by have := CBH.out.l3; omega
            have nr1 : w.heap.size + 1 ≠ zt + 1 := by have := CBH.out.l3; omega
            clear bd bd1 gk1 hi1 hl1 hc hp ht hkk hx hkl hkc hlt cn
            by_cases hbr : mn ≤ (kk : Int)
            · have db : decide (mn ≤ (kk : Int)) = true := by simpa using hbr
              gi_wp2_with (refine ⟨trivial, ?_⟩; first | (gi_at_call 16; refine (CallsIn.inRound l (callsIn_wide.2 HF.out)).mono ?_; rintro e w4 ⟨rfl, hi4, hg4⟩; obtain ⟨bd4, gk4⟩ := BD1.out.step (by have := S2.out.hg; omega) CBH.out.gl hi4 (by rw [frF_len]; exact HL1.out) hg4; have cn4 := CNH.out.keep CBH.out bd4.f; have p3 := cn4.x.c3.cell 0; have p7 := cn4.x.c7.cell 0; simp only [List.getElem?_cons_zero] at p3 p7; have BD4 := Lib.hid bd4; have GK4 := Lib.hid gk4; have HC4 := Lib.hid (Claim_any hi4 (m : Int)); have L4 : Hid ((clF (frF fl1 x) (m : Int)).length = m) := Lib.hid (by rw [clF_len, frF_len]; exact HL1.out); clear hi4 hg4 bd4 gk4 cn4) | (gi_at_call 19; refine (CallsIn.inRound l (callsIn_wide.2 HC4.out)).mono ?_; rintro e w5 ⟨rfl, hi5, hg5⟩; obtain ⟨bd5, gk5⟩ := BD4.out.step (by have := S2.out.hg; omega) CBH.out.gl hi5 L4.out hg5; have cn5 := CNH.out.keep CBH.out bd5.f; have r5 := cn5.x.c5.cell 0; have r15 := cn5.c15.cell 0; have r16 := bd5.c16.cell 0; simp only [List.getElem?_cons_zero] at r5 r15 r16; have BD5 := Lib.hid bd5; have GK5 := Lib.hid gk5; clear hi5 hg5 bd5 gk5 cn5))
              have GKA := (GK1.out.trans GK4.out).trans GK5.out
              have ht := HT1.out trivial
              have hkk := HK.out
              exact ⟨by rw [HSZ.out]; exact GKA.k, .inr ⟨rfl, rfl, by rw [hpl.out]; exact BD5.out, hpp.out, by rw [hpl.out]; omega⟩⟩
            · have db : decide (mn ≤ (kk : Int)) = false := by simpa using hbr
              gi_wp2_with (refine ⟨trivial, ?_⟩; first | (gi_at_call 16; refine (CallsIn.inRound l (callsIn_wide.2 HF.out)).mono ?_; rintro e w4 ⟨rfl, hi4, hg4⟩; obtain ⟨bd4, gk4⟩ := BD1.out.step (by have := S2.out.hg; omega) CBH.out.gl hi4 (by rw [frF_len]; exact HL1.out) hg4; have cn4 := CNH.out.keep CBH.out bd4.f; have p3 := cn4.x.c3.cell 0; have p7 := cn4.x.c7.cell 0; simp only [List.getElem?_cons_zero] at p3 p7; have BD4 := Lib.hid bd4; have GK4 := Lib.hid gk4; have HC4 := Lib.hid (Claim_any hi4 (m : Int)); have L4 : Hid ((clF (frF fl1 x) (m : Int)).length = m) := Lib.hid (by rw [clF_len, frF_len]; exact HL1.out); clear hi4 hg4 bd4 gk4 cn4) | (gi_at_call 19; refine (CallsIn.inRound l (callsIn_wide.2 HC4.out)).mono ?_; rintro e w5 ⟨rfl, hi5, hg5⟩; obtain ⟨bd5, gk5⟩ := BD4.out.step (by have := S2.out.hg; omega) CBH.out.gl hi5 L4.out hg5; have cn5 := CNH.out.keep CBH.out bd5.f; have r5 := cn5.x.c5.cell 0; have r15 := cn5.c15.cell 0; have r16 := bd5.c16.cell 0; simp only [List.getElem?_cons_zero] at r5 r15 r16; have BD5 := Lib.hid bd5; have GK5 := Lib.hid gk5; clear hi5 hg5 bd5 gk5 cn5))
              have GKA := (GK1.out.trans GK4.out).trans GK5.out
              exact ⟨by rw [HSZ.out]; exact GKA.k, GKA.f, by rw [hpl.out]; exact BD5.out, hpp.out, fun _ => by rw [hpl.out]; omega⟩
          · have hno : Hid (¬ pre ++ [x] <+: ws) := Lib.hid (pre_no (by rw [hk]; exact hx))
            have HR6 : Hid (w.heap.size + 1 + 1 < zt + 1 + 1) := Lib.hid (by have := CBH.out.l3; omega)
            by_cases hkl2 : k < cnt
            · have hkl : k < ws.length := by rw [WL.out]; exact hkl2
              obtain ⟨v, hv⟩ : ∃ v, ws[k]? = some v := ⟨_, List.getElem?_eq_getElem hkl⟩
              have hvx : x ≠ v := fun e => hx (by rw [hv, e])
              obtain ⟨hb, off, hsv, _, _, hc⟩ := cn.s (by omega)
              have ew := hc k (.int .i64 v) (by simp [is, hv])
              rw [hsv] at e13
              have dk : decide ((cnt : Int) ≤ (k : Int)) = false := by simp; omega
              have dk2 : decide ((k : Int) < (cnt : Int)) = true := by simp; omega
              have dx : (x == v) = false := by simpa using hvx
              have dx2 : (x != v) = true := by simpa using hvx
              clear bd hp ht hx hkl hkc hlt cn hc hv hvx
              gi_wp2
              exact ⟨by rw [HSZ.out]; exact KeepsFrom.of_grownBy (grown_set _ _ _) (fun r e => by cases e; exact HR6.out), .inl ⟨rfl, hno.out⟩⟩
            · have dk : decide ((cnt : Int) ≤ (k : Int)) = true := by simp; omega
              clear bd hp ht hx hkc hlt cn
              gi_wp2
              exact ⟨by rw [HSZ.out]; exact KeepsFrom.of_grownBy (grown_set _ _ _) (fun r e => by cases e; exact HR6.out), .inl ⟨rfl, hno.out⟩⟩
        case done =>
          rintro D ys W hD rfl ⟨bd, _, ht⟩ hK
          have ht := ht rfl
          rw [WL.out] at bd ht
          exact ⟨.inl rfl, D, rfl, hD, hK, cnt, bd, by omega⟩
        case stop =>
          rintro D c pre W hD hp (⟨rfl, hno⟩ | ⟨rfl, _, bd, hp2, ht⟩) hK
          · exact absurd hp hno
          · refine wpIn_wide.2 ?_
            have hle := hp2.length_le
            rw [WL.out] at hle
            refine wp_exit ?_
            exact ⟨.inr rfl, D, rfl, hD, hK, pre.length, bd, by omega⟩
      case h2 =>
        rintro D1 V1 ⟨hD, hK, k1, bd, hk⟩
        have cn := CNH.out.keep CBH.out bd.f
        have e5 := cn.x.c5.cell 0
        have e13 := cn.c13.cell 0
        have e15 := cn.c15.cell 0
        have e16 := bd.c16.cell 0
        simp only [List.getElem?_cons_zero] at e5 e13 e15 e16
        have CN1 := Lib.hid cn
        have BD1 := Lib.hid bd
        have HK1 := Lib.hid hK
        have HD1 := Lib.hid hD
        have HKK := Lib.hid hk
        clear cn bd hK hD
        dsimp only
        go_wp2_with fail
        clear e5 e13 e15 e16
        rw [rounds_succ]
        go_wp2_with fail
        obtain ⟨flx, hix, hlx⟩ := BD1.out.i
        have hs2 : src V1 sv (is ws) := fun h0 => by
          obtain ⟨hb, off, e, h1, _, hc⟩ := CN1.out.s (by rw [is_len] at h0; exact h0)
          exact ⟨hb, off, e, by have := BD1.out.c16.lt; omega, hc⟩
        have DG : Hid (V1.heap.size > D1 ∧ g < D1) := Lib.hid ⟨(Array.getElem?_eq_some_iff.1 HK1.out).1, by have := CBH.out.gl; have := HSZ.out; have := HD1.out; omega⟩
        obtain ⟨cn, cb, bd, hbn, hwn⟩ := cn_start (turn := 1) hix hlx CN1.out.x CN1.out.c13 hs2 AV.out CN1.out.it CN1.out.cq BN.out.1 BN.out.2.1 BD1.out.lb ((Below.refl _ _).alloc (Nat.le_refl _) _) (has.new V1 3 [.int .i64 1])
        simp only [World.size_alloc] at cn cb bd hbn hwn
        have hsz : ((V1.alloc (.cells #[.int .i64 1] 3)).alloc (.cells #[.int .i64 0] 3)).heap.size = V1.heap.size + 1 + 1 := by simp only [World.size_alloc]
        have DW2 := Lib.hid (((Below.refl V1.heap.size V1).alloc (Nat.le_refl _) (.cells #[.int .i64 1] 3)).alloc (by simp) (.cells #[.int .i64 0] 3) |>.block D1 DG.out.1 |>.trans HK1.out)
        obtain ⟨Wr2, hWr2⟩ : ∃ Wr2, (V1.alloc (.cells #[.int .i64 1] 3)).alloc (.cells #[.int .i64 0] 3) = Wr2 := ⟨_, rfl⟩
        rw [hWr2] at cn bd hsz DW2 ⊢
        clear hWr2
        obtain ⟨zt2, hzt2⟩ : ∃ zt2, V1.heap.size = zt2 := ⟨_, rfl⟩
        rw [hzt2] at cn cb bd hbn hwn hsz ⊢
        have ZL2 : Hid (D1 < zt2 + 1) := Lib.hid (by have := DG.out.1; omega)
        have CNH2 := Lib.hid cn
        have CBH2 := Lib.hid cb
        have BDH2 := Lib.hid bd
        have HSZ2 := Lib.hid hsz
        have HBN2 := Lib.hid hbn
        have HWN2 := Lib.hid hwn
        clear cn cb bd hsz hbn hwn hzt2
        refine wp_join (fun D W => Wr2.heap.size ≤ D ∧ W.heap[D]? = some (.deferred (some [])) ∧ ∃ k : Nat, BD w Wr2 (zt2 + 1) b g m k W ∧ k = cnt) ?h1 ?h2
        case h1 =>
          refine (wpIn_wide (n := 4)).1 ?_
          refine' wpIn_rangeFunc_ownG rfl (by omega) (gf := 33) (lb := #[.pointer (some ⟨qi, 0, none⟩)]) rfl trivial (enters_of Tryd.func33 (by kernel_rfl) rfl)
            (HSQ.out Wr2 (zt2 + 1) CBH2.out.lq CBH2.out.lb CBH2.out.lg CBH2.out.nq CBH2.out.nb CBH2.out.ng (by omega) CBH2.out.g0 (by rw [HSZ2.out]; omega) CNH2.out.cq CNH2.out.it)
            (fun h k => h.trans k) (fun W l o o' hl _ _ _ => KF.ofPut W l o o' (by rw [HSZ2.out] at hl; omega)) (Below.refl _ _) (fun _ => rfl)
            (II w Wr2 (zt2 + 1) b g m mn 1 ws) (IX w Wr2 (zt2 + 1) b g m mn 1 ws)
            (by rw [HSZ2.out]; exact II.own HWN2.out (by omega) HBN2.out CBH2.out.gl) (fun c => by rw [HSZ2.out]; exact IX.own HWN2.out (by omega) HBN2.out CBH2.out.gl c)
            ⟨BDH2.out, List.nil_prefix, fun h => absurd h (by decide)⟩ (a₁ := _) ?assign ?body ?done ?stop
          case assign =>
            intro l x W K hK
            gi_wp2
            exact hK
          case body =>
            intro l pre x W hI hlt
            obtain ⟨bd, hp, ht⟩ := hI
            obtain ⟨k, hk⟩ : ∃ k, pre.length = k := ⟨_, rfl⟩
            have cn := CNH2.out.keep CBH2.out bd.f
            have e3 := cn.x.c3.cell 0
            have e5 := cn.x.c5.cell 0
            have e7 := cn.x.c7.cell 0
            have e6 := cn.x.c6.cell 0
            have e13 := cn.c13.cell 0
            have e15 := cn.c15.cell 0
            have e16 := bd.c16.cell 0
            have f16 := bd.c16.free 0
            have f6 := cn.x.c6.free 0
            rw [hk] at bd e16 ht
            simp only [List.getElem?_cons_zero] at e3 e5 e7 e6 e13 e15 e16
            have hkc : k ≤ cnt := by rw [← hk, ← WL.out]; exact hp.length_le
            by_cases hx : ws[k]? = some x
            · have hkl : k < ws.length := (List.getElem?_eq_some_iff.1 hx).1
              have hkl2 : k < cnt := by rw [← WL.out]; exact hkl
              obtain ⟨hb, off, hsv, _, _, hc⟩ := cn.s (by omega)
              have ew := hc k (.int .i64 x) (by simp [is, hx])
              rw [hsv] at e13
              have dk : decide ((cnt : Int) ≤ (k : Int)) = false := by simp; omega
              have dk2 : decide ((k : Int) < (cnt : Int)) = true := by simp; omega
              have hpp : Hid (pre ++ [x] <+: ws) := Lib.hid (pre_yes hp (by rw [hk]; exact hx))
              obtain ⟨kk, hkk⟩ : ∃ kk, k + 1 = kk := ⟨_, rfl⟩
              have ek : (k : Int) + 1 = (kk : Int) := by omega
              have hpl : Hid ((pre ++ [x]).length = kk) := Lib.hid (by rw [List.length_append, hk]; exact hkk)
              obtain ⟨bd1, gk1⟩ := bd.put HWN2.out (by omega) HBN2.out CBH2.out.gl kk
              obtain ⟨fl1, hi1, hl1⟩ := bd1.i
              have HF := Lib.hid (Free_any hi1 x)
              have kb : kk ≤ 200 := by have := List.count_le_length (a := true) (l := fl); have := HCN.out; have := HL.out; omega
              have BD1 := Lib.hid bd1
              have GK1 := Lib.hid gk1
              have HL1 := Lib.hid hl1
              have HK := Lib.hid hkk
              have nz : z ≠ zt2 + 1 := Nat.ne_of_lt CBH2.out.l7
              have nr : w.heap.size ≠ zt2 + 1 := by have := CBH2.out.l3; omega
              have nr1 : w.heap.size + 1 ≠ zt2 + 1 := by have := CBH2.out.l3; omega
              clear bd bd1 gk1 hi1 hl1 hc hp ht hkk hx hkl hkc hlt cn
              gi_wp2_with (refine ⟨trivial, ?_⟩; first | (gi_at_call 16; refine (CallsIn.inRound l (callsIn_wide.2 HF.out)).mono ?_; rintro e w4 ⟨rfl, hi4, hg4⟩; obtain ⟨bd4, gk4⟩ := BD1.out.step (by have := S2.out.hg; omega) CBH2.out.gl hi4 (by rw [frF_len]; exact HL1.out) hg4; have cn4 := CNH2.out.keep CBH2.out bd4.f; have p3 := cn4.x.c3.cell 0; have p7 := cn4.x.c7.cell 0; simp only [List.getElem?_cons_zero] at p3 p7; have BD4 := Lib.hid bd4; have GK4 := Lib.hid gk4; have HC4 := Lib.hid (Claim_any hi4 (m : Int)); have L4 : Hid ((clF (frF fl1 x) (m : Int)).length = m) := Lib.hid (by rw [clF_len, frF_len]; exact HL1.out); clear hi4 hg4 bd4 gk4 cn4) | (gi_at_call 19; refine (CallsIn.inRound l (callsIn_wide.2 HC4.out)).mono ?_; rintro e w5 ⟨rfl, hi5, hg5⟩; obtain ⟨bd5, gk5⟩ := BD4.out.step (by have := S2.out.hg; omega) CBH2.out.gl hi5 L4.out hg5; have cn5 := CNH2.out.keep CBH2.out bd5.f; have r5 := cn5.x.c5.cell 0; have r15 := cn5.c15.cell 0; have r16 := bd5.c16.cell 0; simp only [List.getElem?_cons_zero] at r5 r15 r16; have BD5 := Lib.hid bd5; have GK5 := Lib.hid gk5; clear hi5 hg5 bd5 gk5 cn5))
              have GKA := (GK1.out.trans GK4.out).trans GK5.out
              exact ⟨by rw [HSZ2.out]; exact GKA.k, GKA.f, by rw [hpl.out]; exact BD5.out, hpp.out, fun h => absurd h (by decide)⟩
            · have hno : Hid (¬ pre ++ [x] <+: ws) := Lib.hid (pre_no (by rw [hk]; exact hx))
              have HR6 : Hid (w.heap.size + 1 + 1 < zt2 + 1 + 1) := Lib.hid (by have := CBH2.out.l3; omega)
              by_cases hkl2 : k < cnt
              · have hkl : k < ws.length := by rw [WL.out]; exact hkl2
                obtain ⟨v, hv⟩ : ∃ v, ws[k]? = some v := ⟨_, List.getElem?_eq_getElem hkl⟩
                have hvx : x ≠ v := fun e => hx (by rw [hv, e])
                obtain ⟨hb, off, hsv, _, _, hc⟩ := cn.s (by omega)
                have ew := hc k (.int .i64 v) (by simp [is, hv])
                rw [hsv] at e13
                have dk : decide ((cnt : Int) ≤ (k : Int)) = false := by simp; omega
                have dk2 : decide ((k : Int) < (cnt : Int)) = true := by simp; omega
                have dx : (x == v) = false := by simpa using hvx
                have dx2 : (x != v) = true := by simpa using hvx
                clear bd hp ht hx hkl hkc hlt cn hc hv hvx
                gi_wp2
                exact ⟨by rw [HSZ2.out]; exact KeepsFrom.of_grownBy (grown_set _ _ _) (fun r e => by cases e; exact HR6.out), .inl ⟨rfl, hno.out⟩⟩
              · have dk : decide ((cnt : Int) ≤ (k : Int)) = true := by simp; omega
                clear bd hp ht hx hkc hlt cn
                gi_wp2
                exact ⟨by rw [HSZ2.out]; exact KeepsFrom.of_grownBy (grown_set _ _ _) (fun r e => by cases e; exact HR6.out), .inl ⟨rfl, hno.out⟩⟩
          case done =>
            rintro D ys W hD rfl ⟨bd, _, _⟩ hK
            rw [WL.out] at bd
            exact ⟨.inl rfl, D, rfl, hD, hK, cnt, bd, rfl⟩
          case stop =>
            rintro D c pre W hD hp (⟨rfl, hno⟩ | ⟨rfl, h10, _⟩) hK
            · exact absurd hp hno
            · exact absurd h10 (by decide)
        case h2 =>
          rintro D2 V2 ⟨hD, hK, k2, bd, rfl⟩
          have cn := CNH2.out.keep CBH2.out bd.f
          have hK1 : V2.heap[D1]? = some (.deferred (some [])) := by
            have d := DG.out
            have := CBH2.out.l15
            have e := HSZ2.out
            rw [bd.f.block D1 (by have := ZL2.out; omega) (by omega)]
            exact DW2.out
          have e5 := cn.x.c5.cell 0
          have e13 := cn.c13.cell 0
          have e15 := cn.c15.cell 0
          have e16 := bd.c16.cell 0
          simp only [List.getElem?_cons_zero] at e5 e13 e15 e16
          have CN2 := Lib.hid cn
          have BD2 := Lib.hid bd
          have HK2 := Lib.hid hK
          have HD2 := Lib.hid hD
          have HKA := Lib.hid hK1
          clear cn bd hK hD hK1
          dsimp only
          go_wp2_with fail
          rw [rounds_succ]
          go_wp2_with fail
          have hv : Below V2.heap.size V2 (V2.alloc (.cells #[.int .i64 2] 3)) := (Below.refl _ _).alloc (Nat.le_refl _) _
          have hbk : Below w.heap.size w (V2.alloc (.cells #[.int .i64 2] 3)) := BD2.out.lb.alloc BD2.out.lb.size _
          refine (known_any (V2.alloc (.cells #[.int .i64 2] 3)) (HT.out.below hbk HT.out.pos)).mono ?_
          rintro e w9 ⟨rfl, hb9⟩
          have hb9v := hv.trans (hb9.mono hv.size)
          have c6 := CN2.out.x.c6.below hb9v CN2.out.x.c6.lt
          have f6 := c6.free 0
          have x6 := c6.cell 0
          simp only [List.getElem?_cons_zero] at x6
          have l1 := (Array.getElem?_eq_some_iff.1 HKA.out).1
          have l2 := (Array.getElem?_eq_some_iff.1 HK2.out).1
          have r1 := (CBH2.out.l3)
          have K1 := Lib.hid ((hb9v.block D1 l1).trans HKA.out)
          have K2 := Lib.hid ((hb9v.block D2 l2).trans HK2.out)
          have C6 := Lib.hid c6
          have B9 := Lib.hid (hbk.trans (hb9.mono hbk.size))
          have N12 : Hid (D2 ≠ D1 ∧ w.heap.size ≤ D1 ∧ w.heap.size ≤ D2 ∧ w.heap.size + 1 + 1 ≠ D1 ∧ w.heap.size + 1 + 1 ≠ D2) := Lib.hid (by
            have h1 := HD2.out
            have h2 := HSZ2.out
            have h3 := ZL2.out
            have h4 := HD1.out
            have h5 := HSZ.out
            have h6 := CBH.out.l3
            omega)
          clear hv hbk hb9 hb9v c6 l1 l2
          go_wp2
          have G := grown_set w9 ⟨w.heap.size + 1 + 1, 0, none⟩ (.bool true)
          have n12 := N12.out
          have q2 : (w9.setCell ⟨w.heap.size + 1 + 1, 0, none⟩ (.bool true)).heap[D2]? = some (.deferred (some [])) := (Below.heap_setCell _ _ _ _ (by show D2 ≠ w.heap.size + 1 + 1; omega)).trans K2.out
          have q1 : (w9.setCell ⟨w.heap.size + 1 + 1, 0, none⟩ (.bool true)).heap[D1]? = some (.deferred (some [])) := (Below.heap_setCell _ _ _ _ (by show D1 ≠ w.heap.size + 1 + 1; omega)).trans K1.out
          have q6 := C6.out.put 0 (.bool true)
          have qb : Below w.heap.size w (w9.setCell ⟨w.heap.size + 1 + 1, 0, none⟩ (.bool true)) := below_grown B9.out G B9.out.size (by show w.heap.size ≤ w.heap.size + 1 + 1; omega)
          obtain ⟨V, hV⟩ : ∃ V, w9.setCell ⟨w.heap.size + 1 + 1, 0, none⟩ (.bool true) = V := ⟨_, rfl⟩
          rw [hV] at q2 q1 q6 qb ⊢
          rw [← HQ.out]
          have q1' : (V.putObj D2 (.deferred none)).heap[D1]? = some (.deferred (some [])) := (World.putObj_heap_other (by omega)).trans q1
          have q6' : has ((V.putObj D2 (.deferred none)).putObj D1 (.deferred none)) (w.heap.size + 1 + 1) 4 [.bool true] := (World.putObj_heap_other (by omega)).trans ((World.putObj_heap_other (by omega)).trans q6)
          refine ⟨by simp, .inl ⟨_, _, rfl, run_takeDeferred q2, by simp, .inl ⟨_, _, rfl, run_takeDeferred q1', ?_⟩⟩⟩
          refine ⟨.bool true, res6 _ _ (w.heap.size + 1 + 1) rfl (q6'.cell 0), rfl, ?_⟩
          exact (qb.trans (belowK_b (w := w) (Nat.le_refl _) V D2 _ _ n12.2.2.1 q2 rfl rfl)).trans (belowK_b (w := w) (Nat.le_refl _) _ D1 _ _ n12.2.1 q1' rfl rfl)
end Go.Proofs.YtefncefmolphfaaDoor.idFnX
