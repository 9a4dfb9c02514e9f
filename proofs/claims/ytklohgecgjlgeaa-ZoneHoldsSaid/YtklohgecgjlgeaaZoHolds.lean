/- The stage's law: the walk. -/
import Derived.Test.YtklohgecgjlgeaaZoHSeen
namespace Go.Proofs.Ytklohgecgjlgeaa.zoFn
open Go.ChangeShapes Go.WideShapes Go.ChangeAt Go.RowKit drMem
set_option linter.unusedVariables false
variable {F G : Nat → Prop} {w w' W W' : World} {b gl mb : Nat} {L M : List (List Int)}

set_option maxRecDepth 100000 in
theorem holds_out (m : Int) (sp : Option Addr) (len cap : Nat) (w : World) (h : m < 1 ∨ 32 < m) :
    Calls Try.prog 6 #[.int .i64 m, .slice sp len cap] w (knownPost w) := by
  by_cases h1 : m < 1
  · have q0 : decide (m < 1) = true := by simpa using h1
    clear h h1
    go_enter Try.func6, Try.ntmps6
    go_wp2_with fail
    refine (known_any _).mono ?_
    rintro e w' ⟨rfl, hb⟩
    go_wp2
    go_ret
    exact ⟨rfl, hb⟩
  · have q0 : decide (m < 1) = false := by simpa using h1
    have q1 : decide (32 < m) = true := by simp; omega
    clear h h1
    go_enter Try.func6, Try.ntmps6
    go_wp2_with fail
    refine (known_any _).mono ?_
    rintro e w' ⟨rfl, hb⟩
    go_wp2
    go_ret
    exact ⟨rfl, hb⟩
set_option maxRecDepth 100000 in
set_option maxHeartbeats 16000000 in
theorem holds_main (m : Nat) (sp : Option Addr) (len cap : Nat) (acts : List ActR) (w : World) (ha : ActsAt w sp len acts) (h1 : 1 ≤ m) (h2 : m ≤ 32) :
    Calls Try.prog 6 #[.int .i64 (m : Int), .slice sp len cap] w (knownPost w) := by
  have q0 : decide ((m : Int) < 1) = false := by simp; omega
  have q1 : decide (32 < (m : Int)) = false := by simp; omega
  have hmk := fun V => run_make_row' (P := Try.prog) 40 35 (.slice none 0 0) 24 Try.underlying40 infoS rfl .i64 .i64 m (by omega) (by omega) V
  have hmm := @run_makeMap Try.prog
  have HSM := Lib.hid (small_any sp len cap acts w ha)
  have HA := Lib.hid ha
  have hlm := ha.m
  clear ha
  go_enter Try.func6, Try.ntmps6
  go_wp2_with fail
  refine HSM.out.mono ?_
  rintro e w' ⟨x, rfl, rfl⟩
  cases x with
  | false =>
    go_wp2_with fail
    refine (known_any _).mono ?_
    rintro e w' ⟨rfl, hb⟩
    go_wp2
    go_ret
    exact ⟨rfl, hb⟩
  | true =>
    go_wp2_with fail
    refine (New_any m h1 h2 w w (Below.refl _ _)).mono ?_
    rintro e w0 ⟨b, gl, mb, rfl, hz⟩
    have Z0 : Hid (ZF (fun k => k < w.heap.size) w b gl mb (List.replicate m []) w0) := Lib.hid (ZF.of hz)
    clear hz q0 q1 HSM
    go_wp2
    go_loopg [50] len (fun gh i wx => ∃ (k : Nat) (L : List (List Int)), k ≤ len ∧ gh = len - k ∧ i = .int .i64 (k : Int) ∧ L.length = m ∧ Hid (ZF (fun k => k < w.heap.size) w b gl mb L wx))
    case atStart => exact ⟨0, _, Nat.zero_le _, rfl, rfl, by simp, Z0⟩
    case round =>
      obtain ⟨k, L, hk, rfl, rfl, hL, hs⟩ := hrel
      clear Z0
      by_cases hlt : k < len
      · as_aux_lemma =>
          obtain ⟨ab, ao, rfl, hab, hac⟩ := HA.out.c (by omega)
          obtain ⟨r, hr⟩ : ∃ r, acts[k]? = some r := ⟨_, List.getElem?_eq_getElem (by rw [HA.out.n]; exact hlt)⟩
          have hact := hac k r hr
          have hsb := hs.out.f
          have c0 := (hsb.cell (p := ⟨ab, ao + k * 4, none⟩) hab).trans hact.c0
          have c1 := (hsb.cell (p := ⟨ab, ao + k * 4 + 1, none⟩) hab).trans hact.c1
          have c2 := (hsb.cell (p := ⟨ab, ao + k * 4 + 2, none⟩) hab).trans hact.c2
          have c3 := (hsb.cell (p := ⟨ab, ao + k * 4 + 3, none⟩) hab).trans hact.c3
          have HID := Lib.hid hact.h1
          have hw0 := hact.h0
          have hw1 := hact.h1
          have hw2 := hact.h2
          have HZ := hs
          clear hr hact hac hsb hs
          obtain ⟨wo, rfl⟩ : ∃ wo : World, wo = wr := ⟨_, rfl⟩
          have P0 : Hid (PB wo wo.heap.size r L m 0 ((wo.alloc (.cells #[.int .i64 r.what, .int .i64 r.n, .int .i64 r.many, .slice r.sp r.list.length r.cap] 51)).alloc (.cells (madeCells #[Value.slice none 0 0] m) 35))) := Lib.hid (by
            rw [made_list]
            have e : (wo.alloc (.cells #[.int .i64 r.what, .int .i64 r.n, .int .i64 r.many, .slice r.sp r.list.length r.cap] 51)).heap.size = wo.heap.size + 1 := by simp
            refine ⟨(has.new wo 51 [_, _, _, _]).alloc _, ⟨List.replicate m (.slice none 0 0), ?_, by simp, fun j hj => by omega, fun j g hj => by omega⟩, ((Below.refl _ _).alloc (Nat.le_refl _) _).alloc (by simp) _⟩
            rw [← e]
            exact has.new _ 35 _)
          have HL := Lib.hid hL
          clear hL
          go_wp2
          go_loopg [58] m (fun gh i wx => ∃ j : Nat, j ≤ m ∧ gh = m - j ∧ i = .int .i64 (j : Int) ∧ Hid (PB wo wo.heap.size r L m j wx))
          case atStart => exact ⟨0, Nat.zero_le _, rfl, rfl, P0⟩
          case round =>
            obtain ⟨j, hj, rfl, rfl, hp⟩ := hrel
            clear P0 c0 c1 c2 c3
            by_cases hjm : j < m
            · as_aux_lemma =>
                have HP := hp
                have HZ1 := Lib.hid (HZ.out.below HP.out.f)
                have hsz := HP.out.f.size
                clear hp hmk hmm
                go_wp2_with fail
                refine (list_f HZ1.out (z := (j : Int)) (l := row L j) (l_row (by rw [HL.out]; exact hjm))).mono ?_
                rintro e w1 ⟨v, rfl, hrv, hov, hb⟩
                obtain ⟨sp', n', c', rfl⟩ := hrv.shape
                have P1 := Lib.hid (HP.out.below hb (Nat.le_refl _) hsz)
                obtain ⟨⟨u, hu⟩, hf⟩ := P1.out.cell hjm
                have NX := Lib.hid (P1.out.step hjm hrv (fun g e => by have := hov g e; omega))
                clear hrv hov hb HP HZ1 P1
                go_wp2
                go_roundg (m - (j + 1))
                case measure => go_light; omega
                case rel => go_light; exact ⟨j + 1, by omega, rfl, by go_num, NX⟩
            · as_aux_lemma =>
                obtain rfl : j = m := by omega
                have HP := hp
                have pid := HP.out.id
                have HZ1 := Lib.hid (HZ.out.below HP.out.f)
                have HW := Lib.hid (Where_any HZ1.out.z r.n HID.out)
                have hsz := HP.out.f.size
                clear hp hmk
                go_upto_if 76 with (first | (go_at_call 24; refine HW.out.mono ?_; rintro e w1 ⟨rfl, hb⟩; have B1 := Lib.hid hb; clear hb))
                have hw1s := B1.out.size
                have P2 : Hid (∀ o, PB wo wo.heap.size r L j j (w1.alloc o)) := Lib.hid (fun o => (HP.out.below B1.out (Nat.le_refl _) hsz).below ((Below.refl _ _).alloc (Nat.le_refl _) _) (Nat.le_refl _) (by omega))
                have N2 := Lib.hid (has.new w1 33 [.int .i64 ((whZ L.length L r.n : Nat) : Int), .int .i64 ((whI L.length L r.n : Nat) : Int)])
                have hfz : Hid ((leaE L.length L r.n = 0 → ((whZ L.length L r.n : Nat) : Int) = fromZ L r.n) ∧ (leaE L.length L r.n ≠ 0 → fromZ L r.n = -1)) := Lib.hid ⟨fun h => by unfold whZ fromZ; rw [if_pos h, if_pos h], fun h => by unfold fromZ; rw [if_neg h]⟩
                generalize leaE L.length L r.n = er0 at *
                generalize ((whZ L.length L r.n : Nat) : Int) = z0 at *
                generalize ((whI L.length L r.n : Nat) : Int) = i0 at *
                clear HW pid
                go_cut [] (fun wx => Hid (PB wo wo.heap.size r L j j wx) ∧ ∃ c, Hid (has wx w1.heap.size 33 [.int .i64 (fromZ L r.n), c]))
                case first =>
                  by_cases he : er0 = 0
                  · as_aux_lemma =>
                      have d0 : (er0 != 0) = false := by rw [he]; rfl
                      have hz0 := hfz.out.1 he
                      clear he
                      go_wp2
                      go_meet
                      exact ⟨Lib.hid (P2.out _), .int .i64 i0, by rw [← hz0]; exact N2⟩
                  · as_aux_lemma =>
                      have d0 : (er0 != 0) = true := by simpa using he
                      have hz0 := hfz.out.2 he
                      have a0 := N2.out.cell 0
                      have a1 := N2.out.free 0
                      clear he
                      go_wp2
                      go_meet
                      exact ⟨Lib.hid (P2.out _), .int .i64 i0, by rw [hz0]; exact Lib.hid (has.new w1 33 [.int .i64 (-1), .int .i64 i0])⟩
                case rest =>
                  obtain ⟨P3, c9, N3⟩ := hcut
                  obtain ⟨wk, rfl⟩ : ∃ wk : World, wk = wc := ⟨_, rfl⟩
                  have hws : w.heap.size ≤ wo.heap.size := HZ.out.f.size
                  have hqs : wo.heap.size ≤ w1.heap.size := by omega
                  obtain ⟨vs, hbx⟩ := P3.out.box N3.out hqs
                  have hqa : wo.heap.size ≠ w1.heap.size := P3.out.A.ne N3.out (by decide)
                  have BX3 := Lib.hid hbx
                  have ZF3 := Lib.hid (HZ.out.round P3.out.f)
                  have a0 := hbx.A.cell 0
                  have a1 := hbx.id
                  have a2 := hbx.zone
                  simp only [List.getElem?_cons_zero] at a0
                  generalize w1.heap.size = q at *
                  clear P2 N2 hfz HP HZ1 B1 hbx P3 N3 hsz hw1s
                  go_upto_block 4 with fail
                  go_cut [13] (fun s13 wx => ∃ er az M, s13 = .int .i64 er ∧ Hid (BX wo.heap.size wk.heap.size wo.heap.size (wo.heap.size + 1) q r az (fromZ L r.n) L j vs wx) ∧ Hid (ZF (fF w wo.heap.size wk.heap.size) w b gl mb M wx) ∧ Hid (Chg L M r.n er (fromZ L r.n) az) ∧ Hid (wk.heap.size ≤ wx.heap.size))
                  case first =>
                    have hFF : Hid (∀ k, wo.heap.size ≤ k → k < wk.heap.size → fF w wo.heap.size wk.heap.size k) := Lib.hid fun k ha hb => .inr ⟨ha, hb⟩
                    by_cases t0 : r.what = 0
                    · as_aux_lemma =>
                        have d0 : (r.what == 0) = true := by simpa using t0
                        clear t0
                        go_wp2_with (go_at_call 9; refine (put_f ZF3.out HID.out rfl rfl).mono ?_; rintro e w2 ⟨rfl, hz, hk2⟩; have Z4 := Lib.hid hz; have K4 := Lib.hid hk2; clear hz hk2)
                        go_meet
                        exact ⟨_, _, _, rfl, Lib.hid (BX3.out.keepF K4.out hFF.out), Z4, Lib.hid (chg_put L r.n r.many _), Lib.hid K4.out.size⟩
                    · as_aux_lemma =>
                        have d0 : (r.what == 0) = false := by simpa using t0
                        by_cases t1 : r.what = 1
                        · as_aux_lemma =>
                            have d1 : (r.what == 1) = true := by simpa using t1
                            clear t0 t1
                            go_wp2_with (go_at_call 10; refine (und_f ZF3.out HID.out rfl rfl).mono ?_; rintro e w2 ⟨rfl, hz, hk2⟩; have Z4 := Lib.hid hz; have K4 := Lib.hid hk2; clear hz hk2)
                            go_meet
                            exact ⟨_, _, _, rfl, Lib.hid (BX3.out.keepF K4.out hFF.out), Z4, Lib.hid (chg_und L r.n r.many _), Lib.hid K4.out.size⟩
                        · as_aux_lemma =>
                            have d1 : (r.what == 1) = false := by simpa using t1
                            by_cases t2 : r.what = 2
                            · as_aux_lemma =>
                                have d2 : (r.what == 2) = true := by simpa using t2
                                clear t0 t1 t2
                                go_wp2_with (go_at_call 11; refine (mov_f ZF3.out HID.out rfl rfl).mono ?_; rintro e w2 ⟨rfl, hz, hk2⟩; have Z4 := Lib.hid hz; have K4 := Lib.hid hk2; clear hz hk2)
                                go_meet
                                exact ⟨_, _, _, rfl, Lib.hid (BX3.out.keepF K4.out hFF.out), Z4, Lib.hid (chg_mov L r.n r.many), Lib.hid K4.out.size⟩
                            · as_aux_lemma =>
                                have d2 : (r.what == 2) = false := by simpa using t2
                                by_cases t3 : r.what = 3
                                · as_aux_lemma =>
                                    have d3 : (r.what == 3) = true := by simpa using t3
                                    clear t0 t1 t2 t3
                                    go_wp2_with (go_at_call 14; refine (rem_f ZF3.out HID.out rfl rfl).mono ?_; rintro e w2 ⟨rfl, hz, hk2⟩; have Z4 := Lib.hid hz; have K4 := Lib.hid hk2; have BX4 := Lib.hid (BX3.out.keepF hk2 hFF.out); have a4 := BX4.out.zone; have f4 := BX4.out.A.free 2; clear hz hk2)
                                    go_meet
                                    exact ⟨_, _, _, rfl, Lib.hid (BX4.out.unzone (by omega) hqa), Lib.hid (Z4.out.put2 _ BX3.out.la hws), Lib.hid (chg_rem L r.n _), Lib.hid (by have := K4.out.size; simp [World.setCell]; omega)⟩
                                · as_aux_lemma =>
                                    have d3 : (r.what == 3) = false := by simpa using t3
                                    have Z9 := Lib.hid ZF3.out.old
                                    clear t0 t1 t2 t3
                                    go_wp2
                                    go_roundg (len - (k + 1))
                                    case measure => go_light; omega
                                    case rel => go_light; exact ⟨k + 1, L, by omega, rfl, by go_num, HL.out, Z9⟩
                  case rest =>
                    obtain ⟨er, az, M, rfl, BX4, ZF4, CH, SZ4⟩ := hcut
                    have PS0 := Lib.hid (PS.start BX4.out ZF4.out SZ4.out)
                    have HML : Hid (M.length = j) := Lib.hid (by rw [CH.out.n, HL.out])
                    have hks : wo.heap.size + 1 < wk.heap.size := BX4.out.lb.2
                    have hks2 := SZ4.out
                    have HGL := Lib.hid HZ.out.z.good
                    have hws2 : w.heap.size ≤ wc.heap.size := by omega
                    obtain ⟨s, hse⟩ : ∃ s, wc.heap.size = s := ⟨_, rfl⟩
                    have HSE := Lib.hid hse
                    rw [hse] at PS0
                    clear BX3 ZF3 a0 a1 a2 BX4 ZF4 SZ4
                    rw [hse] at hks2 hws2
                    go_wp2
                    clear hse
                    go_loopg [114] j (fun gh i wx => ∃ t : Nat, t ≤ j ∧ gh = j - t ∧ i = .int .i64 (t : Int) ∧ Hid (PS w wo.heap.size wk.heap.size s q b gl mb r az (fromZ L r.n) L j vs M t wx))
                    case atStart => exact ⟨0, Nat.zero_le _, rfl, rfl, PS0⟩
                    case round =>
                      obtain ⟨t, ht, rfl, rfl, hps⟩ := hrel
                      clear PS0
                      by_cases htj : t < j
                      · as_aux_lemma =>
                          have HP := hps
                          have hid1 := HP.out.x.id
                          clear hps hmm
                          go_wp2_with fail
                          refine (list_f HP.out.z (z := (t : Int)) (l := row M t) (l_row (by rw [HML.out]; exact htj))).mono ?_
                          rintro e w1 ⟨v, rfl, hrv, hov, hb⟩
                          obtain ⟨sv, cv, rfl, _, _⟩ := hrv.form
                          have P1 := Lib.hid (HP.out.below hb)
                          have RV := Lib.hid hrv
                          have ZV := Lib.hid (HP.out.zv hb hrv hov)
                          have hsw1 := P1.out.se.lt
                          obtain ⟨so, co, hvo, _, _⟩ := (P1.out.x.R t htj).form
                          have RO := Lib.hid (P1.out.x.R t htj)
                          have OO := Lib.hid (P1.out.x.o t)
                          have u0 := P1.out.x.at htj
                          rw [hvo] at u0 RO OO
                          have id1 := P1.out.x.id
                          obtain ⟨nL, hnL⟩ : ∃ nL, (row L t).length = nL := ⟨_, rfl⟩
                          obtain ⟨nM, hnM⟩ : ∃ nM, (row M t).length = nM := ⟨_, rfl⟩
                          rw [hnL] at u0 RO OO
                          rw [hnM] at RV ZV ⊢
                          have HNL := Lib.hid hnL
                          have HNM := Lib.hid hnM
                          have hM4 : nM ≤ 4096 := by rw [← hnM]; exact ZV.out.z.good.len t
                          have hL4 : nL ≤ 4096 := by rw [← hnL]; exact HGL.out.len t
                          have HVO := Lib.hid hvo
                          have X0 : Hid (BK w1 (.slice none 0 0) (noID r.n ((row L t).take 0)) w1) := Lib.hid ⟨rowAt.nil _, fun g e => (by cases e), Below.refl _ _⟩
                          clear hrv hov hb hvo hnL hnM hid1 HP
                          go_wp2
                          clear u0
                          go_loopg [17, 125] nL (fun gh u i wx => ∃ k4 : Nat, k4 ≤ nL ∧ gh = nL - k4 ∧ i = .int .i64 (k4 : Int) ∧ Hid (BK w1 u (noID r.n ((row L t).take k4)) wx))
                          case atStart => exact ⟨0, Nat.zero_le _, rfl, rfl, X0⟩
                          case round =>
                            obtain ⟨k4, hk4, rfl, rfl, hx⟩ := hrel
                            clear X0
                            by_cases hlt4 : k4 < nL
                            · as_aux_lemma =>
                                obtain ⟨g, c', hv, hg, hc⟩ := RO.out.pos (by rw [HNL.out]; omega)
                                rw [HNL.out] at hv
                                obtain rfl : so = some ⟨g, 0, none⟩ := by cases hv; rfl
                                have hkl : k4 < (row L t).length := by rw [HNL.out]; exact hlt4
                                have y0 := (hx.out.f.cell (p := ⟨g, k4, none⟩) hg).trans (hc k4 _ (is_get _ k4 hkl))
                                have hwo1 : wo.heap.size < w1.heap.size := by have := P1.out.sn; omega
                                have i0 := (hx.out.f.cell (p := ⟨wo.heap.size, 1, none⟩) hwo1).trans id1
                                obtain ⟨n1e, n1n⟩ := noID_take (x := r.n) hkl
                                have HE := Lib.hid n1e
                                have HNE := Lib.hid n1n
                                have hlen4 : Hid ((noID r.n ((row L t).take k4)).length ≤ 4096) := Lib.hid (Nat.le_trans (noID_len _ _) (by rw [List.length_take]; omega))
                                have HX := hx
                                clear hx hc hv n1e n1n hkl hg id1
                                generalize (row L t).getD k4 0 = y at *
                                by_cases hy : y = r.n
                                · as_aux_lemma =>
                                    have dy : (y != r.n) = false := by simpa using hy
                                    have E := Lib.hid (HE.out hy)
                                    clear hy
                                    go_wp2
                                    go_roundg (nL - (k4 + 1))
                                    case measure => go_light; omega
                                    case rel => go_light; exact ⟨k4 + 1, by omega, rfl, by go_num, by rw [E.out]; exact HX⟩
                                · as_aux_lemma =>
                                    have dy : (y != r.n) = true := by simpa using hy
                                    have E := Lib.hid (HNE.out hy)
                                    clear hy
                                    go_wp2_with (at_builtin; refine wpList_app rfl _ _ rfl _ _ rfl (HX.out.r.alloc _) ⟨wr.heap.size, 0, none⟩ 1 1 [y] rfl rfl (cell_one_new _ _ _) (by have := hlen4.out; omega) ?_; intro v' w5 hr5 hg5 hv5; have NX := Lib.hid (HX.out.app hr5 hg5 hv5); clear hr5 hg5 hv5)
                                    go_roundg (nL - (k4 + 1))
                                    case measure => go_light; omega
                                    case rel => go_light; exact ⟨k4 + 1, by omega, rfl, by go_num, by rw [E.out]; exact NX⟩
                            · as_aux_lemma =>
                                obtain rfl : k4 = nL := by omega
                                obtain ⟨w2, rfl⟩ : ∃ w2 : World, w2 = wr := ⟨_, rfl⟩
                                have X2 : Hid (BK w1 _ (noID r.n (row L t)) w2) := Lib.hid (by have := hx.out; rw [List.take_of_length_le (by rw [HNL.out]; exact Nat.le_refl _)] at this; exact this)
                                have hw12 := X2.out.f.size
                                have P2 := Lib.hid (P1.out.below X2.out.f)
                                have RV2 := Lib.hid (RV.out.belowW X2.out.f)
                                have RO2 := Lib.hid (RO.out.belowW X2.out.f)
                                have ZV2 := Lib.hid (ZV.out.below X2.out.f)
                                have T0 : Hid (PT w2 s M t 0 (.slice none 0 0) (noID r.n ((row M t).take 0)) w2) := Lib.hid ⟨rowAt.nil _, fun g e => (by cases e), grown_refl _ _, P2.out.se, P2.out.se.lt⟩
                                have id2 := P2.out.x.id
                                have hwo2 : wo.heap.size < w2.heap.size := by have := P2.out.sn; have := P2.out.se.lt; omega
                                have hwos : wo.heap.size ≠ s := by have := P2.out.sn; omega
                                clear hx P1 RV RO ZV hlt4 id1 hsw1
                                go_wp2
                                go_loopg [18, 140] nM (fun gh u i wx => ∃ k5 : Nat, k5 ≤ nM ∧ gh = nM - k5 ∧ i = .int .i64 (k5 : Int) ∧ Hid (PT w2 s M t k5 u (noID r.n ((row M t).take k5)) wx))
                                case atStart => exact ⟨0, Nat.zero_le _, rfl, rfl, T0⟩
                                case round =>
                                  obtain ⟨k5, hk5, rfl, rfl, hx⟩ := hrel
                                  clear T0
                                  by_cases hlt5 : k5 < nM
                                  · as_aux_lemma =>
                                      obtain ⟨g, c', hv, hg, hc⟩ := RV2.out.pos (by rw [HNM.out]; omega)
                                      rw [HNM.out] at hv
                                      obtain rfl : sv = some ⟨g, 0, none⟩ := by cases hv; rfl
                                      have hkl : k5 < (row M t).length := by rw [HNM.out]; exact hlt5
                                      have hgs : g ≠ s := P2.out.se.ne RV2.out rfl
                                      have y0 := (World.cell?_of_block (a := ⟨g, k5, none⟩) (hx.out.gr.block g hg (fun e => hgs (Option.some.inj e)))).trans (hc k5 _ (is_get _ k5 hkl))
                                      have i0 := (World.cell?_of_block (a := ⟨wo.heap.size, 1, none⟩) (hx.out.gr.block wo.heap.size hwo2 (fun e => hwos (Option.some.inj e)))).trans id2
                                      obtain ⟨n1e, n1n⟩ := noID_take (x := r.n) hkl
                                      have HE := Lib.hid n1e
                                      have HNE := Lib.hid n1n
                                      have hlen5 : Hid ((noID r.n ((row M t).take k5)).length ≤ 4096) := Lib.hid (Nat.le_trans (noID_len _ _) (by rw [List.length_take]; omega))
                                      have hgM := ZV2.out.z.good
                                      have WH := Lib.hid (wh_ok hgM (by rw [HML.out]; exact htj) hkl)
                                      have SN := Lib.hid (seen_no hgM hkl)
                                      have SP := Lib.hid (seen_put hkl)
                                      have hyr := hgM.rng t _ (getD_mem hkl)
                                      have YO := Lib.hid (small_ok hyr)
                                      have hkey := keyOfI (x := (row M t).getD k5 0) (by omega)
                                      have HX := hx
                                      clear hx hc hv n1e n1n hkl hg hgs hgM hyr
                                      generalize (row M t).getD k5 0 = y at *
                                      by_cases hy : y = r.n
                                      · as_aux_lemma =>
                                          have dy : (y != r.n) = false := by simpa using hy
                                          have E := Lib.hid (HE.out hy)
                                          clear hy
                                          go_wp2_with (first
                                            | (at_lookup; obtain ⟨D, N, hN, hmo, hsm⟩ := HX.out.S; refine wpList_lookup_own_bool _ rfl _ _ 54 rfl 3 4 keyI Try.underlying54 Try.underlying4 (zeroB _) s N D rfl hmo _ _ rfl hkey false (by rw [hsm.a y, SN.out]) ?_; clear hN hmo hsm)
                                            | (go_at_call 15; refine (where_f (ZV2.out.seen HX.out.gr hws2) YO.out WH.out).mono ?_; rintro e w6 ⟨rfl, hb6⟩; have PY := Lib.hid (HX.out.below hb6); clear hb6)
                                            | (at_mapUpdate; obtain ⟨D, N, hN, hmo, hsm⟩ := PY.out.S; refine wpList_mapUpdate_own _ rfl _ _ _ 54 rfl 3 4 keyI Try.underlying54 _ s N D rfl hmo (by unfold maxLen; omega) _ _ _ rfl rfl hkey _ [] (plainElem_bool Try.underlying4 true) ?_; intro w30 hown1 hgrow1; have PZ := Lib.hid (PY.out.mapped hgrow1 ⟨_, _, by omega, hown1, hsm.put y SP.out.1 SP.out.2⟩); clear hN hmo hsm hown1 hgrow1))
                                          go_roundg (nM - (k5 + 1))
                                          case measure => go_light; omega
                                          case rel => go_light; exact ⟨k5 + 1, by omega, rfl, by go_num, by rw [E.out]; exact PZ⟩
                                      · as_aux_lemma =>
                                          have dy : (y != r.n) = true := by simpa using hy
                                          have E := Lib.hid (HNE.out hy)
                                          clear hy
                                          go_wp2_with (first
                                            | (at_builtin; refine wpList_app rfl _ _ rfl _ _ rfl (HX.out.r.alloc _) ⟨wr.heap.size, 0, none⟩ 1 1 [y] rfl rfl (cell_one_new _ _ _) (by have := hlen5.out; omega) ?_; intro v' w5 hr5 hg5 hv5; have PX := Lib.hid (HX.out.app hr5 hg5 hv5); clear hr5 hg5 hv5)
                                            | (at_lookup; obtain ⟨D, N, hN, hmo, hsm⟩ := PX.out.S; refine wpList_lookup_own_bool _ rfl _ _ 54 rfl 3 4 keyI Try.underlying54 Try.underlying4 (zeroB _) s N D rfl hmo _ _ rfl hkey false (by rw [hsm.a y, SN.out]) ?_; clear hN hmo hsm)
                                            | (go_at_call 15; refine (where_f (ZV2.out.seen PX.out.gr hws2) YO.out WH.out).mono ?_; rintro e w6 ⟨rfl, hb6⟩; have PY := Lib.hid (PX.out.below hb6); clear hb6)
                                            | (at_mapUpdate; obtain ⟨D, N, hN, hmo, hsm⟩ := PY.out.S; refine wpList_mapUpdate_own _ rfl _ _ _ 54 rfl 3 4 keyI Try.underlying54 _ s N D rfl hmo (by unfold maxLen; omega) _ _ _ rfl rfl hkey _ [] (plainElem_bool Try.underlying4 true) ?_; intro w30 hown1 hgrow1; have PZ := Lib.hid (PY.out.mapped hgrow1 ⟨_, _, by omega, hown1, hsm.put y SP.out.1 SP.out.2⟩); clear hN hmo hsm hown1 hgrow1))
                                          go_roundg (nM - (k5 + 1))
                                          case measure => go_light; omega
                                          case rel => go_light; exact ⟨k5 + 1, by omega, rfl, by go_num, by rw [E.out]; exact PZ⟩
                                  · as_aux_lemma =>
                                      obtain rfl : k5 = nM := by omega
                                      obtain ⟨w3, rfl⟩ : ∃ w3 : World, w3 = wr := ⟨_, rfl⟩
                                      have T3 : Hid (PT w2 s M t k5 _ (noID r.n (row M t)) w3) := Lib.hid (by have := hx.out; rw [List.take_of_length_le (by rw [HNM.out]; exact Nat.le_refl _)] at this; exact this)
                                      have hw23 := T3.out.gr.size
                                      have hn2w : wk.heap.size ≤ w2.heap.size := by have := P2.out.sn; have := P2.out.se.lt; omega
                                      have BX6 := Lib.hid (P2.out.x.grown T3.out.gr P2.out.sn hn2w)
                                      have SN2 := Lib.hid P2.out.sn
                                      have X3 := Lib.hid (X2.out.r.keep fun g e => T3.out.gr.block g (X2.out.r.lt e) (fun ee => P2.out.se.ne X2.out.r e (Option.some.inj ee).symm.symm))
                                      have RV3 := Lib.hid (RV2.out.keep fun g e => T3.out.gr.block g (RV2.out.lt e) (fun ee => P2.out.se.ne RV2.out e (Option.some.inj ee)))
                                      have RO3 := Lib.hid (RO2.out.keep fun g e => T3.out.gr.block g (RO2.out.lt e) (fun ee => P2.out.se.ne RO2.out e (Option.some.inj ee)))
                                      have ZV3 := Lib.hid (ZV2.out.seen T3.out.gr hws2)
                                      have u3 := BX6.out.at htj
                                      rw [HVO.out, HNL.out] at u3
                                      have f3 := BX6.out.whence
                                      have z3 := BX6.out.zone
                                      have SA : Hid (idFn.sameB (noID r.n (row L t)) (noID r.n (row M t)) = true) := Lib.hid (idFn.sameB_of (CH.out.a t))
                                      have hl1 : Hid ((noID r.n (row L t)).length ≤ 65536 ∧ (noID r.n (row M t)).length ≤ 65536 ∧ (row M t).length ≤ 65536 ∧ (row L t).length ≤ 65536) := Lib.hid ⟨by have := noID_len r.n (row L t); have := HNL.out; omega, by have := noID_len r.n (row M t); have := HNM.out; omega, by have := HNM.out; omega, by have := HNL.out; omega⟩
                                      clear hx P2 X2 RV2 RO2 ZV2 id2 hlt5
                                      go_upto_region 50 with fail
                                      go_cut [196] (fun s196 wx => s196 = .bool false ∧ ∃ nn, wx = w3.drewN nn)
                                      case first =>
                                        have HS1 := Lib.hid (same_r X3.out T3.out.r hl1.out.1 hl1.out.2.1)
                                        rw [SA.out] at HS1
                                        have HS2 : Hid (∀ n1, row M t = row L t → Calls Try.prog 16 #[.slice sv k5 cv, .slice so k4 co] (w3.drewN n1) fun e w' => e = .returned (.bool true) ∧ ∃ n, w' = w3.drewN n) := Lib.hid fun n1 he => by
                                          have := same_r (RV3.out.keep (w' := w3.drewN n1) fun g _ => rfl) (RO3.out.keep (w' := w3.drewN n1) fun g _ => rfl) hl1.out.2.2.1 hl1.out.2.2.2
                                          rw [idFn.sameB_of he] at this
                                          exact this.mono fun e w' ⟨ha, n, hb⟩ => ⟨ha, n1 + n, by rw [hb]; exact idFn.drew2 _ _ _⟩
                                        by_cases e0 : er = 0
                                        · as_aux_lemma =>
                                            have de : (er != 0) = false := by simpa using e0
                                            by_cases ef : (t : Int) = fromZ L r.n
                                            · as_aux_lemma =>
                                                have df : ((t : Int) != fromZ L r.n) = false := by simpa using ef
                                                clear e0 ef
                                                go_wp2_with (go_at_call 16; refine HS1.out.mono ?_; rintro e w' ⟨rfl, nn, rfl⟩)
                                                go_meet
                                                exact ⟨rfl, nn, rfl⟩
                                            · as_aux_lemma =>
                                                have df : ((t : Int) != fromZ L r.n) = true := by simpa using ef
                                                by_cases ez : (t : Int) = az
                                                · as_aux_lemma =>
                                                    have dz : ((t : Int) != az) = false := by simpa using ez
                                                    clear e0 ef ez
                                                    go_wp2_with (go_at_call 16; refine HS1.out.mono ?_; rintro e w' ⟨rfl, nn, rfl⟩)
                                                    go_meet
                                                    exact ⟨rfl, nn, rfl⟩
                                                · as_aux_lemma =>
                                                    have dz : ((t : Int) != az) = true := by simpa using ez
                                                    have HEQ := Lib.hid (CH.out.c t e0 ef ez)
                                                    clear e0 ef ez
                                                    go_wp2_with fail
                                                    refine HS1.out.mono ?_
                                                    rintro e w' ⟨rfl, nn, rfl⟩
                                                    go_wp2_with fail
                                                    refine (HS2.out nn HEQ.out).mono ?_
                                                    rintro e w' ⟨rfl, n9, rfl⟩
                                                    go_wp2
                                                    go_meet
                                                    exact ⟨rfl, n9, rfl⟩
                                        · as_aux_lemma =>
                                            have de : (er != 0) = true := by simpa using e0
                                            have HEQ : Hid (row M t = row L t) := Lib.hid (by rw [CH.out.e e0])
                                            clear e0
                                            go_wp2_with fail
                                            refine HS1.out.mono ?_
                                            rintro e w' ⟨rfl, nn, rfl⟩
                                            go_wp2_with fail
                                            refine (HS2.out nn HEQ.out).mono ?_
                                            rintro e w' ⟨rfl, n9, rfl⟩
                                            go_wp2
                                            go_meet
                                            exact ⟨rfl, n9, rfl⟩
                                      case rest =>
                                        obtain ⟨rfl, nn, rfl⟩ := hcut
                                        have S4 := Lib.hid ((T3.out.drewN nn).S.next HNM.out hM4)
                                        have ZV4 := Lib.hid (ZV3.out.drewN nn)
                                        have BX7 := Lib.hid (BX6.out.keep (W' := w3.drewN nn) fun g _ _ => rfl)
                                        have RV4 := Lib.hid (RV3.out.keep (w' := w3.drewN nn) fun g _ => rfl)
                                        have hlen : t < M.length := by rw [HML.out]; exact htj
                                        have hgd := ZV4.out.z.good
                                        have hte := top_e hgd hlen
                                        have HT := Lib.hid (Top_any ZV4.out.z (t : Int))
                                        rw [hte.1, hte.2, HNM.out] at HT
                                        clear hte T3 ZV3 BX6 X3 RV3 RO3 u3 f3 z3 SA CH
                                        by_cases h0 : k5 = 0
                                        · as_aux_lemma =>
                                            rw [if_pos h0] at HT
                                            have d9 : ((9 : Int) == 0) = false := rfl
                                            clear h0 hgd hlen
                                            go_wp2_with (go_at_call 25; refine HT.out.mono ?_; rintro e w' ⟨rfl, rfl⟩)
                                            go_roundg (j - (t + 1))
                                            case measure => go_light; omega
                                            case rel => go_light; exact ⟨t + 1, by omega, rfl, by go_num, Lib.hid (PS.of BX7.out ZV4.out S4.out SN2.out)⟩
                                        · as_aux_lemma =>
                                            rw [if_neg h0] at HT
                                            have hpos : 0 < (row M t).length := by rw [HNM.out]; omega
                                            have hmt := mov_top hgd hlen hpos
                                            have HM := Lib.hid (mov_f ZV4.out (x := lastI (row M t)) (z := (t : Int)) (small_ok (hgd.rng t _ (last_mem hpos))) hmt.1 hmt.2)
                                            have HFF := Lib.hid (show ∀ g, wo.heap.size ≤ g → g < wk.heap.size → kF w wo.heap.size wk.heap.size s (.slice sv k5 cv) g from fun g ha hb => .inl (.inl (.inr ⟨ha, hb⟩)))
                                            have HLR := Lib.hid (l_row hlen)
                                            clear h0 hgd hlen hpos hmt
                                            generalize lastI (row M t) = y at *
                                            go_wp2_with (first
                                              | (go_at_call 25; refine HT.out.mono ?_; rintro e w' ⟨rfl, rfl⟩)
                                              | (go_at_call 11; refine HM.out.mono ?_; rintro e w7 ⟨rfl, hz7, hk7⟩; have Z7 := Lib.hid hz7; have B7 := Lib.hid (BX7.out.keepF hk7 HFF.out); have S7 := Lib.hid (S4.out.keep (hk7.block s (.inl (.inr rfl)))); have R7 := Lib.hid (RV4.out.keep fun g e => hk7.block g (.inr e)); clear hz7 hk7)
                                              | (go_at_call 17; refine (list_f Z7.out HLR.out).mono ?_; rintro e w8 ⟨v8, rfl, hr8, hov8, hb8⟩; have Z8 := Lib.hid (Z7.out.below hb8); have B8 := Lib.hid (B7.out.below hb8 (by have := S7.out.lt; have := SN2.out; omega)); have S8 := Lib.hid (S7.out.keep (hb8.block s S7.out.lt)); have HS8 := Lib.hid (same_r hr8 (R7.out.belowW hb8) hl1.out.2.2.1 hl1.out.2.2.1); rw [idFn.sameB_of rfl] at HS8; clear hr8 hov8 hb8)
                                              | (go_at_call 16; refine HS8.out.mono ?_; rintro e w9 ⟨rfl, n9, rfl⟩))
                                            go_roundg (j - (t + 1))
                                            case measure => go_light; omega
                                            case rel => go_light; exact ⟨t + 1, by omega, rfl, by go_num, Lib.hid (PS.of (B8.out.keep (W' := w8.drewN n9) fun g _ _ => rfl) (Z8.out.drewN n9) (S8.out.keep rfl) SN2.out)⟩
                      · as_aux_lemma =>
                          obtain rfl : t = j := by omega
                          have ZE := Lib.hid hps.out.z.old
                          clear hps
                          go_wp2
                          go_roundg (len - (k + 1))
                          case measure => go_light; omega
                          case rel => go_light; exact ⟨k + 1, M, by omega, rfl, by go_num, HML.out, ZE⟩
      · as_aux_lemma =>
          obtain rfl : k = len := by omega
          have HK := Lib.hid (known_in hs.out.f)
          clear hs
          go_wp2_with fail
          refine HK.out.mono ?_
          rintro e w' ⟨rfl, hb⟩
          go_wp2
          go_ret
          exact ⟨rfl, hb⟩
theorem holds_law (a : Int) (sp : Option Addr) (len cap : Nat) (acts : List ActR) (w : World) (ha : ActsAt w sp len acts) : Calls Try.prog 6 #[.int .i64 a, .slice sp len cap] w (knownPost w) := by
  by_cases h : a < 1 ∨ 32 < a
  · exact holds_out a sp len cap w h
  · obtain ⟨m, rfl⟩ : ∃ m : Nat, a = (m : Int) := ⟨a.toNat, by omega⟩
    exact holds_main m sp len cap acts w ha (by omega) (by omega)
end Go.Proofs.Ytklohgecgjlgeaa.zoFn
