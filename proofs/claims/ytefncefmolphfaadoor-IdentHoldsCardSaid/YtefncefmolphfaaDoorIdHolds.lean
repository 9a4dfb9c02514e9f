/- The walk of the stage's theorem. -/
import Derived.Test.YtefncefmolphfaaDoorIdHRound
import Derived.Deep.LoopGhost
import Derived.Deep.Light
namespace Go.Proofs.YtefncefmolphfaaDoor.idFn
open Go.ChangeShapes Go.WideShapes Go.ChangeAt Go.RowKit drMem idBits
set_option linter.unusedVariables false

set_option maxRecDepth 100000 in
set_option maxHeartbeats 8000000 in
theorem holds_main (m : Nat) (m1 : 1 ≤ m) (m2 : m ≤ 200) (s2 : Option Addr) (n2 c2 : Nat) (acts : List ActR) (w : World) (ha : ActsAt w s2 n2 acts) (h100 : n2 ≤ 100) (ht : tabAt w) :
    Calls Tryd.prog 7 #[.int .i64 (m : Int), .slice s2 n2 c2] w fun e w' => e = .returned (.bool true) ∧ Below w.heap.size w w' := by
  have d1 : decide ((m : Int) < 1) = false := by simp; omega
  have d2 : decide (200 < (m : Int)) = false := by simp; omega
  have d3 : decide (100 < (n2 : Int)) = false := by simp; omega
  have HA := Lib.hid ha
  have HT := Lib.hid ht
  have hmm := @run_makeMap Tryd.prog
  clear ha ht
  go_enter Tryd.func7, Tryd.ntmps7
  go_wp2_with fail
  refine (new_c (w := w) m w m1 (by omega) HT.out (Below.refl _ _)).mono ?_
  rintro e w0 ⟨b, g, rfl, hs⟩
  have S0 := Lib.hid (hs0 hs)
  clear hs
  obtain ⟨wo, rfl⟩ : ∃ wo : World, wo = w0 := ⟨_, rfl⟩
  go_wp2
  clear hmm
  go_loopg [8, 44] n2 (fun gh cn i wx => ∃ (j : Nat) (fl : List Bool), j ≤ n2 ∧ gh = n2 - j ∧ i = .int .i64 (j : Int) ∧ fl.length = m ∧ cn = .int .i64 ((fl.count true : Nat) : Int) ∧ Hid (HS w b g wo.heap.size j fl fl wx))
  case atStart => exact ⟨0, _, Nat.zero_le _, rfl, rfl, by simp, by simp [List.count_replicate], S0⟩
  case round =>
    obtain ⟨j, fl, hj, rfl, rfl, hfl, rfl, HR⟩ := hrel
    clear S0
    by_cases hlt2 : j < n2
    · obtain ⟨ab, ao, rfl, hab, hcell⟩ := HA.out.c (by omega)
      obtain ⟨r, hr⟩ : ∃ r, acts[j]? = some r := ⟨_, List.getElem?_eq_getElem (by rw [HA.out.n]; exact hlt2)⟩
      have hact := hcell j r hr
      have e0 : wr.cell? ⟨ab, ao + j * 2, none⟩ = some (.int .i64 r.what) := (HR.out.s.f.cell (p := ⟨ab, ao + j * 2, none⟩) hab).trans hact.c0
      have e1 : wr.cell? ⟨ab, ao + j * 2 + 1, none⟩ = some (.int .i64 r.id) := (HR.out.s.f.cell (p := ⟨ab, ao + j * 2 + 1, none⟩) hab).trans hact.c1
      have hwz : (Lit.int .i64 r.id).wf = true := WalkArith.wf_i64 hact.h1
      have hcm : fl.count true ≤ m := by rw [← hfl]; exact List.count_le_length
      have FL := Lib.hid hfl
      have S1 := Lib.hid (rh0 (r := r) HR.out)
      obtain ⟨cN, hcN⟩ : ∃ cN, fl.count true = cN := ⟨_, rfl⟩
      have CN := Lib.hid hcN
      rw [hcN] at hcm
      rw [hcN]
      have hm2 := HA.out.m
      clear hcell hact hr HR hfl hcN
      obtain ⟨wt, rfl⟩ : ∃ wt : World, wt = wr := ⟨_, rfl⟩
      by_cases q0 : r.what = 0
      · as_aux_lemma =>
        have t0 : (r.what == 0) = true := by simpa using q0
        clear q0 hwz
        rcases ff_facts fl with hfc | hfc
        · as_aux_lemma =>
          obtain ⟨hff, hcc, hoff, hon⟩ := hfc
          rw [CN.out, FL.out] at hcc
          have hk : ffOf fl < fl.length := hff
          obtain ⟨k, hkk⟩ : ∃ k, ffOf fl = k := ⟨_, rfl⟩
          rw [hkk] at hff hoff hon
          have hkm : k < m := by have := FL.out; omega
          obtain ⟨z, hz⟩ : ∃ z : Int, (k : Int) + 1 = z := ⟨_, rfl⟩
          have t1 : tkV fl = z := by unfold tkV; rw [if_pos hk, hkk, hz]
          have t2 : tkE fl = 0 := by unfold tkE; rw [if_pos hk]
          have t3 : tkF fl = fl.set k true := by unfold tkF; rw [if_pos hk, hkk]
          have d4 : decide (cN < m) = true := by simpa using hcc
          have d5 : decide (z < 1) = false := by simp; omega
          have d6 : decide ((m : Int) < z) = false := by simp; omega
          have hsame := has_set fl k hff true hz.symm
          have hz0 : hasB fl z = false := by rw [← hz, has_at fl k hff]; exact hoff
          have hcnt := count_on fl k hff hoff
          have hbel : ∀ i, i < k → hasB fl ((i : Int) + 1) = true := fun i hi => by rw [has_at fl i (by omega)]; exact hon i hi
          have CT : Hid ((((fl.set k true).count true : Nat) : Int) = (cN : Int) + 1) := Lib.hid (by rw [hcnt, CN.out]; rfl)
          have LT : Hid ((fl.set k true).length = m) := Lib.hid (by rw [List.length_set]; exact FL.out)
          have SAME := Lib.hid hsame
          have BEL := Lib.hid hbel
          have Z0 := Lib.hid hz0
          have ZZ := Lib.hid hz
          have hkey : keyOf Tryd.prog 3 (.int .i64 z) = some (.int .i64 z) := Maps.keyOf_int_mk Tryd.underlying3 (WalkArith.wf_i64 (by omega))
          have T1 := Lib.hid (htk S1.out t1 t2 t3)
          clear t1 t2 t3 hsame hz0 hcnt hbel hz hkk hk hff hcc hoff hon
          go_wp2_with fail
          refine T1.out.mono ?_
          rintro e w5 ⟨rfl, hs⟩
          obtain ⟨D, q, hq, hmo, hmd⟩ := hs.h.m
          have hat := hmd.a z
          rw [Z0.out] at hat
          have HAT := Lib.hid hat
          have MD := Lib.hid hmd
          have S2 := Lib.hid hs
          clear hs T1 S1 hat hmd e0 e1
          go_wp2_with (first | (at_lookup; refine wpList_lookup_own_bool _ rfl _ _ 41 rfl 3 4 keyI Tryd.underlying41 Tryd.underlying4 (zeroB _) _ q _ rfl hmo _ _ rfl hkey _ HAT.out ?_) | (at_lookup; refine wpList_lookup_own_bool_g _ (by rfl) _ _ 41 rfl 3 4 keyI Tryd.underlying41 Tryd.underlying4 (zeroB _) _ q _ rfl hmo _ _ rfl hkey _ HAT.out ?_))
          go_loopg [13] k (fun gh i wx => ∃ u : Nat, u ≤ k ∧ gh = k - u ∧ i = .int .i64 ((u : Int) + 1) ∧ Hid (w5 = wx))
          case atStart => exact ⟨0, Nat.zero_le _, rfl, rfl, Lib.hid rfl⟩
          case round =>
            obtain ⟨u, hu, rfl, rfl, hw⟩ := hrel
            have hw' := hw.out
            clear hw
            subst hw'
            by_cases hul : u < k
            · have d7 : decide ((u : Int) + 1 < z) = true := by have := ZZ.out; simp; omega
              have hkey2 : keyOf Tryd.prog 3 (.int .i64 ((u : Int) + 1)) = some (.int .i64 ((u : Int) + 1)) := Maps.keyOf_int_mk Tryd.underlying3 (WalkArith.wf_i64 (by omega))
              have hat2 := MD.out.a ((u : Int) + 1)
              rw [BEL.out u hul] at hat2
              have HAT2 := Lib.hid hat2
              clear hat2
              go_wp2_with (at_lookup; refine wpList_lookup_own_bool _ rfl _ _ 41 rfl 3 4 keyI Tryd.underlying41 Tryd.underlying4 (zeroB _) _ q _ rfl hmo _ _ rfl hkey2 _ HAT2.out ?_)
              go_roundg (k - (u + 1))
              case measure => go_light; omega
              case rel => go_light; exact ⟨u + 1, by omega, rfl, by go_num, Lib.hid rfl⟩
            · obtain rfl : u = k := by omega
              have d7 : decide ((u : Int) + 1 < z) = false := by have := ZZ.out; simp; omega
              go_wp2_with (at_mapUpdate; refine wpList_mapUpdate_own _ rfl _ _ _ 41 rfl 3 4 keyI Tryd.underlying41 _ _ q _ rfl hmo (by unfold maxLen; omega) _ _ _ rfl rfl hkey _ [] (plainElem_bool Tryd.underlying4 true) ?_; intro w30 hown1 hgrow1)
              have S3 := Lib.hid (S2.out.put (by omega) hown1 hgrow1 (MD.out.put SAME.out.1 SAME.out.2)).h
              clear hown1 hgrow1 hmo MD S2 hkey HAT
              go_wp2_with fail
              refine (hlen S3.out CT.out).mono ?_
              rintro e w20 ⟨rfl, hs⟩
              have T1 := Lib.hid hs
              clear hs S3
              go_wp2_with fail
              refine (hroom (v := (m : Int) - ((cN : Int) + 1)) T1.out (by rw [LT.out, CT.out])).mono ?_
              rintro e w21 ⟨rfl, hs⟩
              obtain ⟨D, q, hq, hmo, hmd⟩ := hs.m
              have MD := Lib.hid hmd
              have T2 := Lib.hid hs
              clear hs T1 hmd
              go_wp2_with (at_range; refine wpList_range_own _ rfl _ 41 rfl 3 4 keyI Tryd.underlying41 _ _ q _ rfl hmo ?_; intro w22 hrg0 hg0 hs0)
              have MRR := Lib.hid (HR.start T2.out hq MD.out hrg0 hg0)
              clear hmo hrg0 hg0 hs0 T2 MD hq
              go_frame
              go_loopg [] (Maps.size D) (fun gh wx => Hid (HR w b g wo.heap.size (j + 1) w21.heap.size (fl.set u true) gh wx))
              case atStart => exact MRR
              case round =>
                obtain ⟨rk, rD, rleft, hrk, hrg, hrc⟩ := hrel.out.m
                have RC := Lib.hid hrc
                clear hrc MRR
                go_wp2_with (at_next; refine wpList_next_ranges_ib _ rfl _ rfl 3 4 .i64 keyI Tryd.underlying3 Tryd.underlying4 _ _ rk _ _ _ rfl hrg ?_ ?_)
                · intro _ hl0
                  have S9 := Lib.hid hrel.out.done
                  clear hl0 hrg hrel RC hrk
                  go_wp2
                  go_roundg (n2 - (j + 1))
                  case measure => go_light; omega
                  case rel => go_light; exact ⟨j + 1, (fl.set u true), by omega, rfl, by go_num, LT.out, by rw [CT.out], S9⟩
                · intro kx kv w41 cnt1 hat0 hrg1 hlt1 hg1 hen
                  obtain ⟨kc, rfl, hat⟩ := hat0
                  have MRN := Lib.hid (hrel.out.next hrk RC.out hrg1 hg1)
                  have hz := RC.out.at (hat _)
                  have HZ := Lib.hid hz
                  have LT1 := Lib.hid hlt1
                  clear hat hrg1 hg1 hrg hrel RC hlt1 hrk hz
                  go_wp2_with (go_at_call 20; refine (hhas MRN.out HZ.out).mono ?_; rintro e w42 ⟨rfl, hs⟩; have S42 := Lib.hid hs; clear hs)
                  go_roundg cnt1
                  case measure => go_light; exact LT1.out
                  case rel => go_light; exact S42
        · as_aux_lemma =>
          obtain ⟨hff, hcc⟩ := hfc
          rw [CN.out, FL.out] at hcc
          have hk : ¬ ffOf fl < fl.length := by omega
          have t1 : tkV fl = 0 := by unfold tkV; rw [if_neg hk]
          have t2 : tkE fl = 7 := by unfold tkE; rw [if_neg hk]
          have t3 : tkF fl = fl := by unfold tkF; rw [if_neg hk]
          have d4 : decide (cN < m) = false := by simp; omega
          have T1 := Lib.hid (htk S1.out t1 t2 t3)
          have CT : Hid (((fl.count true : Nat) : Int) = (cN : Int)) := Lib.hid (by rw [CN.out])
          have LT : Hid (fl.length = m) := FL
          clear t1 t2 t3 hff hcc hk
          go_wp2_with fail
          refine T1.out.mono ?_
          rintro e w5 ⟨rfl, hs⟩
          have S3 := Lib.hid (hs.h.more (Nat.le_succ j))
          clear hs T1 S1 e0 e1
          go_wp2_with fail
          refine (hlen S3.out CT.out).mono ?_
          rintro e w20 ⟨rfl, hs⟩
          have T1 := Lib.hid hs
          clear hs S3
          go_wp2_with fail
          refine (hroom (v := (m : Int) - ((cN : Int))) T1.out (by rw [LT.out, CT.out])).mono ?_
          rintro e w21 ⟨rfl, hs⟩
          obtain ⟨D, q, hq, hmo, hmd⟩ := hs.m
          have MD := Lib.hid hmd
          have T2 := Lib.hid hs
          clear hs T1 hmd
          go_wp2_with (at_range; refine wpList_range_own _ rfl _ 41 rfl 3 4 keyI Tryd.underlying41 _ _ q _ rfl hmo ?_; intro w22 hrg0 hg0 hs0)
          have MRR := Lib.hid (HR.start T2.out hq MD.out hrg0 hg0)
          clear hmo hrg0 hg0 hs0 T2 MD hq
          go_frame
          go_loopg [] (Maps.size D) (fun gh wx => Hid (HR w b g wo.heap.size (j + 1) w21.heap.size fl gh wx))
          case atStart => exact MRR
          case round =>
            obtain ⟨rk, rD, rleft, hrk, hrg, hrc⟩ := hrel.out.m
            have RC := Lib.hid hrc
            clear hrc MRR
            go_wp2_with (at_next; refine wpList_next_ranges_ib _ rfl _ rfl 3 4 .i64 keyI Tryd.underlying3 Tryd.underlying4 _ _ rk _ _ _ rfl hrg ?_ ?_)
            · intro _ hl0
              have S9 := Lib.hid hrel.out.done
              clear hl0 hrg hrel RC hrk
              go_wp2
              go_roundg (n2 - (j + 1))
              case measure => go_light; omega
              case rel => go_light; exact ⟨j + 1, fl, by omega, rfl, by go_num, LT.out, by rw [CT.out], S9⟩
            · intro kx kv w41 cnt1 hat0 hrg1 hlt1 hg1 hen
              obtain ⟨kc, rfl, hat⟩ := hat0
              have MRN := Lib.hid (hrel.out.next hrk RC.out hrg1 hg1)
              have hz := RC.out.at (hat _)
              have HZ := Lib.hid hz
              have LT1 := Lib.hid hlt1
              clear hat hrg1 hg1 hrg hrel RC hlt1 hrk hz
              go_wp2_with (go_at_call 20; refine (hhas MRN.out HZ.out).mono ?_; rintro e w42 ⟨rfl, hs⟩; have S42 := Lib.hid hs; clear hs)
              go_roundg cnt1
              case measure => go_light; exact LT1.out
              case rel => go_light; exact S42
      · have t0 : (r.what == 0) = false := by simpa using q0
        by_cases q1 : r.what = 1
        · as_aux_lemma =>
          have t1 : (r.what == 1) = true := by simpa using q1
          clear q0 q1
          obtain ⟨z, hzz⟩ : ∃ z : Int, r.id = z := ⟨_, rfl⟩
          rw [hzz] at hwz e1
          have ZZ := Lib.hid hzz
          clear hzz
          have hkey : keyOf Tryd.prog 3 (.int .i64 z) = some (.int .i64 z) := Maps.keyOf_int_mk Tryd.underlying3 hwz
          clear hwz
          by_cases hz : z < 1 ∨ (m : Int) < z
          · by_cases hz1 : z < 1
            · as_aux_lemma =>
              have y1 : clE fl z = 2 := by unfold clE; rw [FL.out, if_pos hz]
              have y2 : clF fl z = fl := by unfold clF; rw [y1]; rfl
              have h1 := hcl S1.out y1 y2
              rw [ZZ.out] at h1
              have T1 := Lib.hid h1
              clear h1
              have hz0 : hasB fl z = false := by unfold hasB; rw [FL.out, if_pos hz]
              have Z0 := Lib.hid hz0
              have CT : Hid (((fl.count true : Nat) : Int) = (cN : Int)) := Lib.hid (by rw [CN.out])
              have LT : Hid (fl.length = m) := FL
              clear y1 y2 hz0
              go_wp2_with fail
              refine T1.out.mono ?_
              rintro e w5 ⟨rfl, hs⟩
              have f1 := hs.f1
              rw [ZZ.out] at f1
              obtain ⟨D, q, hq, hmo, hmd⟩ := hs.h.m
              have hat := hmd.a z
              rw [Z0.out] at hat
              have HAT := Lib.hid hat
              have S3 := Lib.hid (hs.h.more (Nat.le_succ j))
              clear hs T1 S1 hat hmd e0 e1
              have d4 : decide (1 ≤ z) = false := by simp; omega
              clear hz hz1
              go_wp2_with fail
              refine (hlen S3.out CT.out).mono ?_
              rintro e w20 ⟨rfl, hs⟩
              have T1 := Lib.hid hs
              clear hs S3
              go_wp2_with fail
              refine (hroom (v := (m : Int) - ((cN : Int))) T1.out (by rw [LT.out, CT.out])).mono ?_
              rintro e w21 ⟨rfl, hs⟩
              obtain ⟨D, q, hq, hmo, hmd⟩ := hs.m
              have MD := Lib.hid hmd
              have T2 := Lib.hid hs
              clear hs T1 hmd
              go_wp2_with (at_range; refine wpList_range_own _ rfl _ 41 rfl 3 4 keyI Tryd.underlying41 _ _ q _ rfl hmo ?_; intro w22 hrg0 hg0 hs0)
              have MRR := Lib.hid (HR.start T2.out hq MD.out hrg0 hg0)
              clear hmo hrg0 hg0 hs0 T2 MD hq
              go_frame
              go_loopg [] (Maps.size D) (fun gh wx => Hid (HR w b g wo.heap.size (j + 1) w21.heap.size fl gh wx))
              case atStart => exact MRR
              case round =>
                obtain ⟨rk, rD, rleft, hrk, hrg, hrc⟩ := hrel.out.m
                have RC := Lib.hid hrc
                clear hrc MRR
                go_wp2_with (at_next; refine wpList_next_ranges_ib _ rfl _ rfl 3 4 .i64 keyI Tryd.underlying3 Tryd.underlying4 _ _ rk _ _ _ rfl hrg ?_ ?_)
                · intro _ hl0
                  have S9 := Lib.hid hrel.out.done
                  clear hl0 hrg hrel RC hrk
                  go_wp2
                  go_roundg (n2 - (j + 1))
                  case measure => go_light; omega
                  case rel => go_light; exact ⟨j + 1, fl, by omega, rfl, by go_num, LT.out, by rw [CT.out], S9⟩
                · intro kx kv w41 cnt1 hat0 hrg1 hlt1 hg1 hen
                  obtain ⟨kc, rfl, hat⟩ := hat0
                  have MRN := Lib.hid (hrel.out.next hrk RC.out hrg1 hg1)
                  have hz := RC.out.at (hat _)
                  have HZ := Lib.hid hz
                  have LT1 := Lib.hid hlt1
                  clear hat hrg1 hg1 hrg hrel RC hlt1 hrk hz
                  go_wp2_with (go_at_call 20; refine (hhas MRN.out HZ.out).mono ?_; rintro e w42 ⟨rfl, hs⟩; have S42 := Lib.hid hs; clear hs)
                  go_roundg cnt1
                  case measure => go_light; exact LT1.out
                  case rel => go_light; exact S42
            · as_aux_lemma =>
              have y1 : clE fl z = 2 := by unfold clE; rw [FL.out, if_pos hz]
              have y2 : clF fl z = fl := by unfold clF; rw [y1]; rfl
              have h1 := hcl S1.out y1 y2
              rw [ZZ.out] at h1
              have T1 := Lib.hid h1
              clear h1
              have hz0 : hasB fl z = false := by unfold hasB; rw [FL.out, if_pos hz]
              have Z0 := Lib.hid hz0
              have CT : Hid (((fl.count true : Nat) : Int) = (cN : Int)) := Lib.hid (by rw [CN.out])
              have LT : Hid (fl.length = m) := FL
              clear y1 y2 hz0
              go_wp2_with fail
              refine T1.out.mono ?_
              rintro e w5 ⟨rfl, hs⟩
              have f1 := hs.f1
              rw [ZZ.out] at f1
              obtain ⟨D, q, hq, hmo, hmd⟩ := hs.h.m
              have hat := hmd.a z
              rw [Z0.out] at hat
              have HAT := Lib.hid hat
              have S3 := Lib.hid (hs.h.more (Nat.le_succ j))
              clear hs T1 S1 hat hmd e0 e1
              have d4 : decide (1 ≤ z) = true := by simp; omega
              have d5 : decide (z ≤ (m : Int)) = false := by simp; omega
              clear hz hz1
              go_wp2_with fail
              refine (hlen S3.out CT.out).mono ?_
              rintro e w20 ⟨rfl, hs⟩
              have T1 := Lib.hid hs
              clear hs S3
              go_wp2_with fail
              refine (hroom (v := (m : Int) - ((cN : Int))) T1.out (by rw [LT.out, CT.out])).mono ?_
              rintro e w21 ⟨rfl, hs⟩
              obtain ⟨D, q, hq, hmo, hmd⟩ := hs.m
              have MD := Lib.hid hmd
              have T2 := Lib.hid hs
              clear hs T1 hmd
              go_wp2_with (at_range; refine wpList_range_own _ rfl _ 41 rfl 3 4 keyI Tryd.underlying41 _ _ q _ rfl hmo ?_; intro w22 hrg0 hg0 hs0)
              have MRR := Lib.hid (HR.start T2.out hq MD.out hrg0 hg0)
              clear hmo hrg0 hg0 hs0 T2 MD hq
              go_frame
              go_loopg [] (Maps.size D) (fun gh wx => Hid (HR w b g wo.heap.size (j + 1) w21.heap.size fl gh wx))
              case atStart => exact MRR
              case round =>
                obtain ⟨rk, rD, rleft, hrk, hrg, hrc⟩ := hrel.out.m
                have RC := Lib.hid hrc
                clear hrc MRR
                go_wp2_with (at_next; refine wpList_next_ranges_ib _ rfl _ rfl 3 4 .i64 keyI Tryd.underlying3 Tryd.underlying4 _ _ rk _ _ _ rfl hrg ?_ ?_)
                · intro _ hl0
                  have S9 := Lib.hid hrel.out.done
                  clear hl0 hrg hrel RC hrk
                  go_wp2
                  go_roundg (n2 - (j + 1))
                  case measure => go_light; omega
                  case rel => go_light; exact ⟨j + 1, fl, by omega, rfl, by go_num, LT.out, by rw [CT.out], S9⟩
                · intro kx kv w41 cnt1 hat0 hrg1 hlt1 hg1 hen
                  obtain ⟨kc, rfl, hat⟩ := hat0
                  have MRN := Lib.hid (hrel.out.next hrk RC.out hrg1 hg1)
                  have hz := RC.out.at (hat _)
                  have HZ := Lib.hid hz
                  have LT1 := Lib.hid hlt1
                  clear hat hrg1 hg1 hrg hrel RC hlt1 hrk hz
                  go_wp2_with (go_at_call 20; refine (hhas MRN.out HZ.out).mono ?_; rintro e w42 ⟨rfl, hs⟩; have S42 := Lib.hid hs; clear hs)
                  go_roundg cnt1
                  case measure => go_light; exact LT1.out
                  case rel => go_light; exact S42
          · have d4 : decide (1 ≤ z) = true := by simp; omega
            have d5 : decide (z ≤ (m : Int)) = true := by simp; omega
            obtain ⟨k, hzk⟩ : ∃ k : Nat, z = (k : Int) + 1 := ⟨z.toNat - 1, by omega⟩
            have hkm : k < m := by omega
            have hki : z.toNat - 1 = k := by omega
            cases hf : fl.getD k false with
            | true =>
              as_aux_lemma =>
              have y1 : clE fl z = 11 := by unfold clE; rw [FL.out, if_neg hz, hki, if_pos hf]
              have y2 : clF fl z = fl := by unfold clF; rw [y1]; rfl
              have h1 := hcl S1.out y1 y2
              rw [ZZ.out] at h1
              have T1 := Lib.hid h1
              clear h1
              have hz0 : hasB fl z = true := by unfold hasB; rw [FL.out, if_neg hz, hki]; exact hf
              have Z0 := Lib.hid hz0
              have CT : Hid (((fl.count true : Nat) : Int) = (cN : Int)) := Lib.hid (by rw [CN.out])
              have LT : Hid (fl.length = m) := FL
              clear y1 y2 hz0 hf hki hz hzk
              go_wp2_with fail
              refine T1.out.mono ?_
              rintro e w5 ⟨rfl, hs⟩
              have f1 := hs.f1
              rw [ZZ.out] at f1
              obtain ⟨D, q, hq, hmo, hmd⟩ := hs.h.m
              have hat := hmd.a z
              rw [Z0.out] at hat
              have HAT := Lib.hid hat
              have S3 := Lib.hid (hs.h.more (Nat.le_succ j))
              clear hs T1 S1 hat hmd e0 e1
              go_wp2_with (first | (at_lookup; refine wpList_lookup_own_bool _ rfl _ _ 41 rfl 3 4 keyI Tryd.underlying41 Tryd.underlying4 (zeroB _) _ q _ rfl hmo _ _ rfl hkey _ HAT.out ?_) | (at_lookup; refine wpList_lookup_own_bool_g _ (by rfl) _ _ 41 rfl 3 4 keyI Tryd.underlying41 Tryd.underlying4 (zeroB _) _ q _ rfl hmo _ _ rfl hkey _ HAT.out ?_))
              refine (hlen S3.out CT.out).mono ?_
              rintro e w20 ⟨rfl, hs⟩
              have T1 := Lib.hid hs
              clear hs S3
              go_wp2_with fail
              refine (hroom (v := (m : Int) - ((cN : Int))) T1.out (by rw [LT.out, CT.out])).mono ?_
              rintro e w21 ⟨rfl, hs⟩
              obtain ⟨D, q, hq, hmo, hmd⟩ := hs.m
              have MD := Lib.hid hmd
              have T2 := Lib.hid hs
              clear hs T1 hmd
              go_wp2_with (at_range; refine wpList_range_own _ rfl _ 41 rfl 3 4 keyI Tryd.underlying41 _ _ q _ rfl hmo ?_; intro w22 hrg0 hg0 hs0)
              have MRR := Lib.hid (HR.start T2.out hq MD.out hrg0 hg0)
              clear hmo hrg0 hg0 hs0 T2 MD hq
              go_frame
              go_loopg [] (Maps.size D) (fun gh wx => Hid (HR w b g wo.heap.size (j + 1) w21.heap.size fl gh wx))
              case atStart => exact MRR
              case round =>
                obtain ⟨rk, rD, rleft, hrk, hrg, hrc⟩ := hrel.out.m
                have RC := Lib.hid hrc
                clear hrc MRR
                go_wp2_with (at_next; refine wpList_next_ranges_ib _ rfl _ rfl 3 4 .i64 keyI Tryd.underlying3 Tryd.underlying4 _ _ rk _ _ _ rfl hrg ?_ ?_)
                · intro _ hl0
                  have S9 := Lib.hid hrel.out.done
                  clear hl0 hrg hrel RC hrk
                  go_wp2
                  go_roundg (n2 - (j + 1))
                  case measure => go_light; omega
                  case rel => go_light; exact ⟨j + 1, fl, by omega, rfl, by go_num, LT.out, by rw [CT.out], S9⟩
                · intro kx kv w41 cnt1 hat0 hrg1 hlt1 hg1 hen
                  obtain ⟨kc, rfl, hat⟩ := hat0
                  have MRN := Lib.hid (hrel.out.next hrk RC.out hrg1 hg1)
                  have hz := RC.out.at (hat _)
                  have HZ := Lib.hid hz
                  have LT1 := Lib.hid hlt1
                  clear hat hrg1 hg1 hrg hrel RC hlt1 hrk hz
                  go_wp2_with (go_at_call 20; refine (hhas MRN.out HZ.out).mono ?_; rintro e w42 ⟨rfl, hs⟩; have S42 := Lib.hid hs; clear hs)
                  go_roundg cnt1
                  case measure => go_light; exact LT1.out
                  case rel => go_light; exact S42
            | false =>
              as_aux_lemma =>
              have y1 : clE fl z = 0 := by unfold clE; rw [FL.out, if_neg hz, hki, if_neg (by rw [hf]; simp)]
              have y2 : clF fl z = fl.set k true := by unfold clF; rw [y1, hki]; rfl
              have h1 := hcl S1.out y1 y2
              rw [ZZ.out] at h1
              have T1 := Lib.hid h1
              clear h1
              have hz0 : hasB fl z = false := by unfold hasB; rw [FL.out, if_neg hz, hki]; exact hf
              have Z0 := Lib.hid hz0
              have hkl : k < fl.length := by rw [FL.out]; exact hkm
              have hsame := has_set fl k hkl true hzk
              have hcnt := count_on fl k hkl hf
              have CT : Hid ((((fl.set k true).count true : Nat) : Int) = (cN : Int) + 1) := Lib.hid (by have := CN.out; omega)
              have LT : Hid ((fl.set k true).length = m) := Lib.hid (by rw [List.length_set]; exact FL.out)
              have hc1 : 0 ≤ cN := by have := CN.out; omega
              have SAME := Lib.hid hsame
              clear y1 y2 hz0 hf hki hz hsame hcnt hkl hzk
              go_wp2_with fail
              refine T1.out.mono ?_
              rintro e w5 ⟨rfl, hs⟩
              have f1 := hs.f1
              rw [ZZ.out] at f1
              have ft := hs.a.lt
              have fr := hs.a.cell
              obtain ⟨D, q, hq, hmo, hmd⟩ := hs.h.m
              have hat := hmd.a z
              rw [Z0.out] at hat
              have HAT := Lib.hid hat
              have MD := Lib.hid hmd
              have S2 := Lib.hid hs
              clear hs T1 S1 hat hmd e0 e1 fr ft
              go_wp2_with (first | (first | (at_lookup; refine wpList_lookup_own_bool _ rfl _ _ 41 rfl 3 4 keyI Tryd.underlying41 Tryd.underlying4 (zeroB _) _ q _ rfl hmo _ _ rfl hkey _ HAT.out ?_) | (at_lookup; refine wpList_lookup_own_bool_g _ (by rfl) _ _ 41 rfl 3 4 keyI Tryd.underlying41 Tryd.underlying4 (zeroB _) _ q _ rfl hmo _ _ rfl hkey _ HAT.out ?_)) | (at_mapUpdate; refine wpList_mapUpdate_own _ rfl _ _ _ 41 rfl 3 4 keyI Tryd.underlying41 _ _ q _ rfl hmo (by unfold maxLen; omega) _ _ _ rfl rfl hkey _ [] (plainElem_bool Tryd.underlying4 true) ?_; intro w30 hown1 hgrow1))
              have S3 := Lib.hid (S2.out.put (by omega) hown1 hgrow1 (MD.out.put SAME.out.1 SAME.out.2)).h
              clear hown1 hgrow1 hmo MD S2 hkey HAT
              go_wp2_with fail
              refine (hlen S3.out CT.out).mono ?_
              rintro e w20 ⟨rfl, hs⟩
              have T1 := Lib.hid hs
              clear hs S3
              go_wp2_with fail
              refine (hroom (v := (m : Int) - ((cN : Int) + 1)) T1.out (by rw [LT.out, CT.out])).mono ?_
              rintro e w21 ⟨rfl, hs⟩
              obtain ⟨D, q, hq, hmo, hmd⟩ := hs.m
              have MD := Lib.hid hmd
              have T2 := Lib.hid hs
              clear hs T1 hmd
              go_wp2_with (at_range; refine wpList_range_own _ rfl _ 41 rfl 3 4 keyI Tryd.underlying41 _ _ q _ rfl hmo ?_; intro w22 hrg0 hg0 hs0)
              have MRR := Lib.hid (HR.start T2.out hq MD.out hrg0 hg0)
              clear hmo hrg0 hg0 hs0 T2 MD hq
              go_frame
              go_loopg [] (Maps.size D) (fun gh wx => Hid (HR w b g wo.heap.size (j + 1) w21.heap.size (fl.set k true) gh wx))
              case atStart => exact MRR
              case round =>
                obtain ⟨rk, rD, rleft, hrk, hrg, hrc⟩ := hrel.out.m
                have RC := Lib.hid hrc
                clear hrc MRR
                go_wp2_with (at_next; refine wpList_next_ranges_ib _ rfl _ rfl 3 4 .i64 keyI Tryd.underlying3 Tryd.underlying4 _ _ rk _ _ _ rfl hrg ?_ ?_)
                · intro _ hl0
                  have S9 := Lib.hid hrel.out.done
                  clear hl0 hrg hrel RC hrk
                  go_wp2
                  go_roundg (n2 - (j + 1))
                  case measure => go_light; omega
                  case rel => go_light; exact ⟨j + 1, (fl.set k true), by omega, rfl, by go_num, LT.out, by rw [CT.out], S9⟩
                · intro kx kv w41 cnt1 hat0 hrg1 hlt1 hg1 hen
                  obtain ⟨kc, rfl, hat⟩ := hat0
                  have MRN := Lib.hid (hrel.out.next hrk RC.out hrg1 hg1)
                  have hz := RC.out.at (hat _)
                  have HZ := Lib.hid hz
                  have LT1 := Lib.hid hlt1
                  clear hat hrg1 hg1 hrg hrel RC hlt1 hrk hz
                  go_wp2_with (go_at_call 20; refine (hhas MRN.out HZ.out).mono ?_; rintro e w42 ⟨rfl, hs⟩; have S42 := Lib.hid hs; clear hs)
                  go_roundg cnt1
                  case measure => go_light; exact LT1.out
                  case rel => go_light; exact S42
        · have t1 : (r.what == 1) = false := by simpa using q1
          by_cases q2 : r.what = 2
          · as_aux_lemma =>
            have t2 : (r.what == 2) = true := by simpa using q2
            clear q0 q1 q2
            obtain ⟨z, hzz⟩ : ∃ z : Int, r.id = z := ⟨_, rfl⟩
            rw [hzz] at hwz e1
            have ZZ := Lib.hid hzz
            clear hzz
            have hkey : keyOf Tryd.prog 3 (.int .i64 z) = some (.int .i64 z) := Maps.keyOf_int_mk Tryd.underlying3 hwz
            clear hwz
            by_cases hz : z < 1 ∨ (m : Int) < z
            · as_aux_lemma =>
              have y1 : frE fl z = 2 := by unfold frE; rw [FL.out, if_pos hz]
              have y2 : frF fl z = fl := by unfold frF; rw [y1]; rfl
              have h1 := hfr S1.out y1 y2
              rw [ZZ.out] at h1
              have T1 := Lib.hid h1
              clear h1
              have hz0 : hasB fl z = false := by unfold hasB; rw [FL.out, if_pos hz]
              have Z0 := Lib.hid hz0
              have CT : Hid (((fl.count true : Nat) : Int) = (cN : Int)) := Lib.hid (by rw [CN.out])
              have LT : Hid (fl.length = m) := FL
              clear y1 y2 hz0
              go_wp2_with fail
              refine T1.out.mono ?_
              rintro e w5 ⟨rfl, hs⟩
              have f1 := hs.f1
              rw [ZZ.out] at f1
              obtain ⟨D, q, hq, hmo, hmd⟩ := hs.h.m
              have hat := hmd.a z
              rw [Z0.out] at hat
              have HAT := Lib.hid hat
              have S3 := Lib.hid (hs.h.more (Nat.le_succ j))
              clear hs T1 S1 hat hmd e0 e1
              clear hz
              go_wp2_with (first | (at_lookup; refine wpList_lookup_own_bool _ rfl _ _ 41 rfl 3 4 keyI Tryd.underlying41 Tryd.underlying4 (zeroB _) _ q _ rfl hmo _ _ rfl hkey _ HAT.out ?_) | (at_lookup; refine wpList_lookup_own_bool_g _ (by rfl) _ _ 41 rfl 3 4 keyI Tryd.underlying41 Tryd.underlying4 (zeroB _) _ q _ rfl hmo _ _ rfl hkey _ HAT.out ?_))
              refine (hlen S3.out CT.out).mono ?_
              rintro e w20 ⟨rfl, hs⟩
              have T1 := Lib.hid hs
              clear hs S3
              go_wp2_with fail
              refine (hroom (v := (m : Int) - ((cN : Int))) T1.out (by rw [LT.out, CT.out])).mono ?_
              rintro e w21 ⟨rfl, hs⟩
              obtain ⟨D, q, hq, hmo, hmd⟩ := hs.m
              have MD := Lib.hid hmd
              have T2 := Lib.hid hs
              clear hs T1 hmd
              go_wp2_with (at_range; refine wpList_range_own _ rfl _ 41 rfl 3 4 keyI Tryd.underlying41 _ _ q _ rfl hmo ?_; intro w22 hrg0 hg0 hs0)
              have MRR := Lib.hid (HR.start T2.out hq MD.out hrg0 hg0)
              clear hmo hrg0 hg0 hs0 T2 MD hq
              go_frame
              go_loopg [] (Maps.size D) (fun gh wx => Hid (HR w b g wo.heap.size (j + 1) w21.heap.size fl gh wx))
              case atStart => exact MRR
              case round =>
                obtain ⟨rk, rD, rleft, hrk, hrg, hrc⟩ := hrel.out.m
                have RC := Lib.hid hrc
                clear hrc MRR
                go_wp2_with (at_next; refine wpList_next_ranges_ib _ rfl _ rfl 3 4 .i64 keyI Tryd.underlying3 Tryd.underlying4 _ _ rk _ _ _ rfl hrg ?_ ?_)
                · intro _ hl0
                  have S9 := Lib.hid hrel.out.done
                  clear hl0 hrg hrel RC hrk
                  go_wp2
                  go_roundg (n2 - (j + 1))
                  case measure => go_light; omega
                  case rel => go_light; exact ⟨j + 1, fl, by omega, rfl, by go_num, LT.out, by rw [CT.out], S9⟩
                · intro kx kv w41 cnt1 hat0 hrg1 hlt1 hg1 hen
                  obtain ⟨kc, rfl, hat⟩ := hat0
                  have MRN := Lib.hid (hrel.out.next hrk RC.out hrg1 hg1)
                  have hz := RC.out.at (hat _)
                  have HZ := Lib.hid hz
                  have LT1 := Lib.hid hlt1
                  clear hat hrg1 hg1 hrg hrel RC hlt1 hrk hz
                  go_wp2_with (go_at_call 20; refine (hhas MRN.out HZ.out).mono ?_; rintro e w42 ⟨rfl, hs⟩; have S42 := Lib.hid hs; clear hs)
                  go_roundg cnt1
                  case measure => go_light; exact LT1.out
                  case rel => go_light; exact S42
            · have d4 : decide (1 ≤ z) = true := by simp; omega
              have d5 : decide (z ≤ (m : Int)) = true := by simp; omega
              obtain ⟨k, hzk⟩ : ∃ k : Nat, z = (k : Int) + 1 := ⟨z.toNat - 1, by omega⟩
              have hkm : k < m := by omega
              have hki : z.toNat - 1 = k := by omega
              cases hf : fl.getD k false with
              | true =>
                as_aux_lemma =>
                have y1 : frE fl z = 0 := by unfold frE; rw [FL.out, if_neg hz, hki, if_pos hf]
                have y2 : frF fl z = fl.set k false := by unfold frF; rw [y1, hki]; rfl
                have h1 := hfr S1.out y1 y2
                rw [ZZ.out] at h1
                have T1 := Lib.hid h1
                clear h1
                have hz0 : hasB fl z = true := by unfold hasB; rw [FL.out, if_neg hz, hki]; exact hf
                have Z0 := Lib.hid hz0
                have hkl : k < fl.length := by rw [FL.out]; exact hkm
                have hsame := has_set fl k hkl false hzk
                have hcnt := count_off fl k hf
                have CT : Hid ((((fl.set k false).count true : Nat) : Int) = (cN : Int) - 1) := Lib.hid (by have := CN.out; omega)
                have LT : Hid ((fl.set k false).length = m) := Lib.hid (by rw [List.length_set]; exact FL.out)
                have hc1 : 1 ≤ cN := by have := CN.out; omega
                have SAME := Lib.hid hsame
                clear y1 y2 hz0 hf hki hz hsame hcnt hkl hzk
                go_wp2_with fail
                refine T1.out.mono ?_
                rintro e w5 ⟨rfl, hs⟩
                have f1 := hs.f1
                rw [ZZ.out] at f1
                have ft := hs.a.lt
                have fr := hs.a.cell
                obtain ⟨D, q, hq, hmo, hmd⟩ := hs.h.m
                have hat := hmd.a z
                rw [Z0.out] at hat
                have HAT := Lib.hid hat
                have MD := Lib.hid hmd
                have S2 := Lib.hid hs
                clear hs T1 S1 hat hmd e0 e1 fr ft
                go_wp2_with (first | (first | (at_lookup; refine wpList_lookup_own_bool _ rfl _ _ 41 rfl 3 4 keyI Tryd.underlying41 Tryd.underlying4 (zeroB _) _ q _ rfl hmo _ _ rfl hkey _ HAT.out ?_) | (at_lookup; refine wpList_lookup_own_bool_g _ (by rfl) _ _ 41 rfl 3 4 keyI Tryd.underlying41 Tryd.underlying4 (zeroB _) _ q _ rfl hmo _ _ rfl hkey _ HAT.out ?_)) | (at_mapUpdate; refine wpList_mapUpdate_own _ rfl _ _ _ 41 rfl 3 4 keyI Tryd.underlying41 _ _ q _ rfl hmo (by unfold maxLen; omega) _ _ _ rfl rfl hkey _ [] (plainElem_bool Tryd.underlying4 false) ?_; intro w30 hown1 hgrow1))
                have S3 := Lib.hid (S2.out.put (by omega) hown1 hgrow1 (MD.out.put SAME.out.1 SAME.out.2)).h
                clear hown1 hgrow1 hmo MD S2 hkey HAT
                go_wp2_with fail
                refine (hlen S3.out CT.out).mono ?_
                rintro e w20 ⟨rfl, hs⟩
                have T1 := Lib.hid hs
                clear hs S3
                go_wp2_with fail
                refine (hroom (v := (m : Int) - ((cN : Int) - 1)) T1.out (by rw [LT.out, CT.out])).mono ?_
                rintro e w21 ⟨rfl, hs⟩
                obtain ⟨D, q, hq, hmo, hmd⟩ := hs.m
                have MD := Lib.hid hmd
                have T2 := Lib.hid hs
                clear hs T1 hmd
                go_wp2_with (at_range; refine wpList_range_own _ rfl _ 41 rfl 3 4 keyI Tryd.underlying41 _ _ q _ rfl hmo ?_; intro w22 hrg0 hg0 hs0)
                have MRR := Lib.hid (HR.start T2.out hq MD.out hrg0 hg0)
                clear hmo hrg0 hg0 hs0 T2 MD hq
                go_frame
                go_loopg [] (Maps.size D) (fun gh wx => Hid (HR w b g wo.heap.size (j + 1) w21.heap.size (fl.set k false) gh wx))
                case atStart => exact MRR
                case round =>
                  obtain ⟨rk, rD, rleft, hrk, hrg, hrc⟩ := hrel.out.m
                  have RC := Lib.hid hrc
                  clear hrc MRR
                  go_wp2_with (at_next; refine wpList_next_ranges_ib _ rfl _ rfl 3 4 .i64 keyI Tryd.underlying3 Tryd.underlying4 _ _ rk _ _ _ rfl hrg ?_ ?_)
                  · intro _ hl0
                    have S9 := Lib.hid hrel.out.done
                    clear hl0 hrg hrel RC hrk
                    go_wp2
                    go_roundg (n2 - (j + 1))
                    case measure => go_light; omega
                    case rel => go_light; exact ⟨j + 1, (fl.set k false), by omega, rfl, by go_num, LT.out, by rw [CT.out], S9⟩
                  · intro kx kv w41 cnt1 hat0 hrg1 hlt1 hg1 hen
                    obtain ⟨kc, rfl, hat⟩ := hat0
                    have MRN := Lib.hid (hrel.out.next hrk RC.out hrg1 hg1)
                    have hz := RC.out.at (hat _)
                    have HZ := Lib.hid hz
                    have LT1 := Lib.hid hlt1
                    clear hat hrg1 hg1 hrg hrel RC hlt1 hrk hz
                    go_wp2_with (go_at_call 20; refine (hhas MRN.out HZ.out).mono ?_; rintro e w42 ⟨rfl, hs⟩; have S42 := Lib.hid hs; clear hs)
                    go_roundg cnt1
                    case measure => go_light; exact LT1.out
                    case rel => go_light; exact S42
              | false =>
                as_aux_lemma =>
                have y1 : frE fl z = 9 := by unfold frE; rw [FL.out, if_neg hz, hki, if_neg (by rw [hf]; simp)]
                have y2 : frF fl z = fl := by unfold frF; rw [y1]; rfl
                have h1 := hfr S1.out y1 y2
                rw [ZZ.out] at h1
                have T1 := Lib.hid h1
                clear h1
                have hz0 : hasB fl z = false := by unfold hasB; rw [FL.out, if_neg hz, hki]; exact hf
                have Z0 := Lib.hid hz0
                have CT : Hid (((fl.count true : Nat) : Int) = (cN : Int)) := Lib.hid (by rw [CN.out])
                have LT : Hid (fl.length = m) := FL
                clear y1 y2 hz0 hf hki hz hzk
                go_wp2_with fail
                refine T1.out.mono ?_
                rintro e w5 ⟨rfl, hs⟩
                have f1 := hs.f1
                rw [ZZ.out] at f1
                obtain ⟨D, q, hq, hmo, hmd⟩ := hs.h.m
                have hat := hmd.a z
                rw [Z0.out] at hat
                have HAT := Lib.hid hat
                have S3 := Lib.hid (hs.h.more (Nat.le_succ j))
                clear hs T1 S1 hat hmd e0 e1
                go_wp2_with (first | (at_lookup; refine wpList_lookup_own_bool _ rfl _ _ 41 rfl 3 4 keyI Tryd.underlying41 Tryd.underlying4 (zeroB _) _ q _ rfl hmo _ _ rfl hkey _ HAT.out ?_) | (at_lookup; refine wpList_lookup_own_bool_g _ (by rfl) _ _ 41 rfl 3 4 keyI Tryd.underlying41 Tryd.underlying4 (zeroB _) _ q _ rfl hmo _ _ rfl hkey _ HAT.out ?_))
                refine (hlen S3.out CT.out).mono ?_
                rintro e w20 ⟨rfl, hs⟩
                have T1 := Lib.hid hs
                clear hs S3
                go_wp2_with fail
                refine (hroom (v := (m : Int) - ((cN : Int))) T1.out (by rw [LT.out, CT.out])).mono ?_
                rintro e w21 ⟨rfl, hs⟩
                obtain ⟨D, q, hq, hmo, hmd⟩ := hs.m
                have MD := Lib.hid hmd
                have T2 := Lib.hid hs
                clear hs T1 hmd
                go_wp2_with (at_range; refine wpList_range_own _ rfl _ 41 rfl 3 4 keyI Tryd.underlying41 _ _ q _ rfl hmo ?_; intro w22 hrg0 hg0 hs0)
                have MRR := Lib.hid (HR.start T2.out hq MD.out hrg0 hg0)
                clear hmo hrg0 hg0 hs0 T2 MD hq
                go_frame
                go_loopg [] (Maps.size D) (fun gh wx => Hid (HR w b g wo.heap.size (j + 1) w21.heap.size fl gh wx))
                case atStart => exact MRR
                case round =>
                  obtain ⟨rk, rD, rleft, hrk, hrg, hrc⟩ := hrel.out.m
                  have RC := Lib.hid hrc
                  clear hrc MRR
                  go_wp2_with (at_next; refine wpList_next_ranges_ib _ rfl _ rfl 3 4 .i64 keyI Tryd.underlying3 Tryd.underlying4 _ _ rk _ _ _ rfl hrg ?_ ?_)
                  · intro _ hl0
                    have S9 := Lib.hid hrel.out.done
                    clear hl0 hrg hrel RC hrk
                    go_wp2
                    go_roundg (n2 - (j + 1))
                    case measure => go_light; omega
                    case rel => go_light; exact ⟨j + 1, fl, by omega, rfl, by go_num, LT.out, by rw [CT.out], S9⟩
                  · intro kx kv w41 cnt1 hat0 hrg1 hlt1 hg1 hen
                    obtain ⟨kc, rfl, hat⟩ := hat0
                    have MRN := Lib.hid (hrel.out.next hrk RC.out hrg1 hg1)
                    have hz := RC.out.at (hat _)
                    have HZ := Lib.hid hz
                    have LT1 := Lib.hid hlt1
                    clear hat hrg1 hg1 hrg hrel RC hlt1 hrk hz
                    go_wp2_with (go_at_call 20; refine (hhas MRN.out HZ.out).mono ?_; rintro e w42 ⟨rfl, hs⟩; have S42 := Lib.hid hs; clear hs)
                    go_roundg cnt1
                    case measure => go_light; exact LT1.out
                    case rel => go_light; exact S42
          · have t2 : (r.what == 2) = false := by simpa using q2
            as_aux_lemma =>
              have CT : Hid (((fl.count true : Nat) : Int) = (cN : Int)) := Lib.hid (by rw [CN.out])
              have LT : Hid (fl.length = m) := FL
              clear q0 q1 q2 hwz
              have S3 := Lib.hid (S1.out.h.more (Nat.le_succ j))
              clear S1
              go_wp2_with fail
              refine (hlen S3.out CT.out).mono ?_
              rintro e w20 ⟨rfl, hs⟩
              have T1 := Lib.hid hs
              clear hs S3
              go_wp2_with fail
              refine (hroom (v := (m : Int) - ((cN : Int))) T1.out (by rw [LT.out, CT.out])).mono ?_
              rintro e w21 ⟨rfl, hs⟩
              obtain ⟨D, q, hq, hmo, hmd⟩ := hs.m
              have MD := Lib.hid hmd
              have T2 := Lib.hid hs
              clear hs T1 hmd
              go_wp2_with (at_range; refine wpList_range_own _ rfl _ 41 rfl 3 4 keyI Tryd.underlying41 _ _ q _ rfl hmo ?_; intro w22 hrg0 hg0 hs0)
              have MRR := Lib.hid (HR.start T2.out hq MD.out hrg0 hg0)
              clear hmo hrg0 hg0 hs0 T2 MD hq
              go_frame
              go_loopg [] (Maps.size D) (fun gh wx => Hid (HR w b g wo.heap.size (j + 1) w21.heap.size fl gh wx))
              case atStart => exact MRR
              case round =>
                obtain ⟨rk, rD, rleft, hrk, hrg, hrc⟩ := hrel.out.m
                have RC := Lib.hid hrc
                clear hrc MRR
                go_wp2_with (at_next; refine wpList_next_ranges_ib _ rfl _ rfl 3 4 .i64 keyI Tryd.underlying3 Tryd.underlying4 _ _ rk _ _ _ rfl hrg ?_ ?_)
                · intro _ hl0
                  have S9 := Lib.hid hrel.out.done
                  clear hl0 hrg hrel RC hrk
                  go_wp2
                  go_roundg (n2 - (j + 1))
                  case measure => go_light; omega
                  case rel => go_light; exact ⟨j + 1, fl, by omega, rfl, by go_num, LT.out, by rw [CT.out], S9⟩
                · intro kx kv w41 cnt1 hat0 hrg1 hlt1 hg1 hen
                  obtain ⟨kc, rfl, hat⟩ := hat0
                  have MRN := Lib.hid (hrel.out.next hrk RC.out hrg1 hg1)
                  have hz := RC.out.at (hat _)
                  have HZ := Lib.hid hz
                  have LT1 := Lib.hid hlt1
                  clear hat hrg1 hg1 hrg hrel RC hlt1 hrk hz
                  go_wp2_with (go_at_call 20; refine (hhas MRN.out HZ.out).mono ?_; rintro e w42 ⟨rfl, hs⟩; have S42 := Lib.hid hs; clear hs)
                  go_roundg cnt1
                  case measure => go_light; exact LT1.out
                  case rel => go_light; exact S42
    · obtain rfl : j = n2 := by omega
      have HB := Lib.hid HR.out.s.f
      clear HR hfl
      go_wp2_with (go_at_call 8; refine (known_in HB.out HT.out).mono ?_; rintro e w7 ⟨rfl, hs⟩; have S6 := Lib.hid hs; clear hs)
      go_ret
      exact ⟨rfl, S6.out⟩

set_option maxRecDepth 100000 in
theorem holds_none (m : Int) (sp : Option Addr) (n c : Nat) (w : World) (h : m < 1 ∨ 200 < m ∨ 100 < n) (hn : n ≤ 9223372036854775807) (ht : tabAt w) :
    Calls Tryd.prog 7 #[.int .i64 m, .slice sp n c] w fun e w' => e = .returned (.bool true) ∧ Below w.heap.size w w' := by
  have HT := Lib.hid ht
  clear ht
  by_cases h1 : m < 1
  · clear h
    go_enter Tryd.func7, Tryd.ntmps7
    go_wp2_with (go_at_call 8; refine (known_any _ HT.out).mono ?_; rintro e w' ⟨rfl, hb⟩)
    go_ret
    exact ⟨rfl, hb⟩
  · by_cases h2 : 200 < m
    · clear h
      have d1 : decide (m < 1) = false := by simpa using h1
      clear h1
      go_enter Tryd.func7, Tryd.ntmps7
      go_wp2_with (go_at_call 8; refine (known_any _ HT.out).mono ?_; rintro e w' ⟨rfl, hb⟩)
      go_ret
      exact ⟨rfl, hb⟩
    · have d3 : decide (100 < (n : Int)) = true := by simp; omega
      have d1 : decide (m < 1) = false := by simpa using h1
      have d2 : decide (200 < m) = false := by simpa using h2
      clear h h1 h2
      go_enter Tryd.func7, Tryd.ntmps7
      go_wp2_with (go_at_call 8; refine (known_any _ HT.out).mono ?_; rintro e w' ⟨rfl, hb⟩)
      go_ret
      exact ⟨rfl, hb⟩
theorem holds_law (m : Int) (sp : Option Addr) (n c : Nat) (acts : List ActR) (w : World) (hm : -9223372036854775808 ≤ m ∧ m ≤ 9223372036854775807) (ha : ActsAt w sp n acts) (ht : tabAt w) :
    Calls Tryd.prog 7 #[.int .i64 m, .slice sp n c] w fun e w' => e = .returned (.bool true) ∧ Below w.heap.size w w' := by
  by_cases h : m < 1 ∨ 200 < m ∨ 100 < n
  · exact holds_none m sp n c w h ha.m ht
  · obtain ⟨k, rfl⟩ := Int.eq_ofNat_of_zero_le (a := m) (by omega)
    exact holds_main k (by omega) (by omega) sp n c acts w ha (by omega) ht
end Go.Proofs.YtefncefmolphfaaDoor.idFn
