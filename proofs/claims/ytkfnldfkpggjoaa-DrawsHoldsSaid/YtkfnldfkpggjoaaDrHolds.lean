/- The walk of the stage's theorem. -/
import Derived.Test.YtkfnldfkpggjoaaDrCount
import Derived.Deep.LoopGhost
import Derived.Deep.DeepCutAuto
import Derived.Deep.Light
namespace Go.Proofs.Ytkfnldfkpggjoaa.drFn
open Go.ChangeShapes Go.WideShapes Go.ChangeAt Go.RowKit drMem
set_option linter.unusedVariables false

theorem pw_getD {out : List Int} (h : out.Pairwise (· < ·)) {i j : Nat} (hij : i < j) (hj : j < out.length) : out.getD i 0 < out.getD j 0 := by
  have := List.pairwise_iff_getElem.1 h i j (by omega) hj hij
  rw [List.getD_eq_getElem?_getD, List.getD_eq_getElem?_getD, List.getElem?_eq_getElem hj, List.getElem?_eq_getElem (show i < out.length by omega)]
  exact this
def HRel (w : World) (b g : Nat) (l : List Nat) (wr : World) : Prop := ∃ u, St w b g l u wr
def smPost (acts : List ActR) (w : World) := smallPost acts w
set_option maxRecDepth 100000 in
set_option maxHeartbeats 8000000 in
theorem holds_main (s1 s2 : Option Addr) (n1 n2 c1 c2 : Nat) (l : List Nat) (acts : List ActR) (w : World) (hu : UsAt w s1 n1 l) (ha : ActsAt w s2 n2 acts) (h300 : n1 ≤ 300) :
    Calls Try.prog 7 #[.slice s1 n1 c1, .slice s2 n2 c2] w fun e w' => e = .returned (.bool true) ∧ Below w.heap.size w w' := by
  have hnew := New_ok s1 n1 c1 l w hu.n (by omega) hu.c hu.v
  have hsm := small_any s2 n2 c2 acts w ha
  have hm2 := ha.m
  have HU := Lib.hid hu
  have HA := Lib.hid ha
  have HNEW := Lib.hid hnew
  have HSM := Lib.hid hsm
  have d0 : decide (300 < (n1 : Int)) = false := by simp; omega
  clear hnew hsm hu ha
  go_enter Try.func7, Try.ntmps7
  go_wp2_with fail
  refine HSM.out.mono ?_
  rintro e w' ⟨x, rfl, hx, rfl⟩
  cases x with
  | false =>
    go_wp2_with (go_at_call 9; refine (known_any _).mono ?_; rintro e w' ⟨rfl, hb⟩)
    go_ret
    exact ⟨rfl, hb⟩
  | true =>
    have SP := Lib.hid (hx rfl)
    clear hx HSM
    go_wp2_with fail
    refine HNEW.out.mono ?_
    rintro e w1 ⟨b, rfl, hd, hlt, hb⟩
    have hst : HRel w b w.heap.size l w1 := ⟨0, hd, hb, by omega, Nat.le_refl _⟩
    have HST := Lib.hid hst
    have hbw : w.heap.size ≤ b := by omega
    clear hd hb hst HNEW hlt
    go_wp2
    go_loopg [49] n2 (fun gh i wr => ∃ k : Nat, k ≤ n2 ∧ gh = n2 - k ∧ i = .int .i64 k ∧ Hid (HRel w b w.heap.size l wr))
    case atStart => exact ⟨0, Nat.zero_le _, rfl, rfl, HST⟩
    case round =>
      obtain ⟨k, hk, rfl, rfl, HR⟩ := hrel
      clear HST
      by_cases hlt2 : k < n2
      · obtain ⟨ab, ao, rfl, hab, hcell⟩ := HA.out.c (by omega)
        obtain ⟨r, hr⟩ : ∃ r, acts[k]? = some r := ⟨_, List.getElem?_eq_getElem (by rw [HA.out.n]; exact hlt2)⟩
        have hact := hcell k r hr
        obtain ⟨u, hs⟩ := HR.out
        have e0 : wr.cell? ⟨ab, ao + k * 4, none⟩ = some (.int .i64 r.what) := (hs.f.cell (p := ⟨ab, ao + k * 4, none⟩) hab).trans hact.c0
        have e1 : wr.cell? ⟨ab, ao + k * 4 + 1, none⟩ = some (.int .i64 r.n) := (hs.f.cell (p := ⟨ab, ao + k * 4 + 1, none⟩) hab).trans hact.c1
        have e2 : wr.cell? ⟨ab, ao + k * 4 + 2, none⟩ = some (.int .i64 r.many) := (hs.f.cell (p := ⟨ab, ao + k * 4 + 2, none⟩) hab).trans hact.c2
        have e3 : wr.cell? ⟨ab, ao + k * 4 + 3, none⟩ = some (.slice r.sp r.list.length r.cap) := (hs.f.cell (p := ⟨ab, ao + k * 4 + 3, none⟩) hab).trans hact.c3
        have HACT := Lib.hid hact
        have hbad := SP.out.1 k r (by have := SP.out.2; have := HA.out.n; omega) hr
        have HBAD := Lib.hid hbad
        obtain ⟨A, hA⟩ : ∃ A, l.length - u = A := ⟨_, rfl⟩
        have hln := HU.out.n
        have hul := hs.d.le
        have AA := Lib.hid hA
        have UL : Hid (u ≤ l.length) := Lib.hid hul
        have LN := Lib.hid hln
        have S0 := Lib.hid (rd0 (r := r) hs)
        have hal : A ≤ 300 := by omega
        have hu300 : u ≤ 300 := by omega
        clear hr hact hs HR hcell hA hln hul hbad
        go_wp2_with fail
        refine (rd1 (q := wr.heap.size + 1) S0.out AA.out (by simp)).mono ?_
        rintro e w2 ⟨rfl, hs, hq⟩
        have S1 := Lib.hid hs
        have Q1 := Lib.hid hq
        clear hs hq S0 e0 e1 e2 e3
        go_wp2_with fail
        refine (rd2 S1.out Q1.out AA.out).mono ?_
        rintro e w3 ⟨b2, g2, rfl, hs⟩
        have S2 := Lib.hid hs
        clear hs S1 Q1
        go_wp2_with fail
        refine (rd3 S2.out AA.out).mono ?_
        rintro e w4 ⟨rfl, hs⟩
        have f0 := hs.f0
        have f1 := hs.f1
        have f2 := hs.f2
        have f3 := hs.f3
        have S3 := Lib.hid hs
        clear hs S2
        by_cases q0 : r.what = 0
        · as_aux_lemma =>
          have t0 : (r.what == 0) = true := by simpa using q0
          clear q0
          obtain ⟨x, hx⟩ : ∃ x, nextN l u r.n = x := ⟨_, rfl⟩
          obtain ⟨y, hy⟩ : ∃ y, nextE l u r.n = y := ⟨_, rfl⟩
          obtain ⟨u1, hu1⟩ : ∃ u1, nextU l u r.n = u1 := ⟨_, rfl⟩
          have huu : u ≤ u1 := by rw [← hu1]; exact nextU_ge l u r.n
          have hin : y = 0 → 0 ≤ x ∧ x < r.n := fun h => by rw [← hx]; exact next_in l u r.n (hy.trans h)
          have XX := Lib.hid hx
          have YY := Lib.hid hy
          have U1 := Lib.hid hu1
          have IN := Lib.hid hin
          clear hx hy hu1 hin
          go_wp2_with fail
          refine (nx1 r.n XX.out YY.out U1.out S3.out).mono ?_
          rintro e w5 ⟨rfl, hs⟩
          clear f0 f1 f2 f3
          have f0 := hs.f0
          have f1 := hs.f1
          have f2 := hs.f2
          have f3 := hs.f3
          have S4 := Lib.hid hs
          clear hs S3 
          by_cases qy : y = 0
          · as_aux_lemma =>
            have ty : (y == 0) = true := by simpa using qy
            obtain ⟨z0, z1⟩ := IN.out qy
            have v3 : decide (x < 0) = false := by simpa using z0
            have v4 : decide (r.n ≤ x) = false := by simpa using z1
            clear qy
            go_wp2_with fail
            refine (nx2 r.n XX.out YY.out U1.out S4.out).mono ?_
            rintro e w6 ⟨rfl, hs⟩
            clear f0 f1 f2 f3
            have f0 := hs.f0
            have f1 := hs.f1
            have f2 := hs.f2
            have f3 := hs.f3
            have S5 := Lib.hid hs
            clear hs S4 
            obtain ⟨B, hB⟩ : ∃ B, l.length - u1 = B := ⟨_, rfl⟩
            have hB2 : (l.drop u).length - (u1 - u) = B := by have := S5.out.s.d.le; have := UL.out; rw [List.length_drop]; omega
            have v1 : decide (A < B) = false := by have := AA.out; simp; omega
            have v2 : ((u1 : Int) + (B : Int) != (n1 : Int)) = false := by have := S5.out.s.d.le; have := LN.out; rw [bne_eq_false_iff_eq]; omega
            have hB300 : B ≤ 300 := by have := LN.out; omega
            have hu1300 : u1 ≤ 300 := by have := S5.out.s.d.le; have := LN.out; omega
            have BB := Lib.hid hB
            have BB2 := Lib.hid hB2
            clear hB hB2 f0 f1 f2 f3
            go_wp2_with fail
            refine (rd3 S5.out BB.out).mono ?_
            rintro e w10 ⟨rfl, hs⟩
            have T1 := Lib.hid hs
            clear hs S5
            go_wp2_with fail
            refine (rd3 T1.out BB.out).mono ?_
            rintro e w11 ⟨rfl, hs⟩
            have T2 := Lib.hid hs
            clear hs T1
            go_wp2_with fail
            refine (rd4 T2.out BB2.out).mono ?_
            rintro e w12 ⟨rfl, hs⟩
            have T3 := Lib.hid hs
            clear hs T2
            go_wp2_with fail
            refine (rd5 T3.out).mono ?_
            rintro e w13 ⟨rfl, hs⟩
            have T4 := Lib.hid hs
            clear hs T3
            go_wp2_with fail
            refine (rd3 T4.out BB.out).mono ?_
            rintro e w14 ⟨rfl, hs⟩
            have T5 := Lib.hid hs
            clear hs T4
            go_wp2
            go_roundg (n2 - (k + 1))
            case measure => go_light; omega
            case rel => go_light; exact ⟨k + 1, by omega, rfl, by go_num, Lib.hid ⟨_, T5.out.s⟩⟩
          · as_aux_lemma =>
            have ty : (y == 0) = false := by simpa using qy
            clear qy
            go_wp2_with fail
            refine (nx2 r.n XX.out YY.out U1.out S4.out).mono ?_
            rintro e w6 ⟨rfl, hs⟩
            clear f0 f1 f2 f3
            have f0 := hs.f0
            have f1 := hs.f1
            have f2 := hs.f2
            have f3 := hs.f3
            have S5 := Lib.hid hs
            clear hs S4 
            obtain ⟨B, hB⟩ : ∃ B, l.length - u1 = B := ⟨_, rfl⟩
            have hB2 : (l.drop u).length - (u1 - u) = B := by have := S5.out.s.d.le; have := UL.out; rw [List.length_drop]; omega
            have v1 : decide (A < B) = false := by have := AA.out; simp; omega
            have v2 : ((u1 : Int) + (B : Int) != (n1 : Int)) = false := by have := S5.out.s.d.le; have := LN.out; rw [bne_eq_false_iff_eq]; omega
            have hB300 : B ≤ 300 := by have := LN.out; omega
            have hu1300 : u1 ≤ 300 := by have := S5.out.s.d.le; have := LN.out; omega
            have BB := Lib.hid hB
            have BB2 := Lib.hid hB2
            clear hB hB2 f0 f1 f2 f3
            go_wp2_with fail
            refine (rd3 S5.out BB.out).mono ?_
            rintro e w10 ⟨rfl, hs⟩
            have T1 := Lib.hid hs
            clear hs S5
            go_wp2_with fail
            refine (rd3 T1.out BB.out).mono ?_
            rintro e w11 ⟨rfl, hs⟩
            have T2 := Lib.hid hs
            clear hs T1
            go_wp2_with fail
            refine (rd4 T2.out BB2.out).mono ?_
            rintro e w12 ⟨rfl, hs⟩
            have T3 := Lib.hid hs
            clear hs T2
            go_wp2_with fail
            refine (rd5 T3.out).mono ?_
            rintro e w13 ⟨rfl, hs⟩
            have T4 := Lib.hid hs
            clear hs T3
            go_wp2_with fail
            refine (rd3 T4.out BB.out).mono ?_
            rintro e w14 ⟨rfl, hs⟩
            have T5 := Lib.hid hs
            clear hs T4
            go_wp2
            go_roundg (n2 - (k + 1))
            case measure => go_light; omega
            case rel => go_light; exact ⟨k + 1, by omega, rfl, by go_num, Lib.hid ⟨_, T5.out.s⟩⟩
        · have t0 : (r.what == 0) = false := by simpa using q0
          by_cases q1 : r.what = 1
          · as_aux_lemma =>
            obtain ⟨wo, rfl⟩ : ∃ wo : World, wo = wr := ⟨_, rfl⟩
            have t1 : (r.what == 1) = true := by simpa using q1
            clear q0 q1
            obtain ⟨out, hx⟩ : ∃ out, shOut l u r.list = out := ⟨_, rfl⟩
            obtain ⟨y, hy⟩ : ∃ y, shE l u r.list.length = y := ⟨_, rfl⟩
            obtain ⟨u1, hu1⟩ : ∃ u1, shU l u r.list.length = u1 := ⟨_, rfl⟩
            obtain ⟨L, hL⟩ : ∃ L, out.length = L := ⟨_, rfl⟩
            have huu : u ≤ u1 := by rw [← hu1]; exact shU_ge l u _
            have hin : y = 0 → out.Perm r.list := fun h => by rw [← hx]; exact shOut_perm l u _ (hy.trans h)
            have hno : y ≠ 0 → out = [] := fun h => by rw [← hx]; unfold shOut; rw [if_neg (by rw [hy]; exact h)]
            have hl60 : r.list.length ≤ 60 := by have := HBAD.out; unfold actBad at this; omega
            have hLm : L ≤ 60 := by have := shOut_len l u r.list; rw [hx] at this; omega
            have hyz : r.list.length = 0 → y = 0 := fun h => by rw [← hy, h]; unfold shE; rw [if_neg (by omega), if_neg (by omega)]
            have XX := Lib.hid hx
            have YY := Lib.hid hy
            have U1 := Lib.hid hu1
            have IN := Lib.hid hin
            have NO := Lib.hid hno
            have LL := Lib.hid hL
            have YZ := Lib.hid hyz
            have hmm := @run_makeMap Try.prog
            clear hx hy hu1 hin hno hL hyz
            by_cases hl1 : r.list.length = 0
            · as_aux_lemma =>
              rw [hl1] at f3
              have cc := sh1 LL.out XX.out YY.out U1.out S3.out HACT.out.s HACT.out.hl
              rw [hl1] at cc
              go_wp2_with fail
              refine cc.mono ?_
              rintro e w5 ⟨xs, rfl, hs, hrow⟩
              clear f0 f1 f2 f3 cc
              have f0 := hs.f0
              have f1 := hs.f1
              have f2 := hs.f2
              have f3 := hs.f3
              rw [hl1] at f3
              have cc := sh2 LL.out XX.out YY.out U1.out hs HACT.out.s HACT.out.hl hrow
              rw [hl1] at cc
              have S4 := Lib.hid hs
              clear hs hrow S3
              go_wp2_with fail
              refine cc.mono ?_
              rintro e w6 ⟨rfl, hs, hrow⟩
              clear f0 f1 f2 f3 cc
              have f0 := hs.f0
              have f1 := hs.f1
              have f2 := hs.f2
              have f3 := hs.f3
              rw [hl1] at f3
              have S5 := Lib.hid hs
              have M0 := Lib.hid (ms0 (list := r.list) hs hrow)
              have R5 := Lib.hid hrow.s
              clear hs hrow S4
              have qy := YZ.out hl1
              have ty : (y == 0) = true := by simpa using qy
              have hl0 : L = 0 := by have := (IN.out qy).length_eq; rw [LL.out] at this; omega
              have v5 : decide ((0 : Int) < (L : Int)) = false := by simp; omega
              have v7 : decide (0 < L) = false := by simp; omega
              have hc0 : cntA r.list 0 = fun _ => 0 := by funext x; simp [cntA]
              have M1 := Lib.hid (M0.out.eq hc0)
              have f3m := M0.out.s.f3
              rw [hl1] at f3m
              clear qy R5 IN NO YZ hl0 hc0 M0
              have HL1 := Lib.hid hl1
              clear hl1
              go_wp2
              go_loopg [119] 0 (fun gh i wx => i = .int .i64 0 ∧ Hid (w6.alloc (.map #[] 0) = wx))
              case atStart => exact ⟨rfl, Lib.hid rfl⟩
              case round =>
                obtain ⟨rfl, hw⟩ := hrel
                have M2 := Lib.hid (hw.out ▸ M1.out)
                clear hw M1 f3m f0 f1 f2 f3
                obtain ⟨wa, rfl⟩ : ∃ wa : World, wa = wr := ⟨_, rfl⟩
                go_wp2
                go_loopg [130] 0 (fun gh i wx => i = .int .i64 0 ∧ Hid (wa = wx))
                case atStart => exact ⟨rfl, Lib.hid rfl⟩
                case round =>
                  obtain ⟨rfl, hw2⟩ := hrel
                  have hw' := hw2.out
                  clear hw2
                  subst hw'
                  obtain ⟨mk, mD, hmk, hmo, hmc⟩ := M2.out.m
                  have MC := Lib.hid hmc
                  clear hmc
                  go_wp2_with (at_range; refine wpList_range_own _ rfl _ 61 rfl 3 3 keyI Try.underlying61 _ _ mk _ rfl hmo ?_; intro w40 hrg0 hg0 hs0)
                  have MRR := Lib.hid (MR.start M2.out MC.out hrg0 hg0)
                  clear hmo hrg0 hg0 hs0 M2 MC hmk
                  go_frame
                  go_loopg [22] (Maps.size mD) (fun gh _ wx => Hid (MR w b w.heap.size l u1 b2 g2 (l.drop u) (u1 - u) wo.heap.size r w6.heap.size wa.heap.size (fun _ => 0) gh wx))
                  case atStart => exact MRR
                  case round =>
                    obtain ⟨rk, rD, rleft, hrg, hrc⟩ := hrel.out.m
                    have RC := Lib.hid hrc
                    clear hrc MRR
                    go_wp2_with (at_next; refine wpList_next_ranges_ii _ rfl _ rfl 3 3 .i64 .i64 keyI Try.underlying3 Try.underlying3 _ _ rk _ _ _ rfl hrg ?_ ?_)
                    · intro _ hl0
                      have S9 := Lib.hid hrel.out.s
                      clear hl0 hrg hrel RC
                      obtain ⟨B, hB⟩ : ∃ B, l.length - u1 = B := ⟨_, rfl⟩
                      have hB2 : (l.drop u).length - (u1 - u) = B := by have := S9.out.s.d.le; have := UL.out; rw [List.length_drop]; omega
                      have v1 : decide (A < B) = false := by have := AA.out; simp; omega
                      have v2 : ((u1 : Int) + (B : Int) != (n1 : Int)) = false := by have := S9.out.s.d.le; have := LN.out; rw [bne_eq_false_iff_eq]; omega
                      have hB300 : B ≤ 300 := by have := LN.out; omega
                      have hu1300 : u1 ≤ 300 := by have := S9.out.s.d.le; have := LN.out; omega
                      have BB := Lib.hid hB
                      have BB2 := Lib.hid hB2
                      clear hB hB2
                      go_wp2_with fail
                      refine (rd3 S9.out BB.out).mono ?_
                      rintro e w70 ⟨rfl, hs⟩
                      have T1 := Lib.hid hs
                      clear hs S9
                      go_wp2_with fail
                      refine (rd3 T1.out BB.out).mono ?_
                      rintro e w71 ⟨rfl, hs⟩
                      have T2 := Lib.hid hs
                      clear hs T1
                      go_wp2_with fail
                      refine (rd4 T2.out BB2.out).mono ?_
                      rintro e w72 ⟨rfl, hs⟩
                      have T3 := Lib.hid hs
                      clear hs T2
                      go_wp2_with fail
                      refine (rd5 T3.out).mono ?_
                      rintro e w73 ⟨rfl, hs⟩
                      have T4 := Lib.hid hs
                      clear hs T3
                      go_wp2_with fail
                      refine (rd3 T4.out BB.out).mono ?_
                      rintro e w74 ⟨rfl, hs⟩
                      have T5 := Lib.hid hs
                      clear hs T4
                      go_wp2
                      go_roundg (n2 - (k + 1))
                      case measure => go_light; omega
                      case rel => go_light; exact ⟨k + 1, by omega, rfl, by go_num, Lib.hid ⟨_, T5.out.s⟩⟩
                    · intro kx kc w41 cnt1 hwx hwc hlx hat hrg1 hlt1 hg1 hs1 hen
                      have MRN := Lib.hid (hrel.out.next RC.out hrg1 hg1)
                      have hz := RC.out.at (hat _)
                      have LT1 := Lib.hid hlt1
                      subst hz
                      clear hwx hwc hlx hat hrg1 hg1 hs1 hrg hrel RC hlt1
                      go_wp2
                      go_roundg cnt1
                      case measure => go_light; exact LT1.out
                      case rel => go_light; exact MRN
            · obtain ⟨lb, lo, hsp, hlb, hlc⟩ := HACT.out.s (by rw [is_len]; omega)
              have SPE := Lib.hid hsp
              have LC : Hid (∀ W', Below w.heap.size w W' → ∀ j, j < r.list.length → W'.cell? ⟨lb, lo + j, none⟩ = some (.int .i64 (r.list.getD j 0))) := Lib.hid fun W' hb j hj => (hb.cell (p := ⟨lb, lo + j, none⟩) hlb).trans (hlc j _ (is_get _ j hj))
              have LW : Hid (∀ j, j < r.list.length → i64ok (r.list.getD j 0)) := Lib.hid fun j hj => HACT.out.lw _ (by rw [List.getD_eq_getElem?_getD, List.getElem?_eq_getElem hj]; exact List.getElem_mem hj)
              clear hsp hlc
              rw [SPE.out] at f3
              have cc := sh1 LL.out XX.out YY.out U1.out S3.out HACT.out.s HACT.out.hl
              rw [SPE.out] at cc
              go_wp2_with fail
              refine cc.mono ?_
              rintro e w5 ⟨xs, rfl, hs, hrow⟩
              clear f0 f1 f2 f3 cc
              have f0 := hs.f0
              have f1 := hs.f1
              have f2 := hs.f2
              have f3 := hs.f3
              rw [SPE.out] at f3
              have cc := sh2 LL.out XX.out YY.out U1.out hs HACT.out.s HACT.out.hl hrow
              rw [SPE.out] at cc
              have S4 := Lib.hid hs
              clear hs hrow S3
              go_wp2_with fail
              refine cc.mono ?_
              rintro e w6 ⟨rfl, hs, hrow⟩
              clear f0 f1 f2 f3 cc
              have f0 := hs.f0
              have f1 := hs.f1
              have f2 := hs.f2
              have f3 := hs.f3
              rw [SPE.out] at f3
              have S5 := Lib.hid hs
              have M0 := Lib.hid (ms0 (list := r.list) hs hrow)
              have R5 := Lib.hid hrow.s
              clear hs hrow S4
              by_cases qy : y = 0
              · as_aux_lemma =>
                have ty : (y == 0) = true := by simpa using qy
                have hperm := IN.out qy
                have hLl : L = r.list.length := by rw [← LL.out]; exact hperm.length_eq
                obtain ⟨xb, xo, rfl, hxb, _⟩ := R5.out (by rw [is_len, LL.out]; omega)
                have PM := Lib.hid hperm
                have OW : Hid (∀ j, j < out.length → i64ok (out.getD j 0)) := Lib.hid fun j hj => HACT.out.lw _ (hperm.mem_iff.1 (by rw [List.getD_eq_getElem?_getD, List.getElem?_eq_getElem hj]; exact List.getElem_mem hj))
                have LLE := Lib.hid hLl
                have f3m := M0.out.s.f3
                rw [SPE.out] at f3m
                clear qy hperm hLl R5 IN NO YZ
                go_wp2
                go_loopg [119] r.list.length (fun gh i wx => ∃ j : Nat, j ≤ r.list.length ∧ gh = r.list.length - j ∧ i = .int .i64 j ∧ Hid (MS w b w.heap.size l u1 b2 g2 (l.drop u) (u1 - u) wo.heap.size r (some ⟨xb, xo, none⟩) out w6.heap.size (cntA r.list j) j wx))
                case atStart => exact ⟨0, Nat.zero_le _, rfl, rfl, M0⟩
                case round =>
                  obtain ⟨j, hj, rfl, rfl, hw⟩ := hrel
                  clear M0 f3m f0 f1 f2 f3
                  by_cases hjl : j < r.list.length
                  · have xj := LC.out _ hw.out.s.s.f j hjl
                    have hwk : (Lit.int .i64 (r.list.getD j 0)).wf = true := WalkArith.wf_i64 (LW.out j hjl)
                    obtain ⟨mk, mD, hmk, hmo, hmc⟩ := hw.out.m
                    have hst := cntA_step r.list j hjl
                    obtain ⟨hbd0, hbd1⟩ := cntA_bd r.list j (r.list.getD j 0)
                    have MC := Lib.hid hmc
                    have ST := Lib.hid hst
                    clear hmc hst
                    generalize r.list.getD j 0 = z at *
                    generalize hgen : cntA r.list j z = cz at *
                    have CZ := Lib.hid hgen
                    clear hgen
                    have hkey : keyOf Try.prog 3 (.int .i64 z) = some (.int .i64 z) := Maps.keyOf_int_mk Try.underlying3 hwk
                    go_wp2_with (first | (at_lookup; refine wpList_lookup_own_int _ rfl _ _ 61 rfl 3 3 .i64 keyI Try.underlying61 Try.underlying3 (zeroI _) _ mk _ rfl hmo _ _ rfl hkey ?_; intro c hat hwc; obtain rfl : c = cz := (MC.out.at hat).trans CZ.out; clear hat; have hwf := WalkArith.wf_i64 (n := c + 1) (by omega)) | (at_mapUpdate; refine wpList_mapUpdate_own _ rfl _ _ _ 61 rfl 3 3 keyI Try.underlying61 _ _ mk _ rfl hmo (by unfold maxLen; omega) _ _ _ rfl rfl hkey _ [] (plainElem_int Try.underlying3 hwf) ?_; intro w30 hown1 hgrow1))
                    have NX := Lib.hid (hw.out.step (k := z) (v := c + 1) (f' := cntA r.list (j + 1)) MC.out (by omega) ST.out.1 ST.out.2 hown1 hgrow1)
                    clear hown1 hgrow1 hmo hw MC ST CZ hkey hwk hwc hwf
                    go_wp2
                    go_roundg (r.list.length - (j + 1))
                    case measure => go_light; omega
                    case rel => go_light; exact ⟨j + 1, by omega, rfl, by go_num, NX⟩
                  · obtain rfl : j = r.list.length := by omega
                    have M1 := Lib.hid (hw.out.eq (cntA_end r.list out))
                    have X1 := Lib.hid hw.out.s.f3
                    clear hw
                    obtain ⟨wa, rfl⟩ : ∃ wa : World, wa = wr := ⟨_, rfl⟩
                    clear X1
                    go_wp2
                    go_loopg [130] L (fun gh i wx => ∃ j : Nat, j ≤ L ∧ gh = L - j ∧ i = .int .i64 j ∧ Hid (MS w b w.heap.size l u1 b2 g2 (l.drop u) (u1 - u) wo.heap.size r (some ⟨xb, xo, none⟩) out w6.heap.size (cntB r.list out j) (r.list.length + j) wx))
                    case atStart => exact ⟨0, Nat.zero_le _, rfl, rfl, M1⟩
                    case round =>
                      obtain ⟨j, hj, rfl, rfl, hw⟩ := hrel
                      clear M1
                      by_cases hjl : j < L
                      · have hjo : j < out.length := by rw [LL.out]; exact hjl
                        obtain ⟨xb', xo', hxe, _, hxc⟩ := hw.out.row (by omega)
                        obtain ⟨rfl, rfl⟩ : xb = xb' ∧ xo = xo' := by simpa using hxe
                        have xj := hxc j hjo
                        have hwk : (Lit.int .i64 (out.getD j 0)).wf = true := WalkArith.wf_i64 (OW.out j hjo)
                        obtain ⟨mk, mD, hmk, hmo, hmc⟩ := hw.out.m
                        have hst := cntB_step r.list out j hjo
                        obtain ⟨hbd0, hbd1⟩ := cntB_bd r.list out j (out.getD j 0) hl60 (by omega)
                        have MC := Lib.hid hmc
                        have ST := Lib.hid hst
                        clear hmc hst hxc hxe
                        generalize out.getD j 0 = z at *
                        generalize hgen : cntB r.list out j z = cz at *
                        have CZ := Lib.hid hgen
                        clear hgen
                        have hkey : keyOf Try.prog 3 (.int .i64 z) = some (.int .i64 z) := Maps.keyOf_int_mk Try.underlying3 hwk
                        go_wp2_with (first | (at_lookup; refine wpList_lookup_own_int _ rfl _ _ 61 rfl 3 3 .i64 keyI Try.underlying61 Try.underlying3 (zeroI _) _ mk _ rfl hmo _ _ rfl hkey ?_; intro c hat hwc; obtain rfl : c = cz := (MC.out.at hat).trans CZ.out; clear hat; have hwf := WalkArith.wf_i64 (n := c - 1) (by omega)) | (at_mapUpdate; refine wpList_mapUpdate_own _ rfl _ _ _ 61 rfl 3 3 keyI Try.underlying61 _ _ mk _ rfl hmo (by unfold maxLen; omega) _ _ _ rfl rfl hkey _ [] (plainElem_int Try.underlying3 hwf) ?_; intro w31 hown1 hgrow1))
                        have NX := Lib.hid (hw.out.step (k := z) (v := c - 1) (f' := cntB r.list out (j + 1)) MC.out (by omega) ST.out.1 ST.out.2 hown1 hgrow1)
                        clear hown1 hgrow1 hmo hw MC ST CZ hkey hwk hwc hwf
                        go_wp2
                        go_roundg (L - (j + 1))
                        case measure => go_light; omega
                        case rel => go_light; exact ⟨j + 1, by omega, rfl, by go_num, NX⟩
                      · obtain rfl : j = L := by omega
                        have M2 := Lib.hid hw.out
                        clear hw
                        obtain ⟨wb, rfl⟩ : ∃ wb : World, wb = wr := ⟨_, rfl⟩
                        have LLO : Hid (out.length = j) := LL
                        obtain ⟨mk, mD, hmk, hmo, hmc⟩ := M2.out.m
                        have MC := Lib.hid hmc
                        clear hmc
                        go_wp2_with (at_range; refine wpList_range_own _ rfl _ 61 rfl 3 3 keyI Try.underlying61 _ _ mk _ rfl hmo ?_; intro w40 hrg0 hg0 hs0)
                        have MRR := Lib.hid (MR.start M2.out MC.out hrg0 hg0)
                        clear hmo hrg0 hg0 hs0 M2 MC hmk
                        go_frame
                        go_loopg [22] (Maps.size mD) (fun gh _ wx => Hid (MR w b w.heap.size l u1 b2 g2 (l.drop u) (u1 - u) wo.heap.size r w6.heap.size wb.heap.size (cntB r.list out j) gh wx))
                        case atStart => exact MRR
                        case round =>
                          obtain ⟨rk, rD, rleft, hrg, hrc⟩ := hrel.out.m
                          have RC := Lib.hid hrc
                          clear hrc MRR
                          go_wp2_with (at_next; refine wpList_next_ranges_ii _ rfl _ rfl 3 3 .i64 .i64 keyI Try.underlying3 Try.underlying3 _ _ rk _ _ _ rfl hrg ?_ ?_)
                          · intro _ hl0
                            have S9 := Lib.hid hrel.out.s
                            clear hl0 hrg hrel RC
                            obtain ⟨B, hB⟩ : ∃ B, l.length - u1 = B := ⟨_, rfl⟩
                            have hB2 : (l.drop u).length - (u1 - u) = B := by have := S9.out.s.d.le; have := UL.out; rw [List.length_drop]; omega
                            have v1 : decide (A < B) = false := by have := AA.out; simp; omega
                            have v2 : ((u1 : Int) + (B : Int) != (n1 : Int)) = false := by have := S9.out.s.d.le; have := LN.out; rw [bne_eq_false_iff_eq]; omega
                            have hB300 : B ≤ 300 := by have := LN.out; omega
                            have hu1300 : u1 ≤ 300 := by have := S9.out.s.d.le; have := LN.out; omega
                            have BB := Lib.hid hB
                            have BB2 := Lib.hid hB2
                            clear hB hB2
                            go_wp2_with fail
                            refine (rd3 S9.out BB.out).mono ?_
                            rintro e w50 ⟨rfl, hs⟩
                            have T1 := Lib.hid hs
                            clear hs S9
                            go_wp2_with fail
                            refine (rd3 T1.out BB.out).mono ?_
                            rintro e w51 ⟨rfl, hs⟩
                            have T2 := Lib.hid hs
                            clear hs T1
                            go_wp2_with fail
                            refine (rd4 T2.out BB2.out).mono ?_
                            rintro e w52 ⟨rfl, hs⟩
                            have T3 := Lib.hid hs
                            clear hs T2
                            go_wp2_with fail
                            refine (rd5 T3.out).mono ?_
                            rintro e w53 ⟨rfl, hs⟩
                            have T4 := Lib.hid hs
                            clear hs T3
                            go_wp2_with fail
                            refine (rd3 T4.out BB.out).mono ?_
                            rintro e w54 ⟨rfl, hs⟩
                            have T5 := Lib.hid hs
                            clear hs T4
                            go_wp2
                            go_roundg (n2 - (k + 1))
                            case measure => go_light; omega
                            case rel => go_light; exact ⟨k + 1, by omega, rfl, by go_num, Lib.hid ⟨_, T5.out.s⟩⟩
                          · intro kx kc w41 cnt1 hwx hwc hlx hat hrg1 hlt1 hg1 hs1 hen
                            have MRN := Lib.hid (hrel.out.next RC.out hrg1 hg1)
                            have hz := RC.out.at (hat _)
                            have LT1 := Lib.hid hlt1
                            have hz0 : kc = 0 := hz.trans (LLO.out ▸ cntB_end PM.out kx)
                            subst hz0
                            clear hz
                            clear hwx hwc hlx hat hrg1 hg1 hs1 hrg hrel RC hlt1
                            go_wp2
                            go_roundg cnt1
                            case measure => go_light; exact LT1.out
                            case rel => go_light; exact MRN
              · as_aux_lemma =>
                have ty : (y == 0) = false := by simpa using qy
                have hl0 : L = 0 := by rw [← LL.out, NO.out qy]; rfl
                have v5 : decide ((0 : Int) < (L : Int)) = false := by simp; omega
                have v7 : decide (0 < L) = false := by simp; omega
                have f3m := M0.out.s.f3
                rw [SPE.out] at f3m
                clear qy R5 IN NO YZ hl0
                go_wp2
                go_loopg [119] r.list.length (fun gh i wx => ∃ j : Nat, j ≤ r.list.length ∧ gh = r.list.length - j ∧ i = .int .i64 j ∧ Hid (MS w b w.heap.size l u1 b2 g2 (l.drop u) (u1 - u) wo.heap.size r xs out w6.heap.size (cntA r.list j) j wx))
                case atStart => exact ⟨0, Nat.zero_le _, rfl, rfl, M0⟩
                case round =>
                  obtain ⟨j, hj, rfl, rfl, hw⟩ := hrel
                  clear M0 f3m f0 f1 f2 f3
                  by_cases hjl : j < r.list.length
                  · have xj := LC.out _ hw.out.s.s.f j hjl
                    have hwk : (Lit.int .i64 (r.list.getD j 0)).wf = true := WalkArith.wf_i64 (LW.out j hjl)
                    obtain ⟨mk, mD, hmk, hmo, hmc⟩ := hw.out.m
                    have hst := cntA_step r.list j hjl
                    obtain ⟨hbd0, hbd1⟩ := cntA_bd r.list j (r.list.getD j 0)
                    have MC := Lib.hid hmc
                    have ST := Lib.hid hst
                    clear hmc hst
                    generalize r.list.getD j 0 = z at *
                    generalize hgen : cntA r.list j z = cz at *
                    have CZ := Lib.hid hgen
                    clear hgen
                    have hkey : keyOf Try.prog 3 (.int .i64 z) = some (.int .i64 z) := Maps.keyOf_int_mk Try.underlying3 hwk
                    go_wp2_with (first | (at_lookup; refine wpList_lookup_own_int _ rfl _ _ 61 rfl 3 3 .i64 keyI Try.underlying61 Try.underlying3 (zeroI _) _ mk _ rfl hmo _ _ rfl hkey ?_; intro c hat hwc; obtain rfl : c = cz := (MC.out.at hat).trans CZ.out; clear hat; have hwf := WalkArith.wf_i64 (n := c + 1) (by omega)) | (at_mapUpdate; refine wpList_mapUpdate_own _ rfl _ _ _ 61 rfl 3 3 keyI Try.underlying61 _ _ mk _ rfl hmo (by unfold maxLen; omega) _ _ _ rfl rfl hkey _ [] (plainElem_int Try.underlying3 hwf) ?_; intro w30 hown1 hgrow1))
                    have NX := Lib.hid (hw.out.step (k := z) (v := c + 1) (f' := cntA r.list (j + 1)) MC.out (by omega) ST.out.1 ST.out.2 hown1 hgrow1)
                    clear hown1 hgrow1 hmo hw MC ST CZ hkey hwk hwc hwf
                    go_wp2
                    go_roundg (r.list.length - (j + 1))
                    case measure => go_light; omega
                    case rel => go_light; exact ⟨j + 1, by omega, rfl, by go_num, NX⟩
                  · obtain rfl : j = r.list.length := by omega
                    have M1 := Lib.hid (hw.out.eq (cntA_end r.list out))
                    have X1 := Lib.hid hw.out.s.f3
                    clear hw
                    obtain ⟨wa, rfl⟩ : ∃ wa : World, wa = wr := ⟨_, rfl⟩
                    clear X1
                    go_wp2
                    go_loopg [130] 0 (fun gh i wx => i = .int .i64 0 ∧ Hid (wa = wx))
                    case atStart => exact ⟨rfl, Lib.hid rfl⟩
                    case round =>
                      obtain ⟨rfl, hw2⟩ := hrel
                      have hw' := hw2.out
                      clear hw2
                      subst hw'
                      obtain ⟨mk, mD, hmk, hmo, hmc⟩ := M1.out.m
                      have MC := Lib.hid hmc
                      clear hmc
                      go_wp2_with (at_range; refine wpList_range_own _ rfl _ 61 rfl 3 3 keyI Try.underlying61 _ _ mk _ rfl hmo ?_; intro w40 hrg0 hg0 hs0)
                      have MRR := Lib.hid (MR.start M1.out MC.out hrg0 hg0)
                      clear hmo hrg0 hg0 hs0 M1 MC hmk
                      go_frame
                      go_loopg [22] (Maps.size mD) (fun gh _ wx => Hid (MR w b w.heap.size l u1 b2 g2 (l.drop u) (u1 - u) wo.heap.size r w6.heap.size wa.heap.size (cntB r.list out 0) gh wx))
                      case atStart => exact MRR
                      case round =>
                        obtain ⟨rk, rD, rleft, hrg, hrc⟩ := hrel.out.m
                        have RC := Lib.hid hrc
                        clear hrc MRR
                        go_wp2_with (at_next; refine wpList_next_ranges_ii _ rfl _ rfl 3 3 .i64 .i64 keyI Try.underlying3 Try.underlying3 _ _ rk _ _ _ rfl hrg ?_ ?_)
                        · intro _ hl0
                          have S9 := Lib.hid hrel.out.s
                          clear hl0 hrg hrel RC
                          obtain ⟨B, hB⟩ : ∃ B, l.length - u1 = B := ⟨_, rfl⟩
                          have hB2 : (l.drop u).length - (u1 - u) = B := by have := S9.out.s.d.le; have := UL.out; rw [List.length_drop]; omega
                          have v1 : decide (A < B) = false := by have := AA.out; simp; omega
                          have v2 : ((u1 : Int) + (B : Int) != (n1 : Int)) = false := by have := S9.out.s.d.le; have := LN.out; rw [bne_eq_false_iff_eq]; omega
                          have hB300 : B ≤ 300 := by have := LN.out; omega
                          have hu1300 : u1 ≤ 300 := by have := S9.out.s.d.le; have := LN.out; omega
                          have BB := Lib.hid hB
                          have BB2 := Lib.hid hB2
                          clear hB hB2
                          go_wp2_with fail
                          refine (rd3 S9.out BB.out).mono ?_
                          rintro e w60 ⟨rfl, hs⟩
                          have T1 := Lib.hid hs
                          clear hs S9
                          go_wp2_with fail
                          refine (rd3 T1.out BB.out).mono ?_
                          rintro e w61 ⟨rfl, hs⟩
                          have T2 := Lib.hid hs
                          clear hs T1
                          go_wp2_with fail
                          refine (rd4 T2.out BB2.out).mono ?_
                          rintro e w62 ⟨rfl, hs⟩
                          have T3 := Lib.hid hs
                          clear hs T2
                          go_wp2_with fail
                          refine (rd5 T3.out).mono ?_
                          rintro e w63 ⟨rfl, hs⟩
                          have T4 := Lib.hid hs
                          clear hs T3
                          go_wp2_with fail
                          refine (rd3 T4.out BB.out).mono ?_
                          rintro e w64 ⟨rfl, hs⟩
                          have T5 := Lib.hid hs
                          clear hs T4
                          go_wp2
                          go_roundg (n2 - (k + 1))
                          case measure => go_light; omega
                          case rel => go_light; exact ⟨k + 1, by omega, rfl, by go_num, Lib.hid ⟨_, T5.out.s⟩⟩
                        · intro kx kc w41 cnt1 hwx hwc hlx hat hrg1 hlt1 hg1 hs1 hen
                          have MRN := Lib.hid (hrel.out.next RC.out hrg1 hg1)
                          have hz := RC.out.at (hat _)
                          have LT1 := Lib.hid hlt1
                          clear hz
                          clear hwx hwc hlx hat hrg1 hg1 hs1 hrg hrel RC hlt1
                          go_wp2
                          go_roundg cnt1
                          case measure => go_light; exact LT1.out
                          case rel => go_light; exact MRN
          · have t1 : (r.what == 1) = false := by simpa using q1
            by_cases q2 : r.what = 2
            · as_aux_lemma =>
              have t2 : (r.what == 2) = true := by simpa using q2
              clear q0 q1 q2
              obtain ⟨out, hx⟩ : ∃ out, pkOut l u r.many r.n = out := ⟨_, rfl⟩
              obtain ⟨y, hy⟩ : ∃ y, pkE l u r.many r.n = y := ⟨_, rfl⟩
              obtain ⟨u1, hu1⟩ : ∃ u1, pkU l u r.many r.n = u1 := ⟨_, rfl⟩
              obtain ⟨L, hL⟩ : ∃ L, out.length = L := ⟨_, rfl⟩
              have huu : u ≤ u1 := by rw [← hu1]; exact pkU_ge l u r.many r.n
              have hin : y = 0 → (0 ≤ r.many ∧ r.many ≤ r.n) ∧ out.length = r.many.toNat ∧ (∀ x ∈ out, 0 ≤ x ∧ x < r.n) ∧ out.Pairwise (· < ·) := fun h => by rw [← hx]; exact pk_in l u r.many r.n (hy.trans h)
              have hno : y ≠ 0 → out = [] := fun h => by rw [← hx]; unfold pkOut; rw [if_neg (by rw [hy]; exact h)]
              have hLm : L ≤ 65536 := by rw [← hL, ← hx]; exact pkOut_len l u r.many r.n
              have XX := Lib.hid hx
              have YY := Lib.hid hy
              have U1 := Lib.hid hu1
              have IN := Lib.hid hin
              have NO := Lib.hid hno
              have LL := Lib.hid hL
              clear hx hy hu1 hin hno hL
              go_wp2_with fail
              refine (pk1 r.many r.n LL.out XX.out YY.out U1.out S3.out).mono ?_
              rintro e w5 ⟨xs, rfl, hs, hrow⟩
              clear f0 f1 f2 f3
              have f0 := hs.f0
              have f1 := hs.f1
              have f2 := hs.f2
              have f3 := hs.f3
              have S4 := Lib.hid hs
              have R4 := Lib.hid hrow
              clear hs hrow S3
              go_wp2_with fail
              refine (pk2 r.many r.n LL.out XX.out YY.out U1.out S4.out R4.out).mono ?_
              rintro e w6 ⟨rfl, hs, hrow⟩
              clear f0 f1 f2 f3
              have f0 := hs.f0
              have f1 := hs.f1
              have f2 := hs.f2
              have f3 := hs.f3
              have S5 := Lib.hid hs
              have R5 := Lib.hid hrow
              clear hs hrow S4 R4
              by_cases qy : y = 0
              · as_aux_lemma =>
                have ty : (y == 0) = true := by simpa using qy
                obtain ⟨⟨m0, m1⟩, hlen, hrange, hpw⟩ := IN.out qy
                have v3 : ((L : Int) != r.many) = false := by have := LL.out; rw [bne_eq_false_iff_eq]; omega
                have RG := Lib.hid hrange
                have PW := Lib.hid hpw
                clear qy hlen hrange hpw IN NO m0 m1
                rcases Nat.eq_zero_or_pos L with hl0 | hl0
                · go_wp2
                  go_loopg [184] 0 (fun gh i wx => i = .int .i64 0 ∧ Hid (w6 = wx))
                  case atStart => exact ⟨rfl, Lib.hid rfl⟩
                  case round =>
                    obtain ⟨rfl, hw⟩ := hrel
                    have hw' := hw.out
                    clear hw
                    subst hw'
                    have v6 : decide ((0 : Int) < (L : Int)) = false := by simp; omega
                    have v7 : decide (0 < L) = false := by simp; omega
                    obtain ⟨B, hB⟩ : ∃ B, l.length - u1 = B := ⟨_, rfl⟩
                    have hB2 : (l.drop u).length - (u1 - u) = B := by have := S5.out.s.d.le; have := UL.out; rw [List.length_drop]; omega
                    have v1 : decide (A < B) = false := by have := AA.out; simp; omega
                    have v2 : ((u1 : Int) + (B : Int) != (n1 : Int)) = false := by have := S5.out.s.d.le; have := LN.out; rw [bne_eq_false_iff_eq]; omega
                    have hB300 : B ≤ 300 := by have := LN.out; omega
                    have hu1300 : u1 ≤ 300 := by have := S5.out.s.d.le; have := LN.out; omega
                    have BB := Lib.hid hB
                    have BB2 := Lib.hid hB2
                    clear hB hB2 f0 f1 f2 f3
                    go_wp2_with fail
                    refine (rd3 S5.out BB.out).mono ?_
                    rintro e w30 ⟨rfl, hs⟩
                    have T1 := Lib.hid hs
                    clear hs S5
                    go_wp2_with fail
                    refine (rd3 T1.out BB.out).mono ?_
                    rintro e w31 ⟨rfl, hs⟩
                    have T2 := Lib.hid hs
                    clear hs T1
                    go_wp2_with fail
                    refine (rd4 T2.out BB2.out).mono ?_
                    rintro e w32 ⟨rfl, hs⟩
                    have T3 := Lib.hid hs
                    clear hs T2
                    go_wp2_with fail
                    refine (rd5 T3.out).mono ?_
                    rintro e w33 ⟨rfl, hs⟩
                    have T4 := Lib.hid hs
                    clear hs T3
                    go_wp2_with fail
                    refine (rd3 T4.out BB.out).mono ?_
                    rintro e w34 ⟨rfl, hs⟩
                    have T5 := Lib.hid hs
                    clear hs T4
                    go_wp2
                    go_roundg (n2 - (k + 1))
                    case measure => go_light; omega
                    case rel => go_light; exact ⟨k + 1, by omega, rfl, by go_num, Lib.hid ⟨_, T5.out.s⟩⟩
                · obtain ⟨xb, xo, rfl, hxb, hxc⟩ := R5.out.s (by rw [is_len, LL.out]; exact hl0)
                  have XC : Hid (∀ j, j < L → w6.cell? ⟨xb, xo + j, none⟩ = some (.int .i64 (out.getD j 0))) := Lib.hid fun j hj => hxc j _ (is_get out j (by rw [LL.out]; exact hj))
                  clear hxc
                  go_wp2
                  go_loopg [184] L (fun gh i wx => ∃ j : Nat, j ≤ L ∧ gh = L - j ∧ i = .int .i64 j ∧ Hid (w6 = wx))
                  case atStart => exact ⟨0, Nat.zero_le _, rfl, rfl, Lib.hid rfl⟩
                  case round =>
                    obtain ⟨j, hj, rfl, rfl, hw⟩ := hrel
                    have hw' := hw.out
                    clear hw
                    subst hw'
                    by_cases hjl : j < L
                    · have xj := XC.out j hjl
                      have hjm : j < out.length := by rw [LL.out]; exact hjl
                      have hr1 := RG.out (out.getD j 0) (by rw [List.getD_eq_getElem?_getD, List.getElem?_eq_getElem hjm]; exact List.getElem_mem hjm)
                      have v6 : decide (out.getD j 0 < 0) = false := decide_eq_false (by omega)
                      have v7 : decide (r.n ≤ out.getD j 0) = false := decide_eq_false (by omega)
                      by_cases hj0 : j = 0
                      · subst hj0
                        rw [Nat.add_zero] at xj
                        have v8 : decide ((0 : Int) < ((0 : Nat) : Int)) = false := by simp
                        generalize out.getD 0 0 = z at *
                        go_wp2
                        go_roundg (L - 1)
                        case measure => go_light; omega
                        case rel => go_light; exact ⟨1, by omega, rfl, by go_num, Lib.hid rfl⟩
                      · have v8 : decide (0 < j) = true := by simp; omega
                        have xp := XC.out (j - 1) (by omega)
                        have v9 : out.getD (j - 1) 0 < out.getD j 0 := pw_getD PW.out (by omega) hjm
                        have v10 : decide (out.getD j 0 ≤ out.getD (j - 1) 0) = false := decide_eq_false (by omega)
                        obtain ⟨j', rfl⟩ : ∃ j', j = j' + 1 := ⟨j - 1, by omega⟩
                        simp only [Nat.add_sub_cancel] at xp v9 v10
                        generalize out.getD (j' + 1) 0 = z at *
                        generalize out.getD j' 0 = z' at *
                        go_wp2
                        go_roundg (L - (j' + 1 + 1))
                        case measure => go_light; omega
                        case rel => go_light; exact ⟨j' + 1 + 1, by omega, rfl, by go_num, Lib.hid rfl⟩
                    · obtain rfl : j = L := by omega
                      obtain ⟨B, hB⟩ : ∃ B, l.length - u1 = B := ⟨_, rfl⟩
                      have hB2 : (l.drop u).length - (u1 - u) = B := by have := S5.out.s.d.le; have := UL.out; rw [List.length_drop]; omega
                      have v1 : decide (A < B) = false := by have := AA.out; simp; omega
                      have v2 : ((u1 : Int) + (B : Int) != (n1 : Int)) = false := by have := S5.out.s.d.le; have := LN.out; rw [bne_eq_false_iff_eq]; omega
                      have hB300 : B ≤ 300 := by have := LN.out; omega
                      have hu1300 : u1 ≤ 300 := by have := S5.out.s.d.le; have := LN.out; omega
                      have BB := Lib.hid hB
                      have BB2 := Lib.hid hB2
                      clear hB hB2 f0 f1 f2 f3
                      go_wp2_with fail
                      refine (rd3 S5.out BB.out).mono ?_
                      rintro e w30 ⟨rfl, hs⟩
                      have T1 := Lib.hid hs
                      clear hs S5
                      go_wp2_with fail
                      refine (rd3 T1.out BB.out).mono ?_
                      rintro e w31 ⟨rfl, hs⟩
                      have T2 := Lib.hid hs
                      clear hs T1
                      go_wp2_with fail
                      refine (rd4 T2.out BB2.out).mono ?_
                      rintro e w32 ⟨rfl, hs⟩
                      have T3 := Lib.hid hs
                      clear hs T2
                      go_wp2_with fail
                      refine (rd5 T3.out).mono ?_
                      rintro e w33 ⟨rfl, hs⟩
                      have T4 := Lib.hid hs
                      clear hs T3
                      go_wp2_with fail
                      refine (rd3 T4.out BB.out).mono ?_
                      rintro e w34 ⟨rfl, hs⟩
                      have T5 := Lib.hid hs
                      clear hs T4
                      go_wp2
                      go_roundg (n2 - (k + 1))
                      case measure => go_light; omega
                      case rel => go_light; exact ⟨k + 1, by omega, rfl, by go_num, Lib.hid ⟨_, T5.out.s⟩⟩
              · as_aux_lemma =>
                have ty : (y == 0) = false := by simpa using qy
                have hl0 : L = 0 := by rw [← LL.out, NO.out qy]; rfl
                have v5 : decide ((0 : Int) < (L : Int)) = false := by simp; omega
                have v7 : decide (0 < L) = false := by simp; omega
                clear qy IN NO hl0
                go_wp2
                go_loopg [184] 0 (fun gh i wx => i = .int .i64 0 ∧ Hid (w6 = wx))
                case atStart => exact ⟨rfl, Lib.hid rfl⟩
                case round =>
                  obtain ⟨rfl, hw⟩ := hrel
                  have hw' := hw.out
                  clear hw
                  subst hw'
                  obtain ⟨B, hB⟩ : ∃ B, l.length - u1 = B := ⟨_, rfl⟩
                  have hB2 : (l.drop u).length - (u1 - u) = B := by have := S5.out.s.d.le; have := UL.out; rw [List.length_drop]; omega
                  have v1 : decide (A < B) = false := by have := AA.out; simp; omega
                  have v2 : ((u1 : Int) + (B : Int) != (n1 : Int)) = false := by have := S5.out.s.d.le; have := LN.out; rw [bne_eq_false_iff_eq]; omega
                  have hB300 : B ≤ 300 := by have := LN.out; omega
                  have hu1300 : u1 ≤ 300 := by have := S5.out.s.d.le; have := LN.out; omega
                  have BB := Lib.hid hB
                  have BB2 := Lib.hid hB2
                  clear hB hB2 f0 f1 f2 f3
                  go_wp2_with fail
                  refine (rd3 S5.out BB.out).mono ?_
                  rintro e w30 ⟨rfl, hs⟩
                  have T1 := Lib.hid hs
                  clear hs S5
                  go_wp2_with fail
                  refine (rd3 T1.out BB.out).mono ?_
                  rintro e w31 ⟨rfl, hs⟩
                  have T2 := Lib.hid hs
                  clear hs T1
                  go_wp2_with fail
                  refine (rd4 T2.out BB2.out).mono ?_
                  rintro e w32 ⟨rfl, hs⟩
                  have T3 := Lib.hid hs
                  clear hs T2
                  go_wp2_with fail
                  refine (rd5 T3.out).mono ?_
                  rintro e w33 ⟨rfl, hs⟩
                  have T4 := Lib.hid hs
                  clear hs T3
                  go_wp2_with fail
                  refine (rd3 T4.out BB.out).mono ?_
                  rintro e w34 ⟨rfl, hs⟩
                  have T5 := Lib.hid hs
                  clear hs T4
                  go_wp2
                  go_roundg (n2 - (k + 1))
                  case measure => go_light; omega
                  case rel => go_light; exact ⟨k + 1, by omega, rfl, by go_num, Lib.hid ⟨_, T5.out.s⟩⟩
            · have t2 : (r.what == 2) = false := by simpa using q2
              as_aux_lemma =>
                clear q0 q1 q2
                obtain ⟨B, hB⟩ : ∃ B, l.length - u = B := ⟨_, rfl⟩
                have hB2 : (l.drop u).length - 0 = B := by have := S3.out.s.d.le; have := UL.out; rw [List.length_drop]; omega
                have v1 : decide (A < B) = false := by have := AA.out; simp; omega
                have v2 : ((u : Int) + (B : Int) != (n1 : Int)) = false := by have := S3.out.s.d.le; have := LN.out; rw [bne_eq_false_iff_eq]; omega
                have hB300 : B ≤ 300 := by have := LN.out; omega
                have hu1300 : u ≤ 300 := by have := S3.out.s.d.le; have := LN.out; omega
                have BB := Lib.hid hB
                have BB2 := Lib.hid hB2
                clear hB hB2
                go_wp2_with fail
                refine (rd3 S3.out BB.out).mono ?_
                rintro e w10 ⟨rfl, hs⟩
                clear f0 f1 f2 f3
                have T1 := Lib.hid hs
                clear hs S3
                go_wp2_with fail
                refine (rd3 T1.out BB.out).mono ?_
                rintro e w11 ⟨rfl, hs⟩
                have T2 := Lib.hid hs
                clear hs T1
                go_wp2_with fail
                refine (rd4 T2.out BB2.out).mono ?_
                rintro e w12 ⟨rfl, hs⟩
                have T3 := Lib.hid hs
                clear hs T2
                go_wp2_with fail
                refine (rd5 T3.out).mono ?_
                rintro e w13 ⟨rfl, hs⟩
                have T4 := Lib.hid hs
                clear hs T3
                go_wp2_with fail
                refine (rd3 T4.out BB.out).mono ?_
                rintro e w14 ⟨rfl, hs⟩
                have T5 := Lib.hid hs
                clear hs T4
                go_wp2
                go_roundg (n2 - (k + 1))
                case measure => go_light; omega
                case rel => go_light; exact ⟨k + 1, by omega, rfl, by go_num, Lib.hid ⟨_, T5.out.s⟩⟩
      · obtain rfl : k = n2 := by omega
        obtain ⟨u, hs⟩ := HR.out
        have HB := Lib.hid hs.f
        clear hs HR
        go_wp2_with fail
        refine (known_in HB.out).mono ?_
        rintro e w7 ⟨rfl, hs⟩
        have S6 := Lib.hid hs
        clear hs HB
        go_wp2
        go_ret
        exact ⟨rfl, S6.out⟩

set_option maxRecDepth 100000 in
theorem holds_long (s1 s2 : Option Addr) (n1 n2 c1 c2 : Nat) (w : World) (h : 300 < n1) (h2 : n1 ≤ 9223372036854775807) :
    Calls Try.prog 7 #[.slice s1 n1 c1, .slice s2 n2 c2] w fun e w' => e = .returned (.bool true) ∧ Below w.heap.size w w' := by
  have d0 : decide (300 < (n1 : Int)) = true := by simp; omega
  go_enter Try.func7, Try.ntmps7
  go_wp2_with (go_at_call 9; refine (known_any _).mono ?_; rintro e w' ⟨rfl, hb⟩)
  go_ret
  exact ⟨rfl, hb⟩
theorem holds_law (s1 s2 : Option Addr) (n1 n2 c1 c2 : Nat) (l : List Nat) (acts : List ActR) (w : World) (hu : UsAt w s1 n1 l) (ha : ActsAt w s2 n2 acts) :
    Calls Try.prog 7 #[.slice s1 n1 c1, .slice s2 n2 c2] w fun e w' => e = .returned (.bool true) ∧ Below w.heap.size w w' := by
  by_cases h : n1 ≤ 300
  · exact holds_main s1 s2 n1 n2 c1 c2 l acts w hu ha h
  · exact holds_long s1 s2 n1 n2 c1 c2 w (by omega) hu.m
end Go.Proofs.Ytkfnldfkpggjoaa.drFn
