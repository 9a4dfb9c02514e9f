/- The walk of the law that plays the draws against the reference. -/
import Derived.Test.YtefncefmolphfaaDrCount
import Derived.Test.YtefncefmolphfaaDrPlRound
import Derived.Deep.LoopGhost
import Derived.Deep.DeepCutAuto
import Derived.Deep.Light
import Derived.BigQuiet
namespace Go.Proofs.Ytefncefmolphfaa.drFn
open Go.ChangeShapes Go.WideShapes Go.ChangeAt Go.RowKit drMem
set_option linter.unusedVariables false

theorem us_one (l : List Nat) : ∀ u ∈ us l, u.oneCell' = true := by
  intro u hu
  obtain ⟨x, _, rfl⟩ := List.mem_map.1 hu
  rfl
set_option maxRecDepth 100000 in
set_option maxHeartbeats 8000000 in
theorem plays_main (s1 s2 : Option Addr) (n1 n2 c1 c2 : Nat) (l : List Nat) (acts : List ActR) (w : World) (hu : UsAt w s1 n1 l) (hn : s1 = none → n1 = 0 ∧ c1 = 0) (hc1 : n1 ≤ c1) (hc2 : c1 ≤ 9223372036854775807) (ha : ActsAt w s2 n2 acts) (h300 : n1 ≤ 300) :
    Calls Try.prog 3 #[.slice s1 n1 c1, .slice s2 n2 c2] w fun e w' => e = .returned (.bool true) ∧ Below w.heap.size w w' := by
  obtain ⟨i0, hi, hz0, hz1, hz2⟩ := info_parts infoU
  obtain ⟨i1, hi1, hy0, hy1, hy2⟩ := info_parts infoI
  have hsm := small_any s2 n2 c2 acts w ha
  have hm2 := ha.m
  have HU := Lib.hid hu
  have HA := Lib.hid ha
  have HSM := Lib.hid hsm
  have d0 : decide (300 < (n1 : Int)) = false := by simp; omega
  clear hsm hu ha
  go_enter Try.func3, Try.ntmps3
  go_wp2_with fail
  refine HSM.out.mono ?_
  rintro e w' ⟨x, rfl, hx, rfl⟩
  cases x with
  | false =>
    go_wp2_with (go_at_call 9; refine (known_any _).mono ?_; rintro e w' ⟨rfl, hb⟩)
    go_ret
    exact ⟨rfl, hb⟩
  | true =>
    have SP := Lib.hid (hx rfl)
    clear hx HSM
    go_wp2_with (at_builtin; refine wpList_copy rfl _ _ 22 rfl w.heap.size 30 i0 (.int .u64 0) 8 Try.underlying22 hi hz0 hz1 hz2 rfl rfl s1 n1 c1 (us l) rfl hn (by simpa [us] using HU.out.n) HU.out.c (us_one l) (by unfold maxLen; omega) (by omega) (Nat.le_refl _) ?_)
    intro v' w1 hown hgrow
    have hb1 : Below w.heap.size w w1 := (Below.refl _ _).grown hgrow (Nat.le_refl _) (by intro q hq; cases hq)
    obtain ⟨sv, cv, rfl, hsv, hnv, hav⟩ := own_form hown
    have hnew := New_ok sv n1 cv l w1 HU.out.n (by omega) hsv HU.out.v
    have HNEW := Lib.hid hnew
    have OWN := Lib.hid hown
    have B1 := Lib.hid hb1
    have AV := Lib.hid hav
    have OB : Hid (∀ a, sv = some a → a.block < w1.heap.size) := Lib.hid (by
      rintro a rfl
      rcases hown.2 with ⟨h2, _⟩ | ⟨g, cap, cur, h2, _⟩
      · cases h2
      · cases h2; exact (own_lt hown).2)
    clear hown hgrow hb1 hsv hnv hav hnew
    go_wp2_with fail
    refine HNEW.out.mono ?_
    rintro e w2 ⟨b, rfl, hd, hlt, hb⟩
    have hst : St w b w1.heap.size l 0 w2 := ⟨hd, B1.out.trans (hb.mono B1.out.size), by have := B1.out.size; omega, B1.out.size⟩
    have HST := Lib.hid hst
    have hown2 : w2.ownsRow w.heap.size 30 1 (.slice sv n1 cv) n1 ((l.map Int.ofNat).map (Value.int .u64)) := by
      have h1 := OWN.out.kept (grown_of_below hb none) (by cases sv <;> simp [Value.ownBlock])
      have h2 : (l.map Int.ofNat).map (Value.int .u64) = us l := by simp [us]
      rw [h2]; exact h1
    have OWN2 := Lib.hid hown2
    have BL : Hid (w1.heap.size < b) := Lib.hid hlt
    have WS : Hid (w.heap.size ≤ w1.heap.size) := Lib.hid B1.out.size
    clear hd hb hlt hst hown2 HNEW OWN
    go_wp2
    go_loopg [49] n1 (fun gh i wx => ∃ (k : Nat) (zs : List Int), k ≤ n1 ∧ gh = n1 - k ∧ i = .int .i64 k ∧ zs.length = n1 ∧ Hid (wx.ownsRow w.heap.size 30 1 (.slice sv n1 cv) n1 (zs.map (Value.int .u64))) ∧ Hid (St w b w1.heap.size l 0 wx))
    case atStart => exact ⟨0, _, Nat.zero_le _, rfl, rfl, by simpa using HU.out.n, OWN2, HST⟩
    case round =>
      obtain ⟨k, zs, hk, rfl, rfl, hz, ho, hs⟩ := hrel
      clear OWN2 HST
      by_cases hlt2 : k < n1
      · obtain ⟨g', rfl⟩ : ∃ g', sv = some ⟨g', 0, none⟩ := by
          rcases ho.out.2 with ⟨_, h2⟩ | ⟨g, cap, cur, h2, _⟩
          · omega
          · cases h2; exact ⟨g, rfl⟩
        have hgl : g' < w1.heap.size := OB.out _ rfl
        have hgw : w.heap.size ≤ g' := AV.out _ rfl
        have x0 : wr.cell? ⟨g', k, none⟩ = some (.int .u64 (zs.getD k 0)) := by
          have h1 := ho.out.cellAt k (by omega)
          rw [h1]; simp [List.getD_eq_getElem?_getD, hz, hlt2]
        have x1 : wr.frozen? ⟨g', k, none⟩ = false := own_free ho.out k
        have ST1 := fun v => Lib.hid (hs.out.other2 (grown_set wr ⟨g', k, none⟩ v) hgw (by have := BL.out; show b ≠ g'; omega) (by show w1.heap.size ≠ g'; omega))
        have OW1 := fun z => Lib.hid (own_set ho.out k (.int .u64 z))
        clear hs ho hgl hgw
        go_wp2
        go_roundg (n1 - (k + 1))
        case measure => go_light; omega
        case rel => go_light; exact ⟨k + 1, zs.set k _, by omega, rfl, by go_num, by simpa using hz, by rw [List.map_set]; exact OW1 _, ST1 _⟩
      · obtain rfl : k = n1 := by omega
        have hp0 := pst0 hs.out HU.out hc1 hc2
        have P0 := Lib.hid hp0
        clear hs ho hp0 OB AV BL WS B1 hz hlt2
        obtain ⟨wo, rfl⟩ : ∃ wo : World, wo = wr := ⟨_, rfl⟩
        go_wp2
        go_loopg [6, 63] n2 (fun gh d i wx => ∃ (k2 bd : Nat), k2 ≤ n2 ∧ gh = n2 - k2 ∧ i = .int .i64 k2 ∧ d = .pointer (some ⟨bd, 0, none⟩) ∧ Hid (PRel w bd l wo.heap.size wx))
        case atStart => exact ⟨0, b, Nat.zero_le _, rfl, rfl, rfl, P0⟩
        case round =>
          obtain ⟨k2, bd, hk2, rfl, rfl, rfl, HR⟩ := hrel
          clear P0
          by_cases hlt2 : k2 < n2
          · obtain ⟨ab, ao, rfl, hab, hcell⟩ := HA.out.c (by omega)
            obtain ⟨r, hr⟩ : ∃ r, acts[k2]? = some r := ⟨_, List.getElem?_eq_getElem (by rw [HA.out.n]; exact hlt2)⟩
            have hact := hcell k2 r hr
            obtain ⟨u, g, sp, A, c, hs⟩ := HR.out
            have e0 : wr.cell? ⟨ab, ao + k2 * 4, none⟩ = some (.int .i64 r.what) := (hs.s.f.cell (p := ⟨ab, ao + k2 * 4, none⟩) hab).trans hact.c0
            have e1 : wr.cell? ⟨ab, ao + k2 * 4 + 1, none⟩ = some (.int .i64 r.n) := (hs.s.f.cell (p := ⟨ab, ao + k2 * 4 + 1, none⟩) hab).trans hact.c1
            have e2 : wr.cell? ⟨ab, ao + k2 * 4 + 2, none⟩ = some (.int .i64 r.many) := (hs.s.f.cell (p := ⟨ab, ao + k2 * 4 + 2, none⟩) hab).trans hact.c2
            have e3 : wr.cell? ⟨ab, ao + k2 * 4 + 3, none⟩ = some (.slice r.sp r.list.length r.cap) := (hs.s.f.cell (p := ⟨ab, ao + k2 * 4 + 3, none⟩) hab).trans hact.c3
            have HACT := Lib.hid hact
            have hbad := SP.out.1 k2 r (by have := SP.out.2; have := HA.out.n; omega) hr
            have HBAD := Lib.hid hbad
            have hln := HU.out.n
            have hul := hs.s.d.le
            have hAe := hs.e
            have UL : Hid (u ≤ l.length) := Lib.hid hul
            have LN := Lib.hid hln
            have AA := Lib.hid hAe
            have HP := Lib.hid hs
            have S0 := Lib.hid (rp0 (r := r) hs)
            have hal : A ≤ 300 := by omega
            have hu300 : u ≤ 300 := by omega
            have b0 := hs.x.cell 0
            have b1 := hs.x.cell 1
            simp only [List.getElem?_cons_zero, List.getElem?_cons_succ] at b0 b1
            have p0 := hs.x.free 0
            have p1 := hs.x.free 1
            have bl := hs.x.lt
            clear hr hact HR hcell hln hul hbad hs hAe
            by_cases q0 : r.what = 0
            · as_aux_lemma =>
              have t0 : (r.what == 0) = true := by simpa using q0
              clear q0
              obtain ⟨x, hx⟩ : ∃ x, nextN l u r.n = x := ⟨_, rfl⟩
              obtain ⟨y, hy⟩ : ∃ y, nextE l u r.n = y := ⟨_, rfl⟩
              obtain ⟨u1, hu1⟩ : ∃ u1, nextU l u r.n = u1 := ⟨_, rfl⟩
              obtain ⟨A1, hA1⟩ : ∃ A1, l.length - u1 = A1 := ⟨_, rfl⟩
              have XX := Lib.hid hx
              have YY := Lib.hid hy
              have U1 := Lib.hid hu1
              have A1H := Lib.hid hA1
              clear hx hy hu1 hA1
              go_wp2_with fail
              refine (pn1 r.n XX.out YY.out U1.out A1H.out S0.out).mono ?_
              rintro e w2 ⟨s1, c1, rfl, hs, hf⟩
              clear b0 b1 p0 p1 bl e0 e1 e2 e3
              have nt : ¬ wr.heap.size = wo.heap.size := hs.a.ne hs.x (by decide)
              have nt' : ¬ wo.heap.size = wr.heap.size := Ne.symm nt
              have tl := hs.a.lt
              have b0 := hs.b0
              have b1 := hs.b1
              have p0 := hs.p0
              have p1 := hs.p1
              have f0 := hs.f0
              have f1 := hs.f1
              have f2 := hs.f2
              have f3 := hs.f3
              have bl := hs.x.lt
              have S1 := Lib.hid hs
              have F1 := Lib.hid hf
              clear hs hf S0
              go_wp2_with fail
              refine (pn2 r.n XX.out YY.out U1.out ((S1.out.put A1H.out F1.out).alloc _)).mono ?_
              rintro e w3 ⟨rfl, hs⟩
              clear b0 b1 p0 p1 bl f0 f1 f2 f3 nt nt' tl
              have S2 := Lib.hid hs
              clear hs S1 F1
              obtain ⟨q, hq⟩ : ∃ q, w3.heap.size = q := ⟨_, rfl⟩
              have HQ := Lib.hid hq
              clear hq
              have v1 : ((A1 : Int) != (A1 : Int)) = false := by simp
              have v2 : ((u1 : Int) != (u1 : Int)) = false := by simp
              have ha300 : A1 ≤ 300 := by have := A1H.out; have := LN.out; omega
              have hu1300 : u1 ≤ 300 := by have := S2.out.s.d.le; have := LN.out; omega
              go_wp2_with fail
              refine (pr1 A1H.out HQ.out S2.out).mono ?_
              rintro e w20 ⟨rfl, hs, hr, q1, q2, q3, q4, q5⟩
              have b0 := hs.b0
              have b1 := hs.b1
              have T1 := Lib.hid hs
              have R1 := Lib.hid hr
              have QQ := Lib.hid (And.intro q1 (And.intro q2 (And.intro q4 q5)))
              clear hs hr q1 q2 q3 q4 q5 S2 HQ
              go_wp2
              go_quiet ((first | (go_at_call 22; exact Calls.quiet_of (pr2 _ A1H.out T1.out R1.out)) | (go_at_call 23; exact Calls.quiet_of (pr3 _ A1H.out T1.out)) | (go_at_call 24; exact Calls.quiet_of_same (pr4 _ T1.out))))
              obtain ⟨wq, rfl⟩ : ∃ wq : World, wq = wr := ⟨_, rfl⟩
              go_wp2
              go_loopg [170] A1 (fun gh i wx => ∃ (j : Nat) (zs : List Int), j ≤ A1 ∧ gh = A1 - j ∧ i = .int .i64 j ∧ zs.length = A1 ∧ Hid (has wx q 30 (zs.map (Value.int .u64))) ∧ Hid (PSt w bd g l u1 wo.heap.size s1 A1 c1 wx))
              case atStart => exact ⟨0, (l.drop u1).map Int.ofNat, Nat.zero_le _, rfl, rfl, by rw [List.length_map, List.length_drop]; exact A1H.out, Lib.hid (by have h1 := R1.out.drewN; unfold us at h1; rw [List.map_map]; exact h1 _), Lib.hid (T1.out.st.drewN _)⟩
              case round =>
                obtain ⟨j, zs, hj, rfl, rfl, hz, ho, hs⟩ := hrel
                clear T1 R1
                by_cases hlt3 : j < A1
                · have x0 : wr.cell? ⟨q, j, none⟩ = some (.int .u64 (zs.getD j 0)) := by rw [ho.out.cell]; simp [List.getD_eq_getElem?_getD, hz, hlt3]
                  have x1 : wr.frozen? ⟨q, j, none⟩ = false := ho.out.free j
                  have ST1 := fun v => Lib.hid (hs.out.far (j := j) QQ.out.1 QQ.out.2.1 QQ.out.2.2.1 QQ.out.2.2.2 v)
                  have OW1 := fun z => Lib.hid (ho.out.put j (.int .u64 z))
                  clear hs ho b0 b1
                  go_wp2
                  go_roundg (A1 - (j + 1))
                  case measure => go_light; omega
                  case rel => go_light; exact ⟨j + 1, zs.set j _, by omega, rfl, by go_num, by simpa using hz, by rw [List.map_set]; exact OW1 _, ST1 _⟩
                · obtain rfl : j = A1 := by omega
                  have PS := Lib.hid hs.out
                  clear hs ho b0 b1
                  go_wp2
                  go_roundg (n2 - (k2 + 1))
                  case measure => go_light; omega
                  case rel => go_light; exact ⟨k2 + 1, bd, by omega, rfl, by go_num, rfl, Lib.hid ⟨_, _, _, _, _, PS.out⟩⟩
            · have t0 : (r.what == 0) = false := by simpa using q0
              by_cases q1 : r.what = 1
              · as_aux_lemma =>
                have t1 : (r.what == 1) = true := by simpa using q1
                clear q0 q1
                obtain ⟨out, hx⟩ : ∃ out, shOut l u r.list = out := ⟨_, rfl⟩
                obtain ⟨y, hy⟩ : ∃ y, shE l u r.list.length = y := ⟨_, rfl⟩
                obtain ⟨u1, hu1⟩ : ∃ u1, shU l u r.list.length = u1 := ⟨_, rfl⟩
                obtain ⟨A1, hA1⟩ : ∃ A1, l.length - u1 = A1 := ⟨_, rfl⟩
                obtain ⟨L, hL⟩ : ∃ L, out.length = L := ⟨_, rfl⟩
                have XX := Lib.hid hx
                have YY := Lib.hid hy
                have U1 := Lib.hid hu1
                have A1H := Lib.hid hA1
                have LL := Lib.hid hL
                clear hx hy hu1 hA1 hL
                have HNN : Hid (r.sp = none → r.list.length = 0 ∧ r.cap = 0) := Lib.hid (fun h0 => by
                  refine ⟨?_, HACT.out.nc h0⟩
                  rcases Nat.eq_zero_or_pos r.list.length with h | h
                  · exact h
                  · obtain ⟨_, _, h2, _⟩ := HACT.out.s (by rw [is_len]; exact h)
                    rw [h0] at h2; cases h2)
                have H63 : Hid (r.list.length ≤ maxLen) := Lib.hid (by unfold maxLen; exact HACT.out.hl)
                have HBY : Hid (r.list.length * 8 ≤ 140737488355328) := Lib.hid (by have h60 : ¬ 60 < r.list.length := fun h => HBAD.out (Or.inl h); omega)
                go_wp2_with (at_builtin; go_loud (refine wpList_copy rfl _ _ 33 rfl (wr.heap.size + 1) 3 i1 (.int .i64 0) 8 Try.underlying33 hi1 hy0 hy1 hy2 rfl rfl r.sp r.list.length r.cap (is r.list) rfl HNN.out (is_len _) (S0.out.src HACT.out.s) (is_one _) H63.out HBY.out (by simp) ?_))
                intro v' w1x hown hgrow
                have hb1 : Below (wr.alloc (.cells #[.int .i64 r.what, .int .i64 r.n, .int .i64 r.many, .slice r.sp r.list.length r.cap] 35)).heap.size (wr.alloc (.cells #[.int .i64 r.what, .int .i64 r.n, .int .i64 r.many, .slice r.sp r.list.length r.cap] 35)) w1x := (Below.refl _ _).grown hgrow (Nat.le_refl _) (by intro q hq; cases hq)
                obtain ⟨sm, cm, rfl, hsm, hnm, ham⟩ := own_form hown
                have hs := S0.out.below hb1
                have hm : Row w1x sm r.list bd wo.heap.size wr.heap.size := ⟨hsm, fun a ha => by have := ham a ha; have h3 := S0.out.lt; simp only [World.size_alloc] at h3; omega⟩
                clear b0 b1 p0 p1 bl e0 e1 e2 e3
                have nt : ¬ wr.heap.size = wo.heap.size := hs.a.ne hs.x (by decide)
                have nt' : ¬ wo.heap.size = wr.heap.size := Ne.symm nt
                have tl := hs.a.lt
                have b0 := hs.b0
                have b1 := hs.b1
                have p0 := hs.p0
                have p1 := hs.p1
                have f0 := hs.f0
                have f1 := hs.f1
                have f2 := hs.f2
                have f3 := hs.f3
                have bl := hs.x.lt
                have S1 := Lib.hid hs
                have M1 := Lib.hid hm
                clear hs hm hsm hnm ham hb1 hown hgrow S0
                go_wp2_with fail
                refine (ps1 LL.out XX.out YY.out U1.out A1H.out S1.out HACT.out.s HACT.out.hl HACT.out.nc M1.out).mono ?_
                rintro e w2 ⟨s1, c1, so, co, rfl, hs, hf, ho, hm⟩
                clear b0 b1 p0 p1 bl f0 f1 f2 f3 nt nt' tl
                have nt : ¬ wr.heap.size = wo.heap.size := hs.a.ne hs.x (by decide)
                have nt' : ¬ wo.heap.size = wr.heap.size := Ne.symm nt
                have tl := hs.a.lt
                have b0 := hs.b0
                have b1 := hs.b1
                have p0 := hs.p0
                have p1 := hs.p1
                have f0 := hs.f0
                have f1 := hs.f1
                have f2 := hs.f2
                have f3 := hs.f3
                have bl := hs.x.lt
                have S2 := Lib.hid hs
                have F2 := Lib.hid hf
                have O2 := Lib.hid ho
                have M2 := Lib.hid hm
                clear hs hf ho hm S1 M1
                go_wp2_with fail
                refine (ps2 LL.out rfl XX.out YY.out U1.out ((S2.out.put A1H.out F2.out).alloc _) HACT.out.hl ((O2.out.put _ _).alloc _) ((M2.out.put _ _).alloc _)).mono ?_
                rintro e w3 ⟨rfl, hs, hm⟩
                clear b0 b1 p0 p1 bl f0 f1 f2 f3 nt nt' tl
                have nt : ¬ wr.heap.size = wo.heap.size := hs.a.ne hs.x (by decide)
                have nt' : ¬ wo.heap.size = wr.heap.size := Ne.symm nt
                have tl := hs.a.lt
                have b0 := hs.b0
                have b1 := hs.b1
                have p0 := hs.p0
                have p1 := hs.p1
                have f0 := hs.f0
                have f1 := hs.f1
                have f2 := hs.f2
                have f3 := hs.f3
                have bl := hs.x.lt
                have S3 := Lib.hid hs
                have M3 := Lib.hid hm
                clear hs hm S2 F2 O2 M2
                go_wp2_with fail
                refine (ps3 rfl S3.out M3.out HACT.out.s HACT.out.hl).mono ?_
                rintro e w4 ⟨rfl, hs⟩
                clear b0 b1 p0 p1 bl f0 f1 f2 f3 nt nt' tl
                have S4 := Lib.hid hs
                clear hs S3 M3
                obtain ⟨q, hq⟩ : ∃ q, w4.heap.size = q := ⟨_, rfl⟩
                have HQ := Lib.hid hq
                clear hq
                have v1 : ((A1 : Int) != (A1 : Int)) = false := by simp
                have v2 : ((u1 : Int) != (u1 : Int)) = false := by simp
                have ha300 : A1 ≤ 300 := by have := A1H.out; have := LN.out; omega
                have hu1300 : u1 ≤ 300 := by have := S4.out.s.d.le; have := LN.out; omega
                go_wp2_with fail
                refine (pr1 A1H.out HQ.out S4.out).mono ?_
                rintro e w20 ⟨rfl, hs, hr, q1, q2, q3, q4, q5⟩
                have b0 := hs.b0
                have b1 := hs.b1
                have T1 := Lib.hid hs
                have R1 := Lib.hid hr
                have QQ := Lib.hid (And.intro q1 (And.intro q2 (And.intro q4 q5)))
                clear hs hr q1 q2 q3 q4 q5 S4 HQ
                go_wp2
                go_quiet ((first | (go_at_call 22; exact Calls.quiet_of (pr2 _ A1H.out T1.out R1.out)) | (go_at_call 23; exact Calls.quiet_of (pr3 _ A1H.out T1.out)) | (go_at_call 24; exact Calls.quiet_of_same (pr4 _ T1.out))))
                obtain ⟨wq, rfl⟩ : ∃ wq : World, wq = wr := ⟨_, rfl⟩
                go_wp2
                go_loopg [170] A1 (fun gh i wx => ∃ (j : Nat) (zs : List Int), j ≤ A1 ∧ gh = A1 - j ∧ i = .int .i64 j ∧ zs.length = A1 ∧ Hid (has wx q 30 (zs.map (Value.int .u64))) ∧ Hid (PSt w bd g l u1 wo.heap.size s1 A1 c1 wx))
                case atStart => exact ⟨0, (l.drop u1).map Int.ofNat, Nat.zero_le _, rfl, rfl, by rw [List.length_map, List.length_drop]; exact A1H.out, Lib.hid (by have h1 := R1.out.drewN; unfold us at h1; rw [List.map_map]; exact h1 _), Lib.hid (T1.out.st.drewN _)⟩
                case round =>
                  obtain ⟨j, zs, hj, rfl, rfl, hz, ho, hs⟩ := hrel
                  clear T1 R1
                  by_cases hlt3 : j < A1
                  · have x0 : wr.cell? ⟨q, j, none⟩ = some (.int .u64 (zs.getD j 0)) := by rw [ho.out.cell]; simp [List.getD_eq_getElem?_getD, hz, hlt3]
                    have x1 : wr.frozen? ⟨q, j, none⟩ = false := ho.out.free j
                    have ST1 := fun v => Lib.hid (hs.out.far (j := j) QQ.out.1 QQ.out.2.1 QQ.out.2.2.1 QQ.out.2.2.2 v)
                    have OW1 := fun z => Lib.hid (ho.out.put j (.int .u64 z))
                    clear hs ho b0 b1
                    go_wp2
                    go_roundg (A1 - (j + 1))
                    case measure => go_light; omega
                    case rel => go_light; exact ⟨j + 1, zs.set j _, by omega, rfl, by go_num, by simpa using hz, by rw [List.map_set]; exact OW1 _, ST1 _⟩
                  · obtain rfl : j = A1 := by omega
                    have PS := Lib.hid hs.out
                    clear hs ho b0 b1
                    go_wp2
                    go_roundg (n2 - (k2 + 1))
                    case measure => go_light; omega
                    case rel => go_light; exact ⟨k2 + 1, bd, by omega, rfl, by go_num, rfl, Lib.hid ⟨_, _, _, _, _, PS.out⟩⟩
              · have t1 : (r.what == 1) = false := by simpa using q1
                by_cases q2 : r.what = 2
                · as_aux_lemma =>
                  have t2 : (r.what == 2) = true := by simpa using q2
                  clear q0 q1 q2
                  obtain ⟨out, hx⟩ : ∃ out, pkOut l u r.many r.n = out := ⟨_, rfl⟩
                  obtain ⟨y, hy⟩ : ∃ y, pkE l u r.many r.n = y := ⟨_, rfl⟩
                  obtain ⟨u1, hu1⟩ : ∃ u1, pkU l u r.many r.n = u1 := ⟨_, rfl⟩
                  obtain ⟨A1, hA1⟩ : ∃ A1, l.length - u1 = A1 := ⟨_, rfl⟩
                  obtain ⟨L, hL⟩ : ∃ L, out.length = L := ⟨_, rfl⟩
                  have XX := Lib.hid hx
                  have YY := Lib.hid hy
                  have U1 := Lib.hid hu1
                  have A1H := Lib.hid hA1
                  have LL := Lib.hid hL
                  clear hx hy hu1 hA1 hL
                  go_wp2_with fail
                  refine (pp1 r.many r.n LL.out XX.out YY.out U1.out A1H.out S0.out).mono ?_
                  rintro e w2 ⟨s1, c1, so, co, rfl, hs, hf, ho⟩
                  clear b0 b1 p0 p1 bl e0 e1 e2 e3
                  have nt : ¬ wr.heap.size = wo.heap.size := hs.a.ne hs.x (by decide)
                  have nt' : ¬ wo.heap.size = wr.heap.size := Ne.symm nt
                  have tl := hs.a.lt
                  have b0 := hs.b0
                  have b1 := hs.b1
                  have p0 := hs.p0
                  have p1 := hs.p1
                  have f0 := hs.f0
                  have f1 := hs.f1
                  have f2 := hs.f2
                  have f3 := hs.f3
                  have bl := hs.x.lt
                  have S1 := Lib.hid hs
                  have F1 := Lib.hid hf
                  have O1 := Lib.hid ho
                  clear hs hf ho S0
                  go_wp2_with fail
                  refine (pp2 r.many r.n LL.out XX.out YY.out U1.out ((S1.out.put A1H.out F1.out).alloc _) ((O1.out.put _ _).alloc _)).mono ?_
                  rintro e w3 ⟨rfl, hs⟩
                  clear b0 b1 p0 p1 bl f0 f1 f2 f3 nt nt' tl
                  have S2 := Lib.hid hs
                  clear hs S1 F1 O1
                  obtain ⟨q, hq⟩ : ∃ q, w3.heap.size = q := ⟨_, rfl⟩
                  have HQ := Lib.hid hq
                  clear hq
                  have v1 : ((A1 : Int) != (A1 : Int)) = false := by simp
                  have v2 : ((u1 : Int) != (u1 : Int)) = false := by simp
                  have ha300 : A1 ≤ 300 := by have := A1H.out; have := LN.out; omega
                  have hu1300 : u1 ≤ 300 := by have := S2.out.s.d.le; have := LN.out; omega
                  go_wp2_with fail
                  refine (pr1 A1H.out HQ.out S2.out).mono ?_
                  rintro e w20 ⟨rfl, hs, hr, q1, q2, q3, q4, q5⟩
                  have b0 := hs.b0
                  have b1 := hs.b1
                  have T1 := Lib.hid hs
                  have R1 := Lib.hid hr
                  have QQ := Lib.hid (And.intro q1 (And.intro q2 (And.intro q4 q5)))
                  clear hs hr q1 q2 q3 q4 q5 S2 HQ
                  go_wp2
                  go_quiet ((first | (go_at_call 22; exact Calls.quiet_of (pr2 _ A1H.out T1.out R1.out)) | (go_at_call 23; exact Calls.quiet_of (pr3 _ A1H.out T1.out)) | (go_at_call 24; exact Calls.quiet_of_same (pr4 _ T1.out))))
                  obtain ⟨wq, rfl⟩ : ∃ wq : World, wq = wr := ⟨_, rfl⟩
                  go_wp2
                  go_loopg [170] A1 (fun gh i wx => ∃ (j : Nat) (zs : List Int), j ≤ A1 ∧ gh = A1 - j ∧ i = .int .i64 j ∧ zs.length = A1 ∧ Hid (has wx q 30 (zs.map (Value.int .u64))) ∧ Hid (PSt w bd g l u1 wo.heap.size s1 A1 c1 wx))
                  case atStart => exact ⟨0, (l.drop u1).map Int.ofNat, Nat.zero_le _, rfl, rfl, by rw [List.length_map, List.length_drop]; exact A1H.out, Lib.hid (by have h1 := R1.out.drewN; unfold us at h1; rw [List.map_map]; exact h1 _), Lib.hid (T1.out.st.drewN _)⟩
                  case round =>
                    obtain ⟨j, zs, hj, rfl, rfl, hz, ho, hs⟩ := hrel
                    clear T1 R1
                    by_cases hlt3 : j < A1
                    · have x0 : wr.cell? ⟨q, j, none⟩ = some (.int .u64 (zs.getD j 0)) := by rw [ho.out.cell]; simp [List.getD_eq_getElem?_getD, hz, hlt3]
                      have x1 : wr.frozen? ⟨q, j, none⟩ = false := ho.out.free j
                      have ST1 := fun v => Lib.hid (hs.out.far (j := j) QQ.out.1 QQ.out.2.1 QQ.out.2.2.1 QQ.out.2.2.2 v)
                      have OW1 := fun z => Lib.hid (ho.out.put j (.int .u64 z))
                      clear hs ho b0 b1
                      go_wp2
                      go_roundg (A1 - (j + 1))
                      case measure => go_light; omega
                      case rel => go_light; exact ⟨j + 1, zs.set j _, by omega, rfl, by go_num, by simpa using hz, by rw [List.map_set]; exact OW1 _, ST1 _⟩
                    · obtain rfl : j = A1 := by omega
                      have PS := Lib.hid hs.out
                      clear hs ho b0 b1
                      go_wp2
                      go_roundg (n2 - (k2 + 1))
                      case measure => go_light; omega
                      case rel => go_light; exact ⟨k2 + 1, bd, by omega, rfl, by go_num, rfl, Lib.hid ⟨_, _, _, _, _, PS.out⟩⟩
                · have t2 : (r.what == 2) = false := by simpa using q2
                  as_aux_lemma =>
                    clear q0 q1 q2
                    go_wp2_with fail
                    refine (pc1 S0.out).mono ?_
                    rintro e w2 ⟨b2, g2, rfl, hs, ho, nb, ng⟩
                    clear b0 b1 p0 p1 bl e0 e1 e2 e3
                    have S1 : Hid (RC w bd g l u wo.heap.size u sp A c wr.heap.size r u b2 g2 w2) := Lib.hid ⟨hs, ho, nb, ng⟩
                    clear hs ho nb ng S0
                    go_wp2_with fail
                    refine (pc2 S1.out).mono ?_
                    rintro e w3 ⟨u3, rfl, hs⟩
                    have S2 := Lib.hid hs
                    clear hs S1
                    go_wp2_with fail
                    refine (pc3 (S2.out.below ((Below.refl _ _).alloc (Nat.le_refl _) _)) (has.new w3 3 [.int .i64 1, .int .i64 2, .int .i64 3])).mono ?_
                    rintro e w4 ⟨u4, v4, rfl, hs⟩
                    have S3 := Lib.hid hs.fst
                    clear hs S2
                    obtain ⟨q, hq⟩ : ∃ q, w4.heap.size = q := ⟨_, rfl⟩
                    have HQ := Lib.hid hq
                    clear hq
                    have v1 : ((A : Int) != (A : Int)) = false := by simp
                    have v2 : ((u : Int) != (u : Int)) = false := by simp
                    have ha300 : A ≤ 300 := by have := AA.out; have := LN.out; omega
                    have hu1300 : u ≤ 300 := by have := S3.out.s.d.le; have := LN.out; omega
                    go_wp2_with fail
                    refine (pr1 AA.out HQ.out S3.out).mono ?_
                    rintro e w20 ⟨rfl, hs, hr, q1, q2, q3, q4, q5⟩
                    have b0 := hs.b0
                    have b1 := hs.b1
                    have T1 := Lib.hid hs
                    have R1 := Lib.hid hr
                    have QQ := Lib.hid (And.intro q1 (And.intro q2 (And.intro q4 q5)))
                    clear hs hr q1 q2 q3 q4 q5 S3 HQ
                    go_wp2
                    go_quiet ((first | (go_at_call 22; exact Calls.quiet_of (pr2 _ AA.out T1.out R1.out)) | (go_at_call 23; exact Calls.quiet_of (pr3 _ AA.out T1.out)) | (go_at_call 24; exact Calls.quiet_of_same (pr4 _ T1.out))))
                    obtain ⟨wq, rfl⟩ : ∃ wq : World, wq = wr := ⟨_, rfl⟩
                    go_wp2
                    go_loopg [170] A (fun gh i wx => ∃ (j : Nat) (zs : List Int), j ≤ A ∧ gh = A - j ∧ i = .int .i64 j ∧ zs.length = A ∧ Hid (has wx q 30 (zs.map (Value.int .u64))) ∧ Hid (PSt w b2 g2 l u wo.heap.size sp A c wx))
                    case atStart => exact ⟨0, (l.drop u).map Int.ofNat, Nat.zero_le _, rfl, rfl, by rw [List.length_map, List.length_drop]; exact AA.out, Lib.hid (by have h1 := R1.out.drewN; unfold us at h1; rw [List.map_map]; exact h1 _), Lib.hid (T1.out.st.drewN _)⟩
                    case round =>
                      obtain ⟨j, zs, hj, rfl, rfl, hz, ho, hs⟩ := hrel
                      clear T1 R1
                      by_cases hlt3 : j < A
                      · have x0 : wr.cell? ⟨q, j, none⟩ = some (.int .u64 (zs.getD j 0)) := by rw [ho.out.cell]; simp [List.getD_eq_getElem?_getD, hz, hlt3]
                        have x1 : wr.frozen? ⟨q, j, none⟩ = false := ho.out.free j
                        have ST1 := fun v => Lib.hid (hs.out.far (j := j) QQ.out.1 QQ.out.2.1 QQ.out.2.2.1 QQ.out.2.2.2 v)
                        have OW1 := fun z => Lib.hid (ho.out.put j (.int .u64 z))
                        clear hs ho b0 b1
                        go_wp2
                        go_roundg (A - (j + 1))
                        case measure => go_light; omega
                        case rel => go_light; exact ⟨j + 1, zs.set j _, by omega, rfl, by go_num, by simpa using hz, by rw [List.map_set]; exact OW1 _, ST1 _⟩
                      · obtain rfl : j = A := by omega
                        have PS := Lib.hid hs.out
                        clear hs ho b0 b1
                        go_wp2
                        go_roundg (n2 - (k2 + 1))
                        case measure => go_light; omega
                        case rel => go_light; exact ⟨k2 + 1, b2, by omega, rfl, by go_num, rfl, Lib.hid ⟨_, _, _, _, _, PS.out⟩⟩
          · obtain rfl : k2 = n2 := by omega
            obtain ⟨u, g, sp, A, c, hs⟩ := HR.out
            have HB := Lib.hid hs.s.f
            clear hs HR
            go_wp2_with fail
            refine (known_in HB.out).mono ?_
            rintro e w7 ⟨rfl, hs⟩
            have S6 := Lib.hid hs
            clear hs HB
            go_wp2
            go_ret
            exact ⟨rfl, S6.out⟩

set_option maxRecDepth 100000 in
theorem plays_long (s1 s2 : Option Addr) (n1 n2 c1 c2 : Nat) (w : World) (h : 300 < n1) (h2 : n1 ≤ 9223372036854775807) :
    Calls Try.prog 3 #[.slice s1 n1 c1, .slice s2 n2 c2] w fun e w' => e = .returned (.bool true) ∧ Below w.heap.size w w' := by
  have d0 : decide (300 < (n1 : Int)) = true := by simp; omega
  go_enter Try.func3, Try.ntmps3
  go_wp2_with (go_at_call 9; refine (known_any _).mono ?_; rintro e w' ⟨rfl, hb⟩)
  go_ret
  exact ⟨rfl, hb⟩
/- numbers that come in, with their room -/
def UsAt2 (w : World) (sp : Option Addr) (n c : Nat) (l : List Nat) : Prop := UsAt w sp n l ∧ (sp = none → n = 0 ∧ c = 0) ∧ n ≤ c ∧ c ≤ 9223372036854775807
theorem open_us3 {H : Type} {enc : TypeId × Value → H} {w : World} {fuel : Nat} {v : Value} {x : DataW H × List MemPlace} (h : DataW.trod enc Try.prog w 0 (fun _ => true) true fuel 22 [v] = some x) :
    ∃ (sp : Option Addr) (len cap : Nat) (l : List Nat), v = .slice sp len cap ∧ UsAt2 w sp len cap l := by
  obtain ⟨sp, len, cap, l, h1, h2, h3, h4, h5⟩ := open_us2 h
  exact ⟨sp, len, cap, l, h1, h2, h3, h4, h5⟩
theorem plays_law (s1 s2 : Option Addr) (n1 n2 c1 c2 : Nat) (l : List Nat) (acts : List ActR) (w : World) (h0 : UsAt2 w s1 n1 c1 l) (ha : ActsAt w s2 n2 acts) :
    Calls Try.prog 3 #[.slice s1 n1 c1, .slice s2 n2 c2] w fun e w' => e = .returned (.bool true) ∧ Below w.heap.size w w' := by
  obtain ⟨hu, hn, hc1, hc2⟩ := h0
  by_cases h : n1 ≤ 300
  · exact plays_main s1 s2 n1 n2 c1 c2 l acts w hu hn hc1 hc2 ha h
  · exact plays_long s1 s2 n1 n2 c1 c2 w (by omega) hu.m
end Go.Proofs.Ytefncefmolphfaa.drFn
