/- What the reference's Parse reads. -/
import Derived.Test.YthnndmojijnbnaaDoorMaScan
import Derived.Test.YthnndmojijnbnaaDoorMaRText
import Derived.Test.YthnndmojijnbnaaDoorMaParse
import Derived.Laws.Strings2
import Derived.Deep.DeepCutAuto
import Derived.BigQuiet
import Derived.Deep.QuietTactic
import Derived.Outline
namespace Go.Proofs.YthnndmojijnbnaaDoor.maFn
open Go.ChangeShapes Go.WideShapes Go.ChangeAt Go.RowKit drMem
set_option linter.unusedVariables false

structure PW (w : World) (cs : List Value) (wr : World) : Prop where
  ha : has wr w.heap.size 25 [.int .i64 0, .int .i64 0, .int .i64 0, .int .i64 0, .int .i64 0]
  hc : has wr (w.heap.size + 1) 25 cs
  hb : Below w.heap.size w wr
theorem PW.drewN {w wr : World} {cs : List Value} (h : PW w cs wr) (n : Nat) : PW w cs (wr.drewN n) := ⟨h.ha.drewN n, h.hc.drewN n, ⟨h.hb.os, h.hb.tape, h.hb.output, h.hb.size, h.hb.block⟩⟩
theorem PW.drew {w wr : World} {cs : List Value} (h : PW w cs wr) : PW w cs wr.drew := ⟨h.ha, h.hc, h.hb.drew⟩
theorem PW.put {w wr : World} {cs cs' : List Value} (h : PW w cs wr) (i : Nat) (v : Value) (he : cs.set i v = cs') : PW w cs' (wr.setCell ⟨w.heap.size + 1, i, none⟩ v) :=
  ⟨h.ha.far (by show w.heap.size ≠ w.heap.size + 1; omega) _, he ▸ h.hc.put i v, h.hb.setCell (by show w.heap.size ≤ w.heap.size + 1; omega) _⟩
def fC (l : List UInt8) (k n j : Nat) : Nat := if j < k then cn l j else if j = k then n else 0
def oC (l : List UInt8) (k n : Nat) : List Value := [.int .i64 (fC l k n 0 : Nat), .int .i64 (fC l k n 1 : Nat), .int .i64 (fC l k n 2 : Nat), .int .i64 (fC l k n 3 : Nat), .int .i64 (rdX l : Nat)]
theorem oC_step (l : List UInt8) (k : Nat) : oC l (k + 1) 0 = oC l k (cn l k) := by
  have : ∀ j, fC l (k + 1) 0 j = fC l k (cn l k) j := by
    intro j
    unfold fC
    by_cases h1 : j < k
    · rw [if_pos h1, if_pos (by omega)]
    · by_cases h2 : j = k
      · subst h2; rw [if_pos (by omega), if_neg (by omega), if_pos rfl]
      · rw [if_neg (by omega), if_neg h1, if_neg h2]; split <;> rfl
  unfold oC
  rw [this, this, this, this]
theorem sl_at (s : ByteArray) (j : Nat) (hj : j < s.size) (c : UInt8) (hc : s[j] = c) (k : Int) (hk : k = (j : Int) + 1) : ∀ w, (Instr.slice 9 (.string s) (some (.int .i64 (j : Int))) (some (.int .i64 k)) none).run Tryd.prog w = .ok (.string (bs [c])) w := fun w => by
  subst hk
  rw [run_slice_string w 9 s .i64 .i64 (j : Int) ((j : Int) + 1) Tryd.underlying9 (by omega) (by omega) (by omega)]
  rw [show ((j : Int)).toNat = j by omega, show ((j : Int) + 1).toNat = j + 1 by omega, one_at s j hj, hc]
theorem rlet' (k : Int) (c : UInt8) (w : World) (h : 0 ≤ k ∧ k ≤ 3) (hc : letB k = bs [c]) :
    Calls Tryd.prog 36 #[.int .i64 k] w fun e w' => e = .returned (.string (bs [c])) ∧ w' = w :=
  (rlet k c w h hc).mono fun e w' ⟨h1, h2⟩ => ⟨h1, h2.symm⟩


/- is s the text of the cost that it is read as? -/
def good (s : ByteArray) : Prop := rs s.data.toList 4 = [] ∧ okC (cn s.data.toList 0) (cn s.data.toList 1) (cn s.data.toList 2) (cn s.data.toList 3) (rdX s.data.toList) = true ∧ bs (textL (cn s.data.toList 0) (cn s.data.toList 1) (cn s.data.toList 2) (cn s.data.toList 3) (rdX s.data.toList)) = s
def rpost (s : ByteArray) (w : World) (e : Ending) (w' : World) : Prop :=
  Below w.heap.size w w' ∧ (good s → e = .returned (.tuple #[.agg #[.int .i64 (cn s.data.toList 0 : Nat), .int .i64 (cn s.data.toList 1 : Nat), .int .i64 (cn s.data.toList 2 : Nat), .int .i64 (cn s.data.toList 3 : Nat), .int .i64 (rdX s.data.toList : Nat)], .bool true])) ∧ (¬ good s → e = .returned (.tuple #[.agg #[.int .i64 0, .int .i64 0, .int .i64 0, .int .i64 0, .int .i64 0], .bool false]))
set_option maxRecDepth 100000 in
set_option maxHeartbeats 4000000 in
theorem rParse_any (s : ByteArray) (w : World) (hs : s.size ≤ 140737488355328) :
    Calls Tryd.prog 26 #[.string s] w (rpost s w) := by
  go_enter Tryd.func26, Tryd.ntmps26
  go_upto_block 0 with fail
  have HST : PW w [.int .i64 0, .int .i64 0, .int .i64 0, .int .i64 0, .int .i64 0] ((w.alloc (.cells #[.int .i64 0, .int .i64 0, .int .i64 0, .int .i64 0, .int .i64 0] 25)).alloc (.cells #[.int .i64 0, .int .i64 0, .int .i64 0, .int .i64 0, .int .i64 0] 25)) := ⟨(new0 w _ _).alloc _, new1 w _ _ _, by go_grown⟩
  have HS := Lib.hid HST
  clear HST
  go_cut [5] (fun s5 wx => ∃ i : Nat, s5 = .int .i64 i ∧ i ≤ s.size ∧ Hid (s.data.toList.drop i = rs s.data.toList 0) ∧ Hid (PW w (oC s.data.toList 0 0) wx))
  case first =>
    go_wp2_with fail
    go_loopw [5] (fun s5 wr => ∃ k x : Nat, k ≤ 2 ∧ k ≤ s.size ∧ x ≤ 99 ∧ (k ≤ 1 → x ≤ 9) ∧ (k = 0 → x = 0) ∧ s5 = .int .i64 k ∧ Hid (scanD (2 - k) x (s.data.toList.drop k) = scanD 2 0 s.data.toList) ∧ Hid (PW w [.int .i64 0, .int .i64 0, .int .i64 0, .int .i64 0, .int .i64 (x : Nat)] wr)) (fun s5 _ => 2 - (intOf s5).toNat)
    case atStart => exact ⟨0, 0, by omega, by omega, by omega, fun _ => by omega, fun _ => rfl, rfl, Lib.hid rfl, HS⟩
    case round =>
      obtain ⟨k, x, k2, ks, x9, xk, xz, rfl, HD, HP⟩ := hrel
      clear HS
      have hend : scanD (2 - k) x (s.data.toList.drop k) = (x, s.data.toList.drop k) → ∀ u, PW w [.int .i64 0, .int .i64 0, .int .i64 0, .int .i64 0, .int .i64 (x : Nat)] u → ∃ i : Nat, Value.int .i64 (k : Int) = .int .i64 i ∧ i ≤ s.size ∧ Hid (s.data.toList.drop i = rs s.data.toList 0) ∧ Hid (PW w (oC s.data.toList 0 0) u) := by
        intro h u hu
        have h1 : (x, s.data.toList.drop k) = scanD 2 0 s.data.toList := h.symm.trans HD.out
        have h2 : rdX s.data.toList = x := by unfold rdX; rw [← h1]
        have h3 : rs s.data.toList 0 = s.data.toList.drop k := by show (scanD 2 0 _).2 = _; rw [← h1]
        refine ⟨k, rfl, ks, Lib.hid h3.symm, Lib.hid ?_⟩
        show PW w [_, _, _, _, .int .i64 (rdX s.data.toList : Nat)] u
        rw [h2]
        exact hu
      have HE := Lib.hid hend
      clear hend
      by_cases hk : k < s.size
      · have hd := drop_at s k hk
        by_cases hc : 48 ≤ s[k].toNat ∧ s[k].toNat ≤ 57
        · obtain ⟨c0, c1⟩ := hc
          have i0 : (48 : Int) ≤ (s[k].toNat : Int) := by omega
          have i1 : (s[k].toNat : Int) ≤ 57 := by omega
          by_cases h2 : k < 2
          · obtain ⟨u0, u1, u2, u3, u4, u5⟩ := five HP.out.hc
            have NX : ∀ u, PW w [.int .i64 0, .int .i64 0, .int .i64 0, .int .i64 0, .int .i64 (x : Nat)] u → PW w [.int .i64 0, .int .i64 0, .int .i64 0, .int .i64 0, .int .i64 ((10 * x + (s[k].toNat - 48) : Nat) : Int)] (u.setCell ⟨w.heap.size + 1, 4, none⟩ (.int .i64 (10 * (x : Int) + ((s[k].toNat : Int) - 48)))) := fun u hu => by
              rw [show (10 * (x : Int) + ((s[k].toNat : Int) - 48)) = ((10 * x + (s[k].toNat - 48) : Nat) : Int) by omega]
              exact hu.put 4 _ rfl
            have HD' : scanD (2 - (k + 1)) (10 * x + (s[k].toNat - 48)) (s.data.toList.drop (k + 1)) = scanD 2 0 s.data.toList := by
              rw [← HD.out, hd, show 2 - k = (2 - (k + 1)) + 1 by omega, scanD_dig _ _ _ _ ⟨c0, c1⟩]
            have NX' := Lib.hid NX; have HD'' := Lib.hid HD'
            have hx := xk (by omega)
            have hx0 : k + 1 ≤ 1 → 10 * x + (s[k].toNat - 48) ≤ 9 := fun h => by have := xz (by omega); omega
            have HX0 := Lib.hid hx0
            clear hd NX HD' HE xk xz hx0
            go_wp2
            go_region
            all_goals
              go_wp2
              go_roundw
              case rel => exact ⟨k + 1, 10 * x + (s[k].toNat - 48), by omega, by omega, by omega, HX0.out, fun h => absurd h (by omega), by go_num, HD'', Lib.hid (NX'.out _ HP.out.drew)⟩
              case measure => simp [intOf]; omega
          · obtain rfl : k = 2 := by omega
            have h3 := HE.out rfl
            have HE3 := Lib.hid h3
            clear h3 HE hd xk xz
            go_wp2
            go_meet
            case rel => exact HE3.out _ HP.out
        · have h3 := HE.out (by rw [hd]; exact scanD_no _ _ _ _ hc)
          have HE3 := Lib.hid h3
          have hc' : ¬ ((48 : Int) ≤ (s[k].toNat : Int) ∧ (s[k].toNat : Int) ≤ 57) := by omega
          clear h3 HE hd hc xk xz
          by_cases i0 : (48 : Int) ≤ (s[k].toNat : Int)
          all_goals
            go_wp2
            go_meet
            case rel => exact HE3.out _ HP.out
      · have h3 := HE.out (by rw [drop_end s k hk]; exact scanD_nil _ _)
        have HE3 := Lib.hid h3
        clear h3 HE xk xz
        go_wp2
        go_meet
        case rel => exact HE3.out _ HP.out
  case rest =>
    obtain ⟨i, rfl, his, HI, HQ⟩ := hcut
    go_wp2_with fail
    go_loopw [5, 6] (fun s5 s6 wr => ∃ k i : Nat, k ≤ 4 ∧ s6 = .int .i64 k ∧ s5 = .int .i64 i ∧ i ≤ s.size ∧ Hid (s.data.toList.drop i = rs s.data.toList k) ∧ Hid (PW w (oC s.data.toList k 0) wr)) (fun _ s6 _ => 4 - (intOf s6).toNat)
    case atStart => exact ⟨0, i, by omega, rfl, rfl, his, HI, HQ⟩
    case round =>
    clear HQ HI his
    obtain ⟨k, i, hk4, hk6, rfl, his, HI, HQ⟩ := hrel
    have hk' : k = 0 ∨ k = 1 ∨ k = 2 ∨ k = 3 ∨ k = 4 := by omega
    clear hk4
    rcases hk' with rfl | rfl | rfl | rfl | rfl
    · replace hk6 : _ = Value.int .i64 0 := hk6
      subst hk6
      go_wp2_with fail
      have HX := Lib.hid (rlet' 0 69)
      go_loopw [5] (fun s5 wr => ∃ n i : Nat, s5 = .int .i64 i ∧ i ≤ s.size ∧ n ≤ i ∧ Hid (num 69 (s.data.toList.drop i) + n = cn s.data.toList 0) ∧ Hid (skp 69 (s.data.toList.drop i) = rs s.data.toList (0 + 1)) ∧ Hid (PW w (oC s.data.toList 0 n) wr)) (fun s5 _ => s.size - (intOf s5).toNat)
      case atStart => exact ⟨0, i, rfl, his, Nat.zero_le _, Lib.hid (by rw [HI.out]; rfl), Lib.hid (by rw [HI.out]; rfl), HQ⟩
      case round =>
        clear HQ HI
        obtain ⟨n, j, rfl, hjs, hnj, HN, HK, HP⟩ := hrel
        have hend : num 69 (s.data.toList.drop j) = 0 → skp 69 (s.data.toList.drop j) = s.data.toList.drop j → ∀ u, PW w (oC s.data.toList 0 n) u → Hid (s.data.toList.drop j = rs s.data.toList (0 + 1)) ∧ Hid (PW w (oC s.data.toList (0 + 1) 0) u) := by
          intro h1 h2 u hu
          have h3 := HN.out
          have h4 := HK.out
          rw [h1, Nat.zero_add] at h3
          rw [h2] at h4
          refine ⟨Lib.hid h4, Lib.hid ?_⟩
          rw [oC_step, ← h3]
          exact hu
        have HE := Lib.hid hend
        clear hend
        by_cases hj : j < s.size
        · have hd := drop_at s j hj
          have e1 : IntKind.i64.wrap ((j : Int) + 1) = (j : Int) + 1 := IntWalk.i64_in _ (by omega)
          have e2 : ((j : Int) + 1).toNat = j + 1 := by omega
          have hdj : decide (j < s.size) = true := by simpa using hj
          by_cases hc : s[j] = 69
          · have s1 := sl_at s j hj 69 hc _ rfl
            have s2 := sl_at s j hj 69 hc (IntKind.i64.wrap ((j : Int) + 1)) e1
            rw [hc] at hd
            have e4 : ((bs [69]).toList == (bs [69]).toList) = true := str_eq rfl
            have HN' : num 69 (s.data.toList.drop (j + 1)) + (n + 1) = cn s.data.toList 0 := by
              rw [← HN.out, hd, num_same]; omega
            have HK' : skp 69 (s.data.toList.drop (j + 1)) = rs s.data.toList (0 + 1) := by
              rw [← HK.out, hd, skp_same]
            have NX : ∀ u, PW w (oC s.data.toList 0 n) u → PW w (oC s.data.toList 0 (n + 1)) (u.setCell ⟨w.heap.size + 1, 0, none⟩ (.int .i64 ((n : Int) + 1))) := fun u hu => hu.put 0 _ rfl
            have NX' := Lib.hid NX; have HN'' := Lib.hid HN'; have HK'' := Lib.hid HK'
            have uc : wr.cell? ⟨w.heap.size + 1, 0, none⟩ = some (.int .i64 (n : Int)) := HP.out.hc.cell 0
            have uf := HP.out.hc.free
            clear hc hd NX HN' HK' HE
            go_wp2_with fail
            go_quiet ((go_at_call 36; exact Calls.quiet_of_same (HX.out _ (by omega) rfl)))
            all_goals
              go_wp2_with fail
              go_roundw
              case rel => exact ⟨n + 1, j + 1, by go_num, by omega, by omega, HN'', HK'', Lib.hid (NX'.out _ (HP.out.drewN _))⟩
              case measure => simp [intOf]; omega
          · have s1 := sl_at s j hj s[j] rfl _ rfl
            have s2 := sl_at s j hj s[j] rfl (IntKind.i64.wrap ((j : Int) + 1)) e1
            have h5 := HE.out (by rw [hd]; exact num_other _ _ _ hc) (by rw [hd]; exact skp_other _ _ _ hc)
            have H5 := Lib.hid h5
            have e4 : ((bs [s[j]]).toList == (bs [69]).toList) = false := by
              have : bs [s[j]] ≠ bs [69] := fun e => hc (by simpa using bs_inj e)
              rw [beq_eq_false_iff_ne]
              exact fun e => this (str_inj e)
            clear hc hd HE h5
            go_wp2_with fail
            go_quiet ((go_at_call 36; exact Calls.quiet_of_same (HX.out _ (by omega) rfl)))
            all_goals
              go_wp2_with fail
              go_roundw
              case rel =>
                obtain ⟨g1, g2⟩ := H5.out _ (HP.out.drewN _)
                exact ⟨0 + 1, j, by omega, by go_num, rfl, hjs, g1, g2⟩
              case measure => simp [intOf]
        · have h5 := HE.out (by rw [drop_end s j hj]; rfl) (by rw [drop_end s j hj]; rfl)
          have H5 := Lib.hid h5
          have hdj : decide (j < s.size) = false := by simpa using hj
          clear HE h5
          go_wp2_with fail
          go_quiet (fail)
          all_goals
            go_wp2_with fail
            go_roundw
            case rel =>
              obtain ⟨g1, g2⟩ := H5.out _ (HP.out.drewN _)
              exact ⟨0 + 1, j, by omega, by go_num, rfl, hjs, g1, g2⟩
            case measure => simp [intOf]
    · replace hk6 : _ = Value.int .i64 1 := hk6
      subst hk6
      go_wp2_with fail
      have HX := Lib.hid (rlet' 1 84)
      go_loopw [5] (fun s5 wr => ∃ n i : Nat, s5 = .int .i64 i ∧ i ≤ s.size ∧ n ≤ i ∧ Hid (num 84 (s.data.toList.drop i) + n = cn s.data.toList 1) ∧ Hid (skp 84 (s.data.toList.drop i) = rs s.data.toList (1 + 1)) ∧ Hid (PW w (oC s.data.toList 1 n) wr)) (fun s5 _ => s.size - (intOf s5).toNat)
      case atStart => exact ⟨0, i, rfl, his, Nat.zero_le _, Lib.hid (by rw [HI.out]; rfl), Lib.hid (by rw [HI.out]; rfl), HQ⟩
      case round =>
        clear HQ HI
        obtain ⟨n, j, rfl, hjs, hnj, HN, HK, HP⟩ := hrel
        have hend : num 84 (s.data.toList.drop j) = 0 → skp 84 (s.data.toList.drop j) = s.data.toList.drop j → ∀ u, PW w (oC s.data.toList 1 n) u → Hid (s.data.toList.drop j = rs s.data.toList (1 + 1)) ∧ Hid (PW w (oC s.data.toList (1 + 1) 0) u) := by
          intro h1 h2 u hu
          have h3 := HN.out
          have h4 := HK.out
          rw [h1, Nat.zero_add] at h3
          rw [h2] at h4
          refine ⟨Lib.hid h4, Lib.hid ?_⟩
          rw [oC_step, ← h3]
          exact hu
        have HE := Lib.hid hend
        clear hend
        by_cases hj : j < s.size
        · have hd := drop_at s j hj
          have e1 : IntKind.i64.wrap ((j : Int) + 1) = (j : Int) + 1 := IntWalk.i64_in _ (by omega)
          have e2 : ((j : Int) + 1).toNat = j + 1 := by omega
          have hdj : decide (j < s.size) = true := by simpa using hj
          by_cases hc : s[j] = 84
          · have s1 := sl_at s j hj 84 hc _ rfl
            have s2 := sl_at s j hj 84 hc (IntKind.i64.wrap ((j : Int) + 1)) e1
            rw [hc] at hd
            have e4 : ((bs [84]).toList == (bs [84]).toList) = true := str_eq rfl
            have HN' : num 84 (s.data.toList.drop (j + 1)) + (n + 1) = cn s.data.toList 1 := by
              rw [← HN.out, hd, num_same]; omega
            have HK' : skp 84 (s.data.toList.drop (j + 1)) = rs s.data.toList (1 + 1) := by
              rw [← HK.out, hd, skp_same]
            have NX : ∀ u, PW w (oC s.data.toList 1 n) u → PW w (oC s.data.toList 1 (n + 1)) (u.setCell ⟨w.heap.size + 1, 1, none⟩ (.int .i64 ((n : Int) + 1))) := fun u hu => hu.put 1 _ rfl
            have NX' := Lib.hid NX; have HN'' := Lib.hid HN'; have HK'' := Lib.hid HK'
            have uc : wr.cell? ⟨w.heap.size + 1, 1, none⟩ = some (.int .i64 (n : Int)) := HP.out.hc.cell 1
            have uf := HP.out.hc.free
            clear hc hd NX HN' HK' HE
            go_wp2_with fail
            go_quiet ((go_at_call 36; exact Calls.quiet_of_same (HX.out _ (by omega) rfl)))
            all_goals
              go_wp2_with fail
              go_roundw
              case rel => exact ⟨n + 1, j + 1, by go_num, by omega, by omega, HN'', HK'', Lib.hid (NX'.out _ (HP.out.drewN _))⟩
              case measure => simp [intOf]; omega
          · have s1 := sl_at s j hj s[j] rfl _ rfl
            have s2 := sl_at s j hj s[j] rfl (IntKind.i64.wrap ((j : Int) + 1)) e1
            have h5 := HE.out (by rw [hd]; exact num_other _ _ _ hc) (by rw [hd]; exact skp_other _ _ _ hc)
            have H5 := Lib.hid h5
            have e4 : ((bs [s[j]]).toList == (bs [84]).toList) = false := by
              have : bs [s[j]] ≠ bs [84] := fun e => hc (by simpa using bs_inj e)
              rw [beq_eq_false_iff_ne]
              exact fun e => this (str_inj e)
            clear hc hd HE h5
            go_wp2_with fail
            go_quiet ((go_at_call 36; exact Calls.quiet_of_same (HX.out _ (by omega) rfl)))
            all_goals
              go_wp2_with fail
              go_roundw
              case rel =>
                obtain ⟨g1, g2⟩ := H5.out _ (HP.out.drewN _)
                exact ⟨1 + 1, j, by omega, by go_num, rfl, hjs, g1, g2⟩
              case measure => simp [intOf]
        · have h5 := HE.out (by rw [drop_end s j hj]; rfl) (by rw [drop_end s j hj]; rfl)
          have H5 := Lib.hid h5
          have hdj : decide (j < s.size) = false := by simpa using hj
          clear HE h5
          go_wp2_with fail
          go_quiet (fail)
          all_goals
            go_wp2_with fail
            go_roundw
            case rel =>
              obtain ⟨g1, g2⟩ := H5.out _ (HP.out.drewN _)
              exact ⟨1 + 1, j, by omega, by go_num, rfl, hjs, g1, g2⟩
            case measure => simp [intOf]
    · replace hk6 : _ = Value.int .i64 2 := hk6
      subst hk6
      go_wp2_with fail
      have HX := Lib.hid (rlet' 2 76)
      go_loopw [5] (fun s5 wr => ∃ n i : Nat, s5 = .int .i64 i ∧ i ≤ s.size ∧ n ≤ i ∧ Hid (num 76 (s.data.toList.drop i) + n = cn s.data.toList 2) ∧ Hid (skp 76 (s.data.toList.drop i) = rs s.data.toList (2 + 1)) ∧ Hid (PW w (oC s.data.toList 2 n) wr)) (fun s5 _ => s.size - (intOf s5).toNat)
      case atStart => exact ⟨0, i, rfl, his, Nat.zero_le _, Lib.hid (by rw [HI.out]; rfl), Lib.hid (by rw [HI.out]; rfl), HQ⟩
      case round =>
        clear HQ HI
        obtain ⟨n, j, rfl, hjs, hnj, HN, HK, HP⟩ := hrel
        have hend : num 76 (s.data.toList.drop j) = 0 → skp 76 (s.data.toList.drop j) = s.data.toList.drop j → ∀ u, PW w (oC s.data.toList 2 n) u → Hid (s.data.toList.drop j = rs s.data.toList (2 + 1)) ∧ Hid (PW w (oC s.data.toList (2 + 1) 0) u) := by
          intro h1 h2 u hu
          have h3 := HN.out
          have h4 := HK.out
          rw [h1, Nat.zero_add] at h3
          rw [h2] at h4
          refine ⟨Lib.hid h4, Lib.hid ?_⟩
          rw [oC_step, ← h3]
          exact hu
        have HE := Lib.hid hend
        clear hend
        by_cases hj : j < s.size
        · have hd := drop_at s j hj
          have e1 : IntKind.i64.wrap ((j : Int) + 1) = (j : Int) + 1 := IntWalk.i64_in _ (by omega)
          have e2 : ((j : Int) + 1).toNat = j + 1 := by omega
          have hdj : decide (j < s.size) = true := by simpa using hj
          by_cases hc : s[j] = 76
          · have s1 := sl_at s j hj 76 hc _ rfl
            have s2 := sl_at s j hj 76 hc (IntKind.i64.wrap ((j : Int) + 1)) e1
            rw [hc] at hd
            have e4 : ((bs [76]).toList == (bs [76]).toList) = true := str_eq rfl
            have HN' : num 76 (s.data.toList.drop (j + 1)) + (n + 1) = cn s.data.toList 2 := by
              rw [← HN.out, hd, num_same]; omega
            have HK' : skp 76 (s.data.toList.drop (j + 1)) = rs s.data.toList (2 + 1) := by
              rw [← HK.out, hd, skp_same]
            have NX : ∀ u, PW w (oC s.data.toList 2 n) u → PW w (oC s.data.toList 2 (n + 1)) (u.setCell ⟨w.heap.size + 1, 2, none⟩ (.int .i64 ((n : Int) + 1))) := fun u hu => hu.put 2 _ rfl
            have NX' := Lib.hid NX; have HN'' := Lib.hid HN'; have HK'' := Lib.hid HK'
            have uc : wr.cell? ⟨w.heap.size + 1, 2, none⟩ = some (.int .i64 (n : Int)) := HP.out.hc.cell 2
            have uf := HP.out.hc.free
            clear hc hd NX HN' HK' HE
            go_wp2_with fail
            go_quiet ((go_at_call 36; exact Calls.quiet_of_same (HX.out _ (by omega) rfl)))
            all_goals
              go_wp2_with fail
              go_roundw
              case rel => exact ⟨n + 1, j + 1, by go_num, by omega, by omega, HN'', HK'', Lib.hid (NX'.out _ (HP.out.drewN _))⟩
              case measure => simp [intOf]; omega
          · have s1 := sl_at s j hj s[j] rfl _ rfl
            have s2 := sl_at s j hj s[j] rfl (IntKind.i64.wrap ((j : Int) + 1)) e1
            have h5 := HE.out (by rw [hd]; exact num_other _ _ _ hc) (by rw [hd]; exact skp_other _ _ _ hc)
            have H5 := Lib.hid h5
            have e4 : ((bs [s[j]]).toList == (bs [76]).toList) = false := by
              have : bs [s[j]] ≠ bs [76] := fun e => hc (by simpa using bs_inj e)
              rw [beq_eq_false_iff_ne]
              exact fun e => this (str_inj e)
            clear hc hd HE h5
            go_wp2_with fail
            go_quiet ((go_at_call 36; exact Calls.quiet_of_same (HX.out _ (by omega) rfl)))
            all_goals
              go_wp2_with fail
              go_roundw
              case rel =>
                obtain ⟨g1, g2⟩ := H5.out _ (HP.out.drewN _)
                exact ⟨2 + 1, j, by omega, by go_num, rfl, hjs, g1, g2⟩
              case measure => simp [intOf]
        · have h5 := HE.out (by rw [drop_end s j hj]; rfl) (by rw [drop_end s j hj]; rfl)
          have H5 := Lib.hid h5
          have hdj : decide (j < s.size) = false := by simpa using hj
          clear HE h5
          go_wp2_with fail
          go_quiet (fail)
          all_goals
            go_wp2_with fail
            go_roundw
            case rel =>
              obtain ⟨g1, g2⟩ := H5.out _ (HP.out.drewN _)
              exact ⟨2 + 1, j, by omega, by go_num, rfl, hjs, g1, g2⟩
            case measure => simp [intOf]
    · replace hk6 : _ = Value.int .i64 3 := hk6
      subst hk6
      go_wp2_with fail
      have HX := Lib.hid (rlet' 3 83)
      go_loopw [5] (fun s5 wr => ∃ n i : Nat, s5 = .int .i64 i ∧ i ≤ s.size ∧ n ≤ i ∧ Hid (num 83 (s.data.toList.drop i) + n = cn s.data.toList 3) ∧ Hid (skp 83 (s.data.toList.drop i) = rs s.data.toList (3 + 1)) ∧ Hid (PW w (oC s.data.toList 3 n) wr)) (fun s5 _ => s.size - (intOf s5).toNat)
      case atStart => exact ⟨0, i, rfl, his, Nat.zero_le _, Lib.hid (by rw [HI.out]; rfl), Lib.hid (by rw [HI.out]; rfl), HQ⟩
      case round =>
        clear HQ HI
        obtain ⟨n, j, rfl, hjs, hnj, HN, HK, HP⟩ := hrel
        have hend : num 83 (s.data.toList.drop j) = 0 → skp 83 (s.data.toList.drop j) = s.data.toList.drop j → ∀ u, PW w (oC s.data.toList 3 n) u → Hid (s.data.toList.drop j = rs s.data.toList (3 + 1)) ∧ Hid (PW w (oC s.data.toList (3 + 1) 0) u) := by
          intro h1 h2 u hu
          have h3 := HN.out
          have h4 := HK.out
          rw [h1, Nat.zero_add] at h3
          rw [h2] at h4
          refine ⟨Lib.hid h4, Lib.hid ?_⟩
          rw [oC_step, ← h3]
          exact hu
        have HE := Lib.hid hend
        clear hend
        by_cases hj : j < s.size
        · have hd := drop_at s j hj
          have e1 : IntKind.i64.wrap ((j : Int) + 1) = (j : Int) + 1 := IntWalk.i64_in _ (by omega)
          have e2 : ((j : Int) + 1).toNat = j + 1 := by omega
          have hdj : decide (j < s.size) = true := by simpa using hj
          by_cases hc : s[j] = 83
          · have s1 := sl_at s j hj 83 hc _ rfl
            have s2 := sl_at s j hj 83 hc (IntKind.i64.wrap ((j : Int) + 1)) e1
            rw [hc] at hd
            have e4 : ((bs [83]).toList == (bs [83]).toList) = true := str_eq rfl
            have HN' : num 83 (s.data.toList.drop (j + 1)) + (n + 1) = cn s.data.toList 3 := by
              rw [← HN.out, hd, num_same]; omega
            have HK' : skp 83 (s.data.toList.drop (j + 1)) = rs s.data.toList (3 + 1) := by
              rw [← HK.out, hd, skp_same]
            have NX : ∀ u, PW w (oC s.data.toList 3 n) u → PW w (oC s.data.toList 3 (n + 1)) (u.setCell ⟨w.heap.size + 1, 3, none⟩ (.int .i64 ((n : Int) + 1))) := fun u hu => hu.put 3 _ rfl
            have NX' := Lib.hid NX; have HN'' := Lib.hid HN'; have HK'' := Lib.hid HK'
            have uc : wr.cell? ⟨w.heap.size + 1, 3, none⟩ = some (.int .i64 (n : Int)) := HP.out.hc.cell 3
            have uf := HP.out.hc.free
            clear hc hd NX HN' HK' HE
            go_wp2_with fail
            go_quiet ((go_at_call 36; exact Calls.quiet_of_same (HX.out _ (by omega) rfl)))
            all_goals
              go_wp2_with fail
              go_roundw
              case rel => exact ⟨n + 1, j + 1, by go_num, by omega, by omega, HN'', HK'', Lib.hid (NX'.out _ (HP.out.drewN _))⟩
              case measure => simp [intOf]; omega
          · have s1 := sl_at s j hj s[j] rfl _ rfl
            have s2 := sl_at s j hj s[j] rfl (IntKind.i64.wrap ((j : Int) + 1)) e1
            have h5 := HE.out (by rw [hd]; exact num_other _ _ _ hc) (by rw [hd]; exact skp_other _ _ _ hc)
            have H5 := Lib.hid h5
            have e4 : ((bs [s[j]]).toList == (bs [83]).toList) = false := by
              have : bs [s[j]] ≠ bs [83] := fun e => hc (by simpa using bs_inj e)
              rw [beq_eq_false_iff_ne]
              exact fun e => this (str_inj e)
            clear hc hd HE h5
            go_wp2_with fail
            go_quiet ((go_at_call 36; exact Calls.quiet_of_same (HX.out _ (by omega) rfl)))
            all_goals
              go_wp2_with fail
              go_roundw
              case rel =>
                obtain ⟨g1, g2⟩ := H5.out _ (HP.out.drewN _)
                exact ⟨3 + 1, j, by omega, by go_num, rfl, hjs, g1, g2⟩
              case measure => simp [intOf]
        · have h5 := HE.out (by rw [drop_end s j hj]; rfl) (by rw [drop_end s j hj]; rfl)
          have H5 := Lib.hid h5
          have hdj : decide (j < s.size) = false := by simpa using hj
          clear HE h5
          go_wp2_with fail
          go_quiet (fail)
          all_goals
            go_wp2_with fail
            go_roundw
            case rel =>
              obtain ⟨g1, g2⟩ := H5.out _ (HP.out.drewN _)
              exact ⟨3 + 1, j, by omega, by go_num, rfl, hjs, g1, g2⟩
            case measure => simp [intOf]
    · replace hk6 : _ = Value.int .i64 4 := hk6
      subst hk6
      have K4 : has wr (w.heap.size + 1) 25 [.int .i64 (cn s.data.toList 0 : Nat), .int .i64 (cn s.data.toList 1 : Nat), .int .i64 (cn s.data.toList 2 : Nat), .int .i64 (cn s.data.toList 3 : Nat), .int .i64 (rdX s.data.toList : Nat)] := HQ.out.hc
      have R4 := HQ.out.ha
      have B4 := HQ.out.hb
      clear HQ
      obtain ⟨u0, u1, u2, u3, u4, u5⟩ := five K4
      by_cases hi : i < s.size
      · have hdi : decide (i < s.size) = true := by simpa using hi
        have hng : ¬ good s := fun ⟨h1, _, _⟩ => by rw [← HI.out, drop_at s i hi] at h1; cases h1
        have HG := Lib.hid hng
        obtain ⟨v0, v1, v2, v3, v4, v5⟩ := five R4
        have z4 := R4.lt
        clear hng K4 R4
        go_wp2_with fail
        exact bodyPost_ret (v := .tuple #[.agg #[.int .i64 0, .int .i64 0, .int .i64 0, .int .i64 0, .int .i64 0], .bool false]) (by simp [results, Tryd.results26, go_sem, v0, v1, v2, v3, v4]) rfl ⟨by go_grown, fun h => absurd h HG.out, fun _ => rfl⟩
      · have hdi : decide (i < s.size) = false := by simpa using hi
        have h0 : rs s.data.toList 4 = [] := by rw [← HI.out, drop_end s i hi]
        have H0 := Lib.hid h0
        clear h0
        by_cases hok : okC (cn s.data.toList 0) (cn s.data.toList 1) (cn s.data.toList 2) (cn s.data.toList 3) (rdX s.data.toList) = true
        · have d1 : (!okC (cn s.data.toList 0) (cn s.data.toList 1) (cn s.data.toList 2) (cn s.data.toList 3) (rdX s.data.toList)) = false := by rw [hok]; rfl
          have HOK := Lib.hid hok
          clear hok
          go_wp2_with fail
          refine (rValidCost_any _ _ _ _ _ _).mono ?_; rintro e w5 ⟨rfl, hb5⟩
          have K5 := K4.below hb5 K4.lt
          have R5 := R4.below hb5 R4.lt
          have B5 := next B4 hb5
          clear u0 u1 u2 u3 u4 u5 K4 R4 B4 hb5
          obtain ⟨u0, u1, u2, u3, u4, u5⟩ := five K5
          go_wp2_with fail
          refine (rText_yes _ _ _ _ _ _ HOK.out).mono ?_; rintro e w6 ⟨rfl, hb6⟩
          have K6 := K5.below hb6 K5.lt
          have R6 := R5.below hb6 R5.lt
          have B6 := next B5 hb6
          clear u0 u1 u2 u3 u4 u5 K5 R5 B5 hb6
          obtain ⟨u0, u1, u2, u3, u4, u5⟩ := five K6
          obtain ⟨v0, v1, v2, v3, v4, v5⟩ := five R6
          have z6 := R6.lt
          clear K6 R6
          by_cases ht : bs (textL (cn s.data.toList 0) (cn s.data.toList 1) (cn s.data.toList 2) (cn s.data.toList 3) (rdX s.data.toList)) = s
          · have HG := Lib.hid (show good s from ⟨H0.out, HOK.out, ht⟩)
            have e4 := str_eq ht
            have e5 : (!((bs (textL (cn s.data.toList 0) (cn s.data.toList 1) (cn s.data.toList 2) (cn s.data.toList 3) (rdX s.data.toList))).toList == s.toList)) = false := by rw [e4]; rfl
            clear ht e4
            go_wp2_with fail
            exact bodyPost_ret (v := .tuple #[.agg #[.int .i64 (cn s.data.toList 0 : Nat), .int .i64 (cn s.data.toList 1 : Nat), .int .i64 (cn s.data.toList 2 : Nat), .int .i64 (cn s.data.toList 3 : Nat), .int .i64 (rdX s.data.toList : Nat)], .bool true]) (by simp [results, Tryd.results26, go_sem, v0, v1, v2, v3, v4]) rfl ⟨by go_grown, fun _ => rfl, fun h => absurd HG.out h⟩
          · have HG := Lib.hid (show ¬ good s from fun h => ht h.2.2)
            have e5 := str_ne ht
            clear ht
            go_wp2_with fail
            exact bodyPost_ret (v := .tuple #[.agg #[.int .i64 0, .int .i64 0, .int .i64 0, .int .i64 0, .int .i64 0], .bool false]) (by simp [results, Tryd.results26, go_sem, v0, v1, v2, v3, v4]) rfl ⟨by go_grown, fun h => absurd h HG.out, fun _ => rfl⟩
        · have hok : okC (cn s.data.toList 0) (cn s.data.toList 1) (cn s.data.toList 2) (cn s.data.toList 3) (rdX s.data.toList) = false := by simpa using hok
          have d1 : (!okC (cn s.data.toList 0) (cn s.data.toList 1) (cn s.data.toList 2) (cn s.data.toList 3) (rdX s.data.toList)) = true := by rw [hok]; rfl
          have HG := Lib.hid (show ¬ good s from fun h => by rw [h.2.1] at hok; cases hok)
          clear hok
          go_wp2_with fail
          refine (rValidCost_any _ _ _ _ _ _).mono ?_; rintro e w5 ⟨rfl, hb5⟩
          have R5 := R4.below hb5 R4.lt
          have B5 := next B4 hb5
          clear u0 u1 u2 u3 u4 u5 K4 R4 B4 hb5
          obtain ⟨v0, v1, v2, v3, v4, v5⟩ := five R5
          have z5 := R5.lt
          clear R5
          go_wp2_with fail
          exact bodyPost_ret (v := .tuple #[.agg #[.int .i64 0, .int .i64 0, .int .i64 0, .int .i64 0, .int .i64 0], .bool false]) (by simp [results, Tryd.results26, go_sem, v0, v1, v2, v3, v4]) rfl ⟨by go_grown, fun h => absurd h HG.out, fun _ => rfl⟩

end Go.Proofs.YthnndmojijnbnaaDoor.maFn
