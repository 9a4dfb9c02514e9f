/- The search through all effects: what the reference's Parse returns (the walk). -/
import Derived.Test.YtfdolapiikgebaaDoorEfRPar
import Derived.Deep.RegionWith
import Derived.Deep.RegionHeld3
import Derived.BigRegion
namespace Go.Proofs.YtfdolapiikgebaaDoor.efFn
open Go.ChangeShapes Go.WideShapes Go.ChangeAt Go.RowKit drMem
set_option linter.unusedVariables false

set_option maxRecDepth 100000 in
set_option maxHeartbeats 8000000 in
theorem rParse_any (l : List UInt8) (w : World) : Calls Tryd.prog 22 #[.string (bs l)] w (rparPost l w) := by
  go_enter Tryd.func22, Tryd.ntmps22
  go_wp2
  have S0 := Lib.hid (SR.new w)
  go_loopw [4] (fun i wr => ∃ k : Nat, k ≤ 12 ∧ i = .int .i64 ((k + 1 : Nat) : Int) ∧ Hid (SR w wr ∧ n1 l ((k + 1 : Nat) : Int))) (fun i _ => 13 - (intOf i).toNat)
  case atStart => exact ⟨0, by omega, rfl, Lib.hid ⟨S0.out, n1_0 l⟩⟩
  case round =>
    clear S0
    obtain ⟨k, hk, rfl, HT⟩ := hrel
    by_cases hlk : k ≤ 11
    · obtain ⟨c, hc⟩ : ∃ c : Int, c = ((k + 1 : Nat) : Int) := ⟨_, rfl⟩
      have c_hi : c ≤ 12 := by omega
      have c_lo : -2 < c := by omega
      have HC0 : Hid (c + 1 = ((k + 1 + 1 : Nat) : Int) ∧ (13 - (c + 1).toNat < 13 - c.toNat) ∧ k + 1 ≤ 12) := Lib.hid ⟨by omega, by omega, by omega⟩
      have HN0 := Lib.hid HT.out.2
      have HS0 := Lib.hid HT.out.1
      rw [← hc] at HN0 ⊢
      clear HT hc hk hlk
      have HTG := rTargets_any c
      go_wp2
      go_loopw [5] (fun i wr => ∃ j : Nat, j ≤ 7 ∧ i = .int .i64 ((j : Nat) : Int) ∧ Hid (SR w wr ∧ n2 l c ((j : Nat) : Int))) (fun i _ => 7 - (intOf i).toNat)
      case atStart => exact ⟨0, by omega, rfl, Lib.hid ⟨HS0.out, n2_0 l c⟩⟩
      case round =>
        clear HS0
        obtain ⟨j, hj, rfl, HT⟩ := hrel
        by_cases hlj : j ≤ 6
        · obtain ⟨t, ht⟩ : ∃ t : Int, t = ((j : Nat) : Int) := ⟨_, rfl⟩
          have t_hi : t ≤ 6 := by omega
          have t_lo : -2 < t := by omega
          have HC1 : Hid (t + 1 = ((j + 1 : Nat) : Int) ∧ (7 - (t + 1).toNat < 7 - t.toNat) ∧ j + 1 ≤ 7) := Lib.hid ⟨by omega, by omega, by omega⟩
          have HN1 := Lib.hid HT.out.2
          have HS1 := Lib.hid HT.out.1
          rw [← ht] at HN1 ⊢
          clear HT ht hj hlj
          have HL := rLetter_any t
          have HH := rHas_any c (letN t)
          rw [aims_ref] at HH
          cases ha : aimB (kd c) t
          · rw [ha] at HH
            have HX := Lib.hid (n2_skip HN1.out ha)
            clear ha
            go_wp2_with fail
            refine (HTG _).mono ?_; rintro e w1 ⟨rfl, hb1⟩
            have S1 := SR.next HS1.out hb1
            clear hb1
            go_wp2_with fail
            refine (HL _).mono ?_; rintro e w' ⟨rfl, hw⟩; subst hw
            go_wp2_with fail
            refine (HH _).mono ?_; rintro e w' ⟨rfl, hw⟩; subst hw
            go_wp2
            exact ⟨⟨j + 1, HC1.out.2.2, by rw [← HC1.out.1], Lib.hid ⟨S1, by rw [← HC1.out.1]; exact HX.out⟩⟩, HC1.out.2.1⟩
          · rw [ha] at HH
            have HA := Lib.hid ha
            clear ha
            go_wp2_with fail
            refine (HTG _).mono ?_; rintro e w1 ⟨rfl, hb1⟩
            have S1 := SR.next HS1.out hb1
            clear hb1
            go_wp2_with fail
            refine (HL _).mono ?_; rintro e w' ⟨rfl, hw⟩; subst hw
            go_wp2_with fail
            refine (HH _).mono ?_; rintro e w' ⟨rfl, hw⟩; subst hw
            have HSX := Lib.hid S1
            clear S1 HL HH
            go_wp2
            go_loopw [6] (fun i wr => ∃ a : Nat, a ≤ 100 ∧ i = .int .i64 ((a : Nat) : Int) ∧ Hid (SR w wr ∧ n3 l c t ((a : Nat) : Int))) (fun i _ => 100 - (intOf i).toNat)
            case atStart => exact ⟨0, by omega, rfl, Lib.hid ⟨HSX.out, n3_0 l c t⟩⟩
            case round =>
              clear HSX
              obtain ⟨a, ha, rfl, HT⟩ := hrel
              by_cases hla : a ≤ 99
              · obtain ⟨n, hn⟩ : ∃ n : Int, n = ((a : Nat) : Int) := ⟨_, rfl⟩
                have n_hi : n ≤ 99 := by omega
                have n_lo : -2 < n := by omega
                have HC2 : Hid (n + 1 = ((a + 1 : Nat) : Int) ∧ (100 - (n + 1).toNat < 100 - n.toNat) ∧ a + 1 ≤ 100) := Lib.hid ⟨by omega, by omega, by omega⟩
                have HN2 := Lib.hid HT.out.2
                have HS2 := Lib.hid HT.out.1
                rw [← hn] at HN2 ⊢
                clear HT hn ha hla
                go_wp2
                go_loopw [7] (fun i wr => ∃ b : Nat, b ≤ 10 ∧ i = .int .i64 ((b : Nat) : Int) ∧ Hid (SR w wr ∧ n4 l c t n ((b : Nat) : Int))) (fun i _ => 10 - (intOf i).toNat)
                case atStart => exact ⟨0, by omega, rfl, Lib.hid ⟨HS2.out, n4_0 l c t n⟩⟩
                case round =>
                  clear HS2
                  obtain ⟨b, hb, rfl, HT⟩ := hrel
                  by_cases hlb : b ≤ 9
                  · obtain ⟨m, hm⟩ : ∃ m : Int, m = ((b : Nat) : Int) := ⟨_, rfl⟩
                    have m_hi : m ≤ 9 := by omega
                    have m_lo : -2 < m := by omega
                    have HC3 : Hid (m + 1 = ((b + 1 : Nat) : Int) ∧ (10 - (m + 1).toNat < 10 - m.toNat) ∧ b + 1 ≤ 10) := Lib.hid ⟨by omega, by omega, by omega⟩
                    have HN3 := Lib.hid HT.out.2
                    have HS3 := Lib.hid HT.out.1
                    rw [← hm] at HN3 ⊢
                    clear HT hm hb hlb
                    go_wp2
                    go_loopw [8] (fun i wr => ∃ d : Nat, d ≤ 4 ∧ i = .int .i64 ((d : Nat) : Int) ∧ Hid (SR w wr ∧ n5 l c t n m ((d : Nat) : Int))) (fun i _ => 4 - (intOf i).toNat)
                    case atStart => exact ⟨0, by omega, rfl, Lib.hid ⟨HS3.out, n5_0 l c t n m⟩⟩
                    case round =>
                      clear HS3
                      obtain ⟨d, hd, rfl, HT⟩ := hrel
                      by_cases hld : d ≤ 3
                      · obtain ⟨x, hx⟩ : ∃ x : Int, x = ((d : Nat) : Int) := ⟨_, rfl⟩
                        have x_hi : x ≤ 3 := by omega
                        have x_lo : -2 < x := by omega
                        have HC4 : Hid (x + 1 = ((d + 1 : Nat) : Int) ∧ (4 - (x + 1).toNat < 4 - x.toNat) ∧ d + 1 ≤ 4) := Lib.hid ⟨by omega, by omega, by omega⟩
                        have HN4 := Lib.hid HT.out.2
                        have HS4 := Lib.hid HT.out.1
                        rw [← hx] at HN4 ⊢
                        clear HT hx hd hld
                        have HNM := rnum_any c t n m x
                        have S0 : SR w (wr.alloc (.cells #[.int .i64 c, .int .i64 t, .int .i64 n, .int .i64 m, .int .i64 x] 28)) := HS4.out.next ((Below.refl _ _).alloc (Nat.le_refl _) _)
                        have M0 := new0 wr 28 (eL c t n m x)
                        cases hok : okN c n m x
                        · have HX := Lib.hid (n5_succ HN4.out (okE_no hok))
                          rw [hok] at HNM
                          clear hok
                          obtain ⟨u0, u1, u2, u3, u4, u5⟩ := five M0
                          go_wp2_with fail
                          refine (HNM _).mono ?_; rintro e w2 ⟨rfl, hb2⟩
                          have S2 := SR.next S0 hb2
                          clear hb2 u0 u1 u2 u3 u4 u5 M0 S0
                          go_wp2
                          exact ⟨⟨d + 1, HC4.out.2.2, by rw [← HC4.out.1], Lib.hid ⟨S2, by rw [← HC4.out.1]; exact HX.out⟩⟩, HC4.out.2.1⟩
                        · have HE := Lib.hid (okE_of HA.out hok)
                          rw [hok] at HNM
                          clear hok
                          have HTX := rText_yes ⟨c, t, n, m, x⟩ (hv := HE.out)
                          have HY := Lib.hid (fun h => n5_succ HN4.out (fun _ => (h : textE ⟨c, t, n, m, x⟩ ≠ l)))
                          have HZ := Lib.hid (fun h => rparV_yes (l := l) (e := ⟨c, t, n, m, x⟩) HE.out h)
                          generalize textE ⟨c, t, n, m, x⟩ = T at HTX HY HZ
                          obtain ⟨u0, u1, u2, u3, u4, u5⟩ := five M0
                          by_cases hx : T = l
                          · have hb := s_eq hx
                            have HX := Lib.hid (HZ.out hx)
                            clear hx HY HZ HE
                            go_wp2_with fail
                            refine (HNM _).mono ?_; rintro e w2 ⟨rfl, hb2⟩
                            have S2 := SR.next S0 hb2
                            have M2 := M0.below hb2 M0.lt
                            clear hb2 u0 u1 u2 u3 u4 u5 M0 S0
                            obtain ⟨u0, u1, u2, u3, u4, u5⟩ := five M2
                            go_wp2_with fail
                            refine (HTX _).mono ?_; rintro e w3 ⟨rfl, hb3⟩
                            have S3 := SR.next S2 hb3
                            have M3 := M2.below hb3 M2.lt
                            clear hb3 u0 u1 u2 u3 u4 u5 M2 S2
                            obtain ⟨u0, u1, u2, u3, u4, u5⟩ := five M3
                            obtain ⟨r0, r1, r2, r3, r4, r5⟩ := five S3.1
                            go_wp2_with fail
                            have RF := (((((S3.1).put 0 (.int .i64 c)).put 1 (.int .i64 t)).put 2 (.int .i64 n)).put 3 (.int .i64 m)).put 4 (.int .i64 x)
                            have BF := (((((S3.2).setCell (p := ⟨w.heap.size, 0, none⟩) (Nat.le_refl _) (.int .i64 c)).setCell (p := ⟨w.heap.size, 1, none⟩) (Nat.le_refl _) (.int .i64 t)).setCell (p := ⟨w.heap.size, 2, none⟩) (Nat.le_refl _) (.int .i64 n)).setCell (p := ⟨w.heap.size, 3, none⟩) (Nat.le_refl _) (.int .i64 m)).setCell (p := ⟨w.heap.size, 4, none⟩) (Nat.le_refl _) (.int .i64 x)
                            clear r0 r1 r2 r3 r4 r5
                            obtain ⟨r0, r1, r2, r3, r4, r5⟩ := five RF
                            exact bodyPost_ret (v := .tuple #[eV c t n m x, .bool true]) (by simp [results, Tryd.results22, go_sem, r0, r1, r2, r3, r4]) rfl ⟨by rw [HX.out], BF⟩
                          · have hb := s_ne hx
                            have HX := Lib.hid (HY.out hx)
                            clear hx HY HZ HE
                            go_wp2_with fail
                            refine (HNM _).mono ?_; rintro e w2 ⟨rfl, hb2⟩
                            have S2 := SR.next S0 hb2
                            have M2 := M0.below hb2 M0.lt
                            clear hb2 u0 u1 u2 u3 u4 u5 M0 S0
                            obtain ⟨u0, u1, u2, u3, u4, u5⟩ := five M2
                            go_wp2_with fail
                            refine (HTX _).mono ?_; rintro e w3 ⟨rfl, hb3⟩
                            have S3 := SR.next S2 hb3
                            have M3 := M2.below hb3 M2.lt
                            clear hb3 u0 u1 u2 u3 u4 u5 M2 S2
                            go_wp2_with fail
                            exact ⟨⟨d + 1, HC4.out.2.2, by rw [← HC4.out.1], Lib.hid ⟨S3, by rw [← HC4.out.1]; exact HX.out⟩⟩, HC4.out.2.1⟩
                      · have hS := HT.out.1
                        have HX : Hid (n4 l c t n (m + 1)) := Lib.hid (by
                          obtain rfl : d = 4 := by omega
                          exact n4_succ HN3.out HT.out.2)
                        clear HT
                        go_wp2
                        exact ⟨⟨b + 1, HC3.out.2.2, by rw [← HC3.out.1], Lib.hid ⟨hS, by rw [← HC3.out.1]; exact HX.out⟩⟩, HC3.out.2.1⟩
                  · have hS := HT.out.1
                    have HX : Hid (n3 l c t (n + 1)) := Lib.hid (by
                      obtain rfl : b = 10 := by omega
                      exact n3_succ HN2.out HT.out.2)
                    clear HT
                    go_wp2
                    exact ⟨⟨a + 1, HC2.out.2.2, by rw [← HC2.out.1], Lib.hid ⟨hS, by rw [← HC2.out.1]; exact HX.out⟩⟩, HC2.out.2.1⟩
              · have hS := HT.out.1
                have HX : Hid (n2 l c (t + 1)) := Lib.hid (by
                  obtain rfl : a = 100 := by omega
                  exact n2_succ HN1.out HT.out.2)
                clear HT
                go_wp2
                exact ⟨⟨j + 1, HC1.out.2.2, by rw [← HC1.out.1], Lib.hid ⟨hS, by rw [← HC1.out.1]; exact HX.out⟩⟩, HC1.out.2.1⟩
        · have hS := HT.out.1
          have HX : Hid (n1 l (c + 1)) := Lib.hid (by
            obtain rfl : j = 7 := by omega
            exact n1_succ HN0.out HT.out.2)
          clear HT
          go_wp2
          exact ⟨⟨k + 1, HC0.out.2.2, by rw [← HC0.out.1], Lib.hid ⟨hS, by rw [← HC0.out.1]; exact HX.out⟩⟩, HC0.out.2.1⟩
    · have hS := HT.out.1
      have he : rparV l = (eV 0 0 0 0 0, false) := by
        obtain rfl : k = 12 := by omega
        exact rparV_no HT.out.2
      have hz := hS.1.lt
      obtain ⟨r0, r1, r2, r3, r4, r5⟩ := five hS.1
      clear HT
      go_wp2_with fail
      have RF := (((((hS.1).put 0 (.int .i64 0)).put 1 (.int .i64 0)).put 2 (.int .i64 0)).put 3 (.int .i64 0)).put 4 (.int .i64 0)
      have BF := (((((hS.2).setCell (p := ⟨w.heap.size, 0, none⟩) (Nat.le_refl _) (.int .i64 0)).setCell (p := ⟨w.heap.size, 1, none⟩) (Nat.le_refl _) (.int .i64 0)).setCell (p := ⟨w.heap.size, 2, none⟩) (Nat.le_refl _) (.int .i64 0)).setCell (p := ⟨w.heap.size, 3, none⟩) (Nat.le_refl _) (.int .i64 0)).setCell (p := ⟨w.heap.size, 4, none⟩) (Nat.le_refl _) (.int .i64 0)
      clear r0 r1 r2 r3 r4 r5
      obtain ⟨r0, r1, r2, r3, r4, r5⟩ := five RF
      exact bodyPost_ret (v := .tuple #[eV 0 0 0 0 0, .bool false]) (by simp [results, Tryd.results22, go_sem, r0, r1, r2, r3, r4]) rfl ⟨by rw [he], BF⟩
end Go.Proofs.YtfdolapiikgebaaDoor.efFn
