/- The text of an effect: what the reference's Text returns. -/
import Derived.Test.YtfdolapiikgebaaDoorEfRTextB
import Derived.Test.YtfdolapiikgebaaDoorEfRTextC
import Derived.Laws.Concat
import Derived.Deep.QuietTactic
import Derived.BigQuiet
namespace Go.Proofs.YtfdolapiikgebaaDoor.efFn
open Go.ChangeShapes Go.WideShapes Go.ChangeAt Go.RowKit drMem
set_option linter.unusedVariables false

theorem rText_yes (e : Ef) (w : World) (hv : e.ok = true) : Calls Tryd.prog 21 #[e.v] w fun r w' => r = .returned (.string (bs (textE e))) ∧ Below w.heap.size w w' := by
  have hb := ok_bd hv
  obtain ⟨hN, hA⟩ := okE_parts hv
  obtain ⟨c, t, n, m, k⟩ := e
  have h0 : 1 ≤ c := hb.c0
  have h1 : c ≤ 12 := hb.c1
  have t0 : 0 ≤ t := hb.t0
  have t1 : t ≤ 6 := hb.t1
  obtain ⟨p, rfl⟩ := Int.eq_ofNat_of_zero_le (show 0 ≤ n from hb.n0)
  obtain ⟨q, rfl⟩ := Int.eq_ofNat_of_zero_le (show 0 ≤ m from hb.m0)
  obtain ⟨r, rfl⟩ := Int.eq_ofNat_of_zero_le (show 0 ≤ k from hb.k0)
  have p1 : (p : Int) ≤ 99 := hb.n1
  have q1 : (q : Int) ≤ 9 := hb.m1
  have r1 : (r : Int) ≤ 3 := hb.k1
  rcases codesR c h0 h1 with rfl | rfl | rfl | rfl | rfl | rfl | rfl | rfl | rfl | rfl | rfl | rfl
  · have hd := of_decide_eq_true (show decide _ = true from hN)
    dsimp only at hd
    obtain rfl : q = 0 := by omega
    obtain rfl : r = 0 := by omega
    rcases kindsR t t0 t1 with rfl | rfl | rfl | rfl | rfl | rfl | rfl
    · exact absurd (show aimB (kd 1) 0 = true from hA) (by decide)
    · exact rText_1_1 p (by omega) w
    · exact rText_1_2 p (by omega) w
    · exact rText_1_3 p (by omega) w
    · exact rText_1_4 p (by omega) w
    · exact rText_1_5 p (by omega) w
    · exact absurd (show aimB (kd 1) 6 = true from hA) (by decide)
  · have hd := of_decide_eq_true (show decide _ = true from hN)
    dsimp only at hd
    obtain rfl : q = 0 := by omega
    obtain rfl : r = 0 := by omega
    rcases kindsR t t0 t1 with rfl | rfl | rfl | rfl | rfl | rfl | rfl
    · exact rText_2_0 p (by omega) w
    · exact absurd (show aimB (kd 2) 1 = true from hA) (by decide)
    · exact absurd (show aimB (kd 2) 2 = true from hA) (by decide)
    · exact absurd (show aimB (kd 2) 3 = true from hA) (by decide)
    · exact rText_2_4 p (by omega) w
    · exact absurd (show aimB (kd 2) 5 = true from hA) (by decide)
    · exact absurd (show aimB (kd 2) 6 = true from hA) (by decide)
  · have hd := of_decide_eq_true (show decide _ = true from hN)
    dsimp only at hd
    obtain rfl : q = 0 := by omega
    obtain rfl : r = 0 := by omega
    rcases kindsR t t0 t1 with rfl | rfl | rfl | rfl | rfl | rfl | rfl
    · exact rText_3_0 p (by omega) w
    · exact absurd (show aimB (kd 3) 1 = true from hA) (by decide)
    · exact absurd (show aimB (kd 3) 2 = true from hA) (by decide)
    · exact absurd (show aimB (kd 3) 3 = true from hA) (by decide)
    · exact rText_3_4 p (by omega) w
    · exact absurd (show aimB (kd 3) 5 = true from hA) (by decide)
    · exact absurd (show aimB (kd 3) 6 = true from hA) (by decide)
  · have hd := of_decide_eq_true (show decide _ = true from hN)
    dsimp only at hd
    obtain rfl : q = 0 := by omega
    obtain rfl : r = 0 := by omega
    rcases kindsR t t0 t1 with rfl | rfl | rfl | rfl | rfl | rfl | rfl
    · exact rText_4_0 p (by omega) w
    · exact absurd (show aimB (kd 4) 1 = true from hA) (by decide)
    · exact absurd (show aimB (kd 4) 2 = true from hA) (by decide)
    · exact absurd (show aimB (kd 4) 3 = true from hA) (by decide)
    · exact rText_4_4 p (by omega) w
    · exact absurd (show aimB (kd 4) 5 = true from hA) (by decide)
    · exact absurd (show aimB (kd 4) 6 = true from hA) (by decide)
  · have hd := of_decide_eq_true (show decide _ = true from hN)
    dsimp only at hd
    obtain rfl : p = 0 := by omega
    obtain rfl : q = 0 := by omega
    obtain rfl : r = 0 := by omega
    rcases kindsR t t0 t1 with rfl | rfl | rfl | rfl | rfl | rfl | rfl
    · exact absurd (show aimB (kd 5) 0 = true from hA) (by decide)
    · exact rText_5_1 w
    · exact rText_5_2 w
    · exact rText_5_3 w
    · exact absurd (show aimB (kd 5) 4 = true from hA) (by decide)
    · exact absurd (show aimB (kd 5) 5 = true from hA) (by decide)
    · exact absurd (show aimB (kd 5) 6 = true from hA) (by decide)
  · have hd := of_decide_eq_true (show decide _ = true from hN)
    dsimp only at hd
    obtain rfl : p = 0 := by omega
    obtain rfl : q = 0 := by omega
    obtain rfl : r = 0 := by omega
    rcases kindsR t t0 t1 with rfl | rfl | rfl | rfl | rfl | rfl | rfl
    · exact absurd (show aimB (kd 6) 0 = true from hA) (by decide)
    · exact rText_6_1 w
    · exact rText_6_2 w
    · exact rText_6_3 w
    · exact absurd (show aimB (kd 6) 4 = true from hA) (by decide)
    · exact absurd (show aimB (kd 6) 5 = true from hA) (by decide)
    · exact absurd (show aimB (kd 6) 6 = true from hA) (by decide)
  · have hd := of_decide_eq_true (show decide _ = true from hN)
    dsimp only at hd
    obtain rfl : p = 0 := by omega
    obtain rfl : q = 0 := by omega
    obtain rfl : r = 0 := by omega
    rcases kindsR t t0 t1 with rfl | rfl | rfl | rfl | rfl | rfl | rfl
    · exact absurd (show aimB (kd 7) 0 = true from hA) (by decide)
    · exact absurd (show aimB (kd 7) 1 = true from hA) (by decide)
    · exact absurd (show aimB (kd 7) 2 = true from hA) (by decide)
    · exact absurd (show aimB (kd 7) 3 = true from hA) (by decide)
    · exact absurd (show aimB (kd 7) 4 = true from hA) (by decide)
    · exact absurd (show aimB (kd 7) 5 = true from hA) (by decide)
    · exact rText_7_6 w
  · have hd := of_decide_eq_true (show decide _ = true from hN)
    dsimp only at hd
    obtain rfl : r = 0 := by omega
    rcases kindsR t t0 t1 with rfl | rfl | rfl | rfl | rfl | rfl | rfl
    · exact rText_8_0 p q (by omega) (by omega) w
    · exact rText_8_1 p q (by omega) (by omega) w
    · exact rText_8_2 p q (by omega) (by omega) w
    · exact rText_8_3 p q (by omega) (by omega) w
    · exact absurd (show aimB (kd 8) 4 = true from hA) (by decide)
    · exact absurd (show aimB (kd 8) 5 = true from hA) (by decide)
    · exact absurd (show aimB (kd 8) 6 = true from hA) (by decide)
  · have hd := of_decide_eq_true (show decide _ = true from hN)
    dsimp only at hd
    obtain rfl : q = 0 := by omega
    obtain rfl : r = 0 := by omega
    rcases kindsR t t0 t1 with rfl | rfl | rfl | rfl | rfl | rfl | rfl
    · exact rText_9_0 p (by omega) w
    · exact rText_9_1 p (by omega) w
    · exact rText_9_2 p (by omega) w
    · exact rText_9_3 p (by omega) w
    · exact absurd (show aimB (kd 9) 4 = true from hA) (by decide)
    · exact absurd (show aimB (kd 9) 5 = true from hA) (by decide)
    · exact absurd (show aimB (kd 9) 6 = true from hA) (by decide)
  · have hd := of_decide_eq_true (show decide _ = true from hN)
    dsimp only at hd
    obtain rfl : r = 0 := by omega
    rcases kindsR t t0 t1 with rfl | rfl | rfl | rfl | rfl | rfl | rfl
    · exact rText_10_0 p q (by omega) (by omega) w
    · exact absurd (show aimB (kd 10) 1 = true from hA) (by decide)
    · exact absurd (show aimB (kd 10) 2 = true from hA) (by decide)
    · exact absurd (show aimB (kd 10) 3 = true from hA) (by decide)
    · exact absurd (show aimB (kd 10) 4 = true from hA) (by decide)
    · exact absurd (show aimB (kd 10) 5 = true from hA) (by decide)
    · exact absurd (show aimB (kd 10) 6 = true from hA) (by decide)
  · have hd := of_decide_eq_true (show decide _ = true from hN)
    dsimp only at hd
    obtain rfl : p = 0 := by omega
    obtain rfl : q = 0 := by omega
    obtain rfl : r = 0 := by omega
    rcases kindsR t t0 t1 with rfl | rfl | rfl | rfl | rfl | rfl | rfl
    · exact absurd (show aimB (kd 11) 0 = true from hA) (by decide)
    · exact rText_11_1 w
    · exact rText_11_2 w
    · exact rText_11_3 w
    · exact absurd (show aimB (kd 11) 4 = true from hA) (by decide)
    · exact absurd (show aimB (kd 11) 5 = true from hA) (by decide)
    · exact absurd (show aimB (kd 11) 6 = true from hA) (by decide)
  · have hd := of_decide_eq_true (show decide _ = true from hN)
    dsimp only at hd
    obtain rfl : q = 0 := by omega
    rcases kindsR t t0 t1 with rfl | rfl | rfl | rfl | rfl | rfl | rfl
    · obtain rfl | rfl | rfl | rfl : r = 0 ∨ r = 1 ∨ r = 2 ∨ r = 3 := by omega
      · exact rText_12_0_0 p (by omega) w
      · exact rText_12_0_1 p (by omega) w
      · exact rText_12_0_2 p (by omega) w
      · exact rText_12_0_3 p (by omega) w
    · exact absurd (show aimB (kd 12) 1 = true from hA) (by decide)
    · exact absurd (show aimB (kd 12) 2 = true from hA) (by decide)
    · exact absurd (show aimB (kd 12) 3 = true from hA) (by decide)
    · exact absurd (show aimB (kd 12) 4 = true from hA) (by decide)
    · exact absurd (show aimB (kd 12) 5 = true from hA) (by decide)
    · exact absurd (show aimB (kd 12) 6 = true from hA) (by decide)
end Go.Proofs.YtfdolapiikgebaaDoor.efFn
