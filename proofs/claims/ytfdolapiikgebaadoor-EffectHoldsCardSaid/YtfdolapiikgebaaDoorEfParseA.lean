/- The effect with a text: what Parse returns. -/
import Derived.Test.YtfdolapiikgebaaDoorEfRead
import Derived.Test.YtfdolapiikgebaaDoorEfTextE
import Derived.BigRegion
namespace Go.Proofs.YtfdolapiikgebaaDoor.efFn
open Go.ChangeShapes Go.WideShapes Go.ChangeAt Go.RowKit drMem
set_option linter.unusedVariables false

set_option maxRecDepth 100000 in
set_option maxHeartbeats 8000000 in
theorem Parse_pl_bad (l : List UInt8) (w : World) (hG : G w) (hl : l.length ≤ 900) (cd kt : Int) (nm : ByteArray) (kk : Int) (hcd : cdW (c1 l) = cd) (hr : ruleV cd = plV nm kk)
    (hkt : kdW (c2 l) = kt) (hv : okE cd kt 0 0 0 = false) :
    Calls Tryd.prog 27 #[.string (bs l)] w fun e w' => e = .returned (.tuple #[eV 0 0 0 0 0, .int .i64 6]) ∧ Below w.heap.size w w' := by
  have HR := ruleOf_any cd
  rw [hr] at HR
  have TA := ta_pl nm kk
  have HCD := Lib.hid hcd
  have HKT := Lib.hid hkt
  have HG := Lib.hid hG
  have l1 := c2_len l
  have l3 := c1_len l
  have HT := fun w => Text_no cd kt 0 0 0 w hv
  clear hr hcd hkt hG hv
  go_enter Tryd.func27, Tryd.ntmps27
  go_wp2_with fail
  have B0 : Below w.heap.size w (w.alloc (.cells #[.int .i64 0, .int .i64 0, .int .i64 0, .int .i64 0, .int .i64 0] 28)) := (Below.refl _ _).alloc (Nat.le_refl _) _
  have R0 := has.new w 28 (eL 0 0 0 0 0)
  refine (Cut_at l _ _ rfl rfl _ (HG.out.below B0) (by omega)).mono ?_; rintro e w1 ⟨⟨f1, rfl⟩, hb1⟩
  have B1 := next B0 hb1
  have R1 : has w1 w.heap.size 28 (eL 0 0 0 0 0) := R0.below hb1 R0.lt
  clear hb1 B0 R0
  go_wp2_with fail
  refine (codeWith_any (c1 l) _).mono ?_; rintro e w2 ⟨rfl, hb2⟩
  rw [HCD.out]
  have B2 := next B1 hb2
  have R2 := R1.below hb2 R1.lt
  clear hb2 B1 R1
  have z2 : w.heap.size < w2.heap.size := R2.lt
  have E2 := has.new w2 28 (eL cd 0 0 0 0)
  have HB3 := Lib.hid (B2.alloc (Nat.le_of_lt z2) (.cells #[.int .i64 cd, .int .i64 0, .int .i64 0, .int .i64 0, .int .i64 0] 28))
  have HR3 := Lib.hid (R2.alloc (.cells #[.int .i64 cd, .int .i64 0, .int .i64 0, .int .i64 0, .int .i64 0] 28))
  have HE3 := Lib.hid E2
  clear E2
  go_wp2_with fail
  refine (HR _).mono ?_; rintro e w3 ⟨rfl, hw3⟩
  have B3 : Below w.heap.size w w3 := hw3 ▸ HB3.out
  have R3 : has w3 w.heap.size 28 (eL 0 0 0 0 0) := hw3 ▸ HR3.out
  have E3 : has w3 w2.heap.size 28 (eL cd 0 0 0 0) := hw3 ▸ HE3.out
  have z3 : w2.heap.size < w3.heap.size := E3.lt
  clear hw3 R2 B2
  have nRE : w.heap.size ≠ w2.heap.size := by omega
  go_wp2_with fail
  refine (kindWith_any (c2 l) _ (HG.out.below B3)).mono ?_; rintro e w8 ⟨rfl, hb8⟩
  rw [HKT.out]
  have B8 := next B3 hb8
  have R8 := R3.below hb8 R3.lt
  have E8 := E3.below hb8 E3.lt
  clear hb8 B3 R3 E3
  obtain ⟨u0, u1, u2, u3, u4, u5⟩ := five E8
  have E9 : has (w8.setCell ⟨w2.heap.size, 1, none⟩ (.int .i64 kt)) w2.heap.size 28 (eL cd kt 0 0 0) := E8.put 1 (.int .i64 kt)
  have R9 : has (w8.setCell ⟨w2.heap.size, 1, none⟩ (.int .i64 kt)) w.heap.size 28 (eL 0 0 0 0 0) := R8.far (p := ⟨w2.heap.size, 1, none⟩) nRE _
  have B9 : Below w.heap.size w (w8.setCell ⟨w2.heap.size, 1, none⟩ (.int .i64 kt)) := B8.setCell (p := ⟨w2.heap.size, 1, none⟩) (Nat.le_of_lt z2) _
  have HE9 := Lib.hid E9; have HR9 := Lib.hid R9; have HB9 := Lib.hid B9
  clear E9 R9 B9
  go_wp2_with fail
  refine (HT _).mono ?_; rintro e wA ⟨rfl, hbA⟩
  have BA := next HB9.out hbA
  have RA := HR9.out.below hbA HR9.out.lt
  have EA := HE9.out.below hbA HE9.out.lt
  clear hbA u0 u1 u2 u3 u4 u5 E8 R8 B8
  obtain ⟨u0, u1, u2, u3, u4, u5⟩ := five EA
  obtain ⟨v0, v1, v2, v3, v4, v5⟩ := five RA
  go_wp2_with fail
  have RF := (((((RA).put 0 (.int .i64 0)).put 1 (.int .i64 0)).put 2 (.int .i64 0)).put 3 (.int .i64 0)).put 4 (.int .i64 0)
  have BF := (((((BA).setCell (p := ⟨w.heap.size, 0, none⟩) (Nat.le_refl _) (.int .i64 0)).setCell (p := ⟨w.heap.size, 1, none⟩) (Nat.le_refl _) (.int .i64 0)).setCell (p := ⟨w.heap.size, 2, none⟩) (Nat.le_refl _) (.int .i64 0)).setCell (p := ⟨w.heap.size, 3, none⟩) (Nat.le_refl _) (.int .i64 0)).setCell (p := ⟨w.heap.size, 4, none⟩) (Nat.le_refl _) (.int .i64 0)
  obtain ⟨r0, r1, r2, r3, r4, r5⟩ := five RF
  exact bodyPost_ret (v := .tuple #[eV 0 0 0 0 0, .int .i64 6]) (by simp [results, Tryd.results27, go_sem, r0, r1, r2, r3, r4]) rfl ⟨rfl, BF⟩

set_option maxRecDepth 100000 in
set_option maxHeartbeats 8000000 in
theorem Parse_pl_ne (l : List UInt8) (w : World) (hG : G w) (hl : l.length ≤ 900) (cd kt : Int) (nm : ByteArray) (kk : Int) (hcd : cdW (c1 l) = cd) (hr : ruleV cd = plV nm kk)
    (hkt : kdW (c2 l) = kt) (hv : okE cd kt 0 0 0 = true) (ht : textE ⟨cd, kt, 0, 0, 0⟩ ≠ l) :
    Calls Tryd.prog 27 #[.string (bs l)] w fun e w' => e = .returned (.tuple #[eV 0 0 0 0 0, .int .i64 6]) ∧ Below w.heap.size w w' := by
  have HR := ruleOf_any cd
  rw [hr] at HR
  have TA := ta_pl nm kk
  have HCD := Lib.hid hcd
  have HKT := Lib.hid hkt
  have HG := Lib.hid hG
  have l1 := c2_len l
  have l3 := c1_len l
  have HT := fun w h => Text_yes ⟨cd, kt, 0, 0, 0⟩ w h hv
  have hb := s_ne ht
  have hb' : (!((bs (textE ⟨cd, kt, 0, 0, 0⟩)).toList == (bs l).toList)) = true := by rw [hb]; rfl
  clear hr hcd hkt hG hv ht
  go_enter Tryd.func27, Tryd.ntmps27
  go_wp2_with fail
  have B0 : Below w.heap.size w (w.alloc (.cells #[.int .i64 0, .int .i64 0, .int .i64 0, .int .i64 0, .int .i64 0] 28)) := (Below.refl _ _).alloc (Nat.le_refl _) _
  have R0 := has.new w 28 (eL 0 0 0 0 0)
  refine (Cut_at l _ _ rfl rfl _ (HG.out.below B0) (by omega)).mono ?_; rintro e w1 ⟨⟨f1, rfl⟩, hb1⟩
  have B1 := next B0 hb1
  have R1 : has w1 w.heap.size 28 (eL 0 0 0 0 0) := R0.below hb1 R0.lt
  clear hb1 B0 R0
  go_wp2_with fail
  refine (codeWith_any (c1 l) _).mono ?_; rintro e w2 ⟨rfl, hb2⟩
  rw [HCD.out]
  have B2 := next B1 hb2
  have R2 := R1.below hb2 R1.lt
  clear hb2 B1 R1
  have z2 : w.heap.size < w2.heap.size := R2.lt
  have E2 := has.new w2 28 (eL cd 0 0 0 0)
  have HB3 := Lib.hid (B2.alloc (Nat.le_of_lt z2) (.cells #[.int .i64 cd, .int .i64 0, .int .i64 0, .int .i64 0, .int .i64 0] 28))
  have HR3 := Lib.hid (R2.alloc (.cells #[.int .i64 cd, .int .i64 0, .int .i64 0, .int .i64 0, .int .i64 0] 28))
  have HE3 := Lib.hid E2
  clear E2
  go_wp2_with fail
  refine (HR _).mono ?_; rintro e w3 ⟨rfl, hw3⟩
  have B3 : Below w.heap.size w w3 := hw3 ▸ HB3.out
  have R3 : has w3 w.heap.size 28 (eL 0 0 0 0 0) := hw3 ▸ HR3.out
  have E3 : has w3 w2.heap.size 28 (eL cd 0 0 0 0) := hw3 ▸ HE3.out
  have z3 : w2.heap.size < w3.heap.size := E3.lt
  clear hw3 R2 B2
  have nRE : w.heap.size ≠ w2.heap.size := by omega
  go_wp2_with fail
  refine (kindWith_any (c2 l) _ (HG.out.below B3)).mono ?_; rintro e w8 ⟨rfl, hb8⟩
  rw [HKT.out]
  have B8 := next B3 hb8
  have R8 := R3.below hb8 R3.lt
  have E8 := E3.below hb8 E3.lt
  clear hb8 B3 R3 E3
  obtain ⟨u0, u1, u2, u3, u4, u5⟩ := five E8
  have E9 : has (w8.setCell ⟨w2.heap.size, 1, none⟩ (.int .i64 kt)) w2.heap.size 28 (eL cd kt 0 0 0) := E8.put 1 (.int .i64 kt)
  have R9 : has (w8.setCell ⟨w2.heap.size, 1, none⟩ (.int .i64 kt)) w.heap.size 28 (eL 0 0 0 0 0) := R8.far (p := ⟨w2.heap.size, 1, none⟩) nRE _
  have B9 : Below w.heap.size w (w8.setCell ⟨w2.heap.size, 1, none⟩ (.int .i64 kt)) := B8.setCell (p := ⟨w2.heap.size, 1, none⟩) (Nat.le_of_lt z2) _
  have HE9 := Lib.hid E9; have HR9 := Lib.hid R9; have HB9 := Lib.hid B9
  clear E9 R9 B9
  go_wp2_with fail
  refine (HT _ (HG.out.below HB9.out)).mono ?_; rintro e wA ⟨rfl, hbA⟩
  have BA := next HB9.out hbA
  have RA := HR9.out.below hbA HR9.out.lt
  have EA := HE9.out.below hbA HE9.out.lt
  clear hbA u0 u1 u2 u3 u4 u5 E8 R8 B8
  obtain ⟨u0, u1, u2, u3, u4, u5⟩ := five EA
  obtain ⟨v0, v1, v2, v3, v4, v5⟩ := five RA
  go_wp2_with fail
  have RF := (((((RA).put 0 (.int .i64 0)).put 1 (.int .i64 0)).put 2 (.int .i64 0)).put 3 (.int .i64 0)).put 4 (.int .i64 0)
  have BF := (((((BA).setCell (p := ⟨w.heap.size, 0, none⟩) (Nat.le_refl _) (.int .i64 0)).setCell (p := ⟨w.heap.size, 1, none⟩) (Nat.le_refl _) (.int .i64 0)).setCell (p := ⟨w.heap.size, 2, none⟩) (Nat.le_refl _) (.int .i64 0)).setCell (p := ⟨w.heap.size, 3, none⟩) (Nat.le_refl _) (.int .i64 0)).setCell (p := ⟨w.heap.size, 4, none⟩) (Nat.le_refl _) (.int .i64 0)
  obtain ⟨r0, r1, r2, r3, r4, r5⟩ := five RF
  exact bodyPost_ret (v := .tuple #[eV 0 0 0 0 0, .int .i64 6]) (by simp [results, Tryd.results27, go_sem, r0, r1, r2, r3, r4]) rfl ⟨rfl, BF⟩

set_option maxRecDepth 100000 in
set_option maxHeartbeats 8000000 in
theorem Parse_pl_eq (l : List UInt8) (w : World) (hG : G w) (hl : l.length ≤ 900) (cd kt : Int) (nm : ByteArray) (kk : Int) (hcd : cdW (c1 l) = cd) (hr : ruleV cd = plV nm kk)
    (hkt : kdW (c2 l) = kt) (hv : okE cd kt 0 0 0 = true) (ht : textE ⟨cd, kt, 0, 0, 0⟩ = l) :
    Calls Tryd.prog 27 #[.string (bs l)] w fun e w' => e = .returned (.tuple #[eV cd kt 0 0 0, .int .i64 0]) ∧ Below w.heap.size w w' := by
  have HR := ruleOf_any cd
  rw [hr] at HR
  have TA := ta_pl nm kk
  have HCD := Lib.hid hcd
  have HKT := Lib.hid hkt
  have HG := Lib.hid hG
  have l1 := c2_len l
  have l3 := c1_len l
  have HT := fun w h => Text_yes ⟨cd, kt, 0, 0, 0⟩ w h hv
  have hb := s_eq ht
  have hb' : (!((bs (textE ⟨cd, kt, 0, 0, 0⟩)).toList == (bs l).toList)) = false := by rw [hb]; rfl
  clear hr hcd hkt hG hv ht
  go_enter Tryd.func27, Tryd.ntmps27
  go_wp2_with fail
  have B0 : Below w.heap.size w (w.alloc (.cells #[.int .i64 0, .int .i64 0, .int .i64 0, .int .i64 0, .int .i64 0] 28)) := (Below.refl _ _).alloc (Nat.le_refl _) _
  have R0 := has.new w 28 (eL 0 0 0 0 0)
  refine (Cut_at l _ _ rfl rfl _ (HG.out.below B0) (by omega)).mono ?_; rintro e w1 ⟨⟨f1, rfl⟩, hb1⟩
  have B1 := next B0 hb1
  have R1 : has w1 w.heap.size 28 (eL 0 0 0 0 0) := R0.below hb1 R0.lt
  clear hb1 B0 R0
  go_wp2_with fail
  refine (codeWith_any (c1 l) _).mono ?_; rintro e w2 ⟨rfl, hb2⟩
  rw [HCD.out]
  have B2 := next B1 hb2
  have R2 := R1.below hb2 R1.lt
  clear hb2 B1 R1
  have z2 : w.heap.size < w2.heap.size := R2.lt
  have E2 := has.new w2 28 (eL cd 0 0 0 0)
  have HB3 := Lib.hid (B2.alloc (Nat.le_of_lt z2) (.cells #[.int .i64 cd, .int .i64 0, .int .i64 0, .int .i64 0, .int .i64 0] 28))
  have HR3 := Lib.hid (R2.alloc (.cells #[.int .i64 cd, .int .i64 0, .int .i64 0, .int .i64 0, .int .i64 0] 28))
  have HE3 := Lib.hid E2
  clear E2
  go_wp2_with fail
  refine (HR _).mono ?_; rintro e w3 ⟨rfl, hw3⟩
  have B3 : Below w.heap.size w w3 := hw3 ▸ HB3.out
  have R3 : has w3 w.heap.size 28 (eL 0 0 0 0 0) := hw3 ▸ HR3.out
  have E3 : has w3 w2.heap.size 28 (eL cd 0 0 0 0) := hw3 ▸ HE3.out
  have z3 : w2.heap.size < w3.heap.size := E3.lt
  clear hw3 R2 B2
  have nRE : w.heap.size ≠ w2.heap.size := by omega
  go_wp2_with fail
  refine (kindWith_any (c2 l) _ (HG.out.below B3)).mono ?_; rintro e w8 ⟨rfl, hb8⟩
  rw [HKT.out]
  have B8 := next B3 hb8
  have R8 := R3.below hb8 R3.lt
  have E8 := E3.below hb8 E3.lt
  clear hb8 B3 R3 E3
  obtain ⟨u0, u1, u2, u3, u4, u5⟩ := five E8
  have E9 : has (w8.setCell ⟨w2.heap.size, 1, none⟩ (.int .i64 kt)) w2.heap.size 28 (eL cd kt 0 0 0) := E8.put 1 (.int .i64 kt)
  have R9 : has (w8.setCell ⟨w2.heap.size, 1, none⟩ (.int .i64 kt)) w.heap.size 28 (eL 0 0 0 0 0) := R8.far (p := ⟨w2.heap.size, 1, none⟩) nRE _
  have B9 : Below w.heap.size w (w8.setCell ⟨w2.heap.size, 1, none⟩ (.int .i64 kt)) := B8.setCell (p := ⟨w2.heap.size, 1, none⟩) (Nat.le_of_lt z2) _
  have HE9 := Lib.hid E9; have HR9 := Lib.hid R9; have HB9 := Lib.hid B9
  clear E9 R9 B9
  go_wp2_with fail
  refine (HT _ (HG.out.below HB9.out)).mono ?_; rintro e wA ⟨rfl, hbA⟩
  have BA := next HB9.out hbA
  have RA := HR9.out.below hbA HR9.out.lt
  have EA := HE9.out.below hbA HE9.out.lt
  clear hbA u0 u1 u2 u3 u4 u5 E8 R8 B8
  obtain ⟨u0, u1, u2, u3, u4, u5⟩ := five EA
  obtain ⟨v0, v1, v2, v3, v4, v5⟩ := five RA
  go_wp2_with fail
  have RF := (((((RA).put 0 (.int .i64 cd)).put 1 (.int .i64 kt)).put 2 (.int .i64 0)).put 3 (.int .i64 0)).put 4 (.int .i64 0)
  have BF := (((((BA).setCell (p := ⟨w.heap.size, 0, none⟩) (Nat.le_refl _) (.int .i64 cd)).setCell (p := ⟨w.heap.size, 1, none⟩) (Nat.le_refl _) (.int .i64 kt)).setCell (p := ⟨w.heap.size, 2, none⟩) (Nat.le_refl _) (.int .i64 0)).setCell (p := ⟨w.heap.size, 3, none⟩) (Nat.le_refl _) (.int .i64 0)).setCell (p := ⟨w.heap.size, 4, none⟩) (Nat.le_refl _) (.int .i64 0)
  obtain ⟨r0, r1, r2, r3, r4, r5⟩ := five RF
  exact bodyPost_ret (v := .tuple #[eV cd kt 0 0 0, .int .i64 0]) (by simp [results, Tryd.results27, go_sem, r0, r1, r2, r3, r4]) rfl ⟨rfl, BF⟩

end Go.Proofs.YtfdolapiikgebaaDoor.efFn
