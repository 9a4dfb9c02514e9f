/- The effect with a text: what Parse returns. -/
import Derived.Test.YtfdolapiikgebaaDoorEfRead
import Derived.Test.YtfdolapiikgebaaDoorEfTextE
import Derived.BigRegion
namespace Go.Proofs.YtfdolapiikgebaaDoor.efFn
open Go.ChangeShapes Go.WideShapes Go.ChangeAt Go.RowKit drMem
set_option linter.unusedVariables false

set_option maxRecDepth 100000 in
set_option maxHeartbeats 8000000 in
theorem Parse_so_bad (l : List UInt8) (w : World) (hG : G w) (hl : l.length ≤ 900) (cd kt p q r : Int) (nm : ByteArray) (kk x0 x1 x2 y0 y1 y2 : Int) (hcd : cdW (c1 l) = cd) (hr : ruleV cd = soV nm kk x0 x1 x2 y0 y1 y2)
    (z : List UInt8) (HRD : ∀ w, G w → Calls Tryd.prog 42 #[.string (bs (c2 l)), soV nm kk x0 x1 x2 y0 y1 y2] w fun e w' => e = .returned (.tuple #[.agg #[.int .i64 p, .int .i64 q, .int .i64 r], .string (bs z)]) ∧ Below w.heap.size w w')
    (hkt : kdW z = kt) (hv : okE cd kt p q r = false) :
    Calls Tryd.prog 27 #[.string (bs l)] w fun e w' => e = .returned (.tuple #[eV 0 0 0 0 0, .int .i64 6]) ∧ Below w.heap.size w w' := by
  have HR := ruleOf_any cd
  rw [hr] at HR
  have TA := ta_so nm kk x0 x1 x2 y0 y1 y2
  have HCD := Lib.hid hcd
  have HKT := Lib.hid hkt
  have HG := Lib.hid hG
  have l1 := c2_len l
  have l3 := c1_len l
  have HT := fun w => Text_no cd kt p q r w hv
  clear hr hcd hkt hG hv
  go_enter Tryd.func27, Tryd.ntmps27
  go_wp2_with fail
  have B0 : Below w.heap.size w (w.alloc (.cells #[.int .i64 0, .int .i64 0, .int .i64 0, .int .i64 0, .int .i64 0] 28)) := (Below.refl _ _).alloc (Nat.le_refl _) _
  have R0 := has.new w 28 (eL 0 0 0 0 0)
  refine (Cut_at l _ _ rfl rfl _ (HG.out.below B0) (by omega)).mono ?_; rintro e w1 ⟨⟨f1, rfl⟩, hb1⟩
  have B1 := next B0 hb1
  have R1 : has w1 w.heap.size 28 (eL 0 0 0 0 0) := R0.below hb1 R0.lt
  clear hb1 B0 R0
  go_wp2_with fail
  refine (codeWith_any (c1 l) _).mono ?_; rintro e w2 ⟨rfl, hb2⟩
  rw [HCD.out]
  have B2 := next B1 hb2
  have R2 := R1.below hb2 R1.lt
  clear hb2 B1 R1
  have z2 : w.heap.size < w2.heap.size := R2.lt
  have E2 := has.new w2 28 (eL cd 0 0 0 0)
  have HB3 := Lib.hid (B2.alloc (Nat.le_of_lt z2) (.cells #[.int .i64 cd, .int .i64 0, .int .i64 0, .int .i64 0, .int .i64 0] 28))
  have HR3 := Lib.hid (R2.alloc (.cells #[.int .i64 cd, .int .i64 0, .int .i64 0, .int .i64 0, .int .i64 0] 28))
  have HE3 := Lib.hid E2
  clear E2
  go_wp2_with fail
  refine (HR _).mono ?_; rintro e w3 ⟨rfl, hw3⟩
  have B3 : Below w.heap.size w w3 := hw3 ▸ HB3.out
  have R3 : has w3 w.heap.size 28 (eL 0 0 0 0 0) := hw3 ▸ HR3.out
  have E3 : has w3 w2.heap.size 28 (eL cd 0 0 0 0) := hw3 ▸ HE3.out
  have z3 : w2.heap.size < w3.heap.size := E3.lt
  clear hw3 R2 B2
  have N3 := has.new w3 66 [.int .i64 0, .int .i64 0, .int .i64 0]
  have HB4 := Lib.hid (B3.alloc (by omega) (.cells #[.int .i64 0, .int .i64 0, .int .i64 0] 66))
  have HR4 := Lib.hid (R3.alloc (.cells #[.int .i64 0, .int .i64 0, .int .i64 0] 66))
  have HE4 := Lib.hid (E3.alloc (.cells #[.int .i64 0, .int .i64 0, .int .i64 0] 66))
  have HN4 := Lib.hid N3
  clear N3 B3 R3 E3
  go_wp2_with fail
  refine (HRD _ (HG.out.below HB4.out)).mono ?_; rintro e w5 ⟨rfl, hb5⟩
  have B5 := next HB4.out hb5
  have R5 := HR4.out.below hb5 HR4.out.lt
  have E5 := HE4.out.below hb5 HE4.out.lt
  have N5 : has w5 w3.heap.size 66 [.int .i64 0, .int .i64 0, .int .i64 0] := HN4.out.below hb5 HN4.out.lt
  clear hb5
  have z5 : w3.heap.size < w5.heap.size := N5.lt
  have nEN : w2.heap.size ≠ w3.heap.size := by omega
  have nNE : w3.heap.size ≠ w2.heap.size := by omega
  have nRN : w.heap.size ≠ w3.heap.size := by omega
  have nRE : w.heap.size ≠ w2.heap.size := by omega
  have N6 : has (((w5.setCell ⟨w3.heap.size, 0, none⟩ (.int .i64 p)).setCell ⟨w3.heap.size, 1, none⟩ (.int .i64 q)).setCell ⟨w3.heap.size, 2, none⟩ (.int .i64 r)) w3.heap.size 66 [.int .i64 p, .int .i64 q, .int .i64 r] := ((N5.put 0 (.int .i64 p)).put 1 (.int .i64 q)).put 2 (.int .i64 r)
  have E6 : has (((w5.setCell ⟨w3.heap.size, 0, none⟩ (.int .i64 p)).setCell ⟨w3.heap.size, 1, none⟩ (.int .i64 q)).setCell ⟨w3.heap.size, 2, none⟩ (.int .i64 r)) w2.heap.size 28 (eL cd 0 0 0 0) := ((E5.far (p := ⟨w3.heap.size, 0, none⟩) nEN _).far (p := ⟨w3.heap.size, 1, none⟩) nEN _).far (p := ⟨w3.heap.size, 2, none⟩) nEN _
  have R6 : has (((w5.setCell ⟨w3.heap.size, 0, none⟩ (.int .i64 p)).setCell ⟨w3.heap.size, 1, none⟩ (.int .i64 q)).setCell ⟨w3.heap.size, 2, none⟩ (.int .i64 r)) w.heap.size 28 (eL 0 0 0 0 0) := ((R5.far (p := ⟨w3.heap.size, 0, none⟩) nRN _).far (p := ⟨w3.heap.size, 1, none⟩) nRN _).far (p := ⟨w3.heap.size, 2, none⟩) nRN _
  have B6 : Below w.heap.size w (((w5.setCell ⟨w3.heap.size, 0, none⟩ (.int .i64 p)).setCell ⟨w3.heap.size, 1, none⟩ (.int .i64 q)).setCell ⟨w3.heap.size, 2, none⟩ (.int .i64 r)) := ((B5.setCell (p := ⟨w3.heap.size, 0, none⟩) (by show w.heap.size ≤ w3.heap.size; omega) _).setCell (p := ⟨w3.heap.size, 1, none⟩) (by show w.heap.size ≤ w3.heap.size; omega) _).setCell (p := ⟨w3.heap.size, 2, none⟩) (by show w.heap.size ≤ w3.heap.size; omega) _
  obtain ⟨s0, s1, s2, s3⟩ := three N5
  go_wp2_with fail
  obtain ⟨W6, hW6⟩ : ∃ W, ((w5.setCell ⟨w3.heap.size, 0, none⟩ (.int .i64 p)).setCell ⟨w3.heap.size, 1, none⟩ (.int .i64 q)).setCell ⟨w3.heap.size, 2, none⟩ (.int .i64 r) = W := ⟨_, rfl⟩
  rw [hW6] at N6 E6 R6 B6 ⊢
  clear hW6 s0 s1 s2 s3 N5 E5 R5 B5
  obtain ⟨s0, s1, s2, s3⟩ := three N6
  obtain ⟨u0, u1, u2, u3, u4, u5⟩ := five E6
  go_region
  have E7 : has ((((W6.setCell ⟨w2.heap.size, 2, none⟩ (.int .i64 p)).setCell ⟨w2.heap.size, 3, none⟩ (.int .i64 q)).setCell ⟨w2.heap.size, 4, none⟩ (.int .i64 r)).drew) w2.heap.size 28 (eL cd 0 p q r) := ((E6.put 2 (.int .i64 p)).put 3 (.int .i64 q)).put 4 (.int .i64 r)
  have R7 : has ((((W6.setCell ⟨w2.heap.size, 2, none⟩ (.int .i64 p)).setCell ⟨w2.heap.size, 3, none⟩ (.int .i64 q)).setCell ⟨w2.heap.size, 4, none⟩ (.int .i64 r)).drew) w.heap.size 28 (eL 0 0 0 0 0) := ((R6.far (p := ⟨w2.heap.size, 2, none⟩) nRE _).far (p := ⟨w2.heap.size, 3, none⟩) nRE _).far (p := ⟨w2.heap.size, 4, none⟩) nRE _
  have B7 : Below w.heap.size w ((((W6.setCell ⟨w2.heap.size, 2, none⟩ (.int .i64 p)).setCell ⟨w2.heap.size, 3, none⟩ (.int .i64 q)).setCell ⟨w2.heap.size, 4, none⟩ (.int .i64 r)).drew) := (((B6.setCell (p := ⟨w2.heap.size, 2, none⟩) (Nat.le_of_lt z2) _).setCell (p := ⟨w2.heap.size, 3, none⟩) (Nat.le_of_lt z2) _).setCell (p := ⟨w2.heap.size, 4, none⟩) (Nat.le_of_lt z2) _).drew
  obtain ⟨W7, hW7⟩ : ∃ W, (((W6.setCell ⟨w2.heap.size, 2, none⟩ (.int .i64 p)).setCell ⟨w2.heap.size, 3, none⟩ (.int .i64 q)).setCell ⟨w2.heap.size, 4, none⟩ (.int .i64 r)).drew = W := ⟨_, rfl⟩
  rw [hW7] at E7 R7 B7 ⊢
  clear hW7 s0 s1 s2 s3 u0 u1 u2 u3 u4 u5 N6 E6 R6 B6
  go_wp2_with fail
  refine (kindWith_any z _ (HG.out.below B7)).mono ?_; rintro e w8 ⟨rfl, hb8⟩
  rw [HKT.out]
  have B8 := next B7 hb8
  have R8 := R7.below hb8 R7.lt
  have E8 := E7.below hb8 E7.lt
  clear hb8 B7 R7 E7
  obtain ⟨u0, u1, u2, u3, u4, u5⟩ := five E8
  have E9 : has (w8.setCell ⟨w2.heap.size, 1, none⟩ (.int .i64 kt)) w2.heap.size 28 (eL cd kt p q r) := E8.put 1 (.int .i64 kt)
  have R9 : has (w8.setCell ⟨w2.heap.size, 1, none⟩ (.int .i64 kt)) w.heap.size 28 (eL 0 0 0 0 0) := R8.far (p := ⟨w2.heap.size, 1, none⟩) nRE _
  have B9 : Below w.heap.size w (w8.setCell ⟨w2.heap.size, 1, none⟩ (.int .i64 kt)) := B8.setCell (p := ⟨w2.heap.size, 1, none⟩) (Nat.le_of_lt z2) _
  have HE9 := Lib.hid E9; have HR9 := Lib.hid R9; have HB9 := Lib.hid B9
  clear E9 R9 B9
  go_wp2_with fail
  refine (HT _).mono ?_; rintro e wA ⟨rfl, hbA⟩
  have BA := next HB9.out hbA
  have RA := HR9.out.below hbA HR9.out.lt
  have EA := HE9.out.below hbA HE9.out.lt
  clear hbA u0 u1 u2 u3 u4 u5 E8 R8 B8
  obtain ⟨u0, u1, u2, u3, u4, u5⟩ := five EA
  obtain ⟨v0, v1, v2, v3, v4, v5⟩ := five RA
  go_wp2_with fail
  have RF := (((((RA).put 0 (.int .i64 0)).put 1 (.int .i64 0)).put 2 (.int .i64 0)).put 3 (.int .i64 0)).put 4 (.int .i64 0)
  have BF := (((((BA).setCell (p := ⟨w.heap.size, 0, none⟩) (Nat.le_refl _) (.int .i64 0)).setCell (p := ⟨w.heap.size, 1, none⟩) (Nat.le_refl _) (.int .i64 0)).setCell (p := ⟨w.heap.size, 2, none⟩) (Nat.le_refl _) (.int .i64 0)).setCell (p := ⟨w.heap.size, 3, none⟩) (Nat.le_refl _) (.int .i64 0)).setCell (p := ⟨w.heap.size, 4, none⟩) (Nat.le_refl _) (.int .i64 0)
  obtain ⟨r0, r1, r2, r3, r4, r5⟩ := five RF
  exact bodyPost_ret (v := .tuple #[eV 0 0 0 0 0, .int .i64 6]) (by simp [results, Tryd.results27, go_sem, r0, r1, r2, r3, r4]) rfl ⟨rfl, BF⟩

set_option maxRecDepth 100000 in
set_option maxHeartbeats 8000000 in
theorem Parse_so_ne (l : List UInt8) (w : World) (hG : G w) (hl : l.length ≤ 900) (cd kt p q r : Int) (nm : ByteArray) (kk x0 x1 x2 y0 y1 y2 : Int) (hcd : cdW (c1 l) = cd) (hr : ruleV cd = soV nm kk x0 x1 x2 y0 y1 y2)
    (z : List UInt8) (HRD : ∀ w, G w → Calls Tryd.prog 42 #[.string (bs (c2 l)), soV nm kk x0 x1 x2 y0 y1 y2] w fun e w' => e = .returned (.tuple #[.agg #[.int .i64 p, .int .i64 q, .int .i64 r], .string (bs z)]) ∧ Below w.heap.size w w')
    (hkt : kdW z = kt) (hv : okE cd kt p q r = true) (ht : textE ⟨cd, kt, p, q, r⟩ ≠ l) :
    Calls Tryd.prog 27 #[.string (bs l)] w fun e w' => e = .returned (.tuple #[eV 0 0 0 0 0, .int .i64 6]) ∧ Below w.heap.size w w' := by
  have HR := ruleOf_any cd
  rw [hr] at HR
  have TA := ta_so nm kk x0 x1 x2 y0 y1 y2
  have HCD := Lib.hid hcd
  have HKT := Lib.hid hkt
  have HG := Lib.hid hG
  have l1 := c2_len l
  have l3 := c1_len l
  have HT := fun w h => Text_yes ⟨cd, kt, p, q, r⟩ w h hv
  have hb := s_ne ht
  have hb' : (!((bs (textE ⟨cd, kt, p, q, r⟩)).toList == (bs l).toList)) = true := by rw [hb]; rfl
  clear hr hcd hkt hG hv ht
  go_enter Tryd.func27, Tryd.ntmps27
  go_wp2_with fail
  have B0 : Below w.heap.size w (w.alloc (.cells #[.int .i64 0, .int .i64 0, .int .i64 0, .int .i64 0, .int .i64 0] 28)) := (Below.refl _ _).alloc (Nat.le_refl _) _
  have R0 := has.new w 28 (eL 0 0 0 0 0)
  refine (Cut_at l _ _ rfl rfl _ (HG.out.below B0) (by omega)).mono ?_; rintro e w1 ⟨⟨f1, rfl⟩, hb1⟩
  have B1 := next B0 hb1
  have R1 : has w1 w.heap.size 28 (eL 0 0 0 0 0) := R0.below hb1 R0.lt
  clear hb1 B0 R0
  go_wp2_with fail
  refine (codeWith_any (c1 l) _).mono ?_; rintro e w2 ⟨rfl, hb2⟩
  rw [HCD.out]
  have B2 := next B1 hb2
  have R2 := R1.below hb2 R1.lt
  clear hb2 B1 R1
  have z2 : w.heap.size < w2.heap.size := R2.lt
  have E2 := has.new w2 28 (eL cd 0 0 0 0)
  have HB3 := Lib.hid (B2.alloc (Nat.le_of_lt z2) (.cells #[.int .i64 cd, .int .i64 0, .int .i64 0, .int .i64 0, .int .i64 0] 28))
  have HR3 := Lib.hid (R2.alloc (.cells #[.int .i64 cd, .int .i64 0, .int .i64 0, .int .i64 0, .int .i64 0] 28))
  have HE3 := Lib.hid E2
  clear E2
  go_wp2_with fail
  refine (HR _).mono ?_; rintro e w3 ⟨rfl, hw3⟩
  have B3 : Below w.heap.size w w3 := hw3 ▸ HB3.out
  have R3 : has w3 w.heap.size 28 (eL 0 0 0 0 0) := hw3 ▸ HR3.out
  have E3 : has w3 w2.heap.size 28 (eL cd 0 0 0 0) := hw3 ▸ HE3.out
  have z3 : w2.heap.size < w3.heap.size := E3.lt
  clear hw3 R2 B2
  have N3 := has.new w3 66 [.int .i64 0, .int .i64 0, .int .i64 0]
  have HB4 := Lib.hid (B3.alloc (by omega) (.cells #[.int .i64 0, .int .i64 0, .int .i64 0] 66))
  have HR4 := Lib.hid (R3.alloc (.cells #[.int .i64 0, .int .i64 0, .int .i64 0] 66))
  have HE4 := Lib.hid (E3.alloc (.cells #[.int .i64 0, .int .i64 0, .int .i64 0] 66))
  have HN4 := Lib.hid N3
  clear N3 B3 R3 E3
  go_wp2_with fail
  refine (HRD _ (HG.out.below HB4.out)).mono ?_; rintro e w5 ⟨rfl, hb5⟩
  have B5 := next HB4.out hb5
  have R5 := HR4.out.below hb5 HR4.out.lt
  have E5 := HE4.out.below hb5 HE4.out.lt
  have N5 : has w5 w3.heap.size 66 [.int .i64 0, .int .i64 0, .int .i64 0] := HN4.out.below hb5 HN4.out.lt
  clear hb5
  have z5 : w3.heap.size < w5.heap.size := N5.lt
  have nEN : w2.heap.size ≠ w3.heap.size := by omega
  have nNE : w3.heap.size ≠ w2.heap.size := by omega
  have nRN : w.heap.size ≠ w3.heap.size := by omega
  have nRE : w.heap.size ≠ w2.heap.size := by omega
  have N6 : has (((w5.setCell ⟨w3.heap.size, 0, none⟩ (.int .i64 p)).setCell ⟨w3.heap.size, 1, none⟩ (.int .i64 q)).setCell ⟨w3.heap.size, 2, none⟩ (.int .i64 r)) w3.heap.size 66 [.int .i64 p, .int .i64 q, .int .i64 r] := ((N5.put 0 (.int .i64 p)).put 1 (.int .i64 q)).put 2 (.int .i64 r)
  have E6 : has (((w5.setCell ⟨w3.heap.size, 0, none⟩ (.int .i64 p)).setCell ⟨w3.heap.size, 1, none⟩ (.int .i64 q)).setCell ⟨w3.heap.size, 2, none⟩ (.int .i64 r)) w2.heap.size 28 (eL cd 0 0 0 0) := ((E5.far (p := ⟨w3.heap.size, 0, none⟩) nEN _).far (p := ⟨w3.heap.size, 1, none⟩) nEN _).far (p := ⟨w3.heap.size, 2, none⟩) nEN _
  have R6 : has (((w5.setCell ⟨w3.heap.size, 0, none⟩ (.int .i64 p)).setCell ⟨w3.heap.size, 1, none⟩ (.int .i64 q)).setCell ⟨w3.heap.size, 2, none⟩ (.int .i64 r)) w.heap.size 28 (eL 0 0 0 0 0) := ((R5.far (p := ⟨w3.heap.size, 0, none⟩) nRN _).far (p := ⟨w3.heap.size, 1, none⟩) nRN _).far (p := ⟨w3.heap.size, 2, none⟩) nRN _
  have B6 : Below w.heap.size w (((w5.setCell ⟨w3.heap.size, 0, none⟩ (.int .i64 p)).setCell ⟨w3.heap.size, 1, none⟩ (.int .i64 q)).setCell ⟨w3.heap.size, 2, none⟩ (.int .i64 r)) := ((B5.setCell (p := ⟨w3.heap.size, 0, none⟩) (by show w.heap.size ≤ w3.heap.size; omega) _).setCell (p := ⟨w3.heap.size, 1, none⟩) (by show w.heap.size ≤ w3.heap.size; omega) _).setCell (p := ⟨w3.heap.size, 2, none⟩) (by show w.heap.size ≤ w3.heap.size; omega) _
  obtain ⟨s0, s1, s2, s3⟩ := three N5
  go_wp2_with fail
  obtain ⟨W6, hW6⟩ : ∃ W, ((w5.setCell ⟨w3.heap.size, 0, none⟩ (.int .i64 p)).setCell ⟨w3.heap.size, 1, none⟩ (.int .i64 q)).setCell ⟨w3.heap.size, 2, none⟩ (.int .i64 r) = W := ⟨_, rfl⟩
  rw [hW6] at N6 E6 R6 B6 ⊢
  clear hW6 s0 s1 s2 s3 N5 E5 R5 B5
  obtain ⟨s0, s1, s2, s3⟩ := three N6
  obtain ⟨u0, u1, u2, u3, u4, u5⟩ := five E6
  go_region
  have E7 : has ((((W6.setCell ⟨w2.heap.size, 2, none⟩ (.int .i64 p)).setCell ⟨w2.heap.size, 3, none⟩ (.int .i64 q)).setCell ⟨w2.heap.size, 4, none⟩ (.int .i64 r)).drew) w2.heap.size 28 (eL cd 0 p q r) := ((E6.put 2 (.int .i64 p)).put 3 (.int .i64 q)).put 4 (.int .i64 r)
  have R7 : has ((((W6.setCell ⟨w2.heap.size, 2, none⟩ (.int .i64 p)).setCell ⟨w2.heap.size, 3, none⟩ (.int .i64 q)).setCell ⟨w2.heap.size, 4, none⟩ (.int .i64 r)).drew) w.heap.size 28 (eL 0 0 0 0 0) := ((R6.far (p := ⟨w2.heap.size, 2, none⟩) nRE _).far (p := ⟨w2.heap.size, 3, none⟩) nRE _).far (p := ⟨w2.heap.size, 4, none⟩) nRE _
  have B7 : Below w.heap.size w ((((W6.setCell ⟨w2.heap.size, 2, none⟩ (.int .i64 p)).setCell ⟨w2.heap.size, 3, none⟩ (.int .i64 q)).setCell ⟨w2.heap.size, 4, none⟩ (.int .i64 r)).drew) := (((B6.setCell (p := ⟨w2.heap.size, 2, none⟩) (Nat.le_of_lt z2) _).setCell (p := ⟨w2.heap.size, 3, none⟩) (Nat.le_of_lt z2) _).setCell (p := ⟨w2.heap.size, 4, none⟩) (Nat.le_of_lt z2) _).drew
  obtain ⟨W7, hW7⟩ : ∃ W, (((W6.setCell ⟨w2.heap.size, 2, none⟩ (.int .i64 p)).setCell ⟨w2.heap.size, 3, none⟩ (.int .i64 q)).setCell ⟨w2.heap.size, 4, none⟩ (.int .i64 r)).drew = W := ⟨_, rfl⟩
  rw [hW7] at E7 R7 B7 ⊢
  clear hW7 s0 s1 s2 s3 u0 u1 u2 u3 u4 u5 N6 E6 R6 B6
  go_wp2_with fail
  refine (kindWith_any z _ (HG.out.below B7)).mono ?_; rintro e w8 ⟨rfl, hb8⟩
  rw [HKT.out]
  have B8 := next B7 hb8
  have R8 := R7.below hb8 R7.lt
  have E8 := E7.below hb8 E7.lt
  clear hb8 B7 R7 E7
  obtain ⟨u0, u1, u2, u3, u4, u5⟩ := five E8
  have E9 : has (w8.setCell ⟨w2.heap.size, 1, none⟩ (.int .i64 kt)) w2.heap.size 28 (eL cd kt p q r) := E8.put 1 (.int .i64 kt)
  have R9 : has (w8.setCell ⟨w2.heap.size, 1, none⟩ (.int .i64 kt)) w.heap.size 28 (eL 0 0 0 0 0) := R8.far (p := ⟨w2.heap.size, 1, none⟩) nRE _
  have B9 : Below w.heap.size w (w8.setCell ⟨w2.heap.size, 1, none⟩ (.int .i64 kt)) := B8.setCell (p := ⟨w2.heap.size, 1, none⟩) (Nat.le_of_lt z2) _
  have HE9 := Lib.hid E9; have HR9 := Lib.hid R9; have HB9 := Lib.hid B9
  clear E9 R9 B9
  go_wp2_with fail
  refine (HT _ (HG.out.below HB9.out)).mono ?_; rintro e wA ⟨rfl, hbA⟩
  have BA := next HB9.out hbA
  have RA := HR9.out.below hbA HR9.out.lt
  have EA := HE9.out.below hbA HE9.out.lt
  clear hbA u0 u1 u2 u3 u4 u5 E8 R8 B8
  obtain ⟨u0, u1, u2, u3, u4, u5⟩ := five EA
  obtain ⟨v0, v1, v2, v3, v4, v5⟩ := five RA
  go_wp2_with fail
  have RF := (((((RA).put 0 (.int .i64 0)).put 1 (.int .i64 0)).put 2 (.int .i64 0)).put 3 (.int .i64 0)).put 4 (.int .i64 0)
  have BF := (((((BA).setCell (p := ⟨w.heap.size, 0, none⟩) (Nat.le_refl _) (.int .i64 0)).setCell (p := ⟨w.heap.size, 1, none⟩) (Nat.le_refl _) (.int .i64 0)).setCell (p := ⟨w.heap.size, 2, none⟩) (Nat.le_refl _) (.int .i64 0)).setCell (p := ⟨w.heap.size, 3, none⟩) (Nat.le_refl _) (.int .i64 0)).setCell (p := ⟨w.heap.size, 4, none⟩) (Nat.le_refl _) (.int .i64 0)
  obtain ⟨r0, r1, r2, r3, r4, r5⟩ := five RF
  exact bodyPost_ret (v := .tuple #[eV 0 0 0 0 0, .int .i64 6]) (by simp [results, Tryd.results27, go_sem, r0, r1, r2, r3, r4]) rfl ⟨rfl, BF⟩

set_option maxRecDepth 100000 in
set_option maxHeartbeats 8000000 in
theorem Parse_so_eq (l : List UInt8) (w : World) (hG : G w) (hl : l.length ≤ 900) (cd kt p q r : Int) (nm : ByteArray) (kk x0 x1 x2 y0 y1 y2 : Int) (hcd : cdW (c1 l) = cd) (hr : ruleV cd = soV nm kk x0 x1 x2 y0 y1 y2)
    (z : List UInt8) (HRD : ∀ w, G w → Calls Tryd.prog 42 #[.string (bs (c2 l)), soV nm kk x0 x1 x2 y0 y1 y2] w fun e w' => e = .returned (.tuple #[.agg #[.int .i64 p, .int .i64 q, .int .i64 r], .string (bs z)]) ∧ Below w.heap.size w w')
    (hkt : kdW z = kt) (hv : okE cd kt p q r = true) (ht : textE ⟨cd, kt, p, q, r⟩ = l) :
    Calls Tryd.prog 27 #[.string (bs l)] w fun e w' => e = .returned (.tuple #[eV cd kt p q r, .int .i64 0]) ∧ Below w.heap.size w w' := by
  have HR := ruleOf_any cd
  rw [hr] at HR
  have TA := ta_so nm kk x0 x1 x2 y0 y1 y2
  have HCD := Lib.hid hcd
  have HKT := Lib.hid hkt
  have HG := Lib.hid hG
  have l1 := c2_len l
  have l3 := c1_len l
  have HT := fun w h => Text_yes ⟨cd, kt, p, q, r⟩ w h hv
  have hb := s_eq ht
  have hb' : (!((bs (textE ⟨cd, kt, p, q, r⟩)).toList == (bs l).toList)) = false := by rw [hb]; rfl
  clear hr hcd hkt hG hv ht
  go_enter Tryd.func27, Tryd.ntmps27
  go_wp2_with fail
  have B0 : Below w.heap.size w (w.alloc (.cells #[.int .i64 0, .int .i64 0, .int .i64 0, .int .i64 0, .int .i64 0] 28)) := (Below.refl _ _).alloc (Nat.le_refl _) _
  have R0 := has.new w 28 (eL 0 0 0 0 0)
  refine (Cut_at l _ _ rfl rfl _ (HG.out.below B0) (by omega)).mono ?_; rintro e w1 ⟨⟨f1, rfl⟩, hb1⟩
  have B1 := next B0 hb1
  have R1 : has w1 w.heap.size 28 (eL 0 0 0 0 0) := R0.below hb1 R0.lt
  clear hb1 B0 R0
  go_wp2_with fail
  refine (codeWith_any (c1 l) _).mono ?_; rintro e w2 ⟨rfl, hb2⟩
  rw [HCD.out]
  have B2 := next B1 hb2
  have R2 := R1.below hb2 R1.lt
  clear hb2 B1 R1
  have z2 : w.heap.size < w2.heap.size := R2.lt
  have E2 := has.new w2 28 (eL cd 0 0 0 0)
  have HB3 := Lib.hid (B2.alloc (Nat.le_of_lt z2) (.cells #[.int .i64 cd, .int .i64 0, .int .i64 0, .int .i64 0, .int .i64 0] 28))
  have HR3 := Lib.hid (R2.alloc (.cells #[.int .i64 cd, .int .i64 0, .int .i64 0, .int .i64 0, .int .i64 0] 28))
  have HE3 := Lib.hid E2
  clear E2
  go_wp2_with fail
  refine (HR _).mono ?_; rintro e w3 ⟨rfl, hw3⟩
  have B3 : Below w.heap.size w w3 := hw3 ▸ HB3.out
  have R3 : has w3 w.heap.size 28 (eL 0 0 0 0 0) := hw3 ▸ HR3.out
  have E3 : has w3 w2.heap.size 28 (eL cd 0 0 0 0) := hw3 ▸ HE3.out
  have z3 : w2.heap.size < w3.heap.size := E3.lt
  clear hw3 R2 B2
  have N3 := has.new w3 66 [.int .i64 0, .int .i64 0, .int .i64 0]
  have HB4 := Lib.hid (B3.alloc (by omega) (.cells #[.int .i64 0, .int .i64 0, .int .i64 0] 66))
  have HR4 := Lib.hid (R3.alloc (.cells #[.int .i64 0, .int .i64 0, .int .i64 0] 66))
  have HE4 := Lib.hid (E3.alloc (.cells #[.int .i64 0, .int .i64 0, .int .i64 0] 66))
  have HN4 := Lib.hid N3
  clear N3 B3 R3 E3
  go_wp2_with fail
  refine (HRD _ (HG.out.below HB4.out)).mono ?_; rintro e w5 ⟨rfl, hb5⟩
  have B5 := next HB4.out hb5
  have R5 := HR4.out.below hb5 HR4.out.lt
  have E5 := HE4.out.below hb5 HE4.out.lt
  have N5 : has w5 w3.heap.size 66 [.int .i64 0, .int .i64 0, .int .i64 0] := HN4.out.below hb5 HN4.out.lt
  clear hb5
  have z5 : w3.heap.size < w5.heap.size := N5.lt
  have nEN : w2.heap.size ≠ w3.heap.size := by omega
  have nNE : w3.heap.size ≠ w2.heap.size := by omega
  have nRN : w.heap.size ≠ w3.heap.size := by omega
  have nRE : w.heap.size ≠ w2.heap.size := by omega
  have N6 : has (((w5.setCell ⟨w3.heap.size, 0, none⟩ (.int .i64 p)).setCell ⟨w3.heap.size, 1, none⟩ (.int .i64 q)).setCell ⟨w3.heap.size, 2, none⟩ (.int .i64 r)) w3.heap.size 66 [.int .i64 p, .int .i64 q, .int .i64 r] := ((N5.put 0 (.int .i64 p)).put 1 (.int .i64 q)).put 2 (.int .i64 r)
  have E6 : has (((w5.setCell ⟨w3.heap.size, 0, none⟩ (.int .i64 p)).setCell ⟨w3.heap.size, 1, none⟩ (.int .i64 q)).setCell ⟨w3.heap.size, 2, none⟩ (.int .i64 r)) w2.heap.size 28 (eL cd 0 0 0 0) := ((E5.far (p := ⟨w3.heap.size, 0, none⟩) nEN _).far (p := ⟨w3.heap.size, 1, none⟩) nEN _).far (p := ⟨w3.heap.size, 2, none⟩) nEN _
  have R6 : has (((w5.setCell ⟨w3.heap.size, 0, none⟩ (.int .i64 p)).setCell ⟨w3.heap.size, 1, none⟩ (.int .i64 q)).setCell ⟨w3.heap.size, 2, none⟩ (.int .i64 r)) w.heap.size 28 (eL 0 0 0 0 0) := ((R5.far (p := ⟨w3.heap.size, 0, none⟩) nRN _).far (p := ⟨w3.heap.size, 1, none⟩) nRN _).far (p := ⟨w3.heap.size, 2, none⟩) nRN _
  have B6 : Below w.heap.size w (((w5.setCell ⟨w3.heap.size, 0, none⟩ (.int .i64 p)).setCell ⟨w3.heap.size, 1, none⟩ (.int .i64 q)).setCell ⟨w3.heap.size, 2, none⟩ (.int .i64 r)) := ((B5.setCell (p := ⟨w3.heap.size, 0, none⟩) (by show w.heap.size ≤ w3.heap.size; omega) _).setCell (p := ⟨w3.heap.size, 1, none⟩) (by show w.heap.size ≤ w3.heap.size; omega) _).setCell (p := ⟨w3.heap.size, 2, none⟩) (by show w.heap.size ≤ w3.heap.size; omega) _
  obtain ⟨s0, s1, s2, s3⟩ := three N5
  go_wp2_with fail
  obtain ⟨W6, hW6⟩ : ∃ W, ((w5.setCell ⟨w3.heap.size, 0, none⟩ (.int .i64 p)).setCell ⟨w3.heap.size, 1, none⟩ (.int .i64 q)).setCell ⟨w3.heap.size, 2, none⟩ (.int .i64 r) = W := ⟨_, rfl⟩
  rw [hW6] at N6 E6 R6 B6 ⊢
  clear hW6 s0 s1 s2 s3 N5 E5 R5 B5
  obtain ⟨s0, s1, s2, s3⟩ := three N6
  obtain ⟨u0, u1, u2, u3, u4, u5⟩ := five E6
  go_region
  have E7 : has ((((W6.setCell ⟨w2.heap.size, 2, none⟩ (.int .i64 p)).setCell ⟨w2.heap.size, 3, none⟩ (.int .i64 q)).setCell ⟨w2.heap.size, 4, none⟩ (.int .i64 r)).drew) w2.heap.size 28 (eL cd 0 p q r) := ((E6.put 2 (.int .i64 p)).put 3 (.int .i64 q)).put 4 (.int .i64 r)
  have R7 : has ((((W6.setCell ⟨w2.heap.size, 2, none⟩ (.int .i64 p)).setCell ⟨w2.heap.size, 3, none⟩ (.int .i64 q)).setCell ⟨w2.heap.size, 4, none⟩ (.int .i64 r)).drew) w.heap.size 28 (eL 0 0 0 0 0) := ((R6.far (p := ⟨w2.heap.size, 2, none⟩) nRE _).far (p := ⟨w2.heap.size, 3, none⟩) nRE _).far (p := ⟨w2.heap.size, 4, none⟩) nRE _
  have B7 : Below w.heap.size w ((((W6.setCell ⟨w2.heap.size, 2, none⟩ (.int .i64 p)).setCell ⟨w2.heap.size, 3, none⟩ (.int .i64 q)).setCell ⟨w2.heap.size, 4, none⟩ (.int .i64 r)).drew) := (((B6.setCell (p := ⟨w2.heap.size, 2, none⟩) (Nat.le_of_lt z2) _).setCell (p := ⟨w2.heap.size, 3, none⟩) (Nat.le_of_lt z2) _).setCell (p := ⟨w2.heap.size, 4, none⟩) (Nat.le_of_lt z2) _).drew
  obtain ⟨W7, hW7⟩ : ∃ W, (((W6.setCell ⟨w2.heap.size, 2, none⟩ (.int .i64 p)).setCell ⟨w2.heap.size, 3, none⟩ (.int .i64 q)).setCell ⟨w2.heap.size, 4, none⟩ (.int .i64 r)).drew = W := ⟨_, rfl⟩
  rw [hW7] at E7 R7 B7 ⊢
  clear hW7 s0 s1 s2 s3 u0 u1 u2 u3 u4 u5 N6 E6 R6 B6
  go_wp2_with fail
  refine (kindWith_any z _ (HG.out.below B7)).mono ?_; rintro e w8 ⟨rfl, hb8⟩
  rw [HKT.out]
  have B8 := next B7 hb8
  have R8 := R7.below hb8 R7.lt
  have E8 := E7.below hb8 E7.lt
  clear hb8 B7 R7 E7
  obtain ⟨u0, u1, u2, u3, u4, u5⟩ := five E8
  have E9 : has (w8.setCell ⟨w2.heap.size, 1, none⟩ (.int .i64 kt)) w2.heap.size 28 (eL cd kt p q r) := E8.put 1 (.int .i64 kt)
  have R9 : has (w8.setCell ⟨w2.heap.size, 1, none⟩ (.int .i64 kt)) w.heap.size 28 (eL 0 0 0 0 0) := R8.far (p := ⟨w2.heap.size, 1, none⟩) nRE _
  have B9 : Below w.heap.size w (w8.setCell ⟨w2.heap.size, 1, none⟩ (.int .i64 kt)) := B8.setCell (p := ⟨w2.heap.size, 1, none⟩) (Nat.le_of_lt z2) _
  have HE9 := Lib.hid E9; have HR9 := Lib.hid R9; have HB9 := Lib.hid B9
  clear E9 R9 B9
  go_wp2_with fail
  refine (HT _ (HG.out.below HB9.out)).mono ?_; rintro e wA ⟨rfl, hbA⟩
  have BA := next HB9.out hbA
  have RA := HR9.out.below hbA HR9.out.lt
  have EA := HE9.out.below hbA HE9.out.lt
  clear hbA u0 u1 u2 u3 u4 u5 E8 R8 B8
  obtain ⟨u0, u1, u2, u3, u4, u5⟩ := five EA
  obtain ⟨v0, v1, v2, v3, v4, v5⟩ := five RA
  go_wp2_with fail
  have RF := (((((RA).put 0 (.int .i64 cd)).put 1 (.int .i64 kt)).put 2 (.int .i64 p)).put 3 (.int .i64 q)).put 4 (.int .i64 r)
  have BF := (((((BA).setCell (p := ⟨w.heap.size, 0, none⟩) (Nat.le_refl _) (.int .i64 cd)).setCell (p := ⟨w.heap.size, 1, none⟩) (Nat.le_refl _) (.int .i64 kt)).setCell (p := ⟨w.heap.size, 2, none⟩) (Nat.le_refl _) (.int .i64 p)).setCell (p := ⟨w.heap.size, 3, none⟩) (Nat.le_refl _) (.int .i64 q)).setCell (p := ⟨w.heap.size, 4, none⟩) (Nat.le_refl _) (.int .i64 r)
  obtain ⟨r0, r1, r2, r3, r4, r5⟩ := five RF
  exact bodyPost_ret (v := .tuple #[eV cd kt p q r, .int .i64 0]) (by simp [results, Tryd.results27, go_sem, r0, r1, r2, r3, r4]) rfl ⟨rfl, BF⟩

end Go.Proofs.YtfdolapiikgebaaDoor.efFn
