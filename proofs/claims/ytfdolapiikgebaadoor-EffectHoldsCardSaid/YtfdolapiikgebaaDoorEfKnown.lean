/- The chapter's examples. -/
import Derived.Test.YtfdolapiikgebaaDoorEfHelp
import Derived.Test.YtfdolapiikgebaaDoorEfAll
namespace Go.Proofs.YtfdolapiikgebaaDoor.efFn
open Go.ChangeShapes Go.WideShapes Go.ChangeAt Go.RowKit drMem
set_option linter.unusedVariables false

theorem efs_at {w : World} {g : Nat} (l : List Ef) (h : has w g 28 (efC l)) (hv : ∀ e ∈ l, e.wf) (hm : l.length ≤ 1000) : EfsAt w (some ⟨g, 0, none⟩) l.length l := EfsAt.of_src (src.of h) hv (by omega)
theorem bs_at {w : World} {g : Nat} (l : List UInt8) (h : has w g 5 (bys l)) (hm : l.length ≤ 1000) : BsAt w (some ⟨g, 0, none⟩) l.length l := ⟨rfl, by omega, src.of h⟩
theorem new1 {w : World} {n : Nat} (h : w.heap.size = n) (t : TypeId) (cs : List Value) : has (w.alloc (.cells cs.toArray t)) n t cs := h ▸ new0 w t cs
theorem kV0 : okE 1 5 3 0 0 = true := by decide +kernel
theorem kV1 : okE 1 5 0 0 0 = false := by decide +kernel
theorem kV2 : okE 2 1 2 0 0 = false := by decide +kernel
theorem kV3 : okE 8 0 0 0 0 = false := by decide +kernel
theorem kV4 : okE 10 0 0 1 0 = true := by decide +kernel
theorem kV5 : okE 5 2 1 0 0 = false := by decide +kernel
theorem kE0 : decide (encZ [⟨1, 5, 3, 0, 0⟩, ⟨12, 0, 2, 0, 2⟩] = ([2, 1, 5, 3, 0, 0, 12, 0, 2, 0, 2], 0)) = true := by decide +kernel
theorem kE1 : decide (encZ [] = ([0], 0)) = true := by decide +kernel
theorem kD0 : decide ((decR [1, 7, 6, 0, 0, 0, 9]).1 = [⟨7, 6, 0, 0, 0⟩] ∧ ((decR [1, 7, 6, 0, 0, 0, 9]).2.1 : Int) = 6 ∧ ((decR [1, 7, 6, 0, 0, 0, 9]).2.2 : Int) = 0) = true := by decide +kernel
theorem kD1 : decide ((decR [1, 7, 6]).1 = [] ∧ ((decR [1, 7, 6]).2.1 : Int) = 0 ∧ ((decR [1, 7, 6]).2.2 : Int) = 4) = true := by decide +kernel
theorem kD2 : decide ((decR [5]).1 = [] ∧ ((decR [5]).2.1 : Int) = 0 ∧ ((decR [5]).2.2 : Int) = 6) = true := by decide +kernel
theorem kD3 : decide ((decR [1, 7, 1, 0, 0, 0]).1 = [] ∧ ((decR [1, 7, 1, 0, 0, 0]).2.1 : Int) = 0 ∧ ((decR [1, 7, 1, 0, 0, 0]).2.2 : Int) = 6) = true := by decide +kernel
theorem kT0 : decide (txZ ⟨8, 2, 1, 2, 0⟩ = ([112, 117, 109, 112, 32, 49, 32, 50, 32, 111, 119, 110], 0)) = true := by decide +kernel
theorem kT1 : decide (txZ ⟨2, 0, 2, 0, 0⟩ = ([100, 114, 97, 119, 32, 50], 0)) = true := by decide +kernel
theorem kT2 : decide (txZ ⟨12, 0, 2, 0, 2⟩ = ([109, 97, 110, 97, 32, 50, 32, 76], 0)) = true := by decide +kernel
theorem kT3 : decide (txZ ⟨7, 6, 0, 0, 0⟩ = ([99, 111, 117, 110, 116, 101, 114, 32, 115, 112, 101, 108, 108], 0)) = true := by decide +kernel
theorem kP0 : decide (paZ [100, 97, 109, 97, 103, 101, 32, 51, 32, 101, 105, 116, 104, 101, 114] = (⟨1, 5, 3, 0, 0⟩, 0)) = true := by decide +kernel
theorem kP1 : decide (paZ [100, 97, 109, 97, 103, 101, 32, 48, 51, 32, 101, 105, 116, 104, 101, 114] = (⟨0, 0, 0, 0, 0⟩, 6)) = true := by decide +kernel
theorem kP2 : decide (paZ [100, 114, 97, 119, 32, 50, 32] = (⟨0, 0, 0, 0, 0⟩, 6)) = true := by decide +kernel
theorem kP3 : decide (paZ [116, 111, 107, 101, 110, 32, 49, 32, 49, 32, 111, 119, 110] = (⟨0, 0, 0, 0, 0⟩, 6)) = true := by decide +kernel
theorem kN : tgN [⟨2, 0, 2, 0, 0⟩, ⟨11, 2, 0, 0, 0⟩] = 1 := by decide +kernel
theorem kW : ∀ e ∈ ([⟨1, 5, 3, 0, 0⟩, ⟨0, 0, 0, 0, 0⟩, ⟨12, 0, 2, 0, 2⟩, ⟨7, 6, 0, 0, 0⟩, ⟨2, 0, 2, 0, 0⟩, ⟨8, 2, 1, 2, 0⟩, ⟨11, 2, 0, 0, 0⟩] : List Ef), e.wf := by intro e he; simp only [List.mem_cons, List.not_mem_nil, or_false] at he; rcases he with rfl | rfl | rfl | rfl | rfl | rfl | rfl <;> constructor <;> (unfold i64ok; dsimp only; omega)
set_option maxRecDepth 100000 in
set_option maxHeartbeats 8000000 in
theorem known_any (w : World) (hG : G w) : Calls Tryd.prog 9 #[] w fun e w' => e = .returned (.bool true) ∧ Below w.heap.size w w' := by
  have HG := Lib.hid hG
  clear hG
  have HB := Lib.hid (Below.refl w.heap.size w)
  go_enter Tryd.func9, Tryd.ntmps9
  have HM1 := Lib.hid (show has (w.alloc (.cells #[.int .i64 1, .int .i64 5, .int .i64 3, .int .i64 0, .int .i64 0] 28)) (w.heap.size) 28 (eL 1 5 3 0 0) from new1 (by first | rfl | simp) 28 (eL 1 5 3 0 0))
  have HB := Lib.hid (HB.out.alloc HB.out.size (.cells #[.int .i64 1, .int .i64 5, .int .i64 3, .int .i64 0, .int .i64 0] 28))
  have HM1 := Lib.hid (HM1.out.alloc (.cells #[.int .i64 0, .int .i64 0, .int .i64 0, .int .i64 0, .int .i64 0] 28))
  have HM2 := Lib.hid (show has ((w.alloc (.cells #[.int .i64 1, .int .i64 5, .int .i64 3, .int .i64 0, .int .i64 0] 28)).alloc (.cells #[.int .i64 0, .int .i64 0, .int .i64 0, .int .i64 0, .int .i64 0] 28)) (w.heap.size + 1) 28 (eL 0 0 0 0 0) from new1 (by first | rfl | simp) 28 (eL 0 0 0 0 0))
  have HB := Lib.hid (HB.out.alloc HB.out.size (.cells #[.int .i64 0, .int .i64 0, .int .i64 0, .int .i64 0, .int .i64 0] 28))
  obtain ⟨c10, c11, c12, c13, c14, c15⟩ := five HM1.out
  have HV := fun w => Valid_any 1 5 3 0 0 w
  rw [kV0] at HV
  go_wp2_with fail
  refine (HV _).mono ?_; rintro e w1 ⟨rfl, hb⟩
  have HB := Lib.hid (next HB.out hb)
  have HM1 := Lib.hid (HM1.out.below hb HM1.out.lt)
  have HM2 := Lib.hid (HM2.out.below hb HM2.out.lt)
  clear hb c10 c11 c12 c13 c14 c15
  clear HV
  have HV := fun w => Valid_any 1 5 0 0 0 w
  rw [kV1] at HV
  go_wp2_with fail
  refine (HV _).mono ?_; rintro e w2 ⟨rfl, hb⟩
  have HB := Lib.hid (next HB.out hb)
  have HM1 := Lib.hid (HM1.out.below hb HM1.out.lt)
  have HM2 := Lib.hid (HM2.out.below hb HM2.out.lt)
  clear hb
  clear HV
  have HV := fun w => Valid_any 2 1 2 0 0 w
  rw [kV2] at HV
  go_wp2_with fail
  refine (HV _).mono ?_; rintro e w3 ⟨rfl, hb⟩
  have HB := Lib.hid (next HB.out hb)
  have HM1 := Lib.hid (HM1.out.below hb HM1.out.lt)
  have HM2 := Lib.hid (HM2.out.below hb HM2.out.lt)
  clear hb
  clear HV
  have HV := fun w => Valid_any 8 0 0 0 0 w
  rw [kV3] at HV
  go_wp2_with fail
  refine (HV _).mono ?_; rintro e w4 ⟨rfl, hb⟩
  have HB := Lib.hid (next HB.out hb)
  have HM1 := Lib.hid (HM1.out.below hb HM1.out.lt)
  have HM2 := Lib.hid (HM2.out.below hb HM2.out.lt)
  clear hb
  clear HV
  have HV := fun w => Valid_any 10 0 0 1 0 w
  rw [kV4] at HV
  go_wp2_with fail
  refine (HV _).mono ?_; rintro e w5 ⟨rfl, hb⟩
  have HB := Lib.hid (next HB.out hb)
  have HM1 := Lib.hid (HM1.out.below hb HM1.out.lt)
  have HM2 := Lib.hid (HM2.out.below hb HM2.out.lt)
  clear hb
  clear HV
  have HV := fun w => Valid_any 5 2 1 0 0 w
  rw [kV5] at HV
  go_wp2_with fail
  refine (HV _).mono ?_; rintro e w6 ⟨rfl, hb⟩
  have HB := Lib.hid (next HB.out hb)
  have HM1 := Lib.hid (HM1.out.below hb HM1.out.lt)
  have HM2 := Lib.hid (HM2.out.below hb HM2.out.lt)
  clear hb
  clear HV
  have HM1 := Lib.hid (HM1.out.alloc (.cells #[.int .i64 12, .int .i64 0, .int .i64 2, .int .i64 0, .int .i64 2] 28))
  have HM2 := Lib.hid (HM2.out.alloc (.cells #[.int .i64 12, .int .i64 0, .int .i64 2, .int .i64 0, .int .i64 2] 28))
  have HM3 := Lib.hid (show has (w6.alloc (.cells #[.int .i64 12, .int .i64 0, .int .i64 2, .int .i64 0, .int .i64 2] 28)) (w6.heap.size) 28 (eL 12 0 2 0 2) from new1 (by first | rfl | simp) 28 (eL 12 0 2 0 2))
  have HB := Lib.hid (HB.out.alloc HB.out.size (.cells #[.int .i64 12, .int .i64 0, .int .i64 2, .int .i64 0, .int .i64 2] 28))
  have HM1 := Lib.hid (HM1.out.alloc (.cells #[.int .i64 7, .int .i64 6, .int .i64 0, .int .i64 0, .int .i64 0] 28))
  have HM2 := Lib.hid (HM2.out.alloc (.cells #[.int .i64 7, .int .i64 6, .int .i64 0, .int .i64 0, .int .i64 0] 28))
  have HM3 := Lib.hid (HM3.out.alloc (.cells #[.int .i64 7, .int .i64 6, .int .i64 0, .int .i64 0, .int .i64 0] 28))
  have HM4 := Lib.hid (show has ((w6.alloc (.cells #[.int .i64 12, .int .i64 0, .int .i64 2, .int .i64 0, .int .i64 2] 28)).alloc (.cells #[.int .i64 7, .int .i64 6, .int .i64 0, .int .i64 0, .int .i64 0] 28)) (w6.heap.size + 1) 28 (eL 7 6 0 0 0) from new1 (by first | rfl | simp) 28 (eL 7 6 0 0 0))
  have HB := Lib.hid (HB.out.alloc HB.out.size (.cells #[.int .i64 7, .int .i64 6, .int .i64 0, .int .i64 0, .int .i64 0] 28))
  obtain ⟨c10, c11, c12, c13, c14, c15⟩ := five HM1.out
  obtain ⟨c30, c31, c32, c33, c34, c35⟩ := five HM3.out
  have HM1 := Lib.hid (HM1.out.alloc (.cells #[.int .i64 1, .int .i64 5, .int .i64 3, .int .i64 0, .int .i64 0, .int .i64 12, .int .i64 0, .int .i64 2, .int .i64 0, .int .i64 2] 28))
  have HM2 := Lib.hid (HM2.out.alloc (.cells #[.int .i64 1, .int .i64 5, .int .i64 3, .int .i64 0, .int .i64 0, .int .i64 12, .int .i64 0, .int .i64 2, .int .i64 0, .int .i64 2] 28))
  have HM3 := Lib.hid (HM3.out.alloc (.cells #[.int .i64 1, .int .i64 5, .int .i64 3, .int .i64 0, .int .i64 0, .int .i64 12, .int .i64 0, .int .i64 2, .int .i64 0, .int .i64 2] 28))
  have HM4 := Lib.hid (HM4.out.alloc (.cells #[.int .i64 1, .int .i64 5, .int .i64 3, .int .i64 0, .int .i64 0, .int .i64 12, .int .i64 0, .int .i64 2, .int .i64 0, .int .i64 2] 28))
  have HA0 := Lib.hid (show has (((w6.alloc (.cells #[.int .i64 12, .int .i64 0, .int .i64 2, .int .i64 0, .int .i64 2] 28)).alloc (.cells #[.int .i64 7, .int .i64 6, .int .i64 0, .int .i64 0, .int .i64 0] 28)).alloc (.cells #[.int .i64 1, .int .i64 5, .int .i64 3, .int .i64 0, .int .i64 0, .int .i64 12, .int .i64 0, .int .i64 2, .int .i64 0, .int .i64 2] 28)) (w6.heap.size + 2) 28 (efC [⟨1, 5, 3, 0, 0⟩, ⟨12, 0, 2, 0, 2⟩]) from new1 (by first | rfl | simp) 28 (efC [⟨1, 5, 3, 0, 0⟩, ⟨12, 0, 2, 0, 2⟩]))
  have HB := Lib.hid (HB.out.alloc HB.out.size (.cells #[.int .i64 1, .int .i64 5, .int .i64 3, .int .i64 0, .int .i64 0, .int .i64 12, .int .i64 0, .int .i64 2, .int .i64 0, .int .i64 2] 28))
  have HM1 := Lib.hid (HM1.out.alloc (.cells #[.int .u8 2, .int .u8 1, .int .u8 5, .int .u8 3, .int .u8 0, .int .u8 0, .int .u8 12, .int .u8 0, .int .u8 2, .int .u8 0, .int .u8 2] 5))
  have HM2 := Lib.hid (HM2.out.alloc (.cells #[.int .u8 2, .int .u8 1, .int .u8 5, .int .u8 3, .int .u8 0, .int .u8 0, .int .u8 12, .int .u8 0, .int .u8 2, .int .u8 0, .int .u8 2] 5))
  have HM3 := Lib.hid (HM3.out.alloc (.cells #[.int .u8 2, .int .u8 1, .int .u8 5, .int .u8 3, .int .u8 0, .int .u8 0, .int .u8 12, .int .u8 0, .int .u8 2, .int .u8 0, .int .u8 2] 5))
  have HM4 := Lib.hid (HM4.out.alloc (.cells #[.int .u8 2, .int .u8 1, .int .u8 5, .int .u8 3, .int .u8 0, .int .u8 0, .int .u8 12, .int .u8 0, .int .u8 2, .int .u8 0, .int .u8 2] 5))
  have HA0 := Lib.hid (HA0.out.alloc (.cells #[.int .u8 2, .int .u8 1, .int .u8 5, .int .u8 3, .int .u8 0, .int .u8 0, .int .u8 12, .int .u8 0, .int .u8 2, .int .u8 0, .int .u8 2] 5))
  have HA1 := Lib.hid (show has ((((w6.alloc (.cells #[.int .i64 12, .int .i64 0, .int .i64 2, .int .i64 0, .int .i64 2] 28)).alloc (.cells #[.int .i64 7, .int .i64 6, .int .i64 0, .int .i64 0, .int .i64 0] 28)).alloc (.cells #[.int .i64 1, .int .i64 5, .int .i64 3, .int .i64 0, .int .i64 0, .int .i64 12, .int .i64 0, .int .i64 2, .int .i64 0, .int .i64 2] 28)).alloc (.cells #[.int .u8 2, .int .u8 1, .int .u8 5, .int .u8 3, .int .u8 0, .int .u8 0, .int .u8 12, .int .u8 0, .int .u8 2, .int .u8 0, .int .u8 2] 5)) (w6.heap.size + 3) 5 (bys [2, 1, 5, 3, 0, 0, 12, 0, 2, 0, 2]) from new1 (by first | rfl | simp) 5 (bys [2, 1, 5, 3, 0, 0, 12, 0, 2, 0, 2]))
  have HB := Lib.hid (HB.out.alloc HB.out.size (.cells #[.int .u8 2, .int .u8 1, .int .u8 5, .int .u8 3, .int .u8 0, .int .u8 0, .int .u8 12, .int .u8 0, .int .u8 2, .int .u8 0, .int .u8 2] 5))
  have HV := encodes_any (some ⟨w6.heap.size + 2, 0, none⟩) (some ⟨w6.heap.size + 3, 0, none⟩) 2 2 11 11 [⟨1, 5, 3, 0, 0⟩, ⟨12, 0, 2, 0, 2⟩] [2, 1, 5, 3, 0, 0, 12, 0, 2, 0, 2] 0 _ (efs_at [⟨1, 5, 3, 0, 0⟩, ⟨12, 0, 2, 0, 2⟩] HA0.out (fun e he => kW e (by simp only [List.mem_cons, List.not_mem_nil, or_false] at he ⊢; rcases he with rfl | rfl <;> simp)) (by decide)) (bs_at [2, 1, 5, 3, 0, 0, 12, 0, 2, 0, 2] HA1.out (by decide))
  rw [kE0] at HV
  go_wp2_with fail
  refine (HV).mono ?_; rintro e w7 ⟨rfl, hb⟩
  have HB := Lib.hid (next HB.out hb)
  have HM1 := Lib.hid (HM1.out.below hb HM1.out.lt)
  have HM2 := Lib.hid (HM2.out.below hb HM2.out.lt)
  have HM3 := Lib.hid (HM3.out.below hb HM3.out.lt)
  have HM4 := Lib.hid (HM4.out.below hb HM4.out.lt)
  clear hb c10 c11 c12 c13 c14 c15 c30 c31 c32 c33 c34 c35
  clear HV HA0 HA1
  have HM1 := Lib.hid (HM1.out.alloc (.cells #[.int .u8 0] 5))
  have HM2 := Lib.hid (HM2.out.alloc (.cells #[.int .u8 0] 5))
  have HM3 := Lib.hid (HM3.out.alloc (.cells #[.int .u8 0] 5))
  have HM4 := Lib.hid (HM4.out.alloc (.cells #[.int .u8 0] 5))
  have HA0 := Lib.hid (show has (w7.alloc (.cells #[.int .u8 0] 5)) (w7.heap.size) 5 (bys [0]) from new1 (by first | rfl | simp) 5 (bys [0]))
  have HB := Lib.hid (HB.out.alloc HB.out.size (.cells #[.int .u8 0] 5))
  have HV := encodes_any none (some ⟨w7.heap.size, 0, none⟩) 0 0 1 1 [] [0] 0 _ (EfsAt.nil _ _) (bs_at [0] HA0.out (by decide))
  rw [kE1] at HV
  go_wp2_with fail
  refine (HV).mono ?_; rintro e w8 ⟨rfl, hb⟩
  have HB := Lib.hid (next HB.out hb)
  have HM1 := Lib.hid (HM1.out.below hb HM1.out.lt)
  have HM2 := Lib.hid (HM2.out.below hb HM2.out.lt)
  have HM3 := Lib.hid (HM3.out.below hb HM3.out.lt)
  have HM4 := Lib.hid (HM4.out.below hb HM4.out.lt)
  clear hb
  clear HV HA0
  have HM1 := Lib.hid (HM1.out.alloc (.cells #[.int .u8 1, .int .u8 7, .int .u8 6, .int .u8 0, .int .u8 0, .int .u8 0, .int .u8 9] 5))
  have HM2 := Lib.hid (HM2.out.alloc (.cells #[.int .u8 1, .int .u8 7, .int .u8 6, .int .u8 0, .int .u8 0, .int .u8 0, .int .u8 9] 5))
  have HM3 := Lib.hid (HM3.out.alloc (.cells #[.int .u8 1, .int .u8 7, .int .u8 6, .int .u8 0, .int .u8 0, .int .u8 0, .int .u8 9] 5))
  have HM4 := Lib.hid (HM4.out.alloc (.cells #[.int .u8 1, .int .u8 7, .int .u8 6, .int .u8 0, .int .u8 0, .int .u8 0, .int .u8 9] 5))
  have HA0 := Lib.hid (show has (w8.alloc (.cells #[.int .u8 1, .int .u8 7, .int .u8 6, .int .u8 0, .int .u8 0, .int .u8 0, .int .u8 9] 5)) (w8.heap.size) 5 (bys [1, 7, 6, 0, 0, 0, 9]) from new1 (by first | rfl | simp) 5 (bys [1, 7, 6, 0, 0, 0, 9]))
  have HB := Lib.hid (HB.out.alloc HB.out.size (.cells #[.int .u8 1, .int .u8 7, .int .u8 6, .int .u8 0, .int .u8 0, .int .u8 0, .int .u8 9] 5))
  obtain ⟨c40, c41, c42, c43, c44, c45⟩ := five HM4.out
  have HM1 := Lib.hid (HM1.out.alloc (.cells #[.int .i64 7, .int .i64 6, .int .i64 0, .int .i64 0, .int .i64 0] 28))
  have HM2 := Lib.hid (HM2.out.alloc (.cells #[.int .i64 7, .int .i64 6, .int .i64 0, .int .i64 0, .int .i64 0] 28))
  have HM3 := Lib.hid (HM3.out.alloc (.cells #[.int .i64 7, .int .i64 6, .int .i64 0, .int .i64 0, .int .i64 0] 28))
  have HM4 := Lib.hid (HM4.out.alloc (.cells #[.int .i64 7, .int .i64 6, .int .i64 0, .int .i64 0, .int .i64 0] 28))
  have HA0 := Lib.hid (HA0.out.alloc (.cells #[.int .i64 7, .int .i64 6, .int .i64 0, .int .i64 0, .int .i64 0] 28))
  have HA1 := Lib.hid (show has ((w8.alloc (.cells #[.int .u8 1, .int .u8 7, .int .u8 6, .int .u8 0, .int .u8 0, .int .u8 0, .int .u8 9] 5)).alloc (.cells #[.int .i64 7, .int .i64 6, .int .i64 0, .int .i64 0, .int .i64 0] 28)) (w8.heap.size + 1) 28 (efC [⟨7, 6, 0, 0, 0⟩]) from new1 (by first | rfl | simp) 28 (efC [⟨7, 6, 0, 0, 0⟩]))
  have HB := Lib.hid (HB.out.alloc HB.out.size (.cells #[.int .i64 7, .int .i64 6, .int .i64 0, .int .i64 0, .int .i64 0] 28))
  have HV := decodes_any (some ⟨w8.heap.size, 0, none⟩) (some ⟨w8.heap.size + 1, 0, none⟩) 7 7 1 1 [1, 7, 6, 0, 0, 0, 9] [⟨7, 6, 0, 0, 0⟩] 6 0 _ (bs_at [1, 7, 6, 0, 0, 0, 9] HA0.out (by decide)) (Nat.le_refl _) (efs_at [⟨7, 6, 0, 0, 0⟩] HA1.out (fun e he => kW e (by simp only [List.mem_cons, List.not_mem_nil, or_false] at he ⊢; rcases he with rfl <;> simp)) (by decide))
  rw [kD0] at HV
  go_wp2_with fail
  refine (HV).mono ?_; rintro e w9 ⟨rfl, hb⟩
  have HB := Lib.hid (next HB.out hb)
  have HM1 := Lib.hid (HM1.out.below hb HM1.out.lt)
  have HM2 := Lib.hid (HM2.out.below hb HM2.out.lt)
  have HM3 := Lib.hid (HM3.out.below hb HM3.out.lt)
  have HM4 := Lib.hid (HM4.out.below hb HM4.out.lt)
  clear hb c40 c41 c42 c43 c44 c45
  clear HV HA0 HA1
  have HM1 := Lib.hid (HM1.out.alloc (.cells #[.int .u8 1, .int .u8 7, .int .u8 6] 5))
  have HM2 := Lib.hid (HM2.out.alloc (.cells #[.int .u8 1, .int .u8 7, .int .u8 6] 5))
  have HM3 := Lib.hid (HM3.out.alloc (.cells #[.int .u8 1, .int .u8 7, .int .u8 6] 5))
  have HM4 := Lib.hid (HM4.out.alloc (.cells #[.int .u8 1, .int .u8 7, .int .u8 6] 5))
  have HA0 := Lib.hid (show has (w9.alloc (.cells #[.int .u8 1, .int .u8 7, .int .u8 6] 5)) (w9.heap.size) 5 (bys [1, 7, 6]) from new1 (by first | rfl | simp) 5 (bys [1, 7, 6]))
  have HB := Lib.hid (HB.out.alloc HB.out.size (.cells #[.int .u8 1, .int .u8 7, .int .u8 6] 5))
  have HV := decodes_any (some ⟨w9.heap.size, 0, none⟩) none 3 3 0 0 [1, 7, 6] [] 0 4 _ (bs_at [1, 7, 6] HA0.out (by decide)) (Nat.le_refl _) (EfsAt.nil _ _)
  rw [kD1] at HV
  go_wp2_with fail
  refine (HV).mono ?_; rintro e w10 ⟨rfl, hb⟩
  have HB := Lib.hid (next HB.out hb)
  have HM1 := Lib.hid (HM1.out.below hb HM1.out.lt)
  have HM2 := Lib.hid (HM2.out.below hb HM2.out.lt)
  have HM3 := Lib.hid (HM3.out.below hb HM3.out.lt)
  have HM4 := Lib.hid (HM4.out.below hb HM4.out.lt)
  clear hb
  clear HV HA0
  have HM1 := Lib.hid (HM1.out.alloc (.cells #[.int .u8 5] 5))
  have HM2 := Lib.hid (HM2.out.alloc (.cells #[.int .u8 5] 5))
  have HM3 := Lib.hid (HM3.out.alloc (.cells #[.int .u8 5] 5))
  have HM4 := Lib.hid (HM4.out.alloc (.cells #[.int .u8 5] 5))
  have HA0 := Lib.hid (show has (w10.alloc (.cells #[.int .u8 5] 5)) (w10.heap.size) 5 (bys [5]) from new1 (by first | rfl | simp) 5 (bys [5]))
  have HB := Lib.hid (HB.out.alloc HB.out.size (.cells #[.int .u8 5] 5))
  have HV := decodes_any (some ⟨w10.heap.size, 0, none⟩) none 1 1 0 0 [5] [] 0 6 _ (bs_at [5] HA0.out (by decide)) (Nat.le_refl _) (EfsAt.nil _ _)
  rw [kD2] at HV
  go_wp2_with fail
  refine (HV).mono ?_; rintro e w11 ⟨rfl, hb⟩
  have HB := Lib.hid (next HB.out hb)
  have HM1 := Lib.hid (HM1.out.below hb HM1.out.lt)
  have HM2 := Lib.hid (HM2.out.below hb HM2.out.lt)
  have HM3 := Lib.hid (HM3.out.below hb HM3.out.lt)
  have HM4 := Lib.hid (HM4.out.below hb HM4.out.lt)
  clear hb
  clear HV HA0
  have HM1 := Lib.hid (HM1.out.alloc (.cells #[.int .u8 1, .int .u8 7, .int .u8 1, .int .u8 0, .int .u8 0, .int .u8 0] 5))
  have HM2 := Lib.hid (HM2.out.alloc (.cells #[.int .u8 1, .int .u8 7, .int .u8 1, .int .u8 0, .int .u8 0, .int .u8 0] 5))
  have HM3 := Lib.hid (HM3.out.alloc (.cells #[.int .u8 1, .int .u8 7, .int .u8 1, .int .u8 0, .int .u8 0, .int .u8 0] 5))
  have HM4 := Lib.hid (HM4.out.alloc (.cells #[.int .u8 1, .int .u8 7, .int .u8 1, .int .u8 0, .int .u8 0, .int .u8 0] 5))
  have HA0 := Lib.hid (show has (w11.alloc (.cells #[.int .u8 1, .int .u8 7, .int .u8 1, .int .u8 0, .int .u8 0, .int .u8 0] 5)) (w11.heap.size) 5 (bys [1, 7, 1, 0, 0, 0]) from new1 (by first | rfl | simp) 5 (bys [1, 7, 1, 0, 0, 0]))
  have HB := Lib.hid (HB.out.alloc HB.out.size (.cells #[.int .u8 1, .int .u8 7, .int .u8 1, .int .u8 0, .int .u8 0, .int .u8 0] 5))
  have HV := decodes_any (some ⟨w11.heap.size, 0, none⟩) none 6 6 0 0 [1, 7, 1, 0, 0, 0] [] 0 6 _ (bs_at [1, 7, 1, 0, 0, 0] HA0.out (by decide)) (Nat.le_refl _) (EfsAt.nil _ _)
  rw [kD3] at HV
  go_wp2_with fail
  refine (HV).mono ?_; rintro e w12 ⟨rfl, hb⟩
  have HB := Lib.hid (next HB.out hb)
  have HM1 := Lib.hid (HM1.out.below hb HM1.out.lt)
  have HM2 := Lib.hid (HM2.out.below hb HM2.out.lt)
  have HM3 := Lib.hid (HM3.out.below hb HM3.out.lt)
  have HM4 := Lib.hid (HM4.out.below hb HM4.out.lt)
  clear hb
  clear HV HA0
  have HM1 := Lib.hid (HM1.out.alloc (.cells #[.int .i64 2, .int .i64 0, .int .i64 2, .int .i64 0, .int .i64 0] 28))
  have HM2 := Lib.hid (HM2.out.alloc (.cells #[.int .i64 2, .int .i64 0, .int .i64 2, .int .i64 0, .int .i64 0] 28))
  have HM3 := Lib.hid (HM3.out.alloc (.cells #[.int .i64 2, .int .i64 0, .int .i64 2, .int .i64 0, .int .i64 0] 28))
  have HM4 := Lib.hid (HM4.out.alloc (.cells #[.int .i64 2, .int .i64 0, .int .i64 2, .int .i64 0, .int .i64 0] 28))
  have HM5 := Lib.hid (show has (w12.alloc (.cells #[.int .i64 2, .int .i64 0, .int .i64 2, .int .i64 0, .int .i64 0] 28)) (w12.heap.size) 28 (eL 2 0 2 0 0) from new1 (by first | rfl | simp) 28 (eL 2 0 2 0 0))
  have HB := Lib.hid (HB.out.alloc HB.out.size (.cells #[.int .i64 2, .int .i64 0, .int .i64 2, .int .i64 0, .int .i64 0] 28))
  have HM1 := Lib.hid (HM1.out.alloc (.cells #[.int .i64 8, .int .i64 2, .int .i64 1, .int .i64 2, .int .i64 0] 28))
  have HM2 := Lib.hid (HM2.out.alloc (.cells #[.int .i64 8, .int .i64 2, .int .i64 1, .int .i64 2, .int .i64 0] 28))
  have HM3 := Lib.hid (HM3.out.alloc (.cells #[.int .i64 8, .int .i64 2, .int .i64 1, .int .i64 2, .int .i64 0] 28))
  have HM4 := Lib.hid (HM4.out.alloc (.cells #[.int .i64 8, .int .i64 2, .int .i64 1, .int .i64 2, .int .i64 0] 28))
  have HM5 := Lib.hid (HM5.out.alloc (.cells #[.int .i64 8, .int .i64 2, .int .i64 1, .int .i64 2, .int .i64 0] 28))
  have HM6 := Lib.hid (show has ((w12.alloc (.cells #[.int .i64 2, .int .i64 0, .int .i64 2, .int .i64 0, .int .i64 0] 28)).alloc (.cells #[.int .i64 8, .int .i64 2, .int .i64 1, .int .i64 2, .int .i64 0] 28)) (w12.heap.size + 1) 28 (eL 8 2 1 2 0) from new1 (by first | rfl | simp) 28 (eL 8 2 1 2 0))
  have HB := Lib.hid (HB.out.alloc HB.out.size (.cells #[.int .i64 8, .int .i64 2, .int .i64 1, .int .i64 2, .int .i64 0] 28))
  obtain ⟨c60, c61, c62, c63, c64, c65⟩ := five HM6.out
  have HV := texts_any ⟨8, 2, 1, 2, 0⟩ [112, 117, 109, 112, 32, 49, 32, 50, 32, 111, 119, 110] 0 _ (HG.out.below HB.out)
  rw [kT0] at HV
  go_wp2_with fail
  refine (HV).mono ?_; rintro e w13 ⟨rfl, hb⟩
  have HB := Lib.hid (next HB.out hb)
  have HM1 := Lib.hid (HM1.out.below hb HM1.out.lt)
  have HM2 := Lib.hid (HM2.out.below hb HM2.out.lt)
  have HM3 := Lib.hid (HM3.out.below hb HM3.out.lt)
  have HM4 := Lib.hid (HM4.out.below hb HM4.out.lt)
  have HM5 := Lib.hid (HM5.out.below hb HM5.out.lt)
  have HM6 := Lib.hid (HM6.out.below hb HM6.out.lt)
  clear hb c60 c61 c62 c63 c64 c65
  clear HV
  obtain ⟨c50, c51, c52, c53, c54, c55⟩ := five HM5.out
  have HV := texts_any ⟨2, 0, 2, 0, 0⟩ [100, 114, 97, 119, 32, 50] 0 _ (HG.out.below HB.out)
  rw [kT1] at HV
  go_wp2_with fail
  refine (HV).mono ?_; rintro e w14 ⟨rfl, hb⟩
  have HB := Lib.hid (next HB.out hb)
  have HM1 := Lib.hid (HM1.out.below hb HM1.out.lt)
  have HM2 := Lib.hid (HM2.out.below hb HM2.out.lt)
  have HM3 := Lib.hid (HM3.out.below hb HM3.out.lt)
  have HM4 := Lib.hid (HM4.out.below hb HM4.out.lt)
  have HM5 := Lib.hid (HM5.out.below hb HM5.out.lt)
  have HM6 := Lib.hid (HM6.out.below hb HM6.out.lt)
  clear hb c50 c51 c52 c53 c54 c55
  clear HV
  obtain ⟨c30, c31, c32, c33, c34, c35⟩ := five HM3.out
  have HV := texts_any ⟨12, 0, 2, 0, 2⟩ [109, 97, 110, 97, 32, 50, 32, 76] 0 _ (HG.out.below HB.out)
  rw [kT2] at HV
  go_wp2_with fail
  refine (HV).mono ?_; rintro e w15 ⟨rfl, hb⟩
  have HB := Lib.hid (next HB.out hb)
  have HM1 := Lib.hid (HM1.out.below hb HM1.out.lt)
  have HM2 := Lib.hid (HM2.out.below hb HM2.out.lt)
  have HM3 := Lib.hid (HM3.out.below hb HM3.out.lt)
  have HM4 := Lib.hid (HM4.out.below hb HM4.out.lt)
  have HM5 := Lib.hid (HM5.out.below hb HM5.out.lt)
  have HM6 := Lib.hid (HM6.out.below hb HM6.out.lt)
  clear hb c30 c31 c32 c33 c34 c35
  clear HV
  obtain ⟨c40, c41, c42, c43, c44, c45⟩ := five HM4.out
  have HV := texts_any ⟨7, 6, 0, 0, 0⟩ [99, 111, 117, 110, 116, 101, 114, 32, 115, 112, 101, 108, 108] 0 _ (HG.out.below HB.out)
  rw [kT3] at HV
  go_wp2_with fail
  refine (HV).mono ?_; rintro e w16 ⟨rfl, hb⟩
  have HB := Lib.hid (next HB.out hb)
  have HM1 := Lib.hid (HM1.out.below hb HM1.out.lt)
  have HM2 := Lib.hid (HM2.out.below hb HM2.out.lt)
  have HM3 := Lib.hid (HM3.out.below hb HM3.out.lt)
  have HM4 := Lib.hid (HM4.out.below hb HM4.out.lt)
  have HM5 := Lib.hid (HM5.out.below hb HM5.out.lt)
  have HM6 := Lib.hid (HM6.out.below hb HM6.out.lt)
  clear hb c40 c41 c42 c43 c44 c45
  clear HV
  obtain ⟨c10, c11, c12, c13, c14, c15⟩ := five HM1.out
  have HV := parses_any [100, 97, 109, 97, 103, 101, 32, 51, 32, 101, 105, 116, 104, 101, 114] ⟨1, 5, 3, 0, 0⟩ 0 _ (HG.out.below HB.out) (by decide)
  rw [kP0] at HV
  go_wp2_with fail
  refine (HV).mono ?_; rintro e w17 ⟨rfl, hb⟩
  have HB := Lib.hid (next HB.out hb)
  have HM1 := Lib.hid (HM1.out.below hb HM1.out.lt)
  have HM2 := Lib.hid (HM2.out.below hb HM2.out.lt)
  have HM3 := Lib.hid (HM3.out.below hb HM3.out.lt)
  have HM4 := Lib.hid (HM4.out.below hb HM4.out.lt)
  have HM5 := Lib.hid (HM5.out.below hb HM5.out.lt)
  have HM6 := Lib.hid (HM6.out.below hb HM6.out.lt)
  clear hb c10 c11 c12 c13 c14 c15
  clear HV
  obtain ⟨c20, c21, c22, c23, c24, c25⟩ := five HM2.out
  have HV := parses_any [100, 97, 109, 97, 103, 101, 32, 48, 51, 32, 101, 105, 116, 104, 101, 114] ⟨0, 0, 0, 0, 0⟩ 6 _ (HG.out.below HB.out) (by decide)
  rw [kP1] at HV
  go_wp2_with fail
  refine (HV).mono ?_; rintro e w18 ⟨rfl, hb⟩
  have HB := Lib.hid (next HB.out hb)
  have HM1 := Lib.hid (HM1.out.below hb HM1.out.lt)
  have HM2 := Lib.hid (HM2.out.below hb HM2.out.lt)
  have HM3 := Lib.hid (HM3.out.below hb HM3.out.lt)
  have HM4 := Lib.hid (HM4.out.below hb HM4.out.lt)
  have HM5 := Lib.hid (HM5.out.below hb HM5.out.lt)
  have HM6 := Lib.hid (HM6.out.below hb HM6.out.lt)
  clear hb c20 c21 c22 c23 c24 c25
  clear HV
  obtain ⟨c20, c21, c22, c23, c24, c25⟩ := five HM2.out
  have HV := parses_any [100, 114, 97, 119, 32, 50, 32] ⟨0, 0, 0, 0, 0⟩ 6 _ (HG.out.below HB.out) (by decide)
  rw [kP2] at HV
  go_wp2_with fail
  refine (HV).mono ?_; rintro e w19 ⟨rfl, hb⟩
  have HB := Lib.hid (next HB.out hb)
  have HM1 := Lib.hid (HM1.out.below hb HM1.out.lt)
  have HM2 := Lib.hid (HM2.out.below hb HM2.out.lt)
  have HM3 := Lib.hid (HM3.out.below hb HM3.out.lt)
  have HM4 := Lib.hid (HM4.out.below hb HM4.out.lt)
  have HM5 := Lib.hid (HM5.out.below hb HM5.out.lt)
  have HM6 := Lib.hid (HM6.out.below hb HM6.out.lt)
  clear hb c20 c21 c22 c23 c24 c25
  clear HV
  obtain ⟨c20, c21, c22, c23, c24, c25⟩ := five HM2.out
  have HV := parses_any [116, 111, 107, 101, 110, 32, 49, 32, 49, 32, 111, 119, 110] ⟨0, 0, 0, 0, 0⟩ 6 _ (HG.out.below HB.out) (by decide)
  rw [kP3] at HV
  go_wp2_with fail
  refine (HV).mono ?_; rintro e w20 ⟨rfl, hb⟩
  have HB := Lib.hid (next HB.out hb)
  have HM1 := Lib.hid (HM1.out.below hb HM1.out.lt)
  have HM2 := Lib.hid (HM2.out.below hb HM2.out.lt)
  have HM3 := Lib.hid (HM3.out.below hb HM3.out.lt)
  have HM4 := Lib.hid (HM4.out.below hb HM4.out.lt)
  have HM5 := Lib.hid (HM5.out.below hb HM5.out.lt)
  have HM6 := Lib.hid (HM6.out.below hb HM6.out.lt)
  clear hb c20 c21 c22 c23 c24 c25
  clear HV
  obtain ⟨c50, c51, c52, c53, c54, c55⟩ := five HM5.out
  have HM1 := Lib.hid (HM1.out.alloc (.cells #[.int .i64 2, .int .i64 0, .int .i64 2, .int .i64 0, .int .i64 0, .int .i64 11, .int .i64 2, .int .i64 0, .int .i64 0, .int .i64 0] 28))
  have HM2 := Lib.hid (HM2.out.alloc (.cells #[.int .i64 2, .int .i64 0, .int .i64 2, .int .i64 0, .int .i64 0, .int .i64 11, .int .i64 2, .int .i64 0, .int .i64 0, .int .i64 0] 28))
  have HM3 := Lib.hid (HM3.out.alloc (.cells #[.int .i64 2, .int .i64 0, .int .i64 2, .int .i64 0, .int .i64 0, .int .i64 11, .int .i64 2, .int .i64 0, .int .i64 0, .int .i64 0] 28))
  have HM4 := Lib.hid (HM4.out.alloc (.cells #[.int .i64 2, .int .i64 0, .int .i64 2, .int .i64 0, .int .i64 0, .int .i64 11, .int .i64 2, .int .i64 0, .int .i64 0, .int .i64 0] 28))
  have HM5 := Lib.hid (HM5.out.alloc (.cells #[.int .i64 2, .int .i64 0, .int .i64 2, .int .i64 0, .int .i64 0, .int .i64 11, .int .i64 2, .int .i64 0, .int .i64 0, .int .i64 0] 28))
  have HM6 := Lib.hid (HM6.out.alloc (.cells #[.int .i64 2, .int .i64 0, .int .i64 2, .int .i64 0, .int .i64 0, .int .i64 11, .int .i64 2, .int .i64 0, .int .i64 0, .int .i64 0] 28))
  have HA0 := Lib.hid (show has (w20.alloc (.cells #[.int .i64 2, .int .i64 0, .int .i64 2, .int .i64 0, .int .i64 0, .int .i64 11, .int .i64 2, .int .i64 0, .int .i64 0, .int .i64 0] 28)) (w20.heap.size) 28 (efC [⟨2, 0, 2, 0, 0⟩, ⟨11, 2, 0, 0, 0⟩]) from new1 (by first | rfl | simp) 28 (efC [⟨2, 0, 2, 0, 0⟩, ⟨11, 2, 0, 0, 0⟩]))
  have HB := Lib.hid (HB.out.alloc HB.out.size (.cells #[.int .i64 2, .int .i64 0, .int .i64 2, .int .i64 0, .int .i64 0, .int .i64 11, .int .i64 2, .int .i64 0, .int .i64 0, .int .i64 0] 28))
  have HV := Targets_any (some ⟨w20.heap.size, 0, none⟩) 2 2 [⟨2, 0, 2, 0, 0⟩, ⟨11, 2, 0, 0, 0⟩] _ (efs_at [⟨2, 0, 2, 0, 0⟩, ⟨11, 2, 0, 0, 0⟩] HA0.out (fun e he => kW e (by simp only [List.mem_cons, List.not_mem_nil, or_false] at he ⊢; rcases he with rfl | rfl <;> simp)) (by decide))
  rw [kN] at HV
  go_wp2_with fail
  refine (HV).mono ?_; rintro e w21 ⟨rfl, hb⟩
  have HB := Lib.hid (next HB.out hb)
  have HM1 := Lib.hid (HM1.out.below hb HM1.out.lt)
  have HM2 := Lib.hid (HM2.out.below hb HM2.out.lt)
  have HM3 := Lib.hid (HM3.out.below hb HM3.out.lt)
  have HM4 := Lib.hid (HM4.out.below hb HM4.out.lt)
  have HM5 := Lib.hid (HM5.out.below hb HM5.out.lt)
  have HM6 := Lib.hid (HM6.out.below hb HM6.out.lt)
  clear hb c50 c51 c52 c53 c54 c55
  go_wp2_with fail
  go_ret
  exact ⟨rfl, HB.out⟩
end Go.Proofs.YtfdolapiikgebaaDoor.efFn
