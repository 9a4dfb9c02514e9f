/- What nil and zero zones return; the law's walk on them. -/
import Derived.Test.YtklohgecgjlgeaaZoNames
namespace Go.Proofs.Ytklohgecgjlgeaa.zoFn
open Go.ChangeShapes Go.WideShapes Go.ChangeAt Go.RowKit drMem
set_option linter.unusedVariables false
variable {w w' W W' : World}

theorem isNo.nm {p : Option Addr} (h : isNo p w) : isNm p w 0 := .inl ⟨rfl, h⟩
theorem zero_no (p : Option Addr) (w : World) (hp : isNo p w) : Calls Try.prog 29 #[.pointer p] w fun e w' => e = .returned (.bool true) ∧ w = w' := zero_any hp.nm
theorem isZone_no (p : Option Addr) (z : Int) (w : World) (hp : isNo p w) : Calls Try.prog 31 #[.pointer p, .int .i64 z] w fun e w' => e = .returned (.bool false) ∧ w = w' := by
  have e : okZ 0 z = false := by simp [okZ]
  rw [← e]
  exact isZone_any hp.nm z
theorem mayEnter_no (p : Option Addr) (x z : Int) (w : World) (hp : isNo p w) : Calls Try.prog 26 #[.pointer p, .int .i64 x, .int .i64 z] w fun e w' => e = .returned (.int .i64 1) ∧ w = w' := by
  have HZ := Lib.hid (zero_no p w hp)
  clear hp
  go_enter Try.func26, Try.ntmps26
  go_wp2_with (go_at_call 29; refine HZ.out.mono ?_; rintro e w' ⟨rfl, rfl⟩)
  go_ret
  exact ⟨rfl, rfl⟩
theorem mayLeave_no (p : Option Addr) (x : Int) (w : World) (hp : isNo p w) : Calls Try.prog 34 #[.pointer p, .int .i64 x] w fun e w' => e = .returned (.int .i64 1) ∧ w = w' := by
  have HZ := Lib.hid (zero_no p w hp)
  clear hp
  go_enter Try.func34, Try.ntmps34
  go_wp2_with (go_at_call 29; refine HZ.out.mono ?_; rintro e w' ⟨rfl, rfl⟩)
  go_ret
  exact ⟨rfl, rfl⟩
theorem Put_no (p : Option Addr) (x z : Int) (w : World) (hp : isNo p w) : Calls Try.prog 9 #[.pointer p, .int .i64 x, .int .i64 z] w fun e w' => e = .returned (.int .i64 1) ∧ w = w' := by
  have HZ := Lib.hid (mayEnter_no p x z w hp)
  clear hp
  go_enter Try.func9, Try.ntmps9
  go_wp2_with (go_at_call 26; refine HZ.out.mono ?_; rintro e w' ⟨rfl, rfl⟩)
  go_ret
  exact ⟨rfl, rfl⟩
theorem Under_no (p : Option Addr) (x z : Int) (w : World) (hp : isNo p w) : Calls Try.prog 10 #[.pointer p, .int .i64 x, .int .i64 z] w fun e w' => e = .returned (.int .i64 1) ∧ w = w' := by
  have HZ := Lib.hid (mayEnter_no p x z w hp)
  clear hp
  go_enter Try.func10, Try.ntmps10
  go_wp2_with (go_at_call 26; refine HZ.out.mono ?_; rintro e w' ⟨rfl, rfl⟩)
  go_ret
  exact ⟨rfl, rfl⟩
theorem Move_no (p : Option Addr) (x z : Int) (w : World) (hp : isNo p w) : Calls Try.prog 11 #[.pointer p, .int .i64 x, .int .i64 z] w fun e w' => e = .returned (.int .i64 1) ∧ w = w' := by
  have HZ := Lib.hid (zero_no p w hp)
  clear hp
  go_enter Try.func11, Try.ntmps11
  go_wp2_with (go_at_call 29; refine HZ.out.mono ?_; rintro e w' ⟨rfl, rfl⟩)
  go_ret
  exact ⟨rfl, rfl⟩
theorem Remove_no (p : Option Addr) (x : Int) (w : World) (hp : isNo p w) : Calls Try.prog 14 #[.pointer p, .int .i64 x] w fun e w' => e = .returned (.int .i64 1) ∧ w = w' := by
  have HZ := Lib.hid (mayLeave_no p x w hp)
  clear hp
  go_enter Try.func14, Try.ntmps14
  go_wp2_with (go_at_call 34; refine HZ.out.mono ?_; rintro e w' ⟨rfl, rfl⟩)
  go_ret
  exact ⟨rfl, rfl⟩
theorem Top_no (p : Option Addr) (z : Int) (w : World) (hp : isNo p w) : Calls Try.prog 25 #[.pointer p, .int .i64 z] w fun e w' => e = .returned (.tuple #[.int .i64 0, .int .i64 1]) ∧ w = w' := by
  have HZ := Lib.hid (zero_no p w hp)
  clear hp
  go_enter Try.func25, Try.ntmps25
  go_wp2_with (go_at_call 29; refine HZ.out.mono ?_; rintro e w' ⟨rfl, rfl⟩)
  go_ret2
  exact ⟨rfl, rfl⟩
theorem List_no (p : Option Addr) (z : Int) (w : World) (hp : isNo p w) : Calls Try.prog 17 #[.pointer p, .int .i64 z] w fun e w' => e = .returned (.slice none 0 0) ∧ w = w' := by
  have HZ := Lib.hid (isZone_no p z w hp)
  clear hp
  go_enter Try.func17, Try.ntmps17
  go_wp2_with (go_at_call 31; refine HZ.out.mono ?_; rintro e w' ⟨rfl, rfl⟩)
  go_ret
  exact ⟨rfl, rfl⟩
theorem Set_no (p : Option Addr) (z : Int) (w : World) (hp : isNo p w) : Calls Try.prog 20 #[.pointer p, .int .i64 z, .slice none 0 0] w fun e w' => e = .returned (.int .i64 1) ∧ w = w' := by
  have HZ := Lib.hid (zero_no p w hp)
  clear hp
  go_enter Try.func20, Try.ntmps20
  go_wp2_with (go_at_call 29; refine HZ.out.mono ?_; rintro e w' ⟨rfl, rfl⟩)
  go_ret
  exact ⟨rfl, rfl⟩
theorem Len_no (p : Option Addr) (z : Int) (w : World) (hp : isNo p w) : Calls Try.prog 12 #[.pointer p, .int .i64 z] w fun e w' => e = .returned (.int .i64 0) ∧ w = w' := by
  have HZ := Lib.hid (isZone_no p z w hp)
  clear hp
  go_enter Try.func12, Try.ntmps12
  go_wp2_with (go_at_call 31; refine HZ.out.mono ?_; rintro e w' ⟨rfl, rfl⟩)
  go_ret
  exact ⟨rfl, rfl⟩
theorem Zones_no (p : Option Addr) (w : World) (hp : isNo p w) : Calls Try.prog 21 #[.pointer p] w fun e w' => e = .returned (.int .i64 0) ∧ w = w' := Zones_any hp.nm
theorem Copy_no (p : Option Addr) (w : World) (hp : isNo p w) : Calls Try.prog 22 #[.pointer p] w fun e w' => e = .returned (.pointer none) ∧ w = w' := by
  have HZ := Lib.hid (zero_no p w hp)
  clear hp
  go_enter Try.func22, Try.ntmps22
  go_wp2_with (go_at_call 29; refine HZ.out.mono ?_; rintro e w' ⟨rfl, rfl⟩)
  go_ret
  exact ⟨rfl, rfl⟩
theorem top_no (p : Option Addr) (z : Int) (w : World) (hp : isNo p w) : Calls Try.prog 18 #[.pointer p, .int .i64 z, .int .i64 0, .int .i64 1] w fun e w' => e = .returned (.bool true) ∧ w = w' := by
  have HZ := Lib.hid (Top_no p z w hp)
  clear hp
  go_enter Try.func18, Try.ntmps18
  go_wp2_with (go_at_call 25; refine HZ.out.mono ?_; rintro e w' ⟨rfl, rfl⟩)
  go_ret
  exact ⟨rfl, rfl⟩
theorem isNo.below {B : Nat} {p : Option Addr} (h : isNo p w) (hb : Below B w w') (hs : w.heap.size ≤ B) : isNo p w' := by
  rcases h with rfl | ⟨b, rfl, hc⟩
  · exact .inl rfl
  · have hlt := World.block_lt_of_cell? w _ hc
    exact .inr ⟨b, rfl, (hb.cell (p := ⟨b, 0, none⟩) (Nat.lt_of_lt_of_le hlt hs)).trans hc⟩
set_option maxHeartbeats 1000000 in
theorem Where_no (p : Option Addr) (x : Int) (w : World) (hp : isNo p w) : Calls Try.prog 24 #[.pointer p, .int .i64 x] w fun e w' => e = .returned (.tuple #[.agg #[.int .i64 0, .int .i64 0], .int .i64 1]) ∧ Below w.heap.size w w' := by
  have hb : Below w.heap.size w (w.alloc (.cells #[.int .i64 0, .int .i64 0] 33)) := (Below.refl _ w).alloc (Nat.le_refl _) _
  have HL := Lib.hid (mayLeave_no p x _ (hp.below hb (Nat.le_refl _)))
  have HA := Lib.hid (has.new w 33 [.int .i64 0, .int .i64 0])
  clear hp hb
  go_enter Try.func24, Try.ntmps24
  go_wp2_with (go_at_call 34; refine HL.out.mono ?_; rintro e w' ⟨rfl, rfl⟩)
  refine bodyPost_ret (results_row_tmp rfl _ _ w.heap.size 33 #[.int .i64 0, .int .i64 0] (0, 0) _ rfl HA.out Try.underlying33 rfl (by kernel_rfl)) rfl ⟨rfl, ?_⟩
  exact (Below.refl _ w).alloc (Nat.le_refl _) _
set_option maxHeartbeats 1000000 in
theorem where_no (p : Option Addr) (x : Int) (w : World) (hp : isNo p w) : Calls Try.prog 15 #[.pointer p, .int .i64 x, .agg #[.int .i64 0, .int .i64 0], .int .i64 1] w (boolB true w) := by
  have hA : Below w.heap.size w (w.alloc (.cells #[.int .i64 0, .int .i64 0] 33)) := (Below.refl _ w).alloc (Nat.le_refl _) _
  have HW := Lib.hid (Where_no p x _ (hp.below hA (Nat.le_refl _)))
  have HA := Lib.hid (has.new w 33 [.int .i64 0, .int .i64 0])
  clear hp hA
  go_enter Try.func15, Try.ntmps15
  go_wp2_with (go_at_call 24; refine HW.out.mono ?_; rintro e w1 ⟨rfl, hb⟩; have hA1 := HA.out.below hb HA.out.lt; have a0 := hA1.cell 0; have a1 := hA1.cell 1; simp only [List.getElem?_cons_zero, List.getElem?_cons_succ] at a0 a1; have H1 := Lib.hid hA1; have B := Lib.hid hb; have hlt := H1.out.lt; clear hA1 hb)
  go_ret
  exact ⟨rfl, (((Below.refl _ w).alloc (Nat.le_refl _) _).trans (B.out.mono (by simp))).alloc (Nat.le_of_lt hlt) _⟩
/- the two pointers of the law and what they point to -/
structure NS (w : World) (W : World) : Prop where
  z : has W w.heap.size 43 [.slice none 0 0, .map none]
  p : has W (w.heap.size + 1) 22 [.pointer none, .pointer (some ⟨w.heap.size, 0, none⟩)]
  f : Below w.heap.size w W
theorem NS.below (h : NS w W) (hb : Below W.heap.size W W') : NS w W' := ⟨h.z.below hb h.z.lt, h.p.below hb h.p.lt, h.f.trans (hb.mono h.f.size)⟩
theorem NS.no (h : NS w W) : isNo none W ∧ isNo (some ⟨w.heap.size, 0, none⟩) W := ⟨.inl rfl, .inr ⟨_, rfl, by rw [h.z.cell]; rfl⟩⟩
set_option maxRecDepth 100000 in
set_option maxHeartbeats 4000000 in
theorem nil_law (x n : Int) (w : World) : Calls Try.prog 5 #[.int .i64 x, .int .i64 n] w fun e w' => e = .returned (.bool true) ∧ Below w.heap.size w w' := by
  have hst : NS w ((w.alloc (.cells #[.slice none 0 0, .map none] 43)).alloc (.cells #[.pointer none, .pointer (some ⟨w.heap.size, 0, none⟩)] 22)) := by
    have e : (w.alloc (.cells #[.slice none 0 0, .map none] 43)).heap.size = w.heap.size + 1 := by simp
    refine ⟨(has.new w 43 [_, _]).alloc _, ?_, ((Below.refl _ _).alloc (Nat.le_refl _) _).alloc (by simp) _⟩
    rw [← e]
    exact has.new _ 22 [_, _]
  have HST := Lib.hid hst
  clear hst
  go_enter Try.func5, Try.ntmps5
  go_wp2
  go_loopw [7, 13] (fun _ i wr => (i = .int .i64 0 ∨ i = .int .i64 1 ∨ i = .int .i64 2) ∧ NS w wr) (fun _ i _ => 2 - (intOf i).toNat)
  case atStart => exact ⟨.inl rfl, HST.out⟩
  case round =>
    obtain ⟨hi, hs⟩ := hrel
    have HR := Lib.hid hs
    have c0 := hs.p.cell 0
    have c1 := hs.p.cell 1
    simp only [List.getElem?_cons_zero, List.getElem?_cons_succ] at c0 c1
    clear hs HST
    rcases hi with rfl | rfl | rfl
    · go_wp2_with fail
      refine (Put_no none x n _ HR.out.no.1).mono ?_
      rintro e w' ⟨rfl, rfl⟩
      go_wp2_with fail
      refine (Under_no none x n _ HR.out.no.1).mono ?_
      rintro e w' ⟨rfl, rfl⟩
      go_wp2_with fail
      refine (Move_no none x n _ HR.out.no.1).mono ?_
      rintro e w' ⟨rfl, rfl⟩
      go_wp2_with fail
      refine (Remove_no none x _ HR.out.no.1).mono ?_
      rintro e w' ⟨rfl, rfl⟩
      go_wp2_with fail
      refine (where_no none x _ HR.out.no.1).mono ?_
      rintro e w' ⟨rfl, hb⟩
      replace HR := Lib.hid (HR.out.below hb)
      clear hb
      go_wp2_with fail
      refine (top_no none n _ HR.out.no.1).mono ?_
      rintro e w' ⟨rfl, rfl⟩
      go_wp2_with fail
      refine (List_no none n _ HR.out.no.1).mono ?_
      rintro e w' ⟨rfl, rfl⟩
      go_wp2_with fail
      refine (Set_no none n _ HR.out.no.1).mono ?_
      rintro e w' ⟨rfl, rfl⟩
      go_wp2_with fail
      refine (Len_no none n _ HR.out.no.1).mono ?_
      rintro e w' ⟨rfl, rfl⟩
      go_wp2_with fail
      refine (Zones_no none _ HR.out.no.1).mono ?_
      rintro e w' ⟨rfl, rfl⟩
      go_wp2_with fail
      refine (Copy_no none _ HR.out.no.1).mono ?_
      rintro e w' ⟨rfl, rfl⟩
      go_wp2
      go_roundw
      case rel => exact ⟨.inr (.inl rfl), HR.out⟩
      case measure => simp [intOf]
    · go_wp2_with fail
      refine (Put_no (some ⟨w.heap.size, 0, none⟩) x n _ HR.out.no.2).mono ?_
      rintro e w' ⟨rfl, rfl⟩
      go_wp2_with fail
      refine (Under_no (some ⟨w.heap.size, 0, none⟩) x n _ HR.out.no.2).mono ?_
      rintro e w' ⟨rfl, rfl⟩
      go_wp2_with fail
      refine (Move_no (some ⟨w.heap.size, 0, none⟩) x n _ HR.out.no.2).mono ?_
      rintro e w' ⟨rfl, rfl⟩
      go_wp2_with fail
      refine (Remove_no (some ⟨w.heap.size, 0, none⟩) x _ HR.out.no.2).mono ?_
      rintro e w' ⟨rfl, rfl⟩
      go_wp2_with fail
      refine (where_no (some ⟨w.heap.size, 0, none⟩) x _ HR.out.no.2).mono ?_
      rintro e w' ⟨rfl, hb⟩
      replace HR := Lib.hid (HR.out.below hb)
      clear hb
      go_wp2_with fail
      refine (top_no (some ⟨w.heap.size, 0, none⟩) n _ HR.out.no.2).mono ?_
      rintro e w' ⟨rfl, rfl⟩
      go_wp2_with fail
      refine (List_no (some ⟨w.heap.size, 0, none⟩) n _ HR.out.no.2).mono ?_
      rintro e w' ⟨rfl, rfl⟩
      go_wp2_with fail
      refine (Set_no (some ⟨w.heap.size, 0, none⟩) n _ HR.out.no.2).mono ?_
      rintro e w' ⟨rfl, rfl⟩
      go_wp2_with fail
      refine (Len_no (some ⟨w.heap.size, 0, none⟩) n _ HR.out.no.2).mono ?_
      rintro e w' ⟨rfl, rfl⟩
      go_wp2_with fail
      refine (Zones_no (some ⟨w.heap.size, 0, none⟩) _ HR.out.no.2).mono ?_
      rintro e w' ⟨rfl, rfl⟩
      go_wp2_with fail
      refine (Copy_no (some ⟨w.heap.size, 0, none⟩) _ HR.out.no.2).mono ?_
      rintro e w' ⟨rfl, rfl⟩
      go_wp2
      go_roundw
      case rel => exact ⟨.inr (.inr rfl), HR.out⟩
      case measure => simp [intOf]
    · clear c0 c1
      go_wp2_with fail
      refine (known_in HR.out.f).mono ?_
      rintro e w' ⟨rfl, hb⟩
      go_wp2
      go_ret
      exact ⟨rfl, hb⟩
end Go.Proofs.Ytklohgecgjlgeaa.zoFn
