/- The law that goes over the ids while it changes them: what it refuses; the law. -/
import Derived.Test.YtefncefmolphfaaDoorIdIterates
namespace Go.Proofs.YtefncefmolphfaaDoor.idFnX
open Go.ChangeShapes Go.WideShapes Go.ChangeAt Go.RowKit Go.Shelf drMem idBits idFn
set_option linter.unusedVariables false

set_option maxRecDepth 100000 in
set_option maxHeartbeats 2000000 in
theorem iter_out (m : Int) (s2 : Option Addr) (n2 c2 : Nat) (mn : Int) (w : World) (ht : tabAt w) (h : m < 1 ∨ 200 < m ∨ 60 < n2) :
    Calls Tryd.prog 5 #[.int .i64 m, .slice s2 n2 c2, .int .i64 mn] w (boolB true w) := by
  have HT := Lib.hid ht
  clear ht
  go_enter Tryd.func5, Tryd.ntmps5
  by_cases h1 : m < 1
  · have d1 : decide (m < 1) = true := by simpa using h1
    clear h h1
    go_wp2_with fail
    have hb0 : Below w.heap.size w (((w.alloc (.cells #[.int .i64 m] 3)).alloc (.cells #[.int .i64 mn] 3)).alloc (.cells #[.bool false] 4)) := (((Below.refl _ w).alloc (Nat.le_refl _) _).alloc (by simp) _).alloc (by simp; omega) _
    have x6 : has (((w.alloc (.cells #[.int .i64 m] 3)).alloc (.cells #[.int .i64 mn] 3)).alloc (.cells #[.bool false] 4)) (w.heap.size + 1 + 1) 4 [.bool false] := by
      have := has.new ((w.alloc (.cells #[.int .i64 m] 3)).alloc (.cells #[.int .i64 mn] 3)) 4 [.bool false]
      simpa using this
    obtain ⟨W0, hW0⟩ : ∃ W0, (((w.alloc (.cells #[.int .i64 m] 3)).alloc (.cells #[.int .i64 mn] 3)).alloc (.cells #[.bool false] 4)) = W0 := ⟨_, rfl⟩
    rw [hW0] at hb0 x6 ⊢
    clear hW0
    refine (known_any W0 (HT.out.below hb0 HT.out.pos)).mono ?_
    rintro e w9 ⟨rfl, hb9⟩
    have c6 := x6.below hb9 x6.lt
    have f6 := c6.free 0
    have y6 := c6.cell 0
    simp only [List.getElem?_cons_zero] at y6
    have C6 := Lib.hid c6
    have B9 := Lib.hid (hb0.trans (hb9.mono hb0.size))
    clear hb0 x6 hb9 c6
    go_wp2
    (try simp only [Exit.inBlock, Exit.then])
    refine bodyPost_ret (res6 _ _ (w.heap.size + 1 + 1) rfl ((C6.out.put 0 (.bool true)).cell 0)) rfl ⟨rfl, ?_⟩
    exact below_grown B9.out (grown_set w9 ⟨w.heap.size + 1 + 1, 0, none⟩ (.bool true)) B9.out.size (by show w.heap.size ≤ w.heap.size + 1 + 1; omega)
  · have d1 : decide (m < 1) = false := by simpa using h1
    by_cases h2 : 200 < m
    · have d2 : decide (200 < m) = true := by simpa using h2
      clear h h1 h2
      go_wp2_with fail
      have hb0 : Below w.heap.size w (((w.alloc (.cells #[.int .i64 m] 3)).alloc (.cells #[.int .i64 mn] 3)).alloc (.cells #[.bool false] 4)) := (((Below.refl _ w).alloc (Nat.le_refl _) _).alloc (by simp) _).alloc (by simp; omega) _
      have x6 : has (((w.alloc (.cells #[.int .i64 m] 3)).alloc (.cells #[.int .i64 mn] 3)).alloc (.cells #[.bool false] 4)) (w.heap.size + 1 + 1) 4 [.bool false] := by
        have := has.new ((w.alloc (.cells #[.int .i64 m] 3)).alloc (.cells #[.int .i64 mn] 3)) 4 [.bool false]
        simpa using this
      obtain ⟨W0, hW0⟩ : ∃ W0, (((w.alloc (.cells #[.int .i64 m] 3)).alloc (.cells #[.int .i64 mn] 3)).alloc (.cells #[.bool false] 4)) = W0 := ⟨_, rfl⟩
      rw [hW0] at hb0 x6 ⊢
      clear hW0
      refine (known_any W0 (HT.out.below hb0 HT.out.pos)).mono ?_
      rintro e w9 ⟨rfl, hb9⟩
      have c6 := x6.below hb9 x6.lt
      have f6 := c6.free 0
      have y6 := c6.cell 0
      simp only [List.getElem?_cons_zero] at y6
      have C6 := Lib.hid c6
      have B9 := Lib.hid (hb0.trans (hb9.mono hb0.size))
      clear hb0 x6 hb9 c6
      go_wp2
      (try simp only [Exit.inBlock, Exit.then])
      refine bodyPost_ret (res6 _ _ (w.heap.size + 1 + 1) rfl ((C6.out.put 0 (.bool true)).cell 0)) rfl ⟨rfl, ?_⟩
      exact below_grown B9.out (grown_set w9 ⟨w.heap.size + 1 + 1, 0, none⟩ (.bool true)) B9.out.size (by show w.heap.size ≤ w.heap.size + 1 + 1; omega)
    · have d2 : decide (200 < m) = false := by simpa using h2
      have d3 : decide (60 < (n2 : Int)) = true := by simp; omega
      clear h h1 h2
      go_wp2_with fail
      have hb0 : Below w.heap.size w (((w.alloc (.cells #[.int .i64 m] 3)).alloc (.cells #[.int .i64 mn] 3)).alloc (.cells #[.bool false] 4)) := (((Below.refl _ w).alloc (Nat.le_refl _) _).alloc (by simp) _).alloc (by simp; omega) _
      have x6 : has (((w.alloc (.cells #[.int .i64 m] 3)).alloc (.cells #[.int .i64 mn] 3)).alloc (.cells #[.bool false] 4)) (w.heap.size + 1 + 1) 4 [.bool false] := by
        have := has.new ((w.alloc (.cells #[.int .i64 m] 3)).alloc (.cells #[.int .i64 mn] 3)) 4 [.bool false]
        simpa using this
      obtain ⟨W0, hW0⟩ : ∃ W0, (((w.alloc (.cells #[.int .i64 m] 3)).alloc (.cells #[.int .i64 mn] 3)).alloc (.cells #[.bool false] 4)) = W0 := ⟨_, rfl⟩
      rw [hW0] at hb0 x6 ⊢
      clear hW0
      refine (known_any W0 (HT.out.below hb0 HT.out.pos)).mono ?_
      rintro e w9 ⟨rfl, hb9⟩
      have c6 := x6.below hb9 x6.lt
      have f6 := c6.free 0
      have y6 := c6.cell 0
      simp only [List.getElem?_cons_zero] at y6
      have C6 := Lib.hid c6
      have B9 := Lib.hid (hb0.trans (hb9.mono hb0.size))
      clear hb0 x6 hb9 c6
      go_wp2
      (try simp only [Exit.inBlock, Exit.then])
      refine bodyPost_ret (res6 _ _ (w.heap.size + 1 + 1) rfl ((C6.out.put 0 (.bool true)).cell 0)) rfl ⟨rfl, ?_⟩
      exact below_grown B9.out (grown_set w9 ⟨w.heap.size + 1 + 1, 0, none⟩ (.bool true)) B9.out.size (by show w.heap.size ≤ w.heap.size + 1 + 1; omega)
theorem iter_law (m : Int) (s2 : Option Addr) (n2 c2 : Nat) (mn : Int) (acts : List ActR) (w : World) (hm : -9223372036854775808 ≤ m ∧ m ≤ 9223372036854775807) (ha : ActsAt w s2 n2 acts) (hn : -9223372036854775808 ≤ mn ∧ mn ≤ 9223372036854775807) (ht : tabAt w) :
    Calls Tryd.prog 5 #[.int .i64 m, .slice s2 n2 c2, .int .i64 mn] w fun e w' => e = .returned (.bool true) ∧ Below w.heap.size w w' := by
  by_cases h : m < 1 ∨ 200 < m ∨ 60 < n2
  · exact iter_out m s2 n2 c2 mn w ht h
  · obtain ⟨mm, rfl⟩ : ∃ mm : Nat, m = (mm : Int) := ⟨m.toNat, by omega⟩
    exact iter_main mm (by omega) (by omega) s2 n2 c2 acts mn w ha (by omega) ht
end Go.Proofs.YtefncefmolphfaaDoor.idFnX
