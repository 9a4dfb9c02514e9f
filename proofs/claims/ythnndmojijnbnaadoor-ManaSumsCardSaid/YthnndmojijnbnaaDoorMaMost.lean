/- The colour of which the reference finds most. -/
import Derived.Test.YthnndmojijnbnaaDoorMaRMiss
import Derived.Test.YthnndmojijnbnaaDoorMaPay
namespace Go.Proofs.YthnndmojijnbnaaDoor.maFn
open Go.ChangeShapes Go.WideShapes Go.ChangeAt Go.RowKit drMem
set_option linter.unusedVariables false

set_option maxRecDepth 100000 in
set_option maxHeartbeats 2000000 in
theorem most_any (a b c d : Int) (w : World) (hm : okM 99 a b c d = true) :
    Calls Tryd.prog 33 #[.agg #[.int .i64 a, .int .i64 b, .int .i64 c, .int .i64 d]] w fun e w' => e = .returned (.int .i64 (gt a b c d : Nat)) ∧ Below w.heap.size w w' := by
  obtain ⟨⟨a0, a1⟩, ⟨b0, b1⟩, ⟨c0, c1⟩, ⟨d0, d1⟩⟩ := (okM_iff _ _ _ _ _).1 hm
  clear hm
  go_enter Tryd.func33, Tryd.ntmps33
  go_wp2
  go_loop [3, 4] (fun n i => ∃ j : Nat, n = .int .i64 j ∧ j ≤ 99 ∧ a ≤ j ∧ b ≤ j ∧ c ≤ j ∧ d ≤ j) (fun n _ => (intOf n).toNat)
  case atStart => exact ⟨99, rfl, by omega, by omega, by omega, by omega, by omega⟩
  case round =>
    obtain ⟨j, rfl, j1, ha, hb, hc, hd⟩ := hrel
    by_cases hj : 0 < j
    · by_cases ea : a = j
      · have ta : (a == (j : Int)) = true := by rw [beq_iff_eq]; exact ea
        have HG : gt a b c d = 0 := by unfold gt; rw [if_pos (by omega)]
        have G := Lib.hid HG
        clear HG ea
        go_wp2
        refine wp_loop_rounds 5 ?_
        rw [rounds_succ]
        go_wp2
        go_ret
        exact ⟨by rw [G.out]; rfl, (Below.refl _ _).alloc (Nat.le_refl _) _⟩
      · have ta : (a == (j : Int)) = false := by rw [beq_eq_false_iff_ne]; exact ea
        by_cases eb : b = j
        · have tb : (b == (j : Int)) = true := by rw [beq_iff_eq]; exact eb
          have HG : gt a b c d = 1 := by unfold gt; rw [if_neg (by omega), if_pos (by omega)]
          have G := Lib.hid HG
          clear HG ea eb
          go_wp2
          refine wp_loop_rounds 5 ?_
          rw [rounds_succ]
          go_wp2
          rw [rounds_succ]
          go_wp2
          go_ret
          exact ⟨by rw [G.out]; rfl, (Below.refl _ _).alloc (Nat.le_refl _) _⟩
        · have tb : (b == (j : Int)) = false := by rw [beq_eq_false_iff_ne]; exact eb
          by_cases ec : c = j
          · have tc : (c == (j : Int)) = true := by rw [beq_iff_eq]; exact ec
            have HG : gt a b c d = 2 := by unfold gt; rw [if_neg (by omega), if_neg (by omega), if_pos (by omega)]
            have G := Lib.hid HG
            clear HG ea eb ec
            go_wp2
            refine wp_loop_rounds 5 ?_
            rw [rounds_succ]
            go_wp2
            rw [rounds_succ]
            go_wp2
            rw [rounds_succ]
            go_wp2
            go_ret
            exact ⟨by rw [G.out]; rfl, (Below.refl _ _).alloc (Nat.le_refl _) _⟩
          · have tc : (c == (j : Int)) = false := by rw [beq_eq_false_iff_ne]; exact ec
            by_cases ed : d = j
            · have td : (d == (j : Int)) = true := by rw [beq_iff_eq]; exact ed
              have HG : gt a b c d = 3 := by unfold gt; rw [if_neg (by omega), if_neg (by omega), if_neg (by omega)]
              have G := Lib.hid HG
              clear HG ea eb ec ed
              go_wp2
              refine wp_loop_rounds 5 ?_
              rw [rounds_succ]
              go_wp2
              rw [rounds_succ]
              go_wp2
              rw [rounds_succ]
              go_wp2
              rw [rounds_succ]
              go_wp2
              go_ret
              exact ⟨by rw [G.out]; rfl, (Below.refl _ _).alloc (Nat.le_refl _) _⟩
            · have td : (d == (j : Int)) = false := by rw [beq_eq_false_iff_ne]; exact ed
              have na : a ≤ j - 1 := by omega
              have nb : b ≤ j - 1 := by omega
              have nc : c ≤ j - 1 := by omega
              have nd : d ≤ j - 1 := by omega
              clear ea eb ec ed
              go_wp2
              refine wp_loop_rounds 5 ?_
              rw [rounds_succ]
              go_wp2
              rw [rounds_succ]
              go_wp2
              rw [rounds_succ]
              go_wp2
              rw [rounds_succ]
              go_wp2
              rw [rounds_succ]
              go_wp2
              go_round
              case rel => exact ⟨j - 1, by congr 1; omega, by omega, by omega, by omega, by omega, by omega⟩
              case measure => simp [intOf]; omega
    · have HG : gt a b c d = 0 := by unfold gt; rw [if_pos (by omega)]
      have G := Lib.hid HG
      clear HG
      go_wp2
      go_ret
      exact ⟨by rw [G.out]; rfl, (Below.refl _ _).alloc (Nat.le_refl _) _⟩
theorem most_at (a b c d i : Int) (hm : okM 99 a b c d = true) (h : (gt a b c d : Int) = i) (w : World) :
    Calls Tryd.prog 33 #[.agg #[.int .i64 a, .int .i64 b, .int .i64 c, .int .i64 d]] w fun e w' => e = .returned (.int .i64 i) ∧ Below w.heap.size w w' := by
  subst h; exact most_any a b c d w hm

end Go.Proofs.YthnndmojijnbnaaDoor.maFn
