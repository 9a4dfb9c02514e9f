/- What the functions of the reference of mana that only look return. -/
import Derived.Test.YthnndmojijnbnaaDoorMaAdd
import Derived.Test.YthnndmojijnbnaaDoorMaNo
import Derived.BigQuiet
import Derived.Deep.QuietTactic
namespace Go.Proofs.YthnndmojijnbnaaDoor.maFn
open Go.ChangeShapes Go.WideShapes Go.ChangeAt Go.RowKit drMem
set_option linter.unusedVariables false

set_option maxRecDepth 100000 in
set_option maxHeartbeats 1000000 in
theorem rValid_any (a b c d : Int) (w : World) :
    Calls Tryd.prog 8 #[.agg #[.int .i64 a, .int .i64 b, .int .i64 c, .int .i64 d]] w fun e w' => e = .returned (.bool (okM 99 a b c d)) ∧ Below w.heap.size w w' := by
  go_enter Tryd.func8, Tryd.ntmps8
  go_wp2
  go_rounds 5
  all_goals (go_ret; refine ⟨ret_bool (by unfold okM okN; simp [*] <;> omega), (Below.refl _ _).alloc (Nat.le_refl _) _⟩)

set_option maxRecDepth 100000 in
set_option maxHeartbeats 1000000 in
theorem rValidCost_any (p q r s x : Int) (w : World) :
    Calls Tryd.prog 10 #[.agg #[.int .i64 p, .int .i64 q, .int .i64 r, .int .i64 s, .int .i64 x]] w fun e w' => e = .returned (.bool (okC p q r s x)) ∧ Below w.heap.size w w' := by
  go_enter Tryd.func10, Tryd.ntmps10
  go_wp2
  go_rounds 5
  all_goals (go_ret; refine ⟨ret_bool (by unfold okC okM okN; simp [*] <;> omega), (Below.refl _ _).alloc (Nat.le_refl _) _⟩)

theorem rSum_any (a b c d : Int) (w : World) (h : okM 99 a b c d = true) :
    Calls Tryd.prog 9 #[.agg #[.int .i64 a, .int .i64 b, .int .i64 c, .int .i64 d]] w fun e w' => e = .returned (.int .i64 (a + b + c + d)) ∧ Below w.heap.size w w' := by
  obtain ⟨⟨a0, a1⟩, ⟨b0, b1⟩, ⟨c0, c1⟩, ⟨d0, d1⟩⟩ := (okM_iff _ _ _ _ _).1 h
  clear h
  go_enter Tryd.func9, Tryd.ntmps9
  go_wp2
  go_ret
  exact ⟨ret_int (by omega), (Below.refl _ _).alloc (Nat.le_refl _) _⟩

theorem rletter_at (k : Int) (w : World) (h : 0 ≤ k ∧ k ≤ 3) :
    Calls Tryd.prog 36 #[.int .i64 k] w fun e w' => e = .returned (.string (letB k)) ∧ w = w' := by
  have hk' : k = 0 ∨ k = 1 ∨ k = 2 ∨ k = 3 := by omega
  rcases hk' with rfl | rfl | rfl | rfl
  all_goals
    go_enter Tryd.func36, Tryd.ntmps36
    go_wp2
    go_ret
    exact ⟨rfl, rfl⟩


set_option maxRecDepth 100000 in
theorem rAdd_no (a b c d k n : Int) (w : World) (h : adArg a b c d k n = false) :
    Calls Tryd.prog 11 #[.agg #[.int .i64 a, .int .i64 b, .int .i64 c, .int .i64 d], .int .i64 k, .int .i64 n] w
      fun e w' => e = .returned (.tuple #[.agg #[.int .i64 0, .int .i64 0, .int .i64 0, .int .i64 0], .int .i64 2]) ∧ Below w.heap.size w w' := by
  by_cases hm : okM 99 a b c d = true
  · have d1 : (!okM 99 a b c d) = false := by rw [hm]; rfl
    have hk : k < 0 ∨ 3 < k ∨ (¬ k < 0 ∧ ¬ 3 < k ∧ n < 0) := by
      unfold adArg at h; rw [hm] at h; simp [okN] at h; omega
    clear h hm
    rcases hk with hk | hk | ⟨hk, hk2, hk3⟩
    all_goals
      go_enter Tryd.func11, Tryd.ntmps11
      go_wp2_with fail
      refine (rValid_any _ _ _ _ _).mono ?_; rintro e w1 ⟨rfl, hb1⟩
      have R1 := (new1 w _ 23 [.int .i64 0, .int .i64 0, .int .i64 0, .int .i64 0]).below hb1 (by simp)
      have B1 : Below w.heap.size w w1 := next (by go_grown) hb1
      have z1 : w.heap.size + 1 < w1.heap.size := by have := hb1.size; simp at this; omega
      clear hb1
      obtain ⟨v0, v1, v2, v3, v5⟩ := four R1
      go_wp2_with fail
      all_goals exact bodyPost_ret (v := .tuple #[.agg #[.int .i64 0, .int .i64 0, .int .i64 0, .int .i64 0], .int .i64 2]) (by simp [results, Tryd.results11, go_sem, v0, v1, v2, v3]) rfl ⟨rfl, by go_grown⟩
  · have d1 : (!okM 99 a b c d) = true := by simpa using hm
    clear h hm
    go_enter Tryd.func11, Tryd.ntmps11
    go_wp2_with fail
    refine (rValid_any _ _ _ _ _).mono ?_; rintro e w1 ⟨rfl, hb1⟩
    have R1 := (new1 w _ 23 [.int .i64 0, .int .i64 0, .int .i64 0, .int .i64 0]).below hb1 (by simp)
    have B1 : Below w.heap.size w w1 := next (by go_grown) hb1
    have z1 : w.heap.size + 1 < w1.heap.size := by have := hb1.size; simp at this; omega
    clear hb1
    obtain ⟨v0, v1, v2, v3, v5⟩ := four R1
    go_wp2_with fail
    exact bodyPost_ret (v := .tuple #[.agg #[.int .i64 0, .int .i64 0, .int .i64 0, .int .i64 0], .int .i64 2]) (by simp [results, Tryd.results11, go_sem, v0, v1, v2, v3]) rfl ⟨rfl, by go_grown⟩


set_option maxRecDepth 100000 in
theorem rAdd_0 (a b c d n : Int) (w : World) (hm : okM 99 a b c d = true) (n0 : 0 ≤ n) (n1 : n ≤ 9223372036854775807) :
    Calls Tryd.prog 11 #[.agg #[.int .i64 a, .int .i64 b, .int .i64 c, .int .i64 d], .int .i64 0, .int .i64 n] w
      fun e w' => e = .returned (.tuple #[.agg #[.int .i64 (min 99 (a + n)), .int .i64 b, .int .i64 c, .int .i64 d], .int .i64 0]) ∧ Below w.heap.size w w' := by
  have d1 : (!okM 99 a b c d) = false := by rw [hm]; rfl
  obtain ⟨⟨a0, a1⟩, ⟨b0, b1⟩, ⟨c0, c1⟩, ⟨e0, e1⟩⟩ := (okM_iff _ _ _ _ _).1 hm
  clear hm
  by_cases hn : 99 - a < n
  all_goals
    have d2 : ¬ n < 0 := by omega
    go_enter Tryd.func11, Tryd.ntmps11
    go_wp2_with fail
    refine (rValid_any _ _ _ _ _).mono ?_; rintro e w1 ⟨rfl, hb1⟩
    have M1 := ((new0 w 23 [.int .i64 a, .int .i64 b, .int .i64 c, .int .i64 d]).alloc _).below hb1 (by simp; omega)
    have R1 := (new1 w _ 23 [.int .i64 0, .int .i64 0, .int .i64 0, .int .i64 0]).below hb1 (by simp)
    have B1 : Below w.heap.size w w1 := next (by go_grown) hb1
    have z1 : w.heap.size + 1 < w1.heap.size := by have := hb1.size; simp at this; omega
    clear hb1
    obtain ⟨t0, t1, t2, t3, t5⟩ := four M1
    obtain ⟨v0, v1, v2, v3, v5⟩ := four R1
    go_wp2_with fail
    exact bodyPost_ret (v := .tuple #[.agg #[.int .i64 (min 99 (a + n)), .int .i64 b, .int .i64 c, .int .i64 d], .int .i64 0]) (by simp [results, Tryd.results11, go_sem, v0, v1, v2, v3]; try omega) rfl ⟨rfl, by go_grown⟩


set_option maxRecDepth 100000 in
theorem rAdd_1 (a b c d n : Int) (w : World) (hm : okM 99 a b c d = true) (n0 : 0 ≤ n) (n1 : n ≤ 9223372036854775807) :
    Calls Tryd.prog 11 #[.agg #[.int .i64 a, .int .i64 b, .int .i64 c, .int .i64 d], .int .i64 1, .int .i64 n] w
      fun e w' => e = .returned (.tuple #[.agg #[.int .i64 a, .int .i64 (min 99 (b + n)), .int .i64 c, .int .i64 d], .int .i64 0]) ∧ Below w.heap.size w w' := by
  have d1 : (!okM 99 a b c d) = false := by rw [hm]; rfl
  obtain ⟨⟨a0, a1⟩, ⟨b0, b1⟩, ⟨c0, c1⟩, ⟨e0, e1⟩⟩ := (okM_iff _ _ _ _ _).1 hm
  clear hm
  by_cases hn : 99 - b < n
  all_goals
    have d2 : ¬ n < 0 := by omega
    go_enter Tryd.func11, Tryd.ntmps11
    go_wp2_with fail
    refine (rValid_any _ _ _ _ _).mono ?_; rintro e w1 ⟨rfl, hb1⟩
    have M1 := ((new0 w 23 [.int .i64 a, .int .i64 b, .int .i64 c, .int .i64 d]).alloc _).below hb1 (by simp; omega)
    have R1 := (new1 w _ 23 [.int .i64 0, .int .i64 0, .int .i64 0, .int .i64 0]).below hb1 (by simp)
    have B1 : Below w.heap.size w w1 := next (by go_grown) hb1
    have z1 : w.heap.size + 1 < w1.heap.size := by have := hb1.size; simp at this; omega
    clear hb1
    obtain ⟨t0, t1, t2, t3, t5⟩ := four M1
    obtain ⟨v0, v1, v2, v3, v5⟩ := four R1
    go_wp2_with fail
    exact bodyPost_ret (v := .tuple #[.agg #[.int .i64 a, .int .i64 (min 99 (b + n)), .int .i64 c, .int .i64 d], .int .i64 0]) (by simp [results, Tryd.results11, go_sem, v0, v1, v2, v3]; try omega) rfl ⟨rfl, by go_grown⟩


set_option maxRecDepth 100000 in
theorem rAdd_2 (a b c d n : Int) (w : World) (hm : okM 99 a b c d = true) (n0 : 0 ≤ n) (n1 : n ≤ 9223372036854775807) :
    Calls Tryd.prog 11 #[.agg #[.int .i64 a, .int .i64 b, .int .i64 c, .int .i64 d], .int .i64 2, .int .i64 n] w
      fun e w' => e = .returned (.tuple #[.agg #[.int .i64 a, .int .i64 b, .int .i64 (min 99 (c + n)), .int .i64 d], .int .i64 0]) ∧ Below w.heap.size w w' := by
  have d1 : (!okM 99 a b c d) = false := by rw [hm]; rfl
  obtain ⟨⟨a0, a1⟩, ⟨b0, b1⟩, ⟨c0, c1⟩, ⟨e0, e1⟩⟩ := (okM_iff _ _ _ _ _).1 hm
  clear hm
  by_cases hn : 99 - c < n
  all_goals
    have d2 : ¬ n < 0 := by omega
    go_enter Tryd.func11, Tryd.ntmps11
    go_wp2_with fail
    refine (rValid_any _ _ _ _ _).mono ?_; rintro e w1 ⟨rfl, hb1⟩
    have M1 := ((new0 w 23 [.int .i64 a, .int .i64 b, .int .i64 c, .int .i64 d]).alloc _).below hb1 (by simp; omega)
    have R1 := (new1 w _ 23 [.int .i64 0, .int .i64 0, .int .i64 0, .int .i64 0]).below hb1 (by simp)
    have B1 : Below w.heap.size w w1 := next (by go_grown) hb1
    have z1 : w.heap.size + 1 < w1.heap.size := by have := hb1.size; simp at this; omega
    clear hb1
    obtain ⟨t0, t1, t2, t3, t5⟩ := four M1
    obtain ⟨v0, v1, v2, v3, v5⟩ := four R1
    go_wp2_with fail
    exact bodyPost_ret (v := .tuple #[.agg #[.int .i64 a, .int .i64 b, .int .i64 (min 99 (c + n)), .int .i64 d], .int .i64 0]) (by simp [results, Tryd.results11, go_sem, v0, v1, v2, v3]; try omega) rfl ⟨rfl, by go_grown⟩


set_option maxRecDepth 100000 in
theorem rAdd_3 (a b c d n : Int) (w : World) (hm : okM 99 a b c d = true) (n0 : 0 ≤ n) (n1 : n ≤ 9223372036854775807) :
    Calls Tryd.prog 11 #[.agg #[.int .i64 a, .int .i64 b, .int .i64 c, .int .i64 d], .int .i64 3, .int .i64 n] w
      fun e w' => e = .returned (.tuple #[.agg #[.int .i64 a, .int .i64 b, .int .i64 c, .int .i64 (min 99 (d + n))], .int .i64 0]) ∧ Below w.heap.size w w' := by
  have d1 : (!okM 99 a b c d) = false := by rw [hm]; rfl
  obtain ⟨⟨a0, a1⟩, ⟨b0, b1⟩, ⟨c0, c1⟩, ⟨e0, e1⟩⟩ := (okM_iff _ _ _ _ _).1 hm
  clear hm
  by_cases hn : 99 - d < n
  all_goals
    have d2 : ¬ n < 0 := by omega
    go_enter Tryd.func11, Tryd.ntmps11
    go_wp2_with fail
    refine (rValid_any _ _ _ _ _).mono ?_; rintro e w1 ⟨rfl, hb1⟩
    have M1 := ((new0 w 23 [.int .i64 a, .int .i64 b, .int .i64 c, .int .i64 d]).alloc _).below hb1 (by simp; omega)
    have R1 := (new1 w _ 23 [.int .i64 0, .int .i64 0, .int .i64 0, .int .i64 0]).below hb1 (by simp)
    have B1 : Below w.heap.size w w1 := next (by go_grown) hb1
    have z1 : w.heap.size + 1 < w1.heap.size := by have := hb1.size; simp at this; omega
    clear hb1
    obtain ⟨t0, t1, t2, t3, t5⟩ := four M1
    obtain ⟨v0, v1, v2, v3, v5⟩ := four R1
    go_wp2_with fail
    exact bodyPost_ret (v := .tuple #[.agg #[.int .i64 a, .int .i64 b, .int .i64 c, .int .i64 (min 99 (d + n))], .int .i64 0]) (by simp [results, Tryd.results11, go_sem, v0, v1, v2, v3]; try omega) rfl ⟨rfl, by go_grown⟩


theorem rAdd_yes (a b c d k n : Int) (w : World) (h : adArg a b c d k n = true) (n1 : n ≤ 9223372036854775807) :
    Calls Tryd.prog 11 #[.agg #[.int .i64 a, .int .i64 b, .int .i64 c, .int .i64 d], .int .i64 k, .int .i64 n] w
      fun e w' => e = .returned (.tuple #[.agg #[.int .i64 (ad k 0 a n), .int .i64 (ad k 1 b n), .int .i64 (ad k 2 c n), .int .i64 (ad k 3 d n)], .int .i64 0]) ∧ Below w.heap.size w w' := by
  unfold adArg at h
  simp only [Bool.and_eq_true, decide_eq_true_eq] at h
  obtain ⟨⟨hm, hk⟩, n0⟩ := h
  rw [okN_iff] at hk
  have hk' : k = 0 ∨ k = 1 ∨ k = 2 ∨ k = 3 := by omega
  rcases hk' with rfl | rfl | rfl | rfl
  · exact (rAdd_0 a b c d n w hm n0 n1).mono fun e w' ⟨h1, h2⟩ => ⟨h1.trans (ret_m4 (by simp [ad])), h2⟩
  · exact (rAdd_1 a b c d n w hm n0 n1).mono fun e w' ⟨h1, h2⟩ => ⟨h1.trans (ret_m4 (by simp [ad])), h2⟩
  · exact (rAdd_2 a b c d n w hm n0 n1).mono fun e w' ⟨h1, h2⟩ => ⟨h1.trans (ret_m4 (by simp [ad])), h2⟩
  · exact (rAdd_3 a b c d n w hm n0 n1).mono fun e w' ⟨h1, h2⟩ => ⟨h1.trans (ret_m4 (by simp [ad])), h2⟩

end Go.Proofs.YthnndmojijnbnaaDoor.maFn
