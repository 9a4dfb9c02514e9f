/- What package mana's Add and Letter return. -/
import Derived.Test.YthnndmojijnbnaaDoorMaCan
namespace Go.Proofs.YthnndmojijnbnaaDoor.maFn
open Go.ChangeShapes Go.WideShapes Go.ChangeAt Go.RowKit drMem
set_option linter.unusedVariables false

/- a colour's number with n more, where k is the colour to which they are added -/
def ad (k j x n : Int) : Int := if k = j then min 99 (x + n) else x
def adArg (a b c d k n : Int) : Bool := okM 99 a b c d && okN 3 k && decide (0 ≤ n)

set_option maxRecDepth 100000 in
theorem Add_no (a b c d k n : Int) (w : World) (h : adArg a b c d k n = false) :
    Calls Tryd.prog 32 #[.agg #[.int .i64 a, .int .i64 b, .int .i64 c, .int .i64 d], .int .i64 k, .int .i64 n] w
      fun e w' => e = .returned (.tuple #[.agg #[.int .i64 0, .int .i64 0, .int .i64 0, .int .i64 0], .int .i64 2]) ∧ Below w.heap.size w w' := by
  by_cases hm : okM 99 a b c d = true
  · have d1 : (!okM 99 a b c d) = false := by rw [hm]; rfl
    by_cases hc : okN 3 k = true
    · have d2 : (!okN 3 k) = false := by rw [hc]; rfl
      have d3 : n < 0 := by unfold adArg at h; rw [hm, hc] at h; simp at h; omega
      clear h hm hc
      go_enter Tryd.func32, Tryd.ntmps32
      go_wp2_with fail
      refine (Valid_any _ _ _ _ _).mono ?_; rintro e w1 ⟨rfl, hb1⟩
      have R1 := (new1 w _ 23 [.int .i64 0, .int .i64 0, .int .i64 0, .int .i64 0]).below hb1 (by simp)
      have B1 : Below w.heap.size w w1 := next (by go_grown) hb1
      have z1 : w.heap.size + 1 < w1.heap.size := by have := hb1.size; simp at this; omega
      clear hb1
      obtain ⟨v0, v1, v2, v3, v5⟩ := four R1
      go_wp2_with (go_at_call 35; refine (isColour_any _ _).mono ?_; rintro e w' ⟨rfl, rfl⟩)
      exact bodyPost_ret (v := .tuple #[.agg #[.int .i64 0, .int .i64 0, .int .i64 0, .int .i64 0], .int .i64 2]) (by simp [results, Tryd.results32, go_sem, v0, v1, v2, v3]) rfl ⟨rfl, by go_grown⟩
    · have d2 : (!okN 3 k) = true := by simpa using hc
      clear h hm hc
      go_enter Tryd.func32, Tryd.ntmps32
      go_wp2_with fail
      refine (Valid_any _ _ _ _ _).mono ?_; rintro e w1 ⟨rfl, hb1⟩
      have R1 := (new1 w _ 23 [.int .i64 0, .int .i64 0, .int .i64 0, .int .i64 0]).below hb1 (by simp)
      have B1 : Below w.heap.size w w1 := next (by go_grown) hb1
      have z1 : w.heap.size + 1 < w1.heap.size := by have := hb1.size; simp at this; omega
      clear hb1
      obtain ⟨v0, v1, v2, v3, v5⟩ := four R1
      go_wp2_with (go_at_call 35; refine (isColour_any _ _).mono ?_; rintro e w' ⟨rfl, rfl⟩)
      exact bodyPost_ret (v := .tuple #[.agg #[.int .i64 0, .int .i64 0, .int .i64 0, .int .i64 0], .int .i64 2]) (by simp [results, Tryd.results32, go_sem, v0, v1, v2, v3]) rfl ⟨rfl, by go_grown⟩
  · have d1 : (!okM 99 a b c d) = true := by simpa using hm
    clear h hm
    go_enter Tryd.func32, Tryd.ntmps32
    go_wp2_with fail
    refine (Valid_any _ _ _ _ _).mono ?_; rintro e w1 ⟨rfl, hb1⟩
    have R1 := (new1 w _ 23 [.int .i64 0, .int .i64 0, .int .i64 0, .int .i64 0]).below hb1 (by simp)
    have B1 : Below w.heap.size w w1 := next (by go_grown) hb1
    have z1 : w.heap.size + 1 < w1.heap.size := by have := hb1.size; simp at this; omega
    clear hb1
    obtain ⟨v0, v1, v2, v3, v5⟩ := four R1
    go_wp2_with fail
    exact bodyPost_ret (v := .tuple #[.agg #[.int .i64 0, .int .i64 0, .int .i64 0, .int .i64 0], .int .i64 2]) (by simp [results, Tryd.results32, go_sem, v0, v1, v2, v3]) rfl ⟨rfl, by go_grown⟩


set_option maxRecDepth 100000 in
theorem Add_0 (a b c d n : Int) (w : World) (hm : okM 99 a b c d = true) (n0 : 0 ≤ n) (n1 : n ≤ 9223372036854775807) :
    Calls Tryd.prog 32 #[.agg #[.int .i64 a, .int .i64 b, .int .i64 c, .int .i64 d], .int .i64 0, .int .i64 n] w
      fun e w' => e = .returned (.tuple #[.agg #[.int .i64 (min 99 (a + n)), .int .i64 b, .int .i64 c, .int .i64 d], .int .i64 0]) ∧ Below w.heap.size w w' := by
  have d1 : (!okM 99 a b c d) = false := by rw [hm]; rfl
  have d2 : (!okN 3 0) = false := by decide
  obtain ⟨⟨a0, a1⟩, ⟨b0, b1⟩, ⟨c0, c1⟩, ⟨e0, e1⟩⟩ := (okM_iff _ _ _ _ _).1 hm
  clear hm
  have he : cl (a + n) 99 = min 99 (a + n) := by unfold cl; omega
  have HS := sAdd_any a n 99
  rw [he] at HS
  clear he
  go_enter Tryd.func32, Tryd.ntmps32
  go_wp2_with fail
  refine (Valid_any _ _ _ _ _).mono ?_; rintro e w1 ⟨rfl, hb1⟩
  have M1 := ((new0 w 23 [.int .i64 a, .int .i64 b, .int .i64 c, .int .i64 d]).alloc _).below hb1 (by simp; omega)
  have R1 := (new1 w _ 23 [.int .i64 0, .int .i64 0, .int .i64 0, .int .i64 0]).below hb1 (by simp)
  have B1 : Below w.heap.size w w1 := next (by go_grown) hb1
  have z1 : w.heap.size + 1 < w1.heap.size := by have := hb1.size; simp at this; omega
  clear hb1
  obtain ⟨t0, t1, t2, t3, t5⟩ := four M1
  obtain ⟨v0, v1, v2, v3, v5⟩ := four R1
  go_wp2_with (first | (go_at_call 35; refine (isColour_any _ _).mono ?_; rintro e w' ⟨rfl, rfl⟩) | (go_at_call 41; refine (HS _ (by omega) (by omega) (by omega) (by omega) (by omega) (by omega)).mono ?_; rintro e w' ⟨rfl, rfl⟩))
  exact bodyPost_ret (v := .tuple #[.agg #[.int .i64 (min 99 (a + n)), .int .i64 b, .int .i64 c, .int .i64 d], .int .i64 0]) (by simp [results, Tryd.results32, go_sem, v0, v1, v2, v3]) rfl ⟨rfl, by go_grown⟩


set_option maxRecDepth 100000 in
theorem Add_1 (a b c d n : Int) (w : World) (hm : okM 99 a b c d = true) (n0 : 0 ≤ n) (n1 : n ≤ 9223372036854775807) :
    Calls Tryd.prog 32 #[.agg #[.int .i64 a, .int .i64 b, .int .i64 c, .int .i64 d], .int .i64 1, .int .i64 n] w
      fun e w' => e = .returned (.tuple #[.agg #[.int .i64 a, .int .i64 (min 99 (b + n)), .int .i64 c, .int .i64 d], .int .i64 0]) ∧ Below w.heap.size w w' := by
  have d1 : (!okM 99 a b c d) = false := by rw [hm]; rfl
  have d2 : (!okN 3 1) = false := by decide
  obtain ⟨⟨a0, a1⟩, ⟨b0, b1⟩, ⟨c0, c1⟩, ⟨e0, e1⟩⟩ := (okM_iff _ _ _ _ _).1 hm
  clear hm
  have he : cl (b + n) 99 = min 99 (b + n) := by unfold cl; omega
  have HS := sAdd_any b n 99
  rw [he] at HS
  clear he
  go_enter Tryd.func32, Tryd.ntmps32
  go_wp2_with fail
  refine (Valid_any _ _ _ _ _).mono ?_; rintro e w1 ⟨rfl, hb1⟩
  have M1 := ((new0 w 23 [.int .i64 a, .int .i64 b, .int .i64 c, .int .i64 d]).alloc _).below hb1 (by simp; omega)
  have R1 := (new1 w _ 23 [.int .i64 0, .int .i64 0, .int .i64 0, .int .i64 0]).below hb1 (by simp)
  have B1 : Below w.heap.size w w1 := next (by go_grown) hb1
  have z1 : w.heap.size + 1 < w1.heap.size := by have := hb1.size; simp at this; omega
  clear hb1
  obtain ⟨t0, t1, t2, t3, t5⟩ := four M1
  obtain ⟨v0, v1, v2, v3, v5⟩ := four R1
  go_wp2_with (first | (go_at_call 35; refine (isColour_any _ _).mono ?_; rintro e w' ⟨rfl, rfl⟩) | (go_at_call 41; refine (HS _ (by omega) (by omega) (by omega) (by omega) (by omega) (by omega)).mono ?_; rintro e w' ⟨rfl, rfl⟩))
  exact bodyPost_ret (v := .tuple #[.agg #[.int .i64 a, .int .i64 (min 99 (b + n)), .int .i64 c, .int .i64 d], .int .i64 0]) (by simp [results, Tryd.results32, go_sem, v0, v1, v2, v3]) rfl ⟨rfl, by go_grown⟩


set_option maxRecDepth 100000 in
theorem Add_2 (a b c d n : Int) (w : World) (hm : okM 99 a b c d = true) (n0 : 0 ≤ n) (n1 : n ≤ 9223372036854775807) :
    Calls Tryd.prog 32 #[.agg #[.int .i64 a, .int .i64 b, .int .i64 c, .int .i64 d], .int .i64 2, .int .i64 n] w
      fun e w' => e = .returned (.tuple #[.agg #[.int .i64 a, .int .i64 b, .int .i64 (min 99 (c + n)), .int .i64 d], .int .i64 0]) ∧ Below w.heap.size w w' := by
  have d1 : (!okM 99 a b c d) = false := by rw [hm]; rfl
  have d2 : (!okN 3 2) = false := by decide
  obtain ⟨⟨a0, a1⟩, ⟨b0, b1⟩, ⟨c0, c1⟩, ⟨e0, e1⟩⟩ := (okM_iff _ _ _ _ _).1 hm
  clear hm
  have he : cl (c + n) 99 = min 99 (c + n) := by unfold cl; omega
  have HS := sAdd_any c n 99
  rw [he] at HS
  clear he
  go_enter Tryd.func32, Tryd.ntmps32
  go_wp2_with fail
  refine (Valid_any _ _ _ _ _).mono ?_; rintro e w1 ⟨rfl, hb1⟩
  have M1 := ((new0 w 23 [.int .i64 a, .int .i64 b, .int .i64 c, .int .i64 d]).alloc _).below hb1 (by simp; omega)
  have R1 := (new1 w _ 23 [.int .i64 0, .int .i64 0, .int .i64 0, .int .i64 0]).below hb1 (by simp)
  have B1 : Below w.heap.size w w1 := next (by go_grown) hb1
  have z1 : w.heap.size + 1 < w1.heap.size := by have := hb1.size; simp at this; omega
  clear hb1
  obtain ⟨t0, t1, t2, t3, t5⟩ := four M1
  obtain ⟨v0, v1, v2, v3, v5⟩ := four R1
  go_wp2_with (first | (go_at_call 35; refine (isColour_any _ _).mono ?_; rintro e w' ⟨rfl, rfl⟩) | (go_at_call 41; refine (HS _ (by omega) (by omega) (by omega) (by omega) (by omega) (by omega)).mono ?_; rintro e w' ⟨rfl, rfl⟩))
  exact bodyPost_ret (v := .tuple #[.agg #[.int .i64 a, .int .i64 b, .int .i64 (min 99 (c + n)), .int .i64 d], .int .i64 0]) (by simp [results, Tryd.results32, go_sem, v0, v1, v2, v3]) rfl ⟨rfl, by go_grown⟩


set_option maxRecDepth 100000 in
theorem Add_3 (a b c d n : Int) (w : World) (hm : okM 99 a b c d = true) (n0 : 0 ≤ n) (n1 : n ≤ 9223372036854775807) :
    Calls Tryd.prog 32 #[.agg #[.int .i64 a, .int .i64 b, .int .i64 c, .int .i64 d], .int .i64 3, .int .i64 n] w
      fun e w' => e = .returned (.tuple #[.agg #[.int .i64 a, .int .i64 b, .int .i64 c, .int .i64 (min 99 (d + n))], .int .i64 0]) ∧ Below w.heap.size w w' := by
  have d1 : (!okM 99 a b c d) = false := by rw [hm]; rfl
  have d2 : (!okN 3 3) = false := by decide
  obtain ⟨⟨a0, a1⟩, ⟨b0, b1⟩, ⟨c0, c1⟩, ⟨e0, e1⟩⟩ := (okM_iff _ _ _ _ _).1 hm
  clear hm
  have he : cl (d + n) 99 = min 99 (d + n) := by unfold cl; omega
  have HS := sAdd_any d n 99
  rw [he] at HS
  clear he
  go_enter Tryd.func32, Tryd.ntmps32
  go_wp2_with fail
  refine (Valid_any _ _ _ _ _).mono ?_; rintro e w1 ⟨rfl, hb1⟩
  have M1 := ((new0 w 23 [.int .i64 a, .int .i64 b, .int .i64 c, .int .i64 d]).alloc _).below hb1 (by simp; omega)
  have R1 := (new1 w _ 23 [.int .i64 0, .int .i64 0, .int .i64 0, .int .i64 0]).below hb1 (by simp)
  have B1 : Below w.heap.size w w1 := next (by go_grown) hb1
  have z1 : w.heap.size + 1 < w1.heap.size := by have := hb1.size; simp at this; omega
  clear hb1
  obtain ⟨t0, t1, t2, t3, t5⟩ := four M1
  obtain ⟨v0, v1, v2, v3, v5⟩ := four R1
  go_wp2_with (first | (go_at_call 35; refine (isColour_any _ _).mono ?_; rintro e w' ⟨rfl, rfl⟩) | (go_at_call 41; refine (HS _ (by omega) (by omega) (by omega) (by omega) (by omega) (by omega)).mono ?_; rintro e w' ⟨rfl, rfl⟩))
  exact bodyPost_ret (v := .tuple #[.agg #[.int .i64 a, .int .i64 b, .int .i64 c, .int .i64 (min 99 (d + n))], .int .i64 0]) (by simp [results, Tryd.results32, go_sem, v0, v1, v2, v3]) rfl ⟨rfl, by go_grown⟩


theorem ret_m4 {a b c d a' b' c' d' e : Int} (h : a = a' ∧ b = b' ∧ c = c' ∧ d = d') : Ending.returned (.tuple #[.agg #[.int .i64 a, .int .i64 b, .int .i64 c, .int .i64 d], .int .i64 e]) = .returned (.tuple #[.agg #[.int .i64 a', .int .i64 b', .int .i64 c', .int .i64 d'], .int .i64 e]) := by
  obtain ⟨rfl, rfl, rfl, rfl⟩ := h; rfl
theorem Add_yes (a b c d k n : Int) (w : World) (h : adArg a b c d k n = true) (n1 : n ≤ 9223372036854775807) :
    Calls Tryd.prog 32 #[.agg #[.int .i64 a, .int .i64 b, .int .i64 c, .int .i64 d], .int .i64 k, .int .i64 n] w
      fun e w' => e = .returned (.tuple #[.agg #[.int .i64 (ad k 0 a n), .int .i64 (ad k 1 b n), .int .i64 (ad k 2 c n), .int .i64 (ad k 3 d n)], .int .i64 0]) ∧ Below w.heap.size w w' := by
  unfold adArg at h
  simp only [Bool.and_eq_true, decide_eq_true_eq] at h
  obtain ⟨⟨hm, hk⟩, n0⟩ := h
  rw [okN_iff] at hk
  have hk' : k = 0 ∨ k = 1 ∨ k = 2 ∨ k = 3 := by omega
  rcases hk' with rfl | rfl | rfl | rfl
  · exact (Add_0 a b c d n w hm n0 n1).mono fun e w' ⟨h1, h2⟩ => ⟨h1.trans (ret_m4 (by simp [ad])), h2⟩
  · exact (Add_1 a b c d n w hm n0 n1).mono fun e w' ⟨h1, h2⟩ => ⟨h1.trans (ret_m4 (by simp [ad])), h2⟩
  · exact (Add_2 a b c d n w hm n0 n1).mono fun e w' ⟨h1, h2⟩ => ⟨h1.trans (ret_m4 (by simp [ad])), h2⟩
  · exact (Add_3 a b c d n w hm n0 n1).mono fun e w' ⟨h1, h2⟩ => ⟨h1.trans (ret_m4 (by simp [ad])), h2⟩

end Go.Proofs.YthnndmojijnbnaaDoor.maFn
