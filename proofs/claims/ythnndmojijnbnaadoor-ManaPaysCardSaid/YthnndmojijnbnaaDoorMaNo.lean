/- What package mana's Pay returns where it refuses. -/
import Derived.Test.YthnndmojijnbnaaDoorMaPay
namespace Go.Proofs.YthnndmojijnbnaaDoor.maFn
open Go.ChangeShapes Go.WideShapes Go.ChangeAt Go.RowKit drMem
set_option linter.unusedVariables false

set_option maxRecDepth 100000 in
theorem Pay_bad (a b c d p q r s x : Int) (w : World) (h : okM 99 a b c d = false ∨ okC p q r s x = false) :
    Calls Tryd.prog 29 #[.agg #[.int .i64 a, .int .i64 b, .int .i64 c, .int .i64 d], .agg #[.int .i64 p, .int .i64 q, .int .i64 r, .int .i64 s, .int .i64 x]] w
      fun e w' => e = .returned (.tuple #[.agg #[.int .i64 0, .int .i64 0, .int .i64 0, .int .i64 0], .int .i64 2]) ∧ Below w.heap.size w w' := by
  by_cases hm : okM 99 a b c d = true
  · have hk : okC p q r s x = false := by rcases h with h | h; (rw [h] at hm; cases hm); exact h
    have d1 : (!okM 99 a b c d) = false := by rw [hm]; rfl
    have d2 : (!okC p q r s x) = true := by rw [hk]; rfl
    clear h hm hk
    go_enter Tryd.func29, Tryd.ntmps29
    go_wp2_with fail
    refine (Valid_any _ _ _ _ _).mono ?_; rintro e w1 ⟨rfl, hb1⟩
    have K1 := ((new1 w _ 25 [.int .i64 p, .int .i64 q, .int .i64 r, .int .i64 s, .int .i64 x]).alloc _).below hb1 (by simp)
    have R1 := (new2 w _ _ 23 [.int .i64 0, .int .i64 0, .int .i64 0, .int .i64 0]).below hb1 (by simp)
    have B1 : Below w.heap.size w w1 := next (by go_grown) hb1
    have z1 : w.heap.size + 2 < w1.heap.size := by have := hb1.size; simp at this; omega
    clear hb1
    obtain ⟨u0, u1, u2, u3, u4, u5⟩ := five K1
    go_wp2_with fail
    refine (ValidCost_any _ _ _ _ _ _).mono ?_; rintro e w2 ⟨rfl, hb2⟩
    clear u0 u1 u2 u3 u4 u5
    obtain ⟨v0, v1, v2, v3, v5⟩ := four (R1.below hb2 (by omega))
    have B2 : Below w.heap.size w w2 := next B1 hb2
    have z2 : w.heap.size + 1 + 1 < w2.heap.size := by have := hb2.size; omega
    clear hb2 K1 R1
    go_wp2_with fail
    exact bodyPost_ret (v := .tuple #[.agg #[.int .i64 0, .int .i64 0, .int .i64 0, .int .i64 0], .int .i64 2]) (by simp [results, Tryd.results29, go_sem, v0, v1, v2, v3]) rfl ⟨rfl, by go_grown⟩
  · have d1 : (!okM 99 a b c d) = true := by simpa using hm
    clear h hm
    go_enter Tryd.func29, Tryd.ntmps29
    go_wp2_with fail
    refine (Valid_any _ _ _ _ _).mono ?_; rintro e w1 ⟨rfl, hb1⟩
    have R1 := (new2 w _ _ 23 [.int .i64 0, .int .i64 0, .int .i64 0, .int .i64 0]).below hb1 (by simp)
    have B1 : Below w.heap.size w w1 := next (by go_grown) hb1
    have z1 : w.heap.size + 1 + 1 < w1.heap.size := by have := hb1.size; simp at this; omega
    clear hb1
    obtain ⟨v0, v1, v2, v3, v5⟩ := four R1
    go_wp2_with fail
    exact bodyPost_ret (v := .tuple #[.agg #[.int .i64 0, .int .i64 0, .int .i64 0, .int .i64 0], .int .i64 2]) (by simp [results, Tryd.results29, go_sem, v0, v1, v2, v3]) rfl ⟨rfl, by go_grown⟩

set_option maxRecDepth 100000 in
theorem Pay_no (a b c d p q r s x : Int) (w : World) (hm : okM 99 a b c d = true) (hk : okC p q r s x = true) (hy : may a b c d p q r s x = false) :
    Calls Tryd.prog 29 #[.agg #[.int .i64 a, .int .i64 b, .int .i64 c, .int .i64 d], .agg #[.int .i64 p, .int .i64 q, .int .i64 r, .int .i64 s, .int .i64 x]] w
      fun e w' => e = .returned (.tuple #[.agg #[.int .i64 0, .int .i64 0, .int .i64 0, .int .i64 0], .int .i64 12]) ∧ Below w.heap.size w w' := by
  have HC := Can_yes a b c d p q r s x
  rw [hy] at HC
  have d1 : (!okM 99 a b c d) = false := by rw [hm]; rfl
  have d2 : (!okC p q r s x) = false := by rw [hk]; rfl
  have HQ := Lib.hid hm; have HK := Lib.hid hk
  clear hm hk hy
  go_enter Tryd.func29, Tryd.ntmps29
  go_wp2_with fail
  refine (Valid_any _ _ _ _ _).mono ?_; rintro e w1 ⟨rfl, hb1⟩
  have M1 := (((new0 w 23 [.int .i64 a, .int .i64 b, .int .i64 c, .int .i64 d]).alloc _).alloc _).below hb1 (by simp; omega)
  have K1 := ((new1 w _ 25 [.int .i64 p, .int .i64 q, .int .i64 r, .int .i64 s, .int .i64 x]).alloc _).below hb1 (by simp)
  have R1 := (new2 w _ _ 23 [.int .i64 0, .int .i64 0, .int .i64 0, .int .i64 0]).below hb1 (by simp)
  have B1 : Below w.heap.size w w1 := next (by go_grown) hb1
  clear hb1
  obtain ⟨u0, u1, u2, u3, u4, u5⟩ := five K1
  go_wp2_with fail
  refine (ValidCost_any _ _ _ _ _ _).mono ?_; rintro e w2 ⟨rfl, hb2⟩
  clear u0 u1 u2 u3 u4 u5
  have M2 := M1.below hb2 M1.lt
  have K2 := K1.below hb2 K1.lt
  have R2 := R1.below hb2 R1.lt
  obtain ⟨t0, t1, t2, t3, t5⟩ := four M2
  obtain ⟨u0, u1, u2, u3, u4, u5⟩ := five K2
  have B2 : Below w.heap.size w w2 := next B1 hb2
  clear hb2 M1 K1 R1
  go_wp2_with fail
  refine (HC _ HQ.out HK.out).mono ?_; rintro e w3 ⟨rfl, hb3⟩
  clear t0 t1 t2 t3 t5 u0 u1 u2 u3 u4 u5 HC
  have R3 := R2.below hb3 R2.lt
  obtain ⟨v0, v1, v2, v3, v5⟩ := four R3
  have B3 : Below w.heap.size w w3 := next B2 hb3
  have z3 : w.heap.size + 1 + 1 < w3.heap.size := R3.lt
  clear hb3 M2 K2 R2 R3
  go_wp2_with fail
  exact bodyPost_ret (v := .tuple #[.agg #[.int .i64 0, .int .i64 0, .int .i64 0, .int .i64 0], .int .i64 12]) (by simp [results, Tryd.results29, go_sem, v0, v1, v2, v3]) rfl ⟨rfl, by go_grown⟩

/- the letters -/
def letB (k : Int) : ByteArray := if k = 0 then ⟨#[69]⟩ else if k = 1 then ⟨#[84]⟩ else if k = 2 then ⟨#[76]⟩ else ⟨#[83]⟩
theorem Letter_no (k : Int) (w : World) (h : okN 3 k = false) :
    Calls Tryd.prog 23 #[.int .i64 k] w fun e w' => e = .returned (.tuple #[.string ⟨#[]⟩, .int .i64 2]) ∧ w = w' := by
  have d1 : (!okN 3 k) = true := by rw [h]; rfl
  go_enter Tryd.func23, Tryd.ntmps23
  go_wp2_with (go_at_call 35; refine (isColour_any _ _).mono ?_; rintro e w' ⟨rfl, rfl⟩)
  go_ret2
  exact ⟨rfl, rfl⟩
theorem Letter_yes (k : Int) (w : World) (h : okN 3 k = true) :
    Calls Tryd.prog 23 #[.int .i64 k] w fun e w' => e = .returned (.tuple #[.string (letB k), .int .i64 0]) ∧ w = w' := by
  have hk := (okN_iff 3 k).1 h
  have hk' : k = 0 ∨ k = 1 ∨ k = 2 ∨ k = 3 := by omega
  clear hk
  rcases hk' with rfl | rfl | rfl | rfl
  all_goals
    have d1 := (congrArg not h).trans (rfl : (!true) = false)
    go_enter Tryd.func23, Tryd.ntmps23
    go_wp2_with (go_at_call 35; refine (isColour_any _ _).mono ?_; rintro e w' ⟨rfl, rfl⟩)
    go_ret2
    exact ⟨rfl, rfl⟩

end Go.Proofs.YthnndmojijnbnaaDoor.maFn
