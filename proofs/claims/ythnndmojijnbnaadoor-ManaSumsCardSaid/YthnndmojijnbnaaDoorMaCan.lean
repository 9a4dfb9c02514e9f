/- What package mana's Missing (where nothing is asked), Can and Add return. -/
import Derived.Test.YthnndmojijnbnaaDoorMaMiss
import Derived.Test.YthnndmojijnbnaaDoorMaEq
namespace Go.Proofs.YthnndmojijnbnaaDoor.maFn
open Go.ChangeShapes Go.WideShapes Go.ChangeAt Go.RowKit drMem
set_option linter.unusedVariables false

set_option maxRecDepth 100000 in
theorem Missing_no (a b c d p q r s x : Int) (w : World) (h : okM 99 a b c d = false ∨ okC p q r s x = false) :
    Calls Tryd.prog 22 #[.agg #[.int .i64 a, .int .i64 b, .int .i64 c, .int .i64 d], .agg #[.int .i64 p, .int .i64 q, .int .i64 r, .int .i64 s, .int .i64 x]] w
      fun e w' => e = .returned (.agg #[.int .i64 0, .int .i64 0, .int .i64 0, .int .i64 0, .int .i64 0]) ∧ Below w.heap.size w w' := by
  by_cases hm : okM 99 a b c d = true
  · have hk : okC p q r s x = false := by rcases h with h | h; (rw [h] at hm; cases hm); exact h
    have d1 : (!okM 99 a b c d) = false := by rw [hm]; rfl
    have d2 : (!okC p q r s x) = true := by rw [hk]; rfl
    clear h hm hk
    go_enter Tryd.func22, Tryd.ntmps22
    go_wp2_with fail
    refine (Valid_any _ _ _ _ _).mono ?_; rintro e w1 ⟨rfl, hb1⟩
    have K1 := ((new1 w _ 25 [.int .i64 p, .int .i64 q, .int .i64 r, .int .i64 s, .int .i64 x]).alloc _).below hb1 (by simp)
    have R1 := (new2 w _ _ 25 [.int .i64 0, .int .i64 0, .int .i64 0, .int .i64 0, .int .i64 0]).below hb1 (by simp)
    have B1 : Below w.heap.size w w1 := next (by go_grown) hb1
    have z1 : w.heap.size + 2 < w1.heap.size := by have := hb1.size; simp at this; omega
    clear hb1
    obtain ⟨u0, u1, u2, u3, u4, u5⟩ := five K1
    go_wp2_with fail
    refine (ValidCost_any _ _ _ _ _ _).mono ?_; rintro e w2 ⟨rfl, hb2⟩
    clear u0 u1 u2 u3 u4 u5
    obtain ⟨v0, v1, v2, v3, v4, v5⟩ := five (R1.below hb2 (by omega))
    have B2 : Below w.heap.size w w2 := next B1 hb2
    have z2 : w.heap.size + 1 + 1 < w2.heap.size := by have := hb2.size; omega
    clear hb2 K1 R1
    go_wp2_with fail
    exact bodyPost_ret (v := .agg #[.int .i64 0, .int .i64 0, .int .i64 0, .int .i64 0, .int .i64 0]) (by simp [results, Tryd.results22, go_sem, v0, v1, v2, v3, v4]) rfl ⟨rfl, by go_grown⟩
  · have d1 : (!okM 99 a b c d) = true := by simpa using hm
    clear h hm
    go_enter Tryd.func22, Tryd.ntmps22
    go_wp2_with fail
    refine (Valid_any _ _ _ _ _).mono ?_; rintro e w1 ⟨rfl, hb1⟩
    have R1 := (new2 w _ _ 25 [.int .i64 0, .int .i64 0, .int .i64 0, .int .i64 0, .int .i64 0]).below hb1 (by simp)
    have B1 : Below w.heap.size w w1 := next (by go_grown) hb1
    have z1 : w.heap.size + 1 + 1 < w1.heap.size := by have := hb1.size; simp at this; omega
    clear hb1
    obtain ⟨v0, v1, v2, v3, v4, v5⟩ := five R1
    go_wp2_with fail
    exact bodyPost_ret (v := .agg #[.int .i64 0, .int .i64 0, .int .i64 0, .int .i64 0, .int .i64 0]) (by simp [results, Tryd.results22, go_sem, v0, v1, v2, v3, v4]) rfl ⟨rfl, by go_grown⟩

/- may a pool pay a cost, both of them valid? -/
def may (a b c d p q r s x : Int) : Bool := eq5 (de p a) (de q b) (de r c) (de s d) (de x (lf a b c d p q r s)) 0 0 0 0 0
theorem may_iff (a b c d p q r s x : Int) : may a b c d p q r s x = true ↔ (p ≤ a ∧ q ≤ b ∧ r ≤ c ∧ s ≤ d) ∧ x ≤ lf a b c d p q r s := by
  unfold may; rw [eq5_iff]; unfold de; omega

set_option maxRecDepth 100000 in
theorem Can_yes (a b c d p q r s x : Int) (w : World) (hm : okM 99 a b c d = true) (hk : okC p q r s x = true) :
    Calls Tryd.prog 21 #[.agg #[.int .i64 a, .int .i64 b, .int .i64 c, .int .i64 d], .agg #[.int .i64 p, .int .i64 q, .int .i64 r, .int .i64 s, .int .i64 x]] w fun e w' => e = .returned (.bool (may a b c d p q r s x)) ∧ Below w.heap.size w w' := by
  have HM := Missing_yes a b c d p q r s x
  have HQ := Lib.hid hm; have HK := Lib.hid hk
  have he := eqC_run (de p a) (de q b) (de r c) (de s d) (de x (lf a b c d p q r s)) 0 0 0 0 0
  go_enter Tryd.func21, Tryd.ntmps21
  go_wp2_with fail
  refine (Valid_any _ _ _ _ _).mono ?_; rintro e w1 ⟨rfl, hb1⟩
  have M1 := ((new0 w 23 [.int .i64 a, .int .i64 b, .int .i64 c, .int .i64 d]).alloc _).below hb1 (by simp; omega)
  have K1 := (new1 w _ 25 [.int .i64 p, .int .i64 q, .int .i64 r, .int .i64 s, .int .i64 x]).below hb1 (by simp)
  have B1 : Below w.heap.size w w1 := next (by go_grown) hb1
  have z1 : w.heap.size + 1 < w1.heap.size := by have := hb1.size; simp at this; omega
  clear hb1
  obtain ⟨u0, u1, u2, u3, u4, u5⟩ := five K1
  go_wp2_with fail
  refine (ValidCost_any _ _ _ _ _ _).mono ?_; rintro e w2 ⟨rfl, hb2⟩
  clear u0 u1 u2 u3 u4 u5
  obtain ⟨t0, t1, t2, t3, t5⟩ := four (M1.below hb2 (by omega))
  obtain ⟨u0, u1, u2, u3, u4, u5⟩ := five (K1.below hb2 (by omega))
  have B2 : Below w.heap.size w w2 := next B1 hb2
  clear hb2 K1 M1
  go_wp2_with fail
  refine (HM _ HQ.out HK.out).mono ?_; rintro e w3 ⟨rfl, hb3⟩
  clear t0 t1 t2 t3 t5 u0 u1 u2 u3 u4 u5 HM
  go_wp2_with fail
  go_ret
  exact ⟨rfl, next B2 hb3⟩

set_option maxRecDepth 100000 in
theorem Can_no (a b c d p q r s x : Int) (w : World) (h : okM 99 a b c d = false ∨ okC p q r s x = false) :
    Calls Tryd.prog 21 #[.agg #[.int .i64 a, .int .i64 b, .int .i64 c, .int .i64 d], .agg #[.int .i64 p, .int .i64 q, .int .i64 r, .int .i64 s, .int .i64 x]] w fun e w' => e = .returned (.bool false) ∧ Below w.heap.size w w' := by
  by_cases hm : okM 99 a b c d = true
  · have hk : okC p q r s x = false := by rcases h with h | h; (rw [h] at hm; cases hm); exact h
    clear h
    go_enter Tryd.func21, Tryd.ntmps21
    go_wp2_with fail
    refine (Valid_any _ _ _ _ _).mono ?_; rintro e w1 ⟨rfl, hb1⟩
    have K1 := (new1 w _ 25 [.int .i64 p, .int .i64 q, .int .i64 r, .int .i64 s, .int .i64 x]).below hb1 (by simp)
    have B1 : Below w.heap.size w w1 := next (by go_grown) hb1
    clear hb1
    obtain ⟨u0, u1, u2, u3, u4, u5⟩ := five K1
    go_wp2_with fail
    refine (ValidCost_any _ _ _ _ _ _).mono ?_; rintro e w2 ⟨rfl, hb2⟩
    clear u0 u1 u2 u3 u4 u5
    go_wp2_with fail
    go_ret
    exact ⟨rfl, next B1 hb2⟩
  · have hm : okM 99 a b c d = false := by simpa using hm
    clear h
    go_enter Tryd.func21, Tryd.ntmps21
    go_wp2_with fail
    refine (Valid_any _ _ _ _ _).mono ?_; rintro e w1 ⟨rfl, hb1⟩
    have B1 : Below w.heap.size w w1 := next (by go_grown) hb1
    clear hb1
    go_wp2_with fail
    go_ret
    exact ⟨rfl, B1⟩

end Go.Proofs.YthnndmojijnbnaaDoor.maFn
