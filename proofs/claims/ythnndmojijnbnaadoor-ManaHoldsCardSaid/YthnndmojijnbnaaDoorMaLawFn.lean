/- The helpers of the law: whether Add, Pay, Text and Parse return what is wanted. -/
import Derived.Test.YthnndmojijnbnaaDoorMaParse
import Derived.Test.YthnndmojijnbnaaDoorMaAdd
namespace Go.Proofs.YthnndmojijnbnaaDoor.maFn
open Go.ChangeShapes Go.WideShapes Go.ChangeAt Go.RowKit drMem
set_option linter.unusedVariables false

theorem same4 (a b c d : Int) : ∀ w, (binOp .eql 23 (.agg #[.int .i64 a, .int .i64 b, .int .i64 c, .int .i64 d]) (.agg #[.int .i64 a, .int .i64 b, .int .i64 c, .int .i64 d])).run Tryd.prog w = .ok (.bool true) w := fun w => by rw [eqM_run, eq4_same]
theorem same5 (p q r s x : Int) : ∀ w, (binOp .eql 25 (.agg #[.int .i64 p, .int .i64 q, .int .i64 r, .int .i64 s, .int .i64 x]) (.agg #[.int .i64 p, .int .i64 q, .int .i64 r, .int .i64 s, .int .i64 x])).run Tryd.prog w = .ok (.bool true) w := fun w => by rw [eqC_run, eq5_same]

theorem adds_true (a b c d k n e f g h y : Int) (H : ∀ w, Calls Tryd.prog 32 #[.agg #[.int .i64 a, .int .i64 b, .int .i64 c, .int .i64 d], .int .i64 k, .int .i64 n] w fun z w' => z = .returned (.tuple #[.agg #[.int .i64 e, .int .i64 f, .int .i64 g, .int .i64 h], .int .i64 y]) ∧ Below w.heap.size w w') (w : World) :
    Calls Tryd.prog 16 #[.agg #[.int .i64 a, .int .i64 b, .int .i64 c, .int .i64 d], .int .i64 k, .int .i64 n, .agg #[.int .i64 e, .int .i64 f, .int .i64 g, .int .i64 h], .int .i64 y] w fun z w' => z = .returned (.bool true) ∧ Below w.heap.size w w' := by
  have he := same4 e f g h
  go_enter Tryd.func16, Tryd.ntmps16
  go_wp2_with fail
  refine (H _).mono ?_; rintro z w1 ⟨rfl, hb1⟩
  have W1 := (new1 w _ 23 [.int .i64 e, .int .i64 f, .int .i64 g, .int .i64 h]).below hb1 (by simp)
  have B1 : Below w.heap.size w w1 := next (by go_grown) hb1
  obtain ⟨t0, t1, t2, t3, t5⟩ := four W1
  have z1 := W1.lt
  clear hb1 W1 H
  go_wp2_with fail
  go_ret
  exact ⟨rfl, by go_grown⟩

theorem pays_true (a b c d p q r s x e f g h y : Int) (H : ∀ w, Calls Tryd.prog 29 #[.agg #[.int .i64 a, .int .i64 b, .int .i64 c, .int .i64 d], .agg #[.int .i64 p, .int .i64 q, .int .i64 r, .int .i64 s, .int .i64 x]] w fun z w' => z = .returned (.tuple #[.agg #[.int .i64 e, .int .i64 f, .int .i64 g, .int .i64 h], .int .i64 y]) ∧ Below w.heap.size w w') (w : World) :
    Calls Tryd.prog 20 #[.agg #[.int .i64 a, .int .i64 b, .int .i64 c, .int .i64 d], .agg #[.int .i64 p, .int .i64 q, .int .i64 r, .int .i64 s, .int .i64 x], .agg #[.int .i64 e, .int .i64 f, .int .i64 g, .int .i64 h], .int .i64 y] w fun z w' => z = .returned (.bool true) ∧ Below w.heap.size w w' := by
  have he := same4 e f g h
  go_enter Tryd.func20, Tryd.ntmps20
  go_wp2_with fail
  refine (H _).mono ?_; rintro z w1 ⟨rfl, hb1⟩
  have W1 := (new2 w _ _ 23 [.int .i64 e, .int .i64 f, .int .i64 g, .int .i64 h]).below hb1 (by simp)
  have B1 : Below w.heap.size w w1 := next (by go_grown) hb1
  obtain ⟨t0, t1, t2, t3, t5⟩ := four W1
  have z1 := W1.lt
  clear hb1 W1 H
  go_wp2_with fail
  go_ret
  exact ⟨rfl, by go_grown⟩

theorem texts_true (p q r s x y : Int) (t : ByteArray) (H : ∀ w, Calls Tryd.prog 28 #[.agg #[.int .i64 p, .int .i64 q, .int .i64 r, .int .i64 s, .int .i64 x]] w fun z w' => z = .returned (.tuple #[.string t, .int .i64 y]) ∧ Below w.heap.size w w') (w : World) :
    Calls Tryd.prog 24 #[.agg #[.int .i64 p, .int .i64 q, .int .i64 r, .int .i64 s, .int .i64 x], .string t, .int .i64 y] w fun z w' => z = .returned (.bool true) ∧ Below w.heap.size w w' := by
  have he : (t.toList == t.toList) = true := str_eq rfl
  go_enter Tryd.func24, Tryd.ntmps24
  go_wp2_with fail
  refine (H _).mono ?_; rintro z w1 ⟨rfl, hb1⟩
  have B1 : Below w.heap.size w w1 := next (by go_grown) hb1
  clear hb1 H
  go_wp2_with fail
  go_ret
  exact ⟨rfl, B1⟩

theorem parses_true (t : ByteArray) (e f g h y n : Int) (H : ∀ w, E w → Calls Tryd.prog 37 #[.string t] w fun z w' => z = .returned (.tuple #[.agg #[.int .i64 e, .int .i64 f, .int .i64 g, .int .i64 h, .int .i64 y], .int .i64 n]) ∧ Below w.heap.size w w') (w : World) (hE : E w) :
    Calls Tryd.prog 27 #[.string t, .agg #[.int .i64 e, .int .i64 f, .int .i64 g, .int .i64 h, .int .i64 y], .int .i64 n] w fun z w' => z = .returned (.bool true) ∧ Below w.heap.size w w' := by
  have he := same5 e f g h y
  have HE := Lib.hid hE
  clear hE
  go_enter Tryd.func27, Tryd.ntmps27
  go_wp2_with fail
  refine (H _ (HE.out.below (by go_grown))).mono ?_; rintro z w1 ⟨rfl, hb1⟩
  have W1 := (new0 w 25 [.int .i64 e, .int .i64 f, .int .i64 g, .int .i64 h, .int .i64 y]).below hb1 (by simp)
  have B1 : Below w.heap.size w w1 := next (by go_grown) hb1
  obtain ⟨t0, t1, t2, t3, t4, t5⟩ := five W1
  have z1 := W1.lt
  clear hb1 W1 H
  go_wp2_with fail
  go_ret
  exact ⟨rfl, by go_grown⟩

theorem Parse_yes (p q r s x : Nat) (h : okC p q r s x = true) (w : World) (hE : E w) :
    Calls Tryd.prog 37 #[.string (bs (textL p q r s x))] w fun e w' => e = .returned (.tuple #[.agg #[.int .i64 (p : Nat), .int .i64 (q : Nat), .int .i64 (r : Nat), .int .i64 (s : Nat), .int .i64 (x : Nat)], .int .i64 0]) ∧ Below w.heap.size w w' := by
  have hb := (okC_iff _ _ _ _ _).1 h
  obtain ⟨h1, h2, h3, h4, h5⟩ := rd_text p q r s x (by omega)
  have hl : (textL p q r s x).length ≤ 200 := by
    have := dec_len x (by omega)
    unfold textL letL numL
    simp only [List.length_append, List.length_replicate]
    split
    · omega
    · simp; omega
  have H := Parse_eq (bs (textL p q r s x)) w (by rw [bs_size]; omega) hE x
  rw [bs_list, h1, h2, h3, h4] at H
  exact H h5 h rfl
theorem Parse_no (s : ByteArray) (hs : s.size ≤ 140737488355328) (hn : ∀ p q r t x : Nat, okC p q r t x = true → bs (textL p q r t x) ≠ s) (w : World) (hE : E w) :
    Calls Tryd.prog 37 #[.string s] w fun e w' => e = .returned (.tuple #[.agg #[.int .i64 0, .int .i64 0, .int .i64 0, .int .i64 0, .int .i64 0], .int .i64 6]) ∧ Below w.heap.size w w' := by
  by_cases h : okC (rdE s.data.toList) (rdT s.data.toList) (rdL s.data.toList) (rdS s.data.toList) (fr (pre s.data.toList)) = true
  · have hx := ((okC_iff _ _ _ _ _).1 h).2.1
    obtain ⟨x, hx⟩ := Int.eq_ofNat_of_zero_le hx
    rw [hx] at h
    exact Parse_ne s w hs hE x hx h (hn _ _ _ _ _ h)
  · exact Parse_bad s w hs hE (by simpa using h)

end Go.Proofs.YthnndmojijnbnaaDoor.maFn
