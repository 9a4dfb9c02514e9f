/- The law that tries which numbers are ids and zones. -/
import Derived.Test.YtklohgecgjlgeaaZoNameF
namespace Go.Proofs.Ytklohgecgjlgeaa.zoFn
open Go.ChangeShapes Go.WideShapes Go.ChangeAt Go.RowKit drMem
set_option linter.unusedVariables false
variable {F G : Nat → Prop} {w w' W W' : World} {b gl mb : Nat} {L M : List (List Int)}

theorem ID_any (x : Int) (w : World) : Calls Try.prog 8 #[.int .i64 x] w fun e w' => e = .returned (.bool (okID x)) ∧ w = w' := by
  by_cases h1 : 1 ≤ x
  · by_cases h2 : x ≤ 4096
    · have e : okID x = true := by simp [okID]; omega
      have d0 : decide (1 ≤ x) = true := by simpa using h1
      have d1 : decide (x ≤ 4096) = true := by simpa using h2
      rw [e]
      clear e h1 h2
      go_enter Try.func8, Try.ntmps8
      go_wp2
      go_ret
      exact ⟨rfl, rfl⟩
    · have e : okID x = false := by simp [okID]; omega
      have d0 : decide (1 ≤ x) = true := by simpa using h1
      have d1 : decide (x ≤ 4096) = false := by simpa using h2
      rw [e]
      clear e h1 h2
      go_enter Try.func8, Try.ntmps8
      go_wp2
      go_ret
      exact ⟨rfl, rfl⟩
  · have e : okID x = false := by simp [okID]; omega
    have d0 : decide (1 ≤ x) = false := by simpa using h1
    rw [e]
    clear e h1
    go_enter Try.func8, Try.ntmps8
    go_wp2
    go_ret
    exact ⟨rfl, rfl⟩
theorem New3 (w W : World) (hw : Below w.heap.size w W) : Calls Try.prog 7 #[.int .i64 3] W (newPost w 3 W) := New_any 3 (by decide) (by decide) w W hw
theorem known_in {w W : World} (hf : Below w.heap.size w W) : Calls Try.prog 13 #[] W (knownPost w) :=
  (known_any W).mono fun e w' ⟨he, hb⟩ => ⟨he, hf.trans (hb.mono hf.size)⟩
theorem ent_bad {L : List (List Int)} {x z : Int} (h1 : L.length ≠ 0) (h : okID x = false ∨ okZ L.length z = false) : entE L.length L x z = 2 := by unfold entE; rw [if_neg h1, if_pos h]
theorem mov_bad {L : List (List Int)} {x z : Int} (h1 : L.length ≠ 0) (h : okID x = false ∨ okZ L.length z = false) : movE L.length L x z = 2 := by unfold movE; rw [if_neg h1, if_pos h]
set_option maxRecDepth 100000 in
set_option maxHeartbeats 4000000 in
theorem names_bad1 (x n : Int) (w : World) (hx : i64ok x) (h1 : okID x = false) :
    Calls Try.prog 3 #[.int .i64 x, .int .i64 n] w (knownPost w) := by
  have HX := Lib.hid hx
  have HI := fun w => Lib.hid (ID_any x w)
  have hb : okID x = false ∨ okZ 3 n = false := .inl h1
  simp only [h1] at HI
  clear h1
  have HB := Lib.hid hb
  clear hx hb
  go_enter Try.func3, Try.ntmps3
  go_wp2_with fail
  refine (New3 w w (Below.refl _ _)).mono ?_
  rintro e w0 ⟨b, gl, mb, rfl, hz⟩
  have Z0 : Hid (SZ w b gl mb [[], [], []] w0) := Lib.hid hz
  clear hz
  go_wp2_with fail
  refine (HI _).out.mono ?_
  rintro e w' ⟨rfl, rfl⟩
  go_wp2_with fail
  refine (put_c Z0.out (x := x) (z := n) (y := 2) (M := [[], [], []]) HX.out (ent_bad (by decide) HB.out) (by unfold putL; rw [ent_bad (by decide) HB.out]; rfl)).mono ?_
  rintro e w1 ⟨rfl, hz⟩
  have Z1 := Lib.hid hz
  clear hz Z0
  go_wp2_with fail
  refine (und_c Z1.out (x := x) (z := n) (y := 2) (M := [[], [], []]) HX.out (ent_bad (by decide) HB.out) (by unfold undL; rw [ent_bad (by decide) HB.out]; rfl)).mono ?_
  rintro e w2 ⟨rfl, hz⟩
  have Z2 := Lib.hid hz
  clear hz Z1
  go_wp2_with fail
  refine (mov_c Z2.out (x := x) (z := n) (y := 2) (M := [[], [], []]) HX.out (mov_bad (by decide) HB.out) (by unfold movL; rw [mov_bad (by decide) HB.out]; rfl)).mono ?_
  rintro e w3 ⟨rfl, hz⟩
  have Z3 := Lib.hid hz
  clear hz Z2
  go_wp2_with fail
  refine (len_c Z3.out (z := 0) (y := 0) (by decide)).mono ?_
  rintro e w' ⟨rfl, rfl⟩
  go_wp2_with fail
  refine (len_c Z3.out (z := 1) (y := 0) (by decide)).mono ?_
  rintro e w' ⟨rfl, rfl⟩
  go_wp2_with fail
  refine (len_c Z3.out (z := 2) (y := 0) (by decide)).mono ?_
  rintro e w' ⟨rfl, rfl⟩
  go_wp2_with fail
  refine (known_in Z3.out.f).mono ?_
  rintro e w' ⟨rfl, hb⟩
  go_wp2
  go_ret
  exact ⟨rfl, hb⟩
set_option maxRecDepth 100000 in
set_option maxHeartbeats 4000000 in
theorem names_bad2 (x n : Int) (w : World) (hx : i64ok x) (h1 : okID x = true) (h2 : n < 0) :
    Calls Try.prog 3 #[.int .i64 x, .int .i64 n] w (knownPost w) := by
  have HX := Lib.hid hx
  have HI := fun w => Lib.hid (ID_any x w)
  have hb : okID x = false ∨ okZ 3 n = false := .inr (by simp [okZ]; omega)
  simp only [h1] at HI
  have q0 : decide (n < 0) = true := by simpa using h2
  clear h1 h2
  have HB := Lib.hid hb
  clear hx hb
  go_enter Try.func3, Try.ntmps3
  go_wp2_with fail
  refine (New3 w w (Below.refl _ _)).mono ?_
  rintro e w0 ⟨b, gl, mb, rfl, hz⟩
  have Z0 : Hid (SZ w b gl mb [[], [], []] w0) := Lib.hid hz
  clear hz
  go_wp2_with fail
  refine (HI _).out.mono ?_
  rintro e w' ⟨rfl, rfl⟩
  go_wp2_with fail
  refine (put_c Z0.out (x := x) (z := n) (y := 2) (M := [[], [], []]) HX.out (ent_bad (by decide) HB.out) (by unfold putL; rw [ent_bad (by decide) HB.out]; rfl)).mono ?_
  rintro e w1 ⟨rfl, hz⟩
  have Z1 := Lib.hid hz
  clear hz Z0
  go_wp2_with fail
  refine (und_c Z1.out (x := x) (z := n) (y := 2) (M := [[], [], []]) HX.out (ent_bad (by decide) HB.out) (by unfold undL; rw [ent_bad (by decide) HB.out]; rfl)).mono ?_
  rintro e w2 ⟨rfl, hz⟩
  have Z2 := Lib.hid hz
  clear hz Z1
  go_wp2_with fail
  refine (mov_c Z2.out (x := x) (z := n) (y := 2) (M := [[], [], []]) HX.out (mov_bad (by decide) HB.out) (by unfold movL; rw [mov_bad (by decide) HB.out]; rfl)).mono ?_
  rintro e w3 ⟨rfl, hz⟩
  have Z3 := Lib.hid hz
  clear hz Z2
  go_wp2_with fail
  refine (len_c Z3.out (z := 0) (y := 0) (by decide)).mono ?_
  rintro e w' ⟨rfl, rfl⟩
  go_wp2_with fail
  refine (len_c Z3.out (z := 1) (y := 0) (by decide)).mono ?_
  rintro e w' ⟨rfl, rfl⟩
  go_wp2_with fail
  refine (len_c Z3.out (z := 2) (y := 0) (by decide)).mono ?_
  rintro e w' ⟨rfl, rfl⟩
  go_wp2_with fail
  refine (known_in Z3.out.f).mono ?_
  rintro e w' ⟨rfl, hb⟩
  go_wp2
  go_ret
  exact ⟨rfl, hb⟩
set_option maxRecDepth 100000 in
set_option maxHeartbeats 4000000 in
theorem names_bad3 (x n : Int) (w : World) (hx : i64ok x) (h1 : okID x = true) (h2 : 0 ≤ n) (h3 : 2 < n) :
    Calls Try.prog 3 #[.int .i64 x, .int .i64 n] w (knownPost w) := by
  have HX := Lib.hid hx
  have HI := fun w => Lib.hid (ID_any x w)
  have hb : okID x = false ∨ okZ 3 n = false := .inr (by simp [okZ]; omega)
  simp only [h1] at HI
  have q0 : decide (n < 0) = false := by simp; omega
  have q1 : decide (2 < n) = true := by simpa using h3
  clear h1 h2 h3
  have HB := Lib.hid hb
  clear hx hb
  go_enter Try.func3, Try.ntmps3
  go_wp2_with fail
  refine (New3 w w (Below.refl _ _)).mono ?_
  rintro e w0 ⟨b, gl, mb, rfl, hz⟩
  have Z0 : Hid (SZ w b gl mb [[], [], []] w0) := Lib.hid hz
  clear hz
  go_wp2_with fail
  refine (HI _).out.mono ?_
  rintro e w' ⟨rfl, rfl⟩
  go_wp2_with fail
  refine (put_c Z0.out (x := x) (z := n) (y := 2) (M := [[], [], []]) HX.out (ent_bad (by decide) HB.out) (by unfold putL; rw [ent_bad (by decide) HB.out]; rfl)).mono ?_
  rintro e w1 ⟨rfl, hz⟩
  have Z1 := Lib.hid hz
  clear hz Z0
  go_wp2_with fail
  refine (und_c Z1.out (x := x) (z := n) (y := 2) (M := [[], [], []]) HX.out (ent_bad (by decide) HB.out) (by unfold undL; rw [ent_bad (by decide) HB.out]; rfl)).mono ?_
  rintro e w2 ⟨rfl, hz⟩
  have Z2 := Lib.hid hz
  clear hz Z1
  go_wp2_with fail
  refine (mov_c Z2.out (x := x) (z := n) (y := 2) (M := [[], [], []]) HX.out (mov_bad (by decide) HB.out) (by unfold movL; rw [mov_bad (by decide) HB.out]; rfl)).mono ?_
  rintro e w3 ⟨rfl, hz⟩
  have Z3 := Lib.hid hz
  clear hz Z2
  go_wp2_with fail
  refine (len_c Z3.out (z := 0) (y := 0) (by decide)).mono ?_
  rintro e w' ⟨rfl, rfl⟩
  go_wp2_with fail
  refine (len_c Z3.out (z := 1) (y := 0) (by decide)).mono ?_
  rintro e w' ⟨rfl, rfl⟩
  go_wp2_with fail
  refine (len_c Z3.out (z := 2) (y := 0) (by decide)).mono ?_
  rintro e w' ⟨rfl, rfl⟩
  go_wp2_with fail
  refine (known_in Z3.out.f).mono ?_
  rintro e w' ⟨rfl, hb⟩
  go_wp2
  go_ret
  exact ⟨rfl, hb⟩
set_option maxRecDepth 100000 in
set_option maxHeartbeats 4000000 in
theorem names_ok0 (x : Int) (w : World) (hx : i64ok x) (hk : okID x = true) :
    Calls Try.prog 3 #[.int .i64 x, .int .i64 0] w (knownPost w) := by
  have HX := Lib.hid hx
  have HI := fun w => Lib.hid (ID_any x w)
  simp only [hk] at HI
  obtain ⟨g1, g2, g3, g4, g5, g6, g7, g8, g9, g10, g11, g12, g13, g14, g15, g16⟩ := nf0 x hk
  have f1 := Lib.hid g1
  have f2 := Lib.hid g2
  have f3 := Lib.hid g3
  have f4 := Lib.hid g4
  have f5 := Lib.hid g5
  have f6 := Lib.hid g6
  have f7 := Lib.hid g7
  have f8 := Lib.hid g8
  have f9 := Lib.hid g9
  have f10 := Lib.hid g10
  have f11 := Lib.hid g11
  have f12 := Lib.hid g12
  have f13 := Lib.hid g13
  have f14 := Lib.hid g14
  have f15 := Lib.hid g15
  have f16 := Lib.hid g16
  clear g1 g2 g3 g4 g5 g6 g7 g8 g9 g10 g11 g12 g13 g14 g15 g16
  clear hx hk
  go_enter Try.func3, Try.ntmps3
  go_wp2_with fail
  refine (New3 w w (Below.refl _ _)).mono ?_
  rintro e w0 ⟨b, gl, mb, rfl, hz⟩
  have Z0 : Hid (SZ w b gl mb [[], [], []] w0) := Lib.hid hz
  clear hz
  go_wp2_with fail
  refine (HI _).out.mono ?_
  rintro e w' ⟨rfl, rfl⟩
  go_wp2_with fail
  refine (mov_c Z0.out HX.out f1.out f2.out).mono ?_
  rintro e w1 ⟨rfl, hz⟩
  have Z1 := Lib.hid hz
  clear hz Z0
  go_wp2_with fail
  refine (rem_c Z1.out HX.out f3.out f4.out).mono ?_
  rintro e w2 ⟨rfl, hz⟩
  have Z2 := Lib.hid hz
  clear hz Z1
  go_wp2_with fail
  refine (put_c Z2.out HX.out f5.out f6.out).mono ?_
  rintro e w3 ⟨rfl, hz⟩
  have Z3 := Lib.hid hz
  clear hz Z2
  go_wp2_with fail
  refine (und_c Z3.out HX.out f7.out f8.out).mono ?_
  rintro e w4 ⟨rfl, hz⟩
  have Z4 := Lib.hid hz
  clear hz Z3
  go_wp2_with fail
  refine (put_c Z4.out HX.out f9.out f10.out).mono ?_
  rintro e w5 ⟨rfl, hz⟩
  have Z5 := Lib.hid hz
  clear hz Z4
  go_wp2_with fail
  refine (where_c Z5.out HX.out f11.out).mono ?_
  rintro e w6 ⟨rfl, hz⟩
  have Z6 := Lib.hid hz
  clear hz Z5
  go_wp2_with fail
  refine (mov_c Z6.out HX.out f12.out f13.out).mono ?_
  rintro e w7 ⟨rfl, hz⟩
  have Z7 := Lib.hid hz
  clear hz Z6
  go_wp2_with fail
  refine (where_c Z7.out HX.out f14.out).mono ?_
  rintro e w8 ⟨rfl, hz⟩
  have Z8 := Lib.hid hz
  clear hz Z7
  go_wp2_with fail
  refine (rem_c Z8.out HX.out f15.out f16.out).mono ?_
  rintro e w9 ⟨rfl, hz⟩
  have Z9 := Lib.hid hz
  clear hz Z8
  go_wp2_with fail
  refine (known_in Z9.out.f).mono ?_
  rintro e w' ⟨rfl, hb⟩
  go_wp2
  go_ret
  exact ⟨rfl, hb⟩
set_option maxRecDepth 100000 in
set_option maxHeartbeats 4000000 in
theorem names_ok1 (x : Int) (w : World) (hx : i64ok x) (hk : okID x = true) :
    Calls Try.prog 3 #[.int .i64 x, .int .i64 1] w (knownPost w) := by
  have HX := Lib.hid hx
  have HI := fun w => Lib.hid (ID_any x w)
  simp only [hk] at HI
  obtain ⟨g1, g2, g3, g4, g5, g6, g7, g8, g9, g10, g11, g12, g13, g14, g15, g16⟩ := nf1 x hk
  have f1 := Lib.hid g1
  have f2 := Lib.hid g2
  have f3 := Lib.hid g3
  have f4 := Lib.hid g4
  have f5 := Lib.hid g5
  have f6 := Lib.hid g6
  have f7 := Lib.hid g7
  have f8 := Lib.hid g8
  have f9 := Lib.hid g9
  have f10 := Lib.hid g10
  have f11 := Lib.hid g11
  have f12 := Lib.hid g12
  have f13 := Lib.hid g13
  have f14 := Lib.hid g14
  have f15 := Lib.hid g15
  have f16 := Lib.hid g16
  clear g1 g2 g3 g4 g5 g6 g7 g8 g9 g10 g11 g12 g13 g14 g15 g16
  clear hx hk
  go_enter Try.func3, Try.ntmps3
  go_wp2_with fail
  refine (New3 w w (Below.refl _ _)).mono ?_
  rintro e w0 ⟨b, gl, mb, rfl, hz⟩
  have Z0 : Hid (SZ w b gl mb [[], [], []] w0) := Lib.hid hz
  clear hz
  go_wp2_with fail
  refine (HI _).out.mono ?_
  rintro e w' ⟨rfl, rfl⟩
  go_wp2_with fail
  refine (mov_c Z0.out HX.out f1.out f2.out).mono ?_
  rintro e w1 ⟨rfl, hz⟩
  have Z1 := Lib.hid hz
  clear hz Z0
  go_wp2_with fail
  refine (rem_c Z1.out HX.out f3.out f4.out).mono ?_
  rintro e w2 ⟨rfl, hz⟩
  have Z2 := Lib.hid hz
  clear hz Z1
  go_wp2_with fail
  refine (put_c Z2.out HX.out f5.out f6.out).mono ?_
  rintro e w3 ⟨rfl, hz⟩
  have Z3 := Lib.hid hz
  clear hz Z2
  go_wp2_with fail
  refine (und_c Z3.out HX.out f7.out f8.out).mono ?_
  rintro e w4 ⟨rfl, hz⟩
  have Z4 := Lib.hid hz
  clear hz Z3
  go_wp2_with fail
  refine (put_c Z4.out HX.out f9.out f10.out).mono ?_
  rintro e w5 ⟨rfl, hz⟩
  have Z5 := Lib.hid hz
  clear hz Z4
  go_wp2_with fail
  refine (where_c Z5.out HX.out f11.out).mono ?_
  rintro e w6 ⟨rfl, hz⟩
  have Z6 := Lib.hid hz
  clear hz Z5
  go_wp2_with fail
  refine (mov_c Z6.out HX.out f12.out f13.out).mono ?_
  rintro e w7 ⟨rfl, hz⟩
  have Z7 := Lib.hid hz
  clear hz Z6
  go_wp2_with fail
  refine (where_c Z7.out HX.out f14.out).mono ?_
  rintro e w8 ⟨rfl, hz⟩
  have Z8 := Lib.hid hz
  clear hz Z7
  go_wp2_with fail
  refine (rem_c Z8.out HX.out f15.out f16.out).mono ?_
  rintro e w9 ⟨rfl, hz⟩
  have Z9 := Lib.hid hz
  clear hz Z8
  go_wp2_with fail
  refine (known_in Z9.out.f).mono ?_
  rintro e w' ⟨rfl, hb⟩
  go_wp2
  go_ret
  exact ⟨rfl, hb⟩
set_option maxRecDepth 100000 in
set_option maxHeartbeats 4000000 in
theorem names_ok2 (x : Int) (w : World) (hx : i64ok x) (hk : okID x = true) :
    Calls Try.prog 3 #[.int .i64 x, .int .i64 2] w (knownPost w) := by
  have HX := Lib.hid hx
  have HI := fun w => Lib.hid (ID_any x w)
  simp only [hk] at HI
  obtain ⟨g1, g2, g3, g4, g5, g6, g7, g8, g9, g10, g11, g12, g13, g14, g15, g16⟩ := nf2 x hk
  have f1 := Lib.hid g1
  have f2 := Lib.hid g2
  have f3 := Lib.hid g3
  have f4 := Lib.hid g4
  have f5 := Lib.hid g5
  have f6 := Lib.hid g6
  have f7 := Lib.hid g7
  have f8 := Lib.hid g8
  have f9 := Lib.hid g9
  have f10 := Lib.hid g10
  have f11 := Lib.hid g11
  have f12 := Lib.hid g12
  have f13 := Lib.hid g13
  have f14 := Lib.hid g14
  have f15 := Lib.hid g15
  have f16 := Lib.hid g16
  clear g1 g2 g3 g4 g5 g6 g7 g8 g9 g10 g11 g12 g13 g14 g15 g16
  clear hx hk
  go_enter Try.func3, Try.ntmps3
  go_wp2_with fail
  refine (New3 w w (Below.refl _ _)).mono ?_
  rintro e w0 ⟨b, gl, mb, rfl, hz⟩
  have Z0 : Hid (SZ w b gl mb [[], [], []] w0) := Lib.hid hz
  clear hz
  go_wp2_with fail
  refine (HI _).out.mono ?_
  rintro e w' ⟨rfl, rfl⟩
  go_wp2_with fail
  refine (mov_c Z0.out HX.out f1.out f2.out).mono ?_
  rintro e w1 ⟨rfl, hz⟩
  have Z1 := Lib.hid hz
  clear hz Z0
  go_wp2_with fail
  refine (rem_c Z1.out HX.out f3.out f4.out).mono ?_
  rintro e w2 ⟨rfl, hz⟩
  have Z2 := Lib.hid hz
  clear hz Z1
  go_wp2_with fail
  refine (put_c Z2.out HX.out f5.out f6.out).mono ?_
  rintro e w3 ⟨rfl, hz⟩
  have Z3 := Lib.hid hz
  clear hz Z2
  go_wp2_with fail
  refine (und_c Z3.out HX.out f7.out f8.out).mono ?_
  rintro e w4 ⟨rfl, hz⟩
  have Z4 := Lib.hid hz
  clear hz Z3
  go_wp2_with fail
  refine (put_c Z4.out HX.out f9.out f10.out).mono ?_
  rintro e w5 ⟨rfl, hz⟩
  have Z5 := Lib.hid hz
  clear hz Z4
  go_wp2_with fail
  refine (where_c Z5.out HX.out f11.out).mono ?_
  rintro e w6 ⟨rfl, hz⟩
  have Z6 := Lib.hid hz
  clear hz Z5
  go_wp2_with fail
  refine (mov_c Z6.out HX.out f12.out f13.out).mono ?_
  rintro e w7 ⟨rfl, hz⟩
  have Z7 := Lib.hid hz
  clear hz Z6
  go_wp2_with fail
  refine (where_c Z7.out HX.out f14.out).mono ?_
  rintro e w8 ⟨rfl, hz⟩
  have Z8 := Lib.hid hz
  clear hz Z7
  go_wp2_with fail
  refine (rem_c Z8.out HX.out f15.out f16.out).mono ?_
  rintro e w9 ⟨rfl, hz⟩
  have Z9 := Lib.hid hz
  clear hz Z8
  go_wp2_with fail
  refine (known_in Z9.out.f).mono ?_
  rintro e w' ⟨rfl, hb⟩
  go_wp2
  go_ret
  exact ⟨rfl, hb⟩
theorem names_law (x n : Int) (w : World) (hx : i64ok x) : Calls Try.prog 3 #[.int .i64 x, .int .i64 n] w fun e w' => e = .returned (.bool true) ∧ Below w.heap.size w w' := by
  cases hk : okID x
  · exact names_bad1 x n w hx hk
  · by_cases h1 : n < 0
    · exact names_bad2 x n w hx hk h1
    · by_cases h2 : 2 < n
      · exact names_bad3 x n w hx hk (by omega) h2
      · have : n = 0 ∨ n = 1 ∨ n = 2 := by omega
        rcases this with rfl | rfl | rfl
        · exact names_ok0 x w hx hk
        · exact names_ok1 x w hx hk
        · exact names_ok2 x w hx hk
end Go.Proofs.Ytklohgecgjlgeaa.zoFn
