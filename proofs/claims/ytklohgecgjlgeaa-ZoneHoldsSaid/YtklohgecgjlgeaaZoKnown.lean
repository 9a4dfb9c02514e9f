/- The calls of the chapter's examples. -/
import Derived.Test.YtklohgecgjlgeaaZoHelp
namespace Go.Proofs.Ytklohgecgjlgeaa.zoFn
open Go.ChangeShapes Go.WideShapes Go.ChangeAt Go.RowKit drMem
set_option linter.unusedVariables false
variable {F G : Nat → Prop} {w w' W W' : World} {b gl mb : Nat} {L M : List (List Int)}

def zPost (r : Value) (w : World) (b gl mb : Nat) (M : List (List Int)) (e : Ending) (w' : World) : Prop := e = .returned r ∧ SZ w b gl mb M w'
theorem put_c (h : SZ w b gl mb L W) {x z y : Int} (hx : i64ok x) (h1 : entE L.length L x z = y) (h2 : putL L x z = M) : Calls Try.prog 9 #[.pointer (some ⟨b, 0, none⟩), .int .i64 x, .int .i64 z] W (zPost (.int .i64 y) w b gl mb M) := by
  have c := Put_any h.z x z hx
  rw [h1, h2] at c
  exact c.mono fun e w' ⟨he, hz, hk⟩ => ⟨he, h.step hz hk⟩
theorem und_c (h : SZ w b gl mb L W) {x z y : Int} (hx : i64ok x) (h1 : entE L.length L x z = y) (h2 : undL L x z = M) : Calls Try.prog 10 #[.pointer (some ⟨b, 0, none⟩), .int .i64 x, .int .i64 z] W (zPost (.int .i64 y) w b gl mb M) := by
  have c := Under_any h.z x z hx
  rw [h1, h2] at c
  exact c.mono fun e w' ⟨he, hz, hk⟩ => ⟨he, h.step hz hk⟩
theorem mov_c (h : SZ w b gl mb L W) {x z y : Int} (hx : i64ok x) (h1 : movE L.length L x z = y) (h2 : movL L x z = M) : Calls Try.prog 11 #[.pointer (some ⟨b, 0, none⟩), .int .i64 x, .int .i64 z] W (zPost (.int .i64 y) w b gl mb M) := by
  have c := Move_any h.z x z hx
  rw [h1, h2] at c
  exact c.mono fun e w' ⟨he, hz, hk⟩ => ⟨he, h.step hz hk⟩
theorem rem_c (h : SZ w b gl mb L W) {x y : Int} (hx : i64ok x) (h1 : leaE L.length L x = y) (h2 : remL L x = M) : Calls Try.prog 14 #[.pointer (some ⟨b, 0, none⟩), .int .i64 x] W (zPost (.int .i64 y) w b gl mb M) := by
  have c := Remove_any h.z x hx
  rw [h1, h2] at c
  exact c.mono fun e w' ⟨he, hz, hk⟩ => ⟨he, h.step hz hk⟩
theorem set_c (h : SZ w b gl mb L W) {i : Nat} {z y : Int} (hzi : z = (i : Int)) (hi : i < L.length) {v : Value} {l : List Int} (r : rowAt W v l) (h0 : 0 < (row L i).length) (hl : l.length ≤ 4096) (h1 : setE L i l = y) (h2 : setL L i l = M) : Calls Try.prog 20 #[.pointer (some ⟨b, 0, none⟩), .int .i64 z, v] W (zPost (.int .i64 y) w b gl mb M) := by
  subst hzi
  have c := Set_any h.z hi r h0 hl
  rw [h1, h2] at c
  exact c.mono fun e w' ⟨he, hz, hk⟩ => ⟨he, h.step hz hk⟩
theorem len_c (h : SZ w b gl mb L W) {z y : Int} (h1 : ((if okZ L.length z then ((row L z.toNat).length : Nat) else 0 : Int)) = y) : Calls Try.prog 12 #[.pointer (some ⟨b, 0, none⟩), .int .i64 z] W fun e w' => e = .returned (.int .i64 y) ∧ W = w' := by
  have c := Len_any h.z z
  rw [h1] at c
  exact c
def listPost (l : List Int) (w : World) (b gl mb : Nat) (L : List (List Int)) (W : World) (e : Ending) (w' : World) : Prop := ∃ v, e = .returned v ∧ rowAt w' v l ∧ (∀ g, v.ownBlock = some g → W.heap.size ≤ g) ∧ SZ w b gl mb L w' ∧ Below W.heap.size W w'
theorem list_c (h : SZ w b gl mb L W) {z : Int} {l : List Int} (h1 : (if okZ L.length z then row L z.toNat else []) = l) : Calls Try.prog 17 #[.pointer (some ⟨b, 0, none⟩), .int .i64 z] W (listPost l w b gl mb L W) := by
  have c := List_any h.z z
  rw [h1] at c
  exact c.mono fun e w' ⟨v, he, ho, hb⟩ => ⟨v, he, (rowAt.own ho).1, (rowAt.own ho).2.1, h.below hb, hb⟩
theorem where_c (h : SZ w b gl mb L W) {x a c no : Int} (hx : i64ok x) (h1 : whB L x a c no = true) : Calls Try.prog 15 #[.pointer (some ⟨b, 0, none⟩), .int .i64 x, .agg #[.int .i64 a, .int .i64 c], .int .i64 no] W (zPost (.bool true) w b gl mb L) := by
  have c := where_any h.z x a c no hx
  rw [h1] at c
  exact c.mono fun e w' ⟨he, hb⟩ => ⟨he, h.below hb⟩
theorem top_c (h : SZ w b gl mb L W) {z want no : Int} (h1 : topB L z want no = true) : Calls Try.prog 18 #[.pointer (some ⟨b, 0, none⟩), .int .i64 z, .int .i64 want, .int .i64 no] W fun e w' => e = .returned (.bool true) ∧ W = w' := by
  have c := top_any h.z z want no
  rw [h1] at c
  exact c
theorem rowAt.lit (w : World) (l : List Int) (hl : l.length ≤ 4096) : rowAt (w.alloc (.cells (is l).toArray 3)) (.slice (some ⟨w.heap.size, 0, none⟩) l.length l.length) l :=
  .inr ⟨w.heap.size, l.length, is l, rfl, has.new w _ _, Nat.le_refl _, by rw [is_len]; exact Nat.le_refl _, by unfold maxLen; omega, List.take_of_length_le (by rw [is_len]; exact Nat.le_refl _)⟩
theorem same_r {v1 v2 : Value} {a c : List Int} (r1 : rowAt w v1 a) (r2 : rowAt w v2 c) (h1 : a.length ≤ 65536) (h2 : c.length ≤ 65536) : Calls Try.prog 16 #[v1, v2] w fun e w' => e = .returned (.bool (idFn.sameB a c)) ∧ ∃ n, w' = w.drewN n := by
  obtain ⟨s1, c1, rfl, q1, _⟩ := r1.form
  obtain ⟨s2, c2, rfl, q2, _⟩ := r2.form
  exact idFn.Same_any s1 s2 _ _ c1 c2 a c w q1 q2 rfl rfl (by omega) (by omega)
theorem same_c (h : SZ w b gl mb L W) {v1 v2 : Value} {a c : List Int} (r1 : rowAt W v1 a) (r2 : rowAt W v2 c) (h1 : a.length ≤ 65536) (h2 : c.length ≤ 65536) (he : a = c) : Calls Try.prog 16 #[v1, v2] W (zPost (.bool true) w b gl mb L) := by
  have c := same_r r1 r2 h1 h2
  rw [idFn.sameB_of he] at c
  exact c.mono fun e w' ⟨he, n, hw⟩ => ⟨he, hw ▸ h.drewN n⟩
theorem New2 (w W : World) (hw : Below w.heap.size w W) : Calls Try.prog 7 #[.int .i64 2] W (newPost w 2 W) := New_any 2 (by decide) (by decide) w W hw
theorem s1 : sameI [2, 9] [9, 2] = true := by
  unfold sameI sortI
  simp [List.mergeSort, List.MergeSort.Internal.splitInTwo]
theorem s2 : sameI [9, 2] [9, 9] = false := by
  cases h : sameI [9, 2] [9, 9]
  · rfl
  · simp only [sameI, Bool.and_eq_true, decide_eq_true_eq, beq_iff_eq] at h
    have := (sortI_mem h.2 2).2 (by decide)
    exact absurd this (by decide)
theorem s3 : sameI [9, 2] [9] = false := by simp [sameI]
def knownPost (w : World) (e : Ending) (w' : World) : Prop := e = .returned (.bool true) ∧ Below w.heap.size w w'
set_option maxRecDepth 100000 in
set_option maxHeartbeats 8000000 in
theorem known_any (w : World) : Calls Try.prog 13 #[] w (knownPost w) := by
  go_enter Try.func13, Try.ntmps13
  go_wp2_with fail
  refine (New2 w w (Below.refl _ _)).mono ?_
  rintro e w0 ⟨b, gl, mb, rfl, hz⟩
  have Z0 : Hid (SZ w b gl mb [[], []] w0) := Lib.hid hz
  clear hz
  go_wp2_with fail
  refine (put_c Z0.out (x := 5) (z := 0) (y := 0) (M := [[5], []]) (by unfold i64ok; decide) (by decide) (by decide)).mono ?_
  rintro e w1 ⟨rfl, hz⟩
  have Z1 := Lib.hid hz
  clear hz Z0
  go_wp2_with fail
  refine (put_c Z1.out (x := 2) (z := 0) (y := 0) (M := [[5, 2], []]) (by unfold i64ok; decide) (by decide) (by decide)).mono ?_
  rintro e w2 ⟨rfl, hz⟩
  have Z2 := Lib.hid hz
  clear hz Z1
  go_wp2_with fail
  refine (und_c Z2.out (x := 9) (z := 0) (y := 0) (M := [[9, 5, 2], []]) (by unfold i64ok; decide) (by decide) (by decide)).mono ?_
  rintro e w3 ⟨rfl, hz⟩
  have Z3 := Lib.hid hz
  clear hz Z2
  go_wp2_with fail
  refine (put_c Z3.out (x := 5) (z := 1) (y := 11) (M := [[9, 5, 2], []]) (by unfold i64ok; decide) (by decide) (by decide)).mono ?_
  rintro e w4 ⟨rfl, hz⟩
  have Z4 := Lib.hid hz
  clear hz Z3
  go_wp2_with fail
  refine (list_c Z4.out (z := 0) (l := [9, 5, 2]) (by decide)).mono ?_
  rintro e w5 ⟨v, rfl, hr, ho, hz, hb⟩
  have R := Lib.hid (hr.alloc (.cells (is [9, 5, 2]).toArray 3))
  have Z5 := Lib.hid (hz.below ((Below.refl _ _).alloc (Nat.le_refl _) (.cells (is [9, 5, 2]).toArray 3)))
  clear hz hr ho hb Z4
  go_wp2_with fail
  refine (same_c Z5.out R.out (rowAt.lit w5 [9, 5, 2] (by decide)) (by decide) (by decide) rfl).mono ?_
  rintro e w6 ⟨rfl, hz⟩
  have Z6 := Lib.hid hz
  clear hz Z5
  clear R
  go_wp2_with fail
  refine (top_c Z6.out (z := 0) (want := 2) (no := 0) (by decide)).mono ?_
  rintro e w' ⟨rfl, rfl⟩
  go_wp2_with fail
  refine (where_c Z6.out (x := 2) (a := 0) (c := 2) (no := 0) (by unfold i64ok; decide) (by decide)).mono ?_
  rintro e w7 ⟨rfl, hz⟩
  have Z7 := Lib.hid hz
  clear hz Z6
  go_wp2_with fail
  refine (mov_c Z7.out (x := 5) (z := 1) (y := 0) (M := [[9, 2], [5]]) (by unfold i64ok; decide) (by decide) (by decide)).mono ?_
  rintro e w8 ⟨rfl, hz⟩
  have Z8 := Lib.hid hz
  clear hz Z7
  go_wp2_with fail
  refine (mov_c Z8.out (x := 9) (z := 0) (y := 0) (M := [[2, 9], [5]]) (by unfold i64ok; decide) (by decide) (by decide)).mono ?_
  rintro e w9 ⟨rfl, hz⟩
  have Z9 := Lib.hid hz
  clear hz Z8
  go_wp2_with fail
  refine (list_c Z9.out (z := 0) (l := [2, 9]) (by decide)).mono ?_
  rintro e w10 ⟨v, rfl, hr, ho, hz, hb⟩
  have R := Lib.hid (hr.alloc (.cells (is [2, 9]).toArray 3))
  have Z10 := Lib.hid (hz.below ((Below.refl _ _).alloc (Nat.le_refl _) (.cells (is [2, 9]).toArray 3)))
  clear hz hr ho hb Z9
  go_wp2_with fail
  refine (same_c Z10.out R.out (rowAt.lit w10 [2, 9] (by decide)) (by decide) (by decide) rfl).mono ?_
  rintro e w11 ⟨rfl, hz⟩
  have Z11 := Lib.hid hz
  clear hz Z10
  clear R
  go_wp2_with fail
  refine (list_c Z11.out (z := 1) (l := [5]) (by decide)).mono ?_
  rintro e w12 ⟨v, rfl, hr, ho, hz, hb⟩
  have R := Lib.hid (hr.alloc (.cells (is [5]).toArray 3))
  have Z12 := Lib.hid (hz.below ((Below.refl _ _).alloc (Nat.le_refl _) (.cells (is [5]).toArray 3)))
  clear hz hr ho hb Z11
  go_wp2_with fail
  refine (same_c Z12.out R.out (rowAt.lit w12 [5] (by decide)) (by decide) (by decide) rfl).mono ?_
  rintro e w13 ⟨rfl, hz⟩
  have Z13 := Lib.hid hz
  clear hz Z12
  clear R
  go_wp2_with fail
  refine (rem_c Z13.out (x := 5) (y := 0) (M := [[2, 9], []]) (by unfold i64ok; decide) (by decide) (by decide)).mono ?_
  rintro e w14 ⟨rfl, hz⟩
  have Z14 := Lib.hid hz
  clear hz Z13
  go_wp2_with fail
  refine (where_c Z14.out (x := 5) (a := 0) (c := 0) (no := 9) (by unfold i64ok; decide) (by decide)).mono ?_
  rintro e w15 ⟨rfl, hz⟩
  have Z15 := Lib.hid hz
  clear hz Z14
  go_wp2_with fail
  refine (top_c Z15.out (z := 1) (want := 0) (no := 9) (by decide)).mono ?_
  rintro e w' ⟨rfl, rfl⟩
  go_wp2_with fail
  refine (set_c (i := 0) (Z15.out.below ((Below.refl _ _).alloc (Nat.le_refl _) (.cells (is [9, 2]).toArray 3))) (y := 0) (M := [[9, 2], []]) rfl (by decide) (rowAt.lit w15 [9, 2] (by decide)) (by decide) (by decide) (by unfold setE; rw [show row _ 0 = [2, 9] from rfl, s1]; rfl) (by unfold setL; rw [show row _ 0 = [2, 9] from rfl, s1]; rfl)).mono ?_
  rintro e w16 ⟨rfl, hz⟩
  have Z16 := Lib.hid hz
  clear hz Z15
  go_wp2_with fail
  refine (set_c (i := 0) (Z16.out.below ((Below.refl _ _).alloc (Nat.le_refl _) (.cells (is [9, 9]).toArray 3))) (y := 10) (M := [[9, 2], []]) rfl (by decide) (rowAt.lit w16 [9, 9] (by decide)) (by decide) (by decide) (by unfold setE; rw [show row _ 0 = [9, 2] from rfl, s2]; rfl) (by unfold setL; rw [show row _ 0 = [9, 2] from rfl, s2]; rfl)).mono ?_
  rintro e w17 ⟨rfl, hz⟩
  have Z17 := Lib.hid hz
  clear hz Z16
  go_wp2_with fail
  refine (set_c (i := 0) (Z17.out.below ((Below.refl _ _).alloc (Nat.le_refl _) (.cells (is [9]).toArray 3))) (y := 10) (M := [[9, 2], []]) rfl (by decide) (rowAt.lit w17 [9] (by decide)) (by decide) (by decide) (by unfold setE; rw [show row _ 0 = [9, 2] from rfl, s3]; rfl) (by unfold setL; rw [show row _ 0 = [9, 2] from rfl, s3]; rfl)).mono ?_
  rintro e w18 ⟨rfl, hz⟩
  have Z18 := Lib.hid hz
  clear hz Z17
  go_wp2_with fail
  refine (list_c Z18.out (z := 0) (l := [9, 2]) (by decide)).mono ?_
  rintro e w19 ⟨v, rfl, hr, ho, hz, hb⟩
  have R := Lib.hid (hr.alloc (.cells (is [9, 2]).toArray 3))
  have Z19 := Lib.hid (hz.below ((Below.refl _ _).alloc (Nat.le_refl _) (.cells (is [9, 2]).toArray 3)))
  clear hz hr ho hb Z18
  go_wp2_with fail
  refine (same_c Z19.out R.out (rowAt.lit w19 [9, 2] (by decide)) (by decide) (by decide) rfl).mono ?_
  rintro e w20 ⟨rfl, hz⟩
  have Z20 := Lib.hid hz
  clear hz Z19
  clear R
  go_wp2_with fail
  refine (put_c Z20.out (x := 0) (z := 0) (y := 2) (M := [[9, 2], []]) (by unfold i64ok; decide) (by decide) (by decide)).mono ?_
  rintro e w21 ⟨rfl, hz⟩
  have Z21 := Lib.hid hz
  clear hz Z20
  go_wp2_with fail
  refine (put_c Z21.out (x := 4097) (z := 0) (y := 2) (M := [[9, 2], []]) (by unfold i64ok; decide) (by decide) (by decide)).mono ?_
  rintro e w22 ⟨rfl, hz⟩
  have Z22 := Lib.hid hz
  clear hz Z21
  go_wp2_with fail
  refine (put_c Z22.out (x := 1) (z := 2) (y := 2) (M := [[9, 2], []]) (by unfold i64ok; decide) (by decide) (by decide)).mono ?_
  rintro e w23 ⟨rfl, hz⟩
  have Z23 := Lib.hid hz
  clear hz Z22
  go_wp2_with fail
  refine (len_c Z23.out (z := 7) (y := 0) (by decide)).mono ?_
  rintro e w' ⟨rfl, rfl⟩
  go_wp2_with fail
  refine (New_no 33 (by decide) _).mono ?_
  rintro e w' ⟨rfl, rfl⟩
  go_wp2
  go_ret
  exact ⟨rfl, Z23.out.f⟩
end Go.Proofs.Ytklohgecgjlgeaa.zoFn
