/- What the law's helper takes returns; the examples of the chapter. -/
import Derived.Test.YtefncefmolphfaaDoorIdAll
namespace Go.Proofs.YtefncefmolphfaaDoor.idFn
open Go.ChangeShapes Go.WideShapes Go.ChangeAt Go.RowKit Go.Shelf drMem idBits
set_option linter.unusedVariables false
attribute [local go_sem] Oper.semAt_some
variable {w w' W W' : World} {b g : Nat} {fl fl' : List Bool}

def tkPost (b g : Nat) (fl' : List Bool) (x : Bool) (w : World) (e : Ending) (w' : World) : Prop := e = .returned (.bool x) ∧ isI w' b g fl' ∧ w.grownBy w' (some g)
set_option maxHeartbeats 400000 in
theorem takes_any (h : isI w b g fl) (want no : Int) : Calls Tryd.prog 13 #[.pointer (some ⟨b, 0, none⟩), .int .i64 want, .int .i64 no] w (tkPost b g (tkF fl) ((tkV fl == want) && (tkE fl == no)) w) := by
  have HT := Lib.hid (Take_any h)
  clear h
  generalize tkV fl = v at *
  generalize tkE fl = y at *
  by_cases h1 : (v == want) = true
  · rw [h1, Bool.true_and]
    by_cases h2 : (y == no) = true
    · rw [h2]
      go_enter Tryd.func13, Tryd.ntmps13
      go_wp2_with (go_at_call 23; refine HT.out.mono ?_; rintro e w1 ⟨rfl, hi, hg⟩; have HI := Lib.hid hi; have HG := Lib.hid hg; clear hi hg)
      go_ret
      exact ⟨rfl, HI.out, HG.out⟩
    · have h2' : (y == no) = false := by simpa using h2
      rw [h2']
      clear h2
      go_enter Tryd.func13, Tryd.ntmps13
      go_wp2_with (go_at_call 23; refine HT.out.mono ?_; rintro e w1 ⟨rfl, hi, hg⟩; have HI := Lib.hid hi; have HG := Lib.hid hg; clear hi hg)
      go_ret
      exact ⟨rfl, HI.out, HG.out⟩
  · have h1' : (v == want) = false := by simpa using h1
    rw [h1', Bool.false_and]
    clear h1
    go_enter Tryd.func13, Tryd.ntmps13
    go_wp2_with (go_at_call 23; refine HT.out.mono ?_; rintro e w1 ⟨rfl, hi, hg⟩; have HI := Lib.hid hi; have HG := Lib.hid hg; clear hi hg)
    go_ret
    exact ⟨rfl, HI.out, HG.out⟩

/- ids of the call's own -/
structure SI (w : World) (b g : Nat) (fl : List Bool) (W : World) : Prop where
  i : isI W b g fl
  f : Below w.heap.size w W
  hb : w.heap.size ≤ b
  hg : w.heap.size ≤ g
theorem SI.step (h : SI w b g fl W) (hi : isI W' b g fl') (hg : W.grownBy W' (some g)) : SI w b g fl' W' := ⟨hi, below_grown h.f hg h.f.size h.hg, h.hb, h.hg⟩
theorem SI.below (h : SI w b g fl W) (hb : Below W.heap.size W W') : SI w b g fl W' := ⟨h.i.belowW hb, h.f.trans (hb.mono h.f.size), h.hb, h.hg⟩
theorem SI.drewN (h : SI w b g fl W) (n : Nat) : SI w b g fl (W.drewN n) := h.below ⟨rfl, rfl, rfl, Nat.le_refl _, fun _ _ => rfl⟩
theorem tk_c (h : SI w b g fl W) {v y : Int} (h1 : tkV fl = v) (h2 : tkE fl = y) (h3 : tkF fl = fl') : Calls Tryd.prog 13 #[.pointer (some ⟨b, 0, none⟩), .int .i64 v, .int .i64 y] W fun e w' => e = .returned (.bool true) ∧ SI w b g fl' w' := by
  have c := takes_any h.i v y
  rw [h1, h2, h3] at c
  simp only [beq_self_eq_true, Bool.and_self] at c
  exact c.mono fun e w' ⟨he, hi, hg⟩ => ⟨he, h.step hi hg⟩
theorem fr_c (h : SI w b g fl W) {id y : Int} (h2 : frE fl id = y) (h3 : frF fl id = fl') : Calls Tryd.prog 16 #[.pointer (some ⟨b, 0, none⟩), .int .i64 id] W fun e w' => e = .returned (.int .i64 y) ∧ SI w b g fl' w' := by
  have c := Free_any h.i id
  rw [h2, h3] at c
  exact c.mono fun e w' ⟨he, hi, hg⟩ => ⟨he, h.step hi hg⟩
theorem cl_c (h : SI w b g fl W) {id y : Int} (h2 : clE fl id = y) (h3 : clF fl id = fl') : Calls Tryd.prog 19 #[.pointer (some ⟨b, 0, none⟩), .int .i64 id] W fun e w' => e = .returned (.int .i64 y) ∧ SI w b g fl' w' := by
  have c := Claim_any h.i id
  rw [h2, h3] at c
  exact c.mono fun e w' ⟨he, hi, hg⟩ => ⟨he, h.step hi hg⟩
theorem has_c (h : SI w b g fl W) {id : Int} {x : Bool} (h2 : hasB fl id = x) : Calls Tryd.prog 20 #[.pointer (some ⟨b, 0, none⟩), .int .i64 id] W fun e w' => e = .returned (.bool x) ∧ SI w b g fl w' := by
  have c := Has_any h.i id
  rw [h2] at c
  exact c.mono fun e w' ⟨he, n, hw⟩ => ⟨he, hw ▸ h.drewN n⟩
theorem len_c (h : SI w b g fl W) {n : Nat} (h2 : fl.count true = n) : Calls Tryd.prog 14 #[.pointer (some ⟨b, 0, none⟩)] W fun e w' => e = .returned (.int .i64 (n : Int)) ∧ SI w b g fl w' := by
  have c := Len_any h.i
  rw [h2] at c
  exact c.mono fun e w' ⟨he, hw⟩ => ⟨he, hw ▸ h⟩
theorem room_c (h : SI w b g fl W) {m : Int} (h2 : (fl.length : Int) - ((fl.count true : Nat) : Int) = m) : Calls Tryd.prog 15 #[.pointer (some ⟨b, 0, none⟩)] W fun e w' => e = .returned (.int .i64 m) ∧ SI w b g fl w' := by
  have c := Room_any h.i
  rw [h2] at c
  exact c.mono fun e w' ⟨he, n, hw⟩ => ⟨he, hw ▸ h.drewN n⟩
theorem all_c (h : SI w b g fl W) (s2 : Option Addr) (n2 c2 : Nat) (want : List Int) (h2 : src W s2 (is want)) (l2 : want.length = n2) (m2 : n2 ≤ 9223372036854775807) (h3 : ids fl fl.length = want) :
    Calls Tryd.prog 21 #[.pointer (some ⟨b, 0, none⟩), .slice s2 n2 c2] W fun e w' => e = .returned (.bool true) ∧ SI w b g fl w' := by
  have c := all_any h.i s2 n2 c2 want h2 l2 m2
  rw [h3, sameB_of rfl] at c
  exact c.mono fun e w' ⟨he, hb⟩ => ⟨he, h.below hb⟩
theorem new_c (m : Nat) (W : World) (h1 : 1 ≤ m) (h2 : m ≤ 4096) (ht : tabAt W) (hw : Below w.heap.size w W) :
    Calls Tryd.prog 9 #[.int .i64 (m : Int)] W fun e w' => ∃ b g, e = .returned (.tuple #[.pointer (some ⟨b, 0, none⟩), .int .i64 0]) ∧ SI w b g (List.replicate m false) w' :=
  (New_ok m W h1 h2 ht).mono fun e w' ⟨b, g, he, hi, hb, hg, hbl⟩ => ⟨b, g, he, hi, hw.trans (hbl.mono hw.size), Nat.le_trans hw.size hb, Nat.le_trans hw.size hg⟩

set_option maxRecDepth 100000 in
set_option maxHeartbeats 4000000 in
theorem known_any (w : World) (ht : tabAt w) : Calls Tryd.prog 8 #[] w (boolB true w) := by
  have HT := Lib.hid ht
  clear ht
  go_enter Tryd.func8, Tryd.ntmps8
  go_wp2_with fail
  refine (new_c (w := w) 3 w (by omega) (by omega) HT.out (Below.refl _ _)).mono ?_
  rintro e w0 ⟨b, g, rfl, hs⟩
  have S0 : Hid (SI w b g [false, false, false] w0) := Lib.hid hs
  clear hs
  go_wp2_with fail
  refine (tk_c (fl' := [true, false, false]) S0.out (v := 1) (y := 0) (by decide) (by decide) (by decide)).mono ?_
  rintro e w1 ⟨rfl, hs⟩
  have S1 := Lib.hid hs
  clear hs S0
  go_wp2_with fail
  refine (tk_c (fl' := [true, true, false]) S1.out (v := 2) (y := 0) (by decide) (by decide) (by decide)).mono ?_
  rintro e w2 ⟨rfl, hs⟩
  have S2 := Lib.hid hs
  clear hs S1
  go_wp2_with fail
  refine (fr_c (fl' := [false, true, false]) S2.out (id := 1) (y := 0) (by decide) (by decide)).mono ?_
  rintro e w3 ⟨rfl, hs⟩
  have S3 := Lib.hid hs
  clear hs S2
  go_wp2_with fail
  refine (tk_c (fl' := [true, true, false]) S3.out (v := 1) (y := 0) (by decide) (by decide) (by decide)).mono ?_
  rintro e w4 ⟨rfl, hs⟩
  have S4 := Lib.hid hs
  clear hs S3
  go_wp2_with fail
  refine (cl_c (fl' := [true, true, true]) S4.out (id := 3) (y := 0) (by decide) (by decide)).mono ?_
  rintro e w5 ⟨rfl, hs⟩
  have S5 := Lib.hid hs
  clear hs S4
  go_wp2_with fail
  refine (tk_c (fl' := [true, true, true]) S5.out (v := 0) (y := 7) (by decide) (by decide) (by decide)).mono ?_
  rintro e w6 ⟨rfl, hs⟩
  have S6 := Lib.hid hs
  clear hs S5
  go_wp2_with fail
  refine (fr_c (fl' := [true, false, true]) S6.out (id := 2) (y := 0) (by decide) (by decide)).mono ?_
  rintro e w7 ⟨rfl, hs⟩
  have S7 := Lib.hid hs
  clear hs S6
  go_wp2_with fail
  refine (fr_c (fl' := [true, false, true]) S7.out (id := 2) (y := 9) (by decide) (by decide)).mono ?_
  rintro e w8 ⟨rfl, hs⟩
  have S8 := Lib.hid hs
  clear hs S7
  go_wp2_with fail
  refine (tk_c (fl' := [true, true, true]) S8.out (v := 2) (y := 0) (by decide) (by decide) (by decide)).mono ?_
  rintro e w9 ⟨rfl, hs⟩
  have S9 := Lib.hid hs
  clear hs S8
  go_wp2_with fail
  refine (all_c (S9.out.below ((Below.refl _ _).alloc (Nat.le_refl _) _)) (some ⟨w9.heap.size, 0, none⟩) 3 3 [1, 2, 3] (src.of (has.new w9 3 [.int .i64 1, .int .i64 2, .int .i64 3])) rfl (by omega) (by decide)).mono ?_
  rintro e w10 ⟨rfl, hs⟩
  have S10 := Lib.hid hs
  clear hs S9
  go_wp2_with fail
  refine (len_c S10.out (n := 3) (by decide)).mono ?_
  rintro e w11 ⟨rfl, hs⟩
  have S11 := Lib.hid hs
  clear hs S10
  go_wp2_with fail
  refine (room_c S11.out (m := 0) (by decide)).mono ?_
  rintro e w12 ⟨rfl, hs⟩
  have S12 := Lib.hid hs
  clear hs S11
  go_wp2_with fail
  refine (cl_c (fl' := [true, true, true]) S12.out (id := 0) (y := 2) (by decide) (by decide)).mono ?_
  rintro e w13 ⟨rfl, hs⟩
  have S13 := Lib.hid hs
  clear hs S12
  go_wp2_with fail
  refine (cl_c (fl' := [true, true, true]) S13.out (id := 4) (y := 2) (by decide) (by decide)).mono ?_
  rintro e w14 ⟨rfl, hs⟩
  have S14 := Lib.hid hs
  clear hs S13
  go_wp2_with fail
  refine (cl_c (fl' := [true, true, true]) S14.out (id := 2) (y := 11) (by decide) (by decide)).mono ?_
  rintro e w15 ⟨rfl, hs⟩
  have S15 := Lib.hid hs
  clear hs S14
  go_wp2_with fail
  refine (has_c S15.out (id := 4) (x := false) (by decide)).mono ?_
  rintro e w16 ⟨rfl, hs⟩
  have S16 := Lib.hid hs
  clear hs S15
  have B := Lib.hid S16.out.f
  clear S16
  go_wp2_with (first | (go_at_call 9; (with_reducible refine (New_bad 0 _ (by omega)).mono ?_); rintro e w' ⟨rfl, rfl⟩) | (go_at_call 9; (with_reducible refine (New_bad 4097 _ (by omega)).mono ?_); rintro e w' ⟨rfl, rfl⟩))
  go_ret
  exact ⟨rfl, B.out⟩
end Go.Proofs.YtefncefmolphfaaDoor.idFn
