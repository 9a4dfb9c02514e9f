/- What the law's helpers next, list and shuffles return. -/
import Derived.Test.YtefncefmolphfaaDrSame
namespace Go.Proofs.Ytefncefmolphfaa.drFn
open Go.ChangeShapes Go.WideShapes Go.ChangeAt Go.RowKit drMem
set_option linter.unusedVariables false

set_option maxHeartbeats 400000 in
theorem list_any (s1 s2 : Option Addr) (n1 n2 c1 c2 : Nat) (a b : List Int) (E N : Int) (w : World) (h1 : src w s1 (is a)) (h2 : src w s2 (is b)) (l1 : a.length = n1) (l2 : b.length = n2) (m1 : n1 ≤ 9223372036854775807) (m2 : n2 ≤ 9223372036854775807) :
    Calls Try.prog 28 #[.slice s1 n1 c1, .int .i64 E, .slice s2 n2 c2, .int .i64 N] w (boolR (sameB a b && (E == N)) w) := by
  have cc := Same_any s1 s2 n1 n2 c1 c2 a b w h1 h2 l1 l2 m1 m2
  by_cases hs : sameB a b = true
  · rw [hs] at cc ⊢
    rw [Bool.true_and]
    have CC := Lib.hid cc
    clear cc h1 h2 l1 l2 hs
    by_cases he : (E == N) = true
    · rw [he]
      go_enter Try.func28, Try.ntmps28
      go_wp2_with (go_at_call 15; refine CC.out.mono ?_; rintro e w' ⟨rfl, n, rfl⟩)
      go_ret
      exact ⟨rfl, n, rfl⟩
    · have he' : (E == N) = false := by simpa using he
      rw [he']
      clear he
      go_enter Try.func28, Try.ntmps28
      go_wp2_with (go_at_call 15; refine CC.out.mono ?_; rintro e w' ⟨rfl, n, rfl⟩)
      go_ret
      exact ⟨rfl, n, rfl⟩
  · have hs' : sameB a b = false := by simpa using hs
    rw [hs'] at cc ⊢
    rw [Bool.false_and]
    have CC := Lib.hid cc
    clear cc h1 h2 l1 l2 hs hs'
    go_enter Try.func28, Try.ntmps28
    go_wp2_with (go_at_call 15; refine CC.out.mono ?_; rintro e w' ⟨rfl, n, rfl⟩)
    go_ret
    exact ⟨rfl, n, rfl⟩

/- next, shuffles -/
def drPost (b g : Nat) (l : List Nat) (u : Nat) (x : Bool) (w : World) (e : Ending) (w' : World) : Prop := e = .returned (.bool x) ∧ isD w' b g l u ∧ w.grownBy w' (some b)
set_option maxHeartbeats 400000 in
theorem next_any {b g : Nat} {l : List Nat} {u : Nat} {w : World} (n want no : Int) (h : isD w b g l u) :
    Calls Try.prog 12 #[.pointer (some ⟨b, 0, none⟩), .int .i64 n, .int .i64 want, .int .i64 no] w (drPost b g l (nextU l u n) ((nextN l u n == want) && (nextE l u n == no)) w) := by
  have cc := Next_any n h
  have CC := Lib.hid cc
  clear cc h
  generalize nextU l u n = u' at *
  generalize nextN l u n = x at *
  generalize nextE l u n = y at *
  by_cases h1 : (x == want) = true
  · rw [h1, Bool.true_and]
    by_cases h2 : (y == no) = true
    · rw [h2]
      go_enter Try.func12, Try.ntmps12
      go_wp2_with fail
      refine CC.out.mono ?_; rintro e w1 ⟨rfl, hd, hg⟩
      have D := Lib.hid hd
      have G := Lib.hid hg
      clear hd hg
      go_wp2
      go_ret
      exact ⟨rfl, D.out, G.out⟩
    · have h2' : (y == no) = false := by simpa using h2
      rw [h2']
      clear h2
      go_enter Try.func12, Try.ntmps12
      go_wp2_with fail
      refine CC.out.mono ?_; rintro e w1 ⟨rfl, hd, hg⟩
      have D := Lib.hid hd
      have G := Lib.hid hg
      clear hd hg
      go_wp2
      go_ret
      exact ⟨rfl, D.out, G.out⟩
  · have h1' : (x == want) = false := by simpa using h1
    rw [h1', Bool.false_and]
    clear h1
    go_enter Try.func12, Try.ntmps12
    go_wp2_with fail
    refine CC.out.mono ?_; rintro e w1 ⟨rfl, hd, hg⟩
    have D := Lib.hid hd
    have G := Lib.hid hg
    clear hd hg
    go_wp2
    go_ret
    exact ⟨rfl, D.out, G.out⟩

theorem outRow.src {w w' : World} {v : Value} {out : List Int} (h : outRow w w' v out) : ∃ sp, v = .slice sp out.length out.length ∧ src w' sp (is out) ∧ ∀ a, sp = some a → w.heap.size ≤ a.block := h.ok
theorem shOut_len (l : List Nat) (u : Nat) (xs : List Int) : (shOut l u xs).length ≤ xs.length := by
  unfold shOut; split
  · rw [shufL_len]; exact Nat.le_refl _
  · exact Nat.zero_le _
set_option maxHeartbeats 400000 in
theorem shuffles_any {b g : Nat} {l : List Nat} {u : Nat} {w : World} (s1 s2 : Option Addr) (n1 n2 c1 c2 : Nat) (xs want : List Int) (no : Int) (h : isD w b g l u) (h1 : src w s1 (is xs)) (l1 : xs.length = n1) (m1 : n1 ≤ 9223372036854775807)
    (h2 : src w s2 (is want)) (l2 : want.length = n2) (m2 : n2 ≤ 9223372036854775807) (hs2 : ∀ a, s2 = some a → a.block ≠ b) :
    Calls Try.prog 14 #[.pointer (some ⟨b, 0, none⟩), .slice s1 n1 c1, .slice s2 n2 c2, .int .i64 no] w (drPost b g l (shU l u xs.length) (sameB (shOut l u xs) want && (shE l u xs.length == no)) w) := by
  have cc := Shuffle_any s1 n1 c1 xs h h1 l1 m1
  have CC := Lib.hid cc
  have H2 := Lib.hid h2
  have L1 := Lib.hid l1
  have L2 := Lib.hid l2
  have HS := Lib.hid hs2
  clear cc h h1 l1 h2 l2 hs2
  go_enter Try.func14, Try.ntmps14
  go_wp2_with fail
  refine CC.out.mono ?_; rintro e w1 ⟨v, rfl, ho, hd, hg⟩
  obtain ⟨sp, rfl, hsp, _⟩ := ho.ok
  have D := Lib.hid hd
  have G := Lib.hid hg
  have S1 := Lib.hid hsp
  have S2 := Lib.hid (H2.out.grown hg HS.out)
  clear hd hg ho hsp
  go_wp2_with fail
  refine (list_any sp s2 _ n2 _ c2 (shOut l u xs) want _ no w1 S1.out S2.out rfl L2.out (by have := shOut_len l u xs; have := L1.out; omega) m2).mono ?_
  rintro e w2 ⟨rfl, n, rfl⟩
  go_wp2
  go_ret
  exact ⟨rfl, D.out.drewN n, ⟨G.out.os, G.out.tape, G.out.output, G.out.size, G.out.block⟩⟩

theorem next_none (p : Option Addr) (n want no : Int) (w : World) (hp : p = none ∨ ∃ b, p = some ⟨b, 0, none⟩ ∧ w.cell? ⟨b, 0, none⟩ = some (.slice none 0 0)) :
    Calls Try.prog 12 #[.pointer p, .int .i64 n, .int .i64 0, .int .i64 1] w fun e w' => e = .returned (.bool true) ∧ w = w' := by
  rcases hp with rfl | ⟨b, rfl, hc⟩
  · go_enter Try.func12, Try.ntmps12
    go_wp2_with (go_at_call 19; refine (Next_nil _ _).mono ?_; rintro e w' ⟨rfl, rfl⟩)
    go_ret
    exact ⟨rfl, rfl⟩
  · have HC := Lib.hid hc
    clear hc
    go_enter Try.func12, Try.ntmps12
    go_wp2_with (go_at_call 19; refine (Next_zero _ _ _ HC.out).mono ?_; rintro e w' ⟨rfl, rfl⟩)
    go_ret
    exact ⟨rfl, rfl⟩
theorem shuffles_none (p : Option Addr) (sp : Option Addr) (len cap : Nat) (w : World) (hp : p = none ∨ ∃ b, p = some ⟨b, 0, none⟩ ∧ w.cell? ⟨b, 0, none⟩ = some (.slice none 0 0)) :
    Calls Try.prog 14 #[.pointer p, .slice sp len cap, .slice none 0 0, .int .i64 1] w fun e w' => e = .returned (.bool true) ∧ ∃ n, w' = w.drewN n := by
  have hl : Calls Try.prog 28 #[.slice none 0 0, .int .i64 1, .slice none 0 0, .int .i64 1] w (boolR true w) := list_any none none 0 0 0 0 [] [] 1 1 w (src.nil _ _) (src.nil _ _) rfl rfl (by omega) (by omega)
  have HL := Lib.hid hl
  clear hl
  rcases hp with rfl | ⟨b, rfl, hc⟩
  · go_enter Try.func14, Try.ntmps14
    go_wp2_with (first | (go_at_call 20; refine (Shuffle_nil _ _ _ _).mono ?_; rintro e w' ⟨rfl, rfl⟩) | (go_at_call 28; refine HL.out.mono ?_; rintro e w' ⟨rfl, n, rfl⟩))
    go_ret
    exact ⟨rfl, n, rfl⟩
  · have HC := Lib.hid hc
    clear hc
    go_enter Try.func14, Try.ntmps14
    go_wp2_with (first | (go_at_call 20; refine (Shuffle_zero _ _ _ _ _ HC.out).mono ?_; rintro e w' ⟨rfl, rfl⟩) | (go_at_call 28; refine HL.out.mono ?_; rintro e w' ⟨rfl, n, rfl⟩))
    go_ret
    exact ⟨rfl, n, rfl⟩
end Go.Proofs.Ytefncefmolphfaa.drFn
