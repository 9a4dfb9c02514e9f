/- What Pick and the law's helper picks return at any arguments. -/
import Derived.Test.YtefncefmolphfaaDrPick
namespace Go.Proofs.Ytefncefmolphfaa.drFn
open Go.ChangeShapes Go.WideShapes Go.ChangeAt Go.RowKit drMem
set_option linter.unusedVariables false

theorem Pick_nil (m n : Int) (w : World) : Calls Try.prog 25 #[.pointer none, .int .i64 m, .int .i64 n] w fun e w' => e = .returned (.tuple #[.slice none 0 0, .int .i64 1]) ∧ w = w' := by
  go_enter Try.func25, Try.ntmps25
  go_wp2_with (go_at_call 29; refine (zero_nil _).mono ?_; rintro e w' ⟨rfl, rfl⟩)
  go_ret2
  exact ⟨rfl, rfl⟩
theorem Pick_zero (b : Nat) (m n : Int) (w : World) (h : w.cell? ⟨b, 0, none⟩ = some (.slice none 0 0)) :
    Calls Try.prog 25 #[.pointer (some ⟨b, 0, none⟩), .int .i64 m, .int .i64 n] w fun e w' => e = .returned (.tuple #[.slice none 0 0, .int .i64 1]) ∧ w = w' := by
  have H := Lib.hid h
  clear h
  go_enter Try.func25, Try.ntmps25
  go_wp2_with (go_at_call 29; refine (zero_zero _ _ H.out).mono ?_; rintro e w' ⟨rfl, rfl⟩)
  go_ret2
  exact ⟨rfl, rfl⟩
set_option maxHeartbeats 1000000 in
theorem Pick_arg {b g : Nat} {l : List Nat} {u : Nat} {w : World} (m n : Int) (h : isD w b g l u) (hx : n < 0 ∨ 65536 < n ∨ m < 0 ∨ n < m) :
    Calls Try.prog 25 #[.pointer (some ⟨b, 0, none⟩), .int .i64 m, .int .i64 n] w fun e w' => e = .returned (.tuple #[.slice none 0 0, .int .i64 2]) ∧ w = w' := by
  have H := Lib.hid h
  clear h
  by_cases k1 : n < 0
  · clear hx
    go_enter Try.func25, Try.ntmps25
    go_wp2_with (go_at_call 29; refine (zero_no H.out).mono ?_; rintro e w' ⟨rfl, rfl⟩)
    go_ret2
    exact ⟨rfl, rfl⟩
  · have d1 : decide (n < 0) = false := by simpa using k1
    by_cases k2 : 65536 < n
    · clear hx
      go_enter Try.func25, Try.ntmps25
      go_wp2_with (go_at_call 29; refine (zero_no H.out).mono ?_; rintro e w' ⟨rfl, rfl⟩)
      go_ret2
      exact ⟨rfl, rfl⟩
    · have d2 : decide (65536 < n) = false := by simpa using k2
      by_cases k3 : m < 0
      · clear hx
        go_enter Try.func25, Try.ntmps25
        go_wp2_with (go_at_call 29; refine (zero_no H.out).mono ?_; rintro e w' ⟨rfl, rfl⟩)
        go_ret2
        exact ⟨rfl, rfl⟩
      · have d3 : decide (m < 0) = false := by simpa using k3
        have k4 : n < m := by omega
        clear hx
        go_enter Try.func25, Try.ntmps25
        go_wp2_with (go_at_call 29; refine (zero_no H.out).mono ?_; rintro e w' ⟨rfl, rfl⟩)
        go_ret2
        exact ⟨rfl, rfl⟩
theorem Pick_end {b g : Nat} {l : List Nat} {u : Nat} {w : World} (many bound : Nat) (h : isD w b g l u) (hb : bound ≤ 65536) (hm : many ≤ bound) (hr : l.length - u < many) :
    Calls Try.prog 25 #[.pointer (some ⟨b, 0, none⟩), .int .i64 (many : Int), .int .i64 (bound : Int)] w fun e w' => e = .returned (.tuple #[.slice none 0 0, .int .i64 16]) ∧ ∃ n, w' = w.drewN n := by
  have HH := Lib.hid h
  clear h
  have d1 : decide ((bound : Int) < 0) = false := by simp
  have d2 : decide (65536 < (bound : Int)) = false := by simp; omega
  have d3 : decide ((many : Int) < 0) = false := by simp
  have d4 : decide (bound < many) = false := by simp; omega
  have d5 : decide (l.length - u < many) = true := by simp; omega
  go_enter Try.func25, Try.ntmps25
  go_wp2_with (first | (go_at_call 29; refine (zero_no HH.out).mono ?_; rintro e w' ⟨rfl, rfl⟩) | (go_at_call 23; refine (Left_any HH.out).mono ?_; rintro e w' ⟨rfl, nq, rfl⟩))
  go_ret2
  exact ⟨rfl, _, rfl⟩

/- the results of Pick -/
def pkE (l : List Nat) (u : Nat) (m n : Int) : Int := if n < 0 ∨ 65536 < n ∨ m < 0 ∨ n < m then 2 else if l.length - u < m.toNat then 16 else 0
def pkOut (l : List Nat) (u : Nat) (m n : Int) : List Int := if pkE l u m n = 0 then (pickGo l u m.toNat (upL n.toNat n.toNat)).mergeSort fun x y => decide (x ≤ y) else []
def pkU (l : List Nat) (u : Nat) (m n : Int) : Nat := if pkE l u m n = 0 then u + m.toNat else u
def pkPost (b g : Nat) (l : List Nat) (u : Nat) (m n : Int) (w : World) (e : Ending) (w' : World) : Prop :=
  ∃ v, e = .returned (.tuple #[v, .int .i64 (pkE l u m n)]) ∧ outRow w w' v (pkOut l u m n) ∧ isD w' b g l (pkU l u m n) ∧ w.grownBy w' (some b)
theorem pkOut_len (l : List Nat) (u : Nat) (m n : Int) : (pkOut l u m n).length ≤ 65536 := by
  unfold pkOut; split
  · rename_i h
    rw [List.length_mergeSort, pickGo_len]
    unfold pkE at h
    split at h
    · cases h
    · omega
  · exact Nat.zero_le _
theorem Pick_any {b g : Nat} {l : List Nat} {u : Nat} {w : World} (m n : Int) (h : isD w b g l u) :
    Calls Try.prog 25 #[.pointer (some ⟨b, 0, none⟩), .int .i64 m, .int .i64 n] w (pkPost b g l u m n w) := by
  by_cases k1 : n < 0 ∨ 65536 < n ∨ m < 0 ∨ n < m
  · have e1 : pkE l u m n = 2 := by unfold pkE; rw [if_pos k1]
    refine (Pick_arg m n h k1).mono ?_
    rintro e w' ⟨rfl, rfl⟩
    have e2 : pkOut l u m n = [] := by unfold pkOut; rw [e1]; rfl
    have e3 : pkU l u m n = u := by unfold pkU; rw [e1]; rfl
    exact ⟨_, by rw [e1], by rw [e2]; exact outRow.none _ _, by rw [e3]; exact h, grown_refl _ _⟩
  · obtain ⟨mn, rfl⟩ := Int.eq_ofNat_of_zero_le (a := m) (by omega)
    obtain ⟨nn, rfl⟩ := Int.eq_ofNat_of_zero_le (a := n) (by omega)
    by_cases k2 : l.length - u < mn
    · have e1 : pkE l u (mn : Int) (nn : Int) = 16 := by unfold pkE; rw [if_neg k1, Int.toNat_natCast, if_pos k2]
      refine (Pick_end mn nn h (by omega) (by omega) k2).mono ?_
      rintro e w' ⟨rfl, q, rfl⟩
      have e2 : pkOut l u (mn : Int) (nn : Int) = [] := by unfold pkOut; rw [e1]; rfl
      have e3 : pkU l u (mn : Int) (nn : Int) = u := by unfold pkU; rw [e1]; rfl
      exact ⟨_, by rw [e1], by rw [e2]; exact outRow.none _ _, by rw [e3]; exact h.drewN q, undrew (n := q) (grown_refl _ _)⟩
    · have e1 : pkE l u (mn : Int) (nn : Int) = 0 := by unfold pkE; rw [if_neg k1, Int.toNat_natCast, if_neg k2]
      refine (Pick_ok mn nn h (by omega) (by omega) (by omega)).mono ?_
      rintro e w' ⟨gp, rfl, h1, hd, hg, hle⟩
      have e2 : pkOut l u (mn : Int) (nn : Int) = (pickGo l u mn (upL nn nn)).mergeSort fun x y => decide (x ≤ y) := by unfold pkOut; rw [if_pos e1, Int.toNat_natCast, Int.toNat_natCast]
      have e3 : pkU l u (mn : Int) (nn : Int) = u + mn := by unfold pkU; rw [if_pos e1, Int.toNat_natCast]
      refine ⟨_, by rw [e1], ?_, by rw [e3]; exact hd, hg⟩
      rw [e2]
      exact ⟨_, by rw [List.length_mergeSort, pickGo_len], src.of h1, by rintro a ⟨⟩; exact hle⟩
set_option maxHeartbeats 400000 in
theorem picks_any {b g : Nat} {l : List Nat} {u : Nat} {w : World} (m n : Int) (s2 : Option Addr) (n2 c2 : Nat) (want : List Int) (no : Int) (h : isD w b g l u)
    (h2 : src w s2 (is want)) (l2 : want.length = n2) (m2 : n2 ≤ 9223372036854775807) (hs2 : ∀ a, s2 = some a → a.block ≠ b) :
    Calls Try.prog 17 #[.pointer (some ⟨b, 0, none⟩), .int .i64 m, .int .i64 n, .slice s2 n2 c2, .int .i64 no] w (drPost b g l (pkU l u m n) (sameB (pkOut l u m n) want && (pkE l u m n == no)) w) := by
  have cc := Pick_any m n h
  have CC := Lib.hid cc
  have H2 := Lib.hid h2
  have L2 := Lib.hid l2
  have HS := Lib.hid hs2
  clear cc h h2 l2 hs2
  go_enter Try.func17, Try.ntmps17
  go_wp2_with fail
  refine CC.out.mono ?_; rintro e w1 ⟨v, rfl, ho, hd, hg⟩
  obtain ⟨sp, rfl, hsp, _⟩ := ho.ok
  have D := Lib.hid hd
  have G := Lib.hid hg
  have S1 := Lib.hid hsp
  have S2 := Lib.hid (H2.out.grown hg HS.out)
  clear hd hg ho hsp
  go_wp2_with fail
  refine (list_any sp s2 _ n2 _ c2 (pkOut l u m n) want _ no w1 S1.out S2.out rfl L2.out (by have := pkOut_len l u m n; omega) m2).mono ?_
  rintro e w2 ⟨rfl, q, rfl⟩
  go_wp2
  go_ret
  exact ⟨rfl, D.out.drewN q, ⟨G.out.os, G.out.tape, G.out.output, G.out.size, G.out.block⟩⟩
theorem picks_none (p : Option Addr) (m n : Int) (w : World) (hp : p = none ∨ ∃ b, p = some ⟨b, 0, none⟩ ∧ w.cell? ⟨b, 0, none⟩ = some (.slice none 0 0)) :
    Calls Try.prog 17 #[.pointer p, .int .i64 m, .int .i64 n, .slice none 0 0, .int .i64 1] w fun e w' => e = .returned (.bool true) ∧ ∃ n, w' = w.drewN n := by
  have hl : Calls Try.prog 28 #[.slice none 0 0, .int .i64 1, .slice none 0 0, .int .i64 1] w (boolR true w) := list_any none none 0 0 0 0 [] [] 1 1 w (src.nil _ _) (src.nil _ _) rfl rfl (by omega) (by omega)
  have HL := Lib.hid hl
  clear hl
  rcases hp with rfl | ⟨b, rfl, hc⟩
  · go_enter Try.func17, Try.ntmps17
    go_wp2_with (first | (go_at_call 25; refine (Pick_nil _ _ _).mono ?_; rintro e w' ⟨rfl, rfl⟩) | (go_at_call 28; refine HL.out.mono ?_; rintro e w' ⟨rfl, n, rfl⟩))
    go_ret
    exact ⟨rfl, n, rfl⟩
  · have HC := Lib.hid hc
    clear hc
    go_enter Try.func17, Try.ntmps17
    go_wp2_with (first | (go_at_call 25; refine (Pick_zero _ _ _ _ HC.out).mono ?_; rintro e w' ⟨rfl, rfl⟩) | (go_at_call 28; refine HL.out.mono ?_; rintro e w' ⟨rfl, n, rfl⟩))
    go_ret
    exact ⟨rfl, n, rfl⟩
end Go.Proofs.Ytefncefmolphfaa.drFn
