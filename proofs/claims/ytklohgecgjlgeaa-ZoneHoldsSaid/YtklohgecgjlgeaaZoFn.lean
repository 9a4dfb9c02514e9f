/- The readers of package zone. -/
import Derived.Test.YtklohgecgjlgeaaZoMem
namespace Go.Proofs.Ytklohgecgjlgeaa.zoFn
open Go.ChangeShapes Go.WideShapes Go.ChangeAt Go.RowKit drMem
set_option linter.unusedVariables false
variable {F G : Nat → Prop} {w w' : World} {b gl mb : Nat} {L : List (List Int)}

theorem keyI : Maps.Keyed Try.prog 3 := Maps.int_keyed Try.underlying3
theorem zeroI (w : World) : (zeroValue 3).run Try.prog w = .ok (.int .i64 0) w := by kernel_rfl
theorem zeroB (w : World) : (zeroValue 4).run Try.prog w = .ok (.bool false) w := by kernel_rfl
theorem keyOfI {x : Int} (h : -9223372036854775808 ≤ x ∧ x ≤ 9223372036854775807) : keyOf Try.prog 3 (.int .i64 x) = some (.int .i64 x) := Maps.keyOf_int_mk Try.underlying3 (WalkArith.wf_i64 h)

/- nil, zero, or zones: of how many lists -/
def isNo (p : Option Addr) (w : World) : Prop := p = none ∨ ∃ b, p = some ⟨b, 0, none⟩ ∧ w.cell? ⟨b, 0, none⟩ = some (.slice none 0 0)
def isNm (p : Option Addr) (w : World) (n : Nat) : Prop := (n = 0 ∧ isNo p w) ∨ (1 ≤ n ∧ n ≤ 32 ∧ ∃ b gl, p = some ⟨b, 0, none⟩ ∧ w.cell? ⟨b, 0, none⟩ = some (.slice (some ⟨gl, 0, none⟩) n n))
theorem ZS.nm (h : ZS F w b gl mb L) : isNm (some ⟨b, 0, none⟩) w L.length := .inr ⟨h.good.n1, h.good.n2, b, gl, rfl, h.c0⟩
def okID (x : Int) : Bool := decide (1 ≤ x ∧ x ≤ 4096)
def okZ (n : Nat) (z : Int) : Bool := decide (0 ≤ z ∧ z < (n : Int))

theorem zero_any {p : Option Addr} {n : Nat} (h : isNm p w n) : Calls Try.prog 29 #[.pointer p] w fun e w' => e = .returned (.bool (decide (n = 0))) ∧ w = w' := by
  rcases h with ⟨rfl, h⟩ | ⟨h1, h2, b, gl, rfl, h⟩
  · rcases h with rfl | ⟨b, rfl, h⟩
    · go_enter Try.func29, Try.ntmps29
      go_wp2
      go_ret
      exact ⟨rfl, rfl⟩
    · go_enter Try.func29, Try.ntmps29
      go_wp2
      go_ret
      exact ⟨rfl, rfl⟩
  · have d0 : ((n : Int) == 0) = false := by rw [beq_eq_false_iff_ne]; omega
    have d1 : decide (n = 0) = false := by simp; omega
    rw [d1]
    clear d1 h1
    go_enter Try.func29, Try.ntmps29
    go_wp2
    go_ret
    exact ⟨rfl, rfl⟩
theorem isID_any (x : Int) (w : World) : Calls Try.prog 30 #[.int .i64 x] w fun e w' => e = .returned (.bool (okID x)) ∧ w = w' := by
  by_cases h1 : 1 ≤ x
  · by_cases h2 : x ≤ 4096
    · have e : okID x = true := by simp [okID]; omega
      have d0 : decide (1 ≤ x) = true := by simpa using h1
      have d1 : decide (x ≤ 4096) = true := by simpa using h2
      rw [e]
      clear e h1 h2
      go_enter Try.func30, Try.ntmps30
      go_wp2
      go_ret
      exact ⟨rfl, rfl⟩
    · have e : okID x = false := by simp [okID]; omega
      have d0 : decide (1 ≤ x) = true := by simpa using h1
      have d1 : decide (x ≤ 4096) = false := by simpa using h2
      rw [e]
      clear e h1 h2
      go_enter Try.func30, Try.ntmps30
      go_wp2
      go_ret
      exact ⟨rfl, rfl⟩
  · have e : okID x = false := by simp [okID]; omega
    have d0 : decide (1 ≤ x) = false := by simpa using h1
    rw [e]
    clear e h1
    go_enter Try.func30, Try.ntmps30
    go_wp2
    go_ret
    exact ⟨rfl, rfl⟩
theorem Zones_any {p : Option Addr} {n : Nat} (h : isNm p w n) : Calls Try.prog 21 #[.pointer p] w fun e w' => e = .returned (.int .i64 (n : Int)) ∧ w = w' := by
  have HZ := Lib.hid (zero_any h)
  rcases h with ⟨rfl, h⟩ | ⟨h1, h2, b, gl, rfl, h⟩
  · clear h
    go_enter Try.func21, Try.ntmps21
    go_wp2_with (go_at_call 29; refine HZ.out.mono ?_; rintro e w' ⟨rfl, rfl⟩)
    go_ret
    exact ⟨rfl, rfl⟩
  · have d1 : decide (n = 0) = false := by simp; omega
    rw [d1] at HZ
    clear d1 h1
    go_enter Try.func21, Try.ntmps21
    go_wp2_with (go_at_call 29; refine HZ.out.mono ?_; rintro e w' ⟨rfl, rfl⟩)
    go_ret
    exact ⟨rfl, rfl⟩
theorem isZone_any {p : Option Addr} {n : Nat} (h : isNm p w n) (z : Int) : Calls Try.prog 31 #[.pointer p, .int .i64 z] w fun e w' => e = .returned (.bool (okZ n z)) ∧ w = w' := by
  have HZ := Lib.hid (Zones_any h)
  clear h
  by_cases h1 : 0 ≤ z
  · have d0 : decide (0 ≤ z) = true := by simpa using h1
    have e : okZ n z = decide (z < (n : Int)) := by simp [okZ, h1]
    rw [e]
    clear e h1
    go_enter Try.func31, Try.ntmps31
    go_wp2_with (go_at_call 21; refine HZ.out.mono ?_; rintro e w' ⟨rfl, rfl⟩)
    go_ret
    exact ⟨rfl, rfl⟩
  · have d0 : decide (0 ≤ z) = false := by simpa using h1
    have e : okZ n z = false := by simp [okZ]; omega
    rw [e]
    clear e h1
    go_enter Try.func31, Try.ntmps31
    go_wp2
    go_ret
    exact ⟨rfl, rfl⟩
theorem has_any (h : ZS F w b gl mb L) (x : Int) (hx : -9223372036854775808 ≤ x ∧ x ≤ 9223372036854775807) : Calls Try.prog 32 #[.pointer (some ⟨b, 0, none⟩), .int .i64 x] w fun e w' => e = .returned (.bool (inL L x)) ∧ w = w' := by
  have c1 := h.c1
  obtain ⟨D, hm, hh⟩ := h.map
  have hk := keyOfI hx
  have HH := Lib.hid (hh.h x)
  clear h hx hh
  go_enter Try.func32, Try.ntmps32
  go_wp2_with (at_lookup; refine wpList_lookup_own_ok_int _ rfl _ _ 41 rfl 3 3 .i64 keyI Try.underlying41 Try.underlying3 (zeroI _) mb _ D rfl hm _ _ rfl hk ?_; intro c hat hwc; clear hat hwc)
  go_ret
  exact ⟨by rw [HH.out]; rfl, rfl⟩

/- the error of putting an id in, of finding it -/
def entE (n : Nat) (L : List (List Int)) (x z : Int) : Int := if n = 0 then 1 else if okID x = false ∨ okZ n z = false then 2 else if inL L x = true then 11 else 0
def leaE (n : Nat) (L : List (List Int)) (x : Int) : Int := if n = 0 then 1 else if okID x = false then 2 else if inL L x = false then 9 else 0
theorem okID_b {x : Int} (h : okID x = true) : 1 ≤ x ∧ x ≤ 4096 := by simpa [okID] using h
theorem okZ_b {n : Nat} {z : Int} (h : okZ n z = true) : ∃ i : Nat, z = (i : Int) ∧ i < n := by
  have : 0 ≤ z ∧ z < (n : Int) := by simpa [okZ] using h
  exact ⟨z.toNat, by omega, by omega⟩
set_option maxHeartbeats 1000000 in
theorem mayEnter_any (h : ZS F w b gl mb L) (x z : Int) (hx : -9223372036854775808 ≤ x ∧ x ≤ 9223372036854775807) : Calls Try.prog 26 #[.pointer (some ⟨b, 0, none⟩), .int .i64 x, .int .i64 z] w fun e w' => e = .returned (.int .i64 (entE L.length L x z)) ∧ w = w' := by
  have h1 := h.good.n1
  have n0 : L.length ≠ 0 := by omega
  have HZ := Lib.hid (zero_any h.nm)
  rw [decide_eq_false n0] at HZ
  have HI := Lib.hid (isID_any x w)
  have HN := Lib.hid (isZone_any h.nm z)
  have HH := Lib.hid (has_any h x hx)
  have e : entE L.length L x z = if okID x = false ∨ okZ L.length z = false then 2 else if inL L x = true then 11 else 0 := by unfold entE; rw [if_neg n0]
  rw [e]
  clear h h1 n0 hx e
  generalize okZ L.length z = oz at *
  cases hi : okID x
  · rw [hi] at HI
    simp only [true_or, if_true]
    clear hi
    go_enter Try.func26, Try.ntmps26
    go_wp2_with (first | (go_at_call 29; refine HZ.out.mono ?_; rintro e w' ⟨rfl, rfl⟩) | (go_at_call 30; refine HI.out.mono ?_; rintro e w' ⟨rfl, rfl⟩))
    go_ret
    exact ⟨rfl, rfl⟩
  · rw [hi] at HI
    clear hi
    cases hz : oz
    · subst hz
      simp only [or_true, if_true]
      go_enter Try.func26, Try.ntmps26
      go_wp2_with (first | (go_at_call 29; refine HZ.out.mono ?_; rintro e w' ⟨rfl, rfl⟩) | (go_at_call 30; refine HI.out.mono ?_; rintro e w' ⟨rfl, rfl⟩) | (go_at_call 31; refine HN.out.mono ?_; rintro e w' ⟨rfl, rfl⟩))
      go_ret
      exact ⟨rfl, rfl⟩
    · subst hz
      cases hin : inL L x
      · rw [hin] at HH
        clear hin
        simp only [Bool.true_eq_false, or_self, if_false, Bool.false_eq_true]
        go_enter Try.func26, Try.ntmps26
        go_wp2_with (first | (go_at_call 29; refine HZ.out.mono ?_; rintro e w' ⟨rfl, rfl⟩) | (go_at_call 30; refine HI.out.mono ?_; rintro e w' ⟨rfl, rfl⟩) | (go_at_call 31; refine HN.out.mono ?_; rintro e w' ⟨rfl, rfl⟩) | (go_at_call 32; refine HH.out.mono ?_; rintro e w' ⟨rfl, rfl⟩))
        go_ret
        exact ⟨rfl, rfl⟩
      · rw [hin] at HH
        clear hin
        simp only [Bool.true_eq_false, or_self, if_false, if_true]
        go_enter Try.func26, Try.ntmps26
        go_wp2_with (first | (go_at_call 29; refine HZ.out.mono ?_; rintro e w' ⟨rfl, rfl⟩) | (go_at_call 30; refine HI.out.mono ?_; rintro e w' ⟨rfl, rfl⟩) | (go_at_call 31; refine HN.out.mono ?_; rintro e w' ⟨rfl, rfl⟩) | (go_at_call 32; refine HH.out.mono ?_; rintro e w' ⟨rfl, rfl⟩))
        go_ret
        exact ⟨rfl, rfl⟩
set_option maxHeartbeats 1000000 in
theorem mayLeave_any (h : ZS F w b gl mb L) (x : Int) (hx : -9223372036854775808 ≤ x ∧ x ≤ 9223372036854775807) : Calls Try.prog 34 #[.pointer (some ⟨b, 0, none⟩), .int .i64 x] w fun e w' => e = .returned (.int .i64 (leaE L.length L x)) ∧ w = w' := by
  have h1 := h.good.n1
  have n0 : L.length ≠ 0 := by omega
  have HZ := Lib.hid (zero_any h.nm)
  rw [decide_eq_false n0] at HZ
  have HI := Lib.hid (isID_any x w)
  have HH := Lib.hid (has_any h x hx)
  have e : leaE L.length L x = if okID x = false then 2 else if inL L x = false then 9 else 0 := by unfold leaE; rw [if_neg n0]
  rw [e]
  clear h h1 n0 hx e
  cases hi : okID x
  · rw [hi] at HI
    simp only [if_true]
    clear hi
    go_enter Try.func34, Try.ntmps34
    go_wp2_with (first | (go_at_call 29; refine HZ.out.mono ?_; rintro e w' ⟨rfl, rfl⟩) | (go_at_call 30; refine HI.out.mono ?_; rintro e w' ⟨rfl, rfl⟩))
    go_ret
    exact ⟨rfl, rfl⟩
  · rw [hi] at HI
    clear hi
    cases hin : inL L x
    · rw [hin] at HH
      clear hin
      simp only [Bool.true_eq_false, if_false, if_true]
      go_enter Try.func34, Try.ntmps34
      go_wp2_with (first | (go_at_call 29; refine HZ.out.mono ?_; rintro e w' ⟨rfl, rfl⟩) | (go_at_call 30; refine HI.out.mono ?_; rintro e w' ⟨rfl, rfl⟩) | (go_at_call 32; refine HH.out.mono ?_; rintro e w' ⟨rfl, rfl⟩))
      go_ret
      exact ⟨rfl, rfl⟩
    · rw [hin] at HH
      clear hin
      simp only [Bool.true_eq_false, if_false]
      go_enter Try.func34, Try.ntmps34
      go_wp2_with (first | (go_at_call 29; refine HZ.out.mono ?_; rintro e w' ⟨rfl, rfl⟩) | (go_at_call 30; refine HI.out.mono ?_; rintro e w' ⟨rfl, rfl⟩) | (go_at_call 32; refine HH.out.mono ?_; rintro e w' ⟨rfl, rfl⟩))
      go_ret
      exact ⟨rfl, rfl⟩
end Go.Proofs.Ytklohgecgjlgeaa.zoFn
