/- The walk of the law that plays the ids against the reference. -/
import Derived.Test.YtefncefmolphfaaDoorIdDo
namespace Go.Proofs.YtefncefmolphfaaDoor.idFn
open Go.ChangeShapes Go.WideShapes Go.ChangeAt Go.RowKit drMem idBits
set_option linter.unusedVariables false

theorem Rf.of {w : World} {q c : Nat} {fl fl' : List Bool} (h : Rf w q c fl) (e : fl = fl') : Rf w q c fl' := e ▸ h
set_option maxRecDepth 100000 in
set_option maxHeartbeats 8000000 in
theorem plays_main (m : Nat) (m1 : 1 ≤ m) (m2 : m ≤ 200) (s2 : Option Addr) (n2 c2 : Nat) (acts : List ActR) (w : World) (ha : ActsAt w s2 n2 acts) (h100 : n2 ≤ 100) (ht : tabAt w) :
    Calls Tryd.prog 3 #[.int .i64 (m : Int), .slice s2 n2 c2] w fun e w' => e = .returned (.bool true) ∧ Below w.heap.size w w' := by
  have d2 : decide (200 < (m : Int)) = false := by simp; omega
  have d3 : decide (100 < (n2 : Int)) = false := by simp; omega
  have HA := Lib.hid ha
  have HT := Lib.hid ht
  clear ha ht
  go_enter Tryd.func3, Tryd.ntmps3
  go_wp2_with fail
  refine (new_c (w := w) m w m1 (by omega) HT.out (Below.refl _ _)).mono ?_
  rintro e w0 ⟨b, g, rfl, hs⟩
  have S0 := Lib.hid hs
  clear hs
  go_wp2_with fail
  refine (rNew_ok m w0 m1 (by omega)).mono ?_
  rintro e w1 ⟨q, c, rfl, hr, _, hb⟩
  have P0 : Hid (PI w b g (List.replicate m false) q c (List.replicate m false) w1) := Lib.hid ⟨S0.out.below hb, hr⟩
  have LN : Hid ((List.replicate m false).length = m) := Lib.hid (by simp)
  clear hr hb S0
  go_wp2
  go_loopg [5, 7, 49] n2 (fun gh p v i wx => ∃ (j b g q c : Nat) (fl : List Bool), j ≤ n2 ∧ gh = n2 - j ∧ i = .int .i64 (j : Int) ∧ p = .pointer (some ⟨b, 0, none⟩) ∧ v = .slice (some ⟨q, 0, none⟩) m c ∧ Hid (PI w b g fl q c fl wx) ∧ Hid (fl.length = m))
  case atStart => exact ⟨0, b, g, q, c, _, Nat.zero_le _, rfl, rfl, rfl, rfl, P0, LN⟩
  case round =>
    obtain ⟨j, b, g, q, c, fl, hj, rfl, rfl, rfl, rfl, HP, HL⟩ := hrel
    clear P0 LN
    by_cases hlt2 : j < n2
    · obtain ⟨ab, ao, rfl, hab, hcell⟩ := HA.out.c (by omega)
      obtain ⟨r, hr⟩ : ∃ r, acts[j]? = some r := ⟨_, List.getElem?_eq_getElem (by rw [HA.out.n]; exact hlt2)⟩
      have hact := hcell j r hr
      have e0 : wr.cell? ⟨ab, ao + j * 2, none⟩ = some (.int .i64 r.what) := (HP.out.s.f.cell (p := ⟨ab, ao + j * 2, none⟩) hab).trans hact.c0
      have e1 : wr.cell? ⟨ab, ao + j * 2 + 1, none⟩ = some (.int .i64 r.id) := (HP.out.s.f.cell (p := ⟨ab, ao + j * 2 + 1, none⟩) hab).trans hact.c1
      have hm2 := HA.out.m
      have HP1 := Lib.hid (HP.out.below ((Below.refl _ _).alloc (Nat.le_refl _) (.cells #[.int .i64 r.what, .int .i64 r.id] 33)))
      clear hcell hact hr HP
      go_wp2_with fail
      refine (do_any w b g fl q c m r _ HP1.out HL.out).mono ?_
      rintro e w3 ⟨b3, g3, fl3, q3, c3, rfl, hs, hl⟩
      have S3 := Lib.hid hs
      have L3 := Lib.hid hl
      clear hs hl HP1 HL e0 e1
      go_wp2_with fail
      refine (looks_any w b3 g3 fl3 q3 c3 m _ S3.out L3.out).mono ?_
      rintro e w4 ⟨rfl, hs⟩
      have S4 := Lib.hid hs
      clear hs S3
      go_wp2
      go_roundg (n2 - (j + 1))
      case measure => go_light; omega
      case rel => go_light; exact ⟨j + 1, b3, g3, q3, c3, fl3, by omega, rfl, by go_num, rfl, rfl, S4, L3⟩
    · obtain rfl : j = n2 := by omega
      have HB := Lib.hid HP.out.s.f
      clear HP HL
      go_wp2_with (go_at_call 8; refine (known_in HB.out HT.out).mono ?_; rintro e w7 ⟨rfl, hs⟩; have S6 := Lib.hid hs; clear hs)
      go_ret
      exact ⟨rfl, S6.out⟩
set_option maxRecDepth 100000 in
set_option maxHeartbeats 1000000 in
theorem plays_bad (m : Int) (hm : m < 1 ∨ 4096 < m) (sp : Option Addr) (n c : Nat) (w : World) (h100 : n ≤ 100) (ht : tabAt w) :
    Calls Tryd.prog 3 #[.int .i64 m, .slice sp n c] w fun e w' => e = .returned (.bool true) ∧ Below w.heap.size w w' := by
  have d3 : decide (100 < (n : Int)) = false := by simp; omega
  have HT := Lib.hid ht
  have HN := Lib.hid (New_bad m w hm)
  have HR := Lib.hid (rNew_bad m w hm)
  clear ht
  by_cases h1 : 200 < m
  · have d4 : decide (m ≤ 4096) = false := by simp; omega
    clear hm
    go_enter Tryd.func3, Tryd.ntmps3
    go_wp2_with (first | (go_at_call 9; refine HN.out.mono ?_; rintro e w' ⟨rfl, rfl⟩) | (go_at_call 10; refine HR.out.mono ?_; rintro e w' ⟨rfl, rfl⟩) | (go_at_call 8; refine (known_any _ HT.out).mono ?_; rintro e w' ⟨rfl, hb⟩))
    go_ret
    exact ⟨rfl, hb⟩
  · have d1 : decide (200 < m) = false := by simpa using h1
    clear hm h1
    go_enter Tryd.func3, Tryd.ntmps3
    go_wp2_with (first | (go_at_call 9; refine HN.out.mono ?_; rintro e w' ⟨rfl, rfl⟩) | (go_at_call 10; refine HR.out.mono ?_; rintro e w' ⟨rfl, rfl⟩) | (go_at_call 8; refine (known_any _ HT.out).mono ?_; rintro e w' ⟨rfl, hb⟩))
    go_ret
    exact ⟨rfl, hb⟩
set_option maxRecDepth 100000 in
theorem plays_none (m : Int) (sp : Option Addr) (n c : Nat) (w : World) (h : 100 < n ∨ 200 < m ∧ m ≤ 4096) (hn : n ≤ 9223372036854775807) (ht : tabAt w) :
    Calls Tryd.prog 3 #[.int .i64 m, .slice sp n c] w fun e w' => e = .returned (.bool true) ∧ Below w.heap.size w w' := by
  have HT := Lib.hid ht
  clear ht
  by_cases h1 : 100 < n
  · have d3 : decide (100 < (n : Int)) = true := by simp; omega
    clear h h1
    go_enter Tryd.func3, Tryd.ntmps3
    go_wp2_with (go_at_call 8; refine (known_any _ HT.out).mono ?_; rintro e w' ⟨rfl, hb⟩)
    go_ret
    exact ⟨rfl, hb⟩
  · have d3 : decide (100 < (n : Int)) = false := by simp; omega
    have h2 : 200 < m := by omega
    have h3 : m ≤ 4096 := by omega
    clear h h1
    go_enter Tryd.func3, Tryd.ntmps3
    go_wp2_with (go_at_call 8; refine (known_any _ HT.out).mono ?_; rintro e w' ⟨rfl, hb⟩)
    go_ret
    exact ⟨rfl, hb⟩
theorem plays_law (m : Int) (sp : Option Addr) (n c : Nat) (acts : List ActR) (w : World) (hm : -9223372036854775808 ≤ m ∧ m ≤ 9223372036854775807) (ha : ActsAt w sp n acts) (ht : tabAt w) :
    Calls Tryd.prog 3 #[.int .i64 m, .slice sp n c] w fun e w' => e = .returned (.bool true) ∧ Below w.heap.size w w' := by
  by_cases h : 100 < n ∨ 200 < m ∧ m ≤ 4096
  · exact plays_none m sp n c w h ha.m ht
  · by_cases h2 : m < 1 ∨ 4096 < m
    · exact plays_bad m h2 sp n c w (by omega) ht
    · obtain ⟨k, rfl⟩ := Int.eq_ofNat_of_zero_le (a := m) (by omega)
      exact plays_main k (by omega) (by omega) sp n c acts w ha (by omega) ht
end Go.Proofs.YtefncefmolphfaaDoor.idFn
