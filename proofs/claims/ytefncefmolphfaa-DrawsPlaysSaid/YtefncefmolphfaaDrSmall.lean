/- What the law's helper small returns. -/
import Derived.Test.YtefncefmolphfaaDrNil
import Derived.Test.YtefncefmolphfaaDrActs
namespace Go.Proofs.Ytefncefmolphfaa.drFn
open Go.ChangeShapes Go.WideShapes Go.ChangeAt Go.RowKit drMem
set_option linter.unusedVariables false

def actBad (r : ActR) : Prop := 60 < r.list.length ∨ (r.what = 2 ∧ 300 < r.n ∧ r.n ≤ 65536)
def smallP (acts : List ActR) : Prop := (∀ i r, i < 41 → acts[i]? = some r → ¬ actBad r) ∧ acts.length ≤ 40

def smallPost (acts : List ActR) (w : World) (e : Ending) (w' : World) : Prop := ∃ x : Bool, e = .returned (.bool x) ∧ (x = true → smallP acts) ∧ w = w'
set_option maxRecDepth 100000 in
set_option maxHeartbeats 1000000 in
theorem small_some (b off len cap : Nat) (acts : List ActR) (w : World) (hn : acts.length = len) (hm : len ≤ 9223372036854775807) (h : ∀ i r, acts[i]? = some r → ActAt w b (off + i * 4) r) :
    Calls Try.prog 8 #[.slice (some ⟨b, off, none⟩) len cap] w (smallPost acts w) := by
  have HN := Lib.hid hn
  have HA := Lib.hid h
  clear hn h
  go_enter Try.func8, Try.ntmps8
  go_wp2
  go_loop [3] (fun i => ∃ k : Nat, k ≤ len ∧ k ≤ 41 ∧ i = .int .i64 k ∧ Hid (∀ i r, i < k → acts[i]? = some r → ¬ actBad r)) (fun i => len - (intOf i).toNat)
  case atStart => exact ⟨0, Nat.zero_le _, by omega, rfl, fun i r hi => absurd hi (by omega)⟩
  case round =>
    obtain ⟨k, hk, hk2, rfl, hq⟩ := hrel
    by_cases hlt : k < len
    · by_cases h41 : k < 41
      · obtain ⟨r, hr⟩ : ∃ r, acts[k]? = some r := ⟨_, List.getElem?_eq_getElem (by rw [HN.out]; exact hlt)⟩
        have hc := HA.out k r hr
        have c0 := hc.c0
        have c1 := hc.c1
        have c3 := hc.c3
        have hl := hc.hl
        have hstep : ¬ actBad r → Hid (∀ i r', i < k + 1 → acts[i]? = some r' → ¬ actBad r') := fun hb i r' hi he => by
          rcases Nat.lt_or_ge i k with h1 | h1
          · exact hq.out i r' h1 he
          · obtain rfl : i = k := by omega
            rw [hr] at he; cases he; exact hb
        have HS := Lib.hid hstep
        have hbd : actBad r ↔ (60 < r.list.length ∨ (r.what = 2 ∧ 300 < r.n ∧ r.n ≤ 65536)) := Iff.rfl
        have HB := Lib.hid hbd
        clear hr hc hstep hbd hq
        generalize r.list.length = L at *
        generalize r.what = wh at *
        generalize r.n = n at *
        by_cases q1 : 60 < L
        · have q1' : decide (60 < (L : Int)) = true := by simp; omega
          go_wp2
          go_ret
          exact ⟨false, rfl, by simp, rfl⟩
        · have q1' : decide (60 < (L : Int)) = false := by simp; omega
          by_cases q2 : wh = 2
          · have q2' : (wh == 2) = true := by simpa using q2
            by_cases q3 : 300 < n
            · have q3' : decide (300 < n) = true := by simpa using q3
              by_cases q4 : n ≤ 65536
              · have q4' : decide (n ≤ 65536) = true := by simpa using q4
                clear q2
                go_wp2
                go_ret
                exact ⟨false, rfl, by simp, rfl⟩
              · have q4' : decide (n ≤ 65536) = false := by simpa using q4
                have hn := HS.out (fun h => by rcases HB.out.1 h with h | ⟨_, _, h⟩ <;> omega)
                clear q2
                go_wp2
                go_round
                case rel => exact ⟨k + 1, by omega, by omega, by go_num, hn⟩
                case measure => simp [intOf]; omega
            · have q3' : decide (300 < n) = false := by simpa using q3
              have hn := HS.out (fun h => by rcases HB.out.1 h with h | ⟨_, h, _⟩ <;> omega)
              clear q2
              go_wp2
              go_round
              case rel => exact ⟨k + 1, by omega, by omega, by go_num, hn⟩
              case measure => simp [intOf]; omega
          · have q2' : (wh == 2) = false := by simpa using q2
            have hn := HS.out (fun h => by rcases HB.out.1 h with h | ⟨h, _, _⟩ <;> omega)
            clear q2
            go_wp2
            go_round
            case rel => exact ⟨k + 1, by omega, by omega, by go_num, hn⟩
            case measure => simp [intOf]; omega
      · have d1 : decide (len ≤ 40) = false := by simp; omega
        have d2 : decide ((len : Int) ≤ 40) = false := by simp; omega
        go_wp2
        go_ret
        exact ⟨_, rfl, by simp, rfl⟩
    · obtain rfl : k = len := by omega
      have hfin : k ≤ 40 → smallP acts := fun h => ⟨fun i r hi he => hq.out i r (by have := (List.getElem?_eq_some_iff.1 he).1; rw [HN.out] at this; exact this) he, by rw [HN.out]; exact h⟩
      have HF := Lib.hid hfin
      clear hfin
      by_cases h40 : k ≤ 40
      · have d2 : decide ((k : Int) ≤ 40) = true := by simp; omega
        go_wp2
        go_ret
        exact ⟨true, rfl, fun _ => HF.out h40, rfl⟩
      · have d2 : decide ((k : Int) ≤ 40) = false := by simp; omega
        go_wp2
        go_ret
        exact ⟨false, rfl, by simp, rfl⟩
theorem small_nil (sp : Option Addr) (cap : Nat) (w : World) : Calls Try.prog 8 #[.slice sp 0 cap] w (smallPost [] w) := by
  go_enter Try.func8, Try.ntmps8
  go_wp2
  go_loop [3] (fun i => i = .int .i64 0) (fun _ => 0)
  case atStart => rfl
  case round =>
    obtain rfl := hrel
    go_wp2
    go_ret
    exact ⟨true, rfl, fun _ => ⟨by simp, by simp⟩, rfl⟩
theorem small_any (sp : Option Addr) (len cap : Nat) (acts : List ActR) (w : World) (h : ActsAt w sp len acts) :
    Calls Try.prog 8 #[.slice sp len cap] w (smallPost acts w) := by
  rcases Nat.eq_zero_or_pos len with h0 | h0
  · subst h0
    rw [List.eq_nil_of_length_eq_zero h.n]
    exact small_nil sp cap w
  · obtain ⟨b, off, rfl, hb, hc⟩ := h.c h0
    exact small_some b off len cap acts w h.n h.m hc
end Go.Proofs.Ytefncefmolphfaa.drFn
