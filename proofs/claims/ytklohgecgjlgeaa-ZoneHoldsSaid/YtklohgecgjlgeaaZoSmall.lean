/- What the law's helper small returns: a Bool, and nothing turns. -/
import Derived.Test.YtklohgecgjlgeaaZoActs
import Derived.Test.YtklohgecgjlgeaaZoMany
namespace Go.Proofs.Ytklohgecgjlgeaa.zoFn
open Go.ChangeShapes Go.WideShapes Go.ChangeAt Go.RowKit drMem
set_option linter.unusedVariables false

def smallPost (w : World) (e : Ending) (w' : World) : Prop := ∃ x : Bool, e = .returned (.bool x) ∧ w = w'
set_option maxRecDepth 100000 in
set_option maxHeartbeats 1000000 in
theorem small_some (b off len cap : Nat) (acts : List ActR) (w : World) (hn : acts.length = len) (hm : len ≤ 9223372036854775807) (h : ∀ i r, acts[i]? = some r → ActAt w b (off + i * 4) r) :
    Calls Try.prog 23 #[.slice (some ⟨b, off, none⟩) len cap] w (smallPost w) := by
  have HN := Lib.hid hn
  have HA := Lib.hid h
  clear hn h
  go_enter Try.func23, Try.ntmps23
  go_wp2
  go_loop [3] (fun i => ∃ k : Nat, k ≤ len ∧ k ≤ 81 ∧ i = .int .i64 k) (fun i => len - (intOf i).toNat)
  case atStart => exact ⟨0, Nat.zero_le _, by omega, rfl⟩
  case round =>
    obtain ⟨k, hk, hk2, rfl⟩ := hrel
    by_cases hlt : k < len
    · by_cases h81 : k < 81
      · obtain ⟨r, hr⟩ : ∃ r, acts[k]? = some r := ⟨_, List.getElem?_eq_getElem (by rw [HN.out]; exact hlt)⟩
        have hc := HA.out k r hr
        have c3 := hc.c3
        have hl := hc.hl
        clear hr hc
        generalize r.list.length = L at *
        by_cases q1 : 60 < L
        · have q1' : decide (60 < (L : Int)) = true := by simp; omega
          go_wp2
          go_ret
          exact ⟨false, rfl, rfl⟩
        · have q1' : decide (60 < (L : Int)) = false := by simp; omega
          go_wp2
          go_round
          case rel => exact ⟨k + 1, by omega, by omega, by go_num⟩
          case measure => simp [intOf]; omega
      · go_wp2
        go_ret
        exact ⟨_, rfl, rfl⟩
    · obtain rfl : k = len := by omega
      go_wp2
      go_ret
      exact ⟨_, rfl, rfl⟩
theorem small_nil (sp : Option Addr) (cap : Nat) (w : World) : Calls Try.prog 23 #[.slice sp 0 cap] w (smallPost w) := by
  go_enter Try.func23, Try.ntmps23
  go_wp2
  go_loop [3] (fun i => i = .int .i64 0) (fun _ => 0)
  case atStart => rfl
  case round =>
    obtain rfl := hrel
    go_wp2
    go_ret
    exact ⟨true, rfl, rfl⟩
theorem small_any (sp : Option Addr) (len cap : Nat) (acts : List ActR) (w : World) (h : ActsAt w sp len acts) :
    Calls Try.prog 23 #[.slice sp len cap] w (smallPost w) := by
  rcases Nat.eq_zero_or_pos len with h0 | h0
  · subst h0
    exact small_nil sp cap w
  · obtain ⟨b, off, rfl, hb, hc⟩ := h.c h0
    exact small_some b off len cap acts w h.n h.m hc
end Go.Proofs.Ytklohgecgjlgeaa.zoFn
