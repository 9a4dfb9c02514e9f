/- Which strings may be names. -/
import Derived.Test.YtlhnnjllbcglcaaGreatDoorCaMem
import Derived.BigQuiet
import Derived.Deep.QuietTactic
namespace Go.Proofs.YtlhnnjllbcglcaaGreatDoor.caFn
open Go.ChangeShapes Go.WideShapes Go.ChangeAt Go.RowKit drMem efFn
set_option linter.unusedVariables false

theorem list_len (s : ByteArray) : s.data.toList.length = s.size := by rw [Array.length_toList]; rfl
theorem list_at (s : ByteArray) (k : Nat) (h : k < s.size) : s.data.toList.getD k 0 = s[k] := by
  rw [List.getD_eq_getElem?_getD, List.getElem?_eq_getElem (by rw [list_len]; exact h)]
  rfl
theorem u8_eq (x : UInt8) (n : Nat) (hn : n < 256) : (x == UInt8.ofNat n) = ((x.toNat : Int) == (n : Int)) := by
  rw [Bool.eq_iff_iff]
  simp only [beq_iff_eq]
  constructor
  · rintro rfl
    simp [Nat.mod_eq_of_lt hn]
  · intro h
    have : x.toNat = n := by omega
    subst this
    simp
def chB (x : UInt8) : Bool := decide (32 ≤ x.toNat) && decide (x.toNat ≤ 126)
theorem nameB_eq (s : ByteArray) (h1 : 1 ≤ s.size) (h2 : s.size ≤ 32) (c0 : ((s[0].toNat : Int) == 32) = false) (c1 : ((s[s.size - 1].toNat : Int) == 32) = false) : nameB s.data.toList = s.data.toList.all chB := by
  unfold nameB
  rw [list_len, list_at s 0 (by omega), list_at s (s.size - 1) (by omega), decide_eq_true h1, decide_eq_true h2]
  have e0 := u8_eq s[0] 32 (by omega)
  have e1 := u8_eq s[s.size - 1] 32 (by omega)
  rw [show (UInt8.ofNat 32) = 32 from rfl] at e0 e1
  rw [e0, e1, show ((32 : Nat) : Int) = 32 from rfl, c0, c1]
  rfl
theorem nameB_0 (s : ByteArray) (h1 : ¬ 1 ≤ s.size) : nameB s.data.toList = false := by
  unfold nameB; rw [list_len, decide_eq_false h1]; rfl
theorem nameB_32 (s : ByteArray) (h1 : ¬ s.size ≤ 32) : nameB s.data.toList = false := by
  unfold nameB; rw [list_len, decide_eq_false h1]; simp
theorem nameB_a (s : ByteArray) (h1 : 1 ≤ s.size) (c0 : ((s[0].toNat : Int) == 32) = true) : nameB s.data.toList = false := by
  unfold nameB
  rw [list_at s 0 (by omega)]
  have e0 := u8_eq s[0] 32 (by omega)
  rw [show (UInt8.ofNat 32) = 32 from rfl] at e0
  rw [e0, show ((32 : Nat) : Int) = 32 from rfl, c0]; simp
theorem nameB_b (s : ByteArray) (h1 : 1 ≤ s.size) (c0 : ((s[s.size - 1].toNat : Int) == 32) = true) : nameB s.data.toList = false := by
  unfold nameB
  rw [list_len, list_at s (s.size - 1) (by omega)]
  have e0 := u8_eq s[s.size - 1] 32 (by omega)
  rw [show (UInt8.ofNat 32) = 32 from rfl] at e0
  rw [e0, show ((32 : Nat) : Int) = 32 from rfl, c0]; simp
theorem all_at {l : List UInt8} {p : UInt8 → Bool} {k : Nat} (h : k < l.length) : (l.take (k + 1)).all p = ((l.take k).all p && p (l.getD k 0)) := by
  rw [List.take_succ_eq_append_getElem h, List.all_append]
  simp [List.getD_eq_getElem?_getD, h]
theorem all_no {l : List UInt8} {p : UInt8 → Bool} {k : Nat} (h : k < l.length) (h2 : p (l.getD k 0) = false) : l.all p = false := by
  rw [List.all_eq_false]
  exact ⟨l.getD k 0, by simp [List.getD_eq_getElem?_getD, h], by rw [h2]; simp⟩
set_option maxRecDepth 100000 in
set_option maxHeartbeats 2000000 in
theorem validName_any (s : ByteArray) (w : World) :
    Calls Tryz.prog 42 #[.string s] w fun e w' => e = .returned (.bool (nameB s.data.toList)) ∧ w = w' := by
  by_cases h1 : 1 ≤ s.size
  · by_cases h2 : s.size ≤ 32
    · by_cases c0 : ((s[0].toNat : Int) == 32) = true
      · rw [nameB_a s h1 c0]
        go_enter Tryz.func42, Tryz.ntmps42
        go_wp2
        go_ret
        exact ⟨rfl, rfl⟩
      · rw [Bool.not_eq_true] at c0
        by_cases c1 : ((s[s.size - 1].toNat : Int) == 32) = true
        · rw [nameB_b s h1 c1]
          have hz : (s.size : Int) - 1 = ((s.size - 1 : Nat) : Int) := by omega
          go_enter Tryz.func42, Tryz.ntmps42
          go_wp2
          go_ret
          exact ⟨rfl, rfl⟩
        · rw [Bool.not_eq_true] at c1
          have HE := Lib.hid (nameB_eq s h1 h2 c0 c1)
          have hz : (s.size : Int) - 1 = ((s.size - 1 : Nat) : Int) := by omega
          have HM := Lib.hid (fun k (hk : k < s.size) => @all_at s.data.toList chB k (by rw [list_len]; exact hk))
          have HN := Lib.hid (fun k (hk : k < s.size) => @all_no s.data.toList chB k (by rw [list_len]; exact hk))
          go_enter Tryz.func42, Tryz.ntmps42
          go_wp2
          go_loopw [27] (fun i wr => ∃ k : Nat, k ≤ s.size ∧ i = .int .i64 k ∧ wr = w ∧ Hid ((s.data.toList.take k).all chB = true)) (fun i _ => s.size - (intOf i).toNat)
          case atStart => exact ⟨0, Nat.zero_le _, rfl, rfl, Lib.hid (by simp)⟩
          case round =>
            obtain ⟨k, hk, rfl, rfl, HT⟩ := hrel
            by_cases hlt : k < s.size
            · have HA := Lib.hid (HM.out k hlt)
              have HB := Lib.hid (HN.out k hlt)
              rw [list_at s k hlt] at HA HB
              by_cases g0 : s[k].toNat < 32
              · have hf : ((s[k].toNat : Int) < 32) := by omega
                have hr : nameB s.data.toList = false := by rw [HE.out, HB.out (by unfold chB; rw [decide_eq_false (by omega)]; rfl)]
                go_wp2
                go_ret
                exact ⟨ret_bool hr.symm, rfl⟩
              · by_cases g1 : 126 < s[k].toNat
                · have hr : nameB s.data.toList = false := by rw [HE.out, HB.out (by unfold chB; rw [decide_eq_false (p := s[k].toNat ≤ 126) (by omega)]; simp)]
                  go_wp2
                  go_ret
                  exact ⟨ret_bool hr.symm, rfl⟩
                · have hr := HA.out
                  rw [HT.out, show chB s[k] = true by unfold chB; rw [decide_eq_true (by omega), decide_eq_true (by omega)]; rfl] at hr
                  have HR := Lib.hid hr
                  clear hr
                  go_wp2
                  exact ⟨⟨k + 1, by omega, by go_num, trivial, HR⟩, by simp [intOf]; omega⟩
            · obtain rfl : k = s.size := by omega
              have hr : nameB s.data.toList = true := by
                rw [HE.out, ← HT.out, List.take_of_length_le (by rw [list_len]; exact Nat.le_refl _)]
              go_wp2
              go_ret
              exact ⟨ret_bool hr.symm, rfl⟩
    · rw [nameB_32 s h2]
      go_enter Tryz.func42, Tryz.ntmps42
      go_wp2
      go_ret
      exact ⟨rfl, rfl⟩
  · rw [nameB_0 s h1]
    go_enter Tryz.func42, Tryz.ntmps42
    go_wp2
    go_ret
    exact ⟨rfl, rfl⟩
end Go.Proofs.YtlhnnjllbcglcaaGreatDoor.caFn
