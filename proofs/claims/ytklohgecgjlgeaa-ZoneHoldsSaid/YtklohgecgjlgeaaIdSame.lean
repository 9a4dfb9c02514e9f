/- What the comparisons of lists return. -/
import Derived.Test.YtklohgecgjlgeaaDrMem
import Derived.Deep.QuietTactic
import Derived.BigQuiet
namespace Go.Proofs.Ytklohgecgjlgeaa.idFn
open Go.ChangeShapes Go.WideShapes Go.ChangeAt Go.RowKit drMem
set_option linter.unusedVariables false

/- whether two lists are equal -/
def sameB {α : Type} [DecidableEq α] (a b : List α) : Bool := decide (a = b)
theorem sameB_len {α : Type} [DecidableEq α] {a b : List α} (h : a.length ≠ b.length) : sameB a b = false := by
  unfold sameB; exact decide_eq_false (fun e => h (by rw [e]))
theorem sameB_of {α : Type} [DecidableEq α] {a b : List α} (h : a = b) : sameB a b = true := by unfold sameB; exact decide_eq_true h
theorem sameB_ne {α : Type} [DecidableEq α] {a b : List α} (k : Nat) (d : α) (h : a.getD k d ≠ b.getD k d) : sameB a b = false := by
  unfold sameB; exact decide_eq_false (fun e => h (by rw [e]))
theorem take_succ_of {α : Type} (d : α) {a b : List α} {k : Nat} (h1 : k < a.length) (h2 : k < b.length) (h : a.take k = b.take k) (he : a.getD k d = b.getD k d) : a.take (k + 1) = b.take (k + 1) := by
  rw [List.take_succ_eq_append_getElem h1, List.take_succ_eq_append_getElem h2, h]
  simp [List.getD_eq_getElem?_getD, h1, h2] at he
  rw [he]
theorem drew2 (w : World) (n m : Nat) : (w.drewN n).drewN m = w.drewN (n + m) := by simp [World.drewN, Nat.add_assoc]
def boolR (x : Bool) (w : World) (e : Ending) (w' : World) : Prop := e = .returned (.bool x) ∧ ∃ n, w' = w.drewN n

set_option maxHeartbeats 1000000 in
theorem Same_any (s1 s2 : Option Addr) (n1 n2 c1 c2 : Nat) (a b : List Int) (w : World) (h1 : src w s1 (is a)) (h2 : src w s2 (is b)) (l1 : a.length = n1) (l2 : b.length = n2) (m1 : n1 ≤ 9223372036854775807) (m2 : n2 ≤ 9223372036854775807) :
    Calls Try.prog 16 #[.slice s1 n1 c1, .slice s2 n2 c2] w (boolR (sameB a b) w) := by
  by_cases hn : n1 = n2
  · subst hn
    rcases Nat.eq_zero_or_pos n1 with h0 | h0
    · subst h0
      have e : sameB a b = true := sameB_of (by rw [List.eq_nil_of_length_eq_zero l1, List.eq_nil_of_length_eq_zero l2])
      rw [e]
      clear e h1 h2 l1 l2
      go_enter Try.func16, Try.ntmps16
      go_wp2
      go_loop [5] (fun i => i = .int .i64 0) (fun _ => 0)
      case atStart => rfl
      case round =>
        obtain rfl := hrel
        go_wp2
        go_ret
        exact ⟨rfl, 0, rfl⟩
    · obtain ⟨b1, o1, rfl, _, hc1⟩ := h1 (by rw [is_len]; omega)
      obtain ⟨b2, o2, rfl, _, hc2⟩ := h2 (by rw [is_len]; omega)
      have C1 : Hid (∀ k, k < n1 → w.cell? ⟨b1, o1 + k, none⟩ = some (.int .i64 (a.getD k 0))) := Lib.hid fun k hk => hc1 k _ (is_get a k (by omega))
      have C2 : Hid (∀ k, k < n1 → w.cell? ⟨b2, o2 + k, none⟩ = some (.int .i64 (b.getD k 0))) := Lib.hid fun k hk => hc2 k _ (is_get b k (by omega))
      have L1 := Lib.hid l1
      have L2 := Lib.hid l2
      clear hc1 hc2 h1 h2 l1 l2
      go_enter Try.func16, Try.ntmps16
      go_wp2
      go_loopw [5] (fun i wr => ∃ k : Nat, k ≤ n1 ∧ i = .int .i64 k ∧ a.take k = b.take k ∧ ∃ n, wr = w.drewN n) (fun i _ => n1 - (intOf i).toNat)
      case atStart => exact ⟨0, Nat.zero_le _, rfl, rfl, 0, rfl⟩
      case round =>
        obtain ⟨k, hk, rfl, ht, n, rfl⟩ := hrel
        have HT := Lib.hid ht
        clear ht
        by_cases hlt : k < n1
        · have d1 := C1.out k hlt
          have d2 := C2.out k hlt
          by_cases hx : a.getD k 0 = b.getD k 0
          · have HX := Lib.hid (take_succ_of 0 (by rw [L1.out]; exact hlt) (by rw [L2.out]; exact hlt) HT.out hx)
            rw [← hx] at d2
            clear hx
            generalize a.getD k 0 = x at *
            have hbx : (x != x) = false := by simp
            go_wp2
            go_quiet (fail)
            go_wp2
            exact ⟨⟨k + 1, by omega, by go_num, HX.out, n + nq, rfl⟩, by simp [intOf]; omega⟩
          · have es : sameB a b = false := sameB_ne k 0 hx
            have ES := Lib.hid es
            have hne : a.getD k 0 ≠ b.getD k 0 := by exact hx
            clear es hx
            generalize a.getD k 0 = x at *
            generalize b.getD k 0 = y at *
            have hbx : (x != y) = true := by simpa using hne
            clear hne
            go_wp2
            go_quiet (fail)
            go_wp2
            go_ret
            exact ⟨by rw [ES.out]; rfl, n + nq, drew2 w n nq⟩
        · obtain rfl : k = n1 := by omega
          have es : sameB a b = true := sameB_of (by have := HT.out; rw [List.take_of_length_le (by rw [L1.out]; omega), List.take_of_length_le (by rw [L2.out]; omega)] at this; exact this)
          have ES := Lib.hid es
          clear es
          go_wp2
          go_ret
          exact ⟨by rw [ES.out]; rfl, n, rfl⟩
  · have e : sameB a b = false := sameB_len (by omega)
    rw [e]
    have hne : ((n1 : Int) != (n2 : Int)) = true := by rw [bne_iff_ne]; omega
    clear e h1 h2 l1 l2 hn
    go_enter Try.func16, Try.ntmps16
    go_wp2
    go_ret
    exact ⟨rfl, 0, rfl⟩

end Go.Proofs.Ytklohgecgjlgeaa.idFn
