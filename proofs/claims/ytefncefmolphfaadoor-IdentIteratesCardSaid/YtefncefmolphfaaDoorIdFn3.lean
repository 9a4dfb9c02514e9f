/- What Room, the first free id, Take, Claim and Free return and leave. -/
import Derived.Test.YtefncefmolphfaaDoorIdFn2
namespace Go.Proofs.YtefncefmolphfaaDoor.idFn
open Go.ChangeShapes Go.WideShapes Go.ChangeAt Go.RowKit drMem idBits
set_option linter.unusedVariables false
variable {w w' : World} {b g : Nat} {fl : List Bool}

theorem Len_q (h : isI w b g fl) (n : Nat) : Calls Tryd.prog 14 #[.pointer (some ⟨b, 0, none⟩)] (w.drewN n) fun e w' => e = .returned (.int .i64 ((fl.count true : Nat) : Int)) ∧ w' = w.drewN n :=
  (Len_any (h.drewN n)).mono fun e w' ⟨he, hw⟩ => ⟨he, hw.symm⟩
set_option maxHeartbeats 400000 in
theorem Room_any (h : isI w b g fl) : Calls Tryd.prog 15 #[.pointer (some ⟨b, 0, none⟩)] w fun e w' => e = .returned (.int .i64 ((fl.length : Int) - ((fl.count true : Nat) : Int))) ∧ ∃ n, w' = w.drewN n := by
  have HZ := Lib.hid (zero_any h)
  have H := Lib.hid h
  have c0 := h.c0
  have hl := h.l2
  have h1 := List.count_le_length (a := true) (l := fl)
  clear h
  go_enter Tryd.func15, Tryd.ntmps15
  go_wp2_with (go_at_call 28; refine HZ.out.mono ?_; rintro e w' ⟨rfl, rfl⟩)
  go_quiet ((go_at_call 14; exact Calls.quiet_of_same (Len_q H.out _)))
  go_wp2
  go_ret
  exact ⟨rfl, _, rfl⟩
theorem ret_i64 {a c : Int} (h : a = c) : Ending.returned (.int .i64 a) = .returned (.int .i64 c) := by rw [h]
theorem not_u64 (x : Nat) (hx : x < 18446744073709551616) : bits .xor .u64 IntKind.u64.max (x : Int) = ((18446744073709551615 - x : Nat) : Int) := by
  have h2 := xor_u64 18446744073709551615 x (by decide) hx
  have h3 : 18446744073709551615 ^^^ x = 18446744073709551615 - x := by
    apply Nat.eq_of_testBit_eq
    intro j
    have h4 := Nat.testBit_two_pow_sub_succ (x := x) (n := 64) (by simpa using hx) j
    rw [show 18446744073709551615 - x = 2 ^ 64 - (x + 1) by omega, h4, Nat.testBit_xor, show 18446744073709551615 = 2 ^ 64 - 1 from rfl, Nat.testBit_two_pow_sub_one]
    by_cases hj : j < 64
    · simp [hj]
    · have : x.testBit j = false := Nat.testBit_lt_two_pow (Nat.lt_of_lt_of_le (show x < 2 ^ 64 by simpa using hx) (Nat.pow_le_pow_right (by decide) (by omega)))
      simp [hj, this]
  rw [← h3, ← h2]; rfl
set_option maxHeartbeats 1000000 in
theorem leastFree_any (h : isI w b g fl) (n : Nat) (hn : isFF fl n) : Calls Tryd.prog 37 #[.pointer (some ⟨b, 0, none⟩)] w fun e w' => e = .returned (.int .i64 ((n : Int) + 1)) ∧ w = w' := by
  have H := Lib.hid h
  have c0 := h.c0
  obtain ⟨cap, c1⟩ := h.c1
  have hl := h.l2
  have FF := Lib.hid hn
  obtain ⟨m, hm⟩ : ∃ m, (fl.length + 63) / 64 = m := ⟨_, rfl⟩
  have hm64 : m ≤ 64 := by omega
  rw [hm] at c1
  have HM := Lib.hid hm
  clear h hm hn
  go_enter Tryd.func37, Tryd.ntmps37
  go_wp2
  go_loop [10] (fun i => ∃ k : Nat, k ≤ m ∧ i = .int .i64 k ∧ Hid (∀ j, j < 64 * k → j < fl.length → fl.getD j false = true)) (fun i => m - (intOf i).toNat)
  case atStart => exact ⟨0, Nat.zero_le _, rfl, Lib.hid (fun j hj => by omega)⟩
  case round =>
    obtain ⟨k, hk, rfl, hb⟩ := hrel
    by_cases hlt : k < m
    · have x0 := H.out.word k (by rw [HM.out]; exact hlt)
      have hxl := wd_lt fl k
      by_cases hx : (wds fl).getD k 0 = 18446744073709551615
      · have hfull := full_word fl k (by rw [HM.out]; exact hlt) hx
        rw [hx] at x0
        have hb2 : Hid (∀ j, j < 64 * (k + 1) → j < fl.length → fl.getD j false = true) := Lib.hid fun j hj hj2 => by
          rcases Nat.lt_or_ge j (64 * k) with h1 | h1
          · exact hb.out j h1 hj2
          · have := hfull (j - 64 * k) (by omega)
            rwa [show 64 * k + (j - 64 * k) = j by omega] at this
        clear hfull hx hb hxl
        go_wp2
        go_round
        case rel => exact ⟨k + 1, by omega, by go_num, hb2⟩
        case measure => simp [intOf]; omega
      · have hfree := free_word fl k (by rw [HM.out]; exact hlt) (fun j hj => hb.out j hj (by
          have h3 := HM.out
          rcases Nat.lt_or_ge j fl.length with h1 | h1
          · exact h1
          · omega)) hx
        have hne := hfree.eq FF.out
        have htz := tz_any (18446744073709551615 - (wds fl).getD k 0) w (by omega) (by omega) H.out.t
        have hc := (ctz_bits (18446744073709551615 - (wds fl).getD k 0) (by omega) (by omega)).1
        have d1 : ((((wds fl).getD k 0 : Nat) : Int) != 18446744073709551615) = true := by rw [bne_iff_ne]; omega
        have e1 := not_u64 _ hxl
        obtain ⟨y, hy⟩ : ∃ y, 18446744073709551615 - (wds fl).getD k 0 = y := ⟨_, rfl⟩
        rw [hy] at e1 hc htz hne
        obtain ⟨c, hcc⟩ : ∃ c, Lib.ctz 64 y = c := ⟨_, rfl⟩
        rw [hcc] at hc htz hne
        have HT := Lib.hid htz
        have HE := Lib.hid hne
        clear htz hne hfree hb hx hxl hy hcc
        generalize (wds fl).getD k 0 = x at *
        go_wp2_with fail
        (with_reducible refine HT.out.mono ?_)
        rintro e w' ⟨rfl, rfl⟩
        clear e1 HT
        go_wp2
        go_ret
        exact ⟨by rw [← HE.out]; exact ret_i64 (by rw [Int.natCast_add, Int.natCast_mul]; omega), rfl⟩
    · obtain rfl : k = m := by omega
      have hall := full_all fl k (by rw [HM.out]; exact Nat.le_refl _) hb.out
      have hne := hall.eq FF.out
      have HE := Lib.hid hne
      clear hall hne hb
      go_wp2
      go_ret
      exact ⟨by rw [← HE.out]; rfl, rfl⟩

def opPost (b g : Nat) (fl' : List Bool) (v : Value) (w : World) (e : Ending) (w' : World) : Prop := e = .returned v ∧ isI w' b g fl' ∧ w.grownBy w' (some g)
theorem opPost.same {v : Value} (h : isI w b g fl) (n : Nat) {e : Ending} (he : e = .returned v) : opPost b g fl v w e (w.drewN n) := ⟨he, h.drewN n, ⟨rfl, rfl, rfl, Nat.le_refl _, fun _ _ _ => rfl⟩⟩
theorem Take_full (h : isI w b g fl) (hn : isFF fl fl.length) : Calls Tryd.prog 23 #[.pointer (some ⟨b, 0, none⟩)] w (opPost b g fl (.tuple #[.int .i64 0, .int .i64 7]) w) := by
  have HZ := Lib.hid (zero_any h)
  have HL := Lib.hid (leastFree_any h _ hn)
  have H := Lib.hid h
  have c0 := h.c0
  have hl := h.l2
  clear h hn
  go_enter Tryd.func23, Tryd.ntmps23
  go_wp2_with (first | (go_at_call 28; refine HZ.out.mono ?_; rintro e w' ⟨rfl, rfl⟩) | (go_at_call 37; refine HL.out.mono ?_; rintro e w' ⟨rfl, rfl⟩))
  go_ret2
  exact opPost.same H.out 0 rfl
theorem Take_ok (h : isI w b g fl) (n : Nat) (hn : isFF fl n) (hlt : n < fl.length) : Calls Tryd.prog 23 #[.pointer (some ⟨b, 0, none⟩)] w (opPost b g (fl.set n true) (.tuple #[.int .i64 ((n : Int) + 1), .int .i64 0]) w) := by
  have HZ := Lib.hid (zero_any h)
  have HL := Lib.hid (leastFree_any h n hn)
  have hf := flip_any h (n + 1) (by omega) (by omega) true (by rw [Nat.add_sub_cancel, hn.2]; rfl)
  rw [Nat.add_sub_cancel, Int.natCast_add] at hf
  have HF := Lib.hid hf
  have H := Lib.hid h
  have c0 := h.c0
  have hl := h.l2
  have d0 : decide ((fl.length : Int) < (n : Int) + 1) = false := by simp; omega
  clear h hn hf
  go_enter Tryd.func23, Tryd.ntmps23
  go_wp2_with (first | (go_at_call 28; refine HZ.out.mono ?_; rintro e w' ⟨rfl, rfl⟩) | (go_at_call 37; refine HL.out.mono ?_; rintro e w' ⟨rfl, rfl⟩) | (go_at_call 31; refine HF.out.mono ?_; rintro e w' ⟨⟨v, rfl⟩, hi, hg⟩))
  go_ret2
  exact ⟨rfl, hi, hg⟩
end Go.Proofs.YtefncefmolphfaaDoor.idFn
