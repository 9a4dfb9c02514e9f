/- What Has, Len, Room, the first free id and the turn of a flag return and leave. -/
import Derived.Test.YtefncefmolphfaaDoorIdFn
import Derived.Deep.RegionHeld3
namespace Go.Proofs.YtefncefmolphfaaDoor.idFn
open Go.ChangeShapes Go.WideShapes Go.ChangeAt Go.RowKit drMem idBits
set_option linter.unusedVariables false
variable {w w' : World} {b g : Nat} {fl : List Bool}

theorem isI.below {B : Nat} (h : isI w b g fl) (hb : Below B w w') (h1 : b < B) (h2 : g < B) : isI w' b g fl := ⟨h.d.imp fun _ x => x.below hb h1, h.r.imp fun _ x => x.below hb h2, h.l1, h.l2, h.b0, h.g0, h.t.below hb (by omega)⟩
theorem isI.belowW (h : isI w b g fl) (hb : Below w.heap.size w w') : isI w' b g fl := h.below hb h.blt h.glt
theorem isI.drewN (h : isI w b g fl) (n : Nat) : isI (w.drewN n) b g fl := ⟨h.d.imp fun _ x => x.drewN n, h.r.imp fun _ x => x.drewN n, h.l1, h.l2, h.b0, h.g0, h.t⟩
theorem isI.grown {k : Nat} (h : isI w b g fl) (hg : w.grownBy w' (some k)) (h1 : b ≠ k) (h2 : g ≠ k) (h0 : k ≠ 0) : isI w' b g fl :=
  ⟨h.d.imp fun _ x => x.grown hg (by simpa using h1), h.r.imp fun _ x => x.grown hg (by simpa using h2), h.l1, h.l2, h.b0, h.g0, h.t.grown hg h0⟩
theorem isI.ne (h : isI w b g fl) : b ≠ g := by obtain ⟨_, d⟩ := h.d; obtain ⟨_, r⟩ := h.r; exact d.ne r (by decide)
theorem isI.word (h : isI w b g fl) (i : Nat) (hi : i < (fl.length + 63) / 64) : w.cell? ⟨g, i, none⟩ = some (.int .u64 (((wds fl).getD i 0 : Nat) : Int)) := by
  obtain ⟨_, r⟩ := h.r
  rw [r.cell, List.getElem?_append_left (by rw [us_len, wds_len]; exact hi), us_get _ _ (by rw [wds_len]; exact hi)]
theorem wd_lt (fl : List Bool) (i : Nat) : (wds fl).getD i 0 < 18446744073709551616 := by
  rw [List.getD_eq_getElem?_getD]
  rcases Nat.lt_or_ge i (wds fl).length with h | h
  · rw [List.getElem?_eq_getElem h]; exact wds_lt fl _ (List.getElem_mem h)
  · rw [List.getElem?_eq_none h]; decide
theorem isI.turn (h : isI w b g fl) (k : Nat) (hk : k < fl.length) (v : Bool) (hv : v = !fl.getD k false) :
    isI (w.setCell ⟨g, k / 64, none⟩ (.int .u64 (((wds fl).getD (k / 64) 0 ^^^ 2 ^ (k % 64) : Nat) : Int))) b g (fl.set k v) := by
  subst hv
  obtain ⟨more, hr⟩ := h.r
  have h1 := hr.put (k / 64) (.int .u64 (((wds fl).getD (k / 64) 0 ^^^ 2 ^ (k % 64) : Nat) : Int))
  have e : (us (wds fl)).set (k / 64) (.int .u64 (((wds fl).getD (k / 64) 0 ^^^ 2 ^ (k % 64) : Nat) : Int)) = us (wds (fl.set k (!fl.getD k false))) := by
    rw [wds_turn fl k hk]; unfold us; rw [List.map_set]
  rw [List.set_append_left _ _ (by rw [us_len, wds_len]; omega), e] at h1
  exact ⟨by rw [List.length_set]; exact h.d.imp fun _ x => x.far h.ne _, ⟨more, h1⟩, by rw [List.length_set]; exact h.l1, by rw [List.length_set]; exact h.l2, h.b0, h.g0,
    h.t.grown (grown_set w ⟨g, k / 64, none⟩ _) (by have := h.g0; show g ≠ 0; omega)⟩

def flipPost (b g : Nat) (fl : List Bool) (w : World) (e : Ending) (w' : World) : Prop := (∃ v, e = .returned v) ∧ isI w' b g fl ∧ w.grownBy w' (some g)
set_option maxHeartbeats 400000 in
theorem flip_any (h : isI w b g fl) (id : Nat) (h1 : 1 ≤ id) (h2 : id ≤ fl.length) (v : Bool) (hv : v = !fl.getD (id - 1) false) :
    Calls Tryd.prog 31 #[.pointer (some ⟨b, 0, none⟩), .int .i64 (id : Int)] w (flipPost b g (fl.set (id - 1) v) w) := by
  obtain ⟨k, rfl⟩ : ∃ k, id = k + 1 := ⟨id - 1, by omega⟩
  rw [Nat.add_sub_cancel] at hv ⊢
  have hl := h.l2
  obtain ⟨cap, c1⟩ := h.c1
  have x0 := h.word (k / 64) (by omega)
  have x1 := h.free (k / 64)
  have e1 := xor_u64 ((wds fl).getD (k / 64) 0) (2 ^ (k % 64)) (wd_lt fl _) (by have h3 : 2 ^ (k % 64) ≤ 2 ^ 63 := Nat.pow_le_pow_right (by decide) (by omega); omega)
  have hp := position_any (k + 1) w (by omega) (by omega)
  rw [Nat.add_sub_cancel] at hp
  have ht := h.turn k (by omega) v hv
  obtain ⟨n, hn⟩ : ∃ n, (fl.length + 63) / 64 = n := ⟨_, rfl⟩
  obtain ⟨i, hi⟩ : ∃ i, k / 64 = i := ⟨_, rfl⟩
  have hin : i < n := by omega
  have hn64 : n ≤ 64 := by omega
  rw [hi] at hp x0 x1 e1 ht
  rw [hn] at c1
  generalize (2 ^ (k % 64) : Nat) = m at *
  generalize (wds fl).getD i 0 = x at *
  have TT := Lib.hid ht
  have HP := Lib.hid hp
  clear h hp ht hn hi hv h1
  go_enter Tryd.func31, Tryd.ntmps31
  go_wp2_with fail
  refine HP.out.mono ?_
  rintro e w1 ⟨rfl, q, rfl⟩
  go_wp2
  go_end0
  exact ⟨⟨_, rfl⟩, TT.out.drewN q, ⟨rfl, rfl, rfl, by simp [World.setCell, World.drewN], fun i hi hr => Below.heap_setCell _ _ _ _ (fun e => hr (by rw [e]))⟩⟩

theorem bit_any (fl : List Bool) (k : Nat) (hk : k < fl.length) : bits .and .u64 (((wds fl).getD (k / 64) 0 : Nat) : Int) ((2 ^ (k % 64) : Nat) : Int) = ((if fl.getD k false then 2 ^ (k % 64) else 0 : Nat) : Int) := by
  rw [and_u64 _ _ (wd_lt fl _) (by have h3 : 2 ^ (k % 64) ≤ 2 ^ 63 := Nat.pow_le_pow_right (by decide) (by omega); omega), wds_bit fl k hk]
set_option maxHeartbeats 400000 in
theorem Has_in (h : isI w b g fl) (id : Nat) (h1 : 1 ≤ id) (h2 : id ≤ fl.length) :
    Calls Tryd.prog 20 #[.pointer (some ⟨b, 0, none⟩), .int .i64 (id : Int)] w fun e w' => e = .returned (.bool (fl.getD (id - 1) false)) ∧ ∃ n, w' = w.drewN n := by
  obtain ⟨k, rfl⟩ : ∃ k, id = k + 1 := ⟨id - 1, by omega⟩
  rw [Nat.add_sub_cancel]
  have hl := h.l2
  obtain ⟨cap, c1⟩ := h.c1
  have x0 := h.word (k / 64) (by omega)
  have e1 := bit_any fl k (by omega)
  have hp := position_any (k + 1) w (by omega) (by omega)
  rw [Nat.add_sub_cancel] at hp
  have hz := zero_any h
  have hc := contains_in h ((k + 1 : Nat) : Int) (by omega) (by omega)
  have hpos : 0 < 2 ^ (k % 64) := Nat.two_pow_pos _
  obtain ⟨n, hn⟩ : ∃ n, (fl.length + 63) / 64 = n := ⟨_, rfl⟩
  obtain ⟨i, hi⟩ : ∃ i, k / 64 = i := ⟨_, rfl⟩
  have hin : i < n := by omega
  have hn64 : n ≤ 64 := by omega
  rw [hi] at hp x0 e1
  rw [hn] at c1
  generalize (2 ^ (k % 64) : Nat) = m at *
  generalize (wds fl).getD i 0 = x at *
  have HP := Lib.hid hp
  have HZ := Lib.hid hz
  have HC := Lib.hid hc
  clear h hp hz hc hn hi h1 h2
  cases hf : fl.getD k false with
  | true =>
    rw [hf] at e1
    simp only [if_true] at e1
    have d1 : ((m : Int) != 0) = true := by rw [bne_iff_ne]; omega
    clear hf
    go_enter Tryd.func20, Tryd.ntmps20
    go_wp2_with (first | (go_at_call 28; refine HZ.out.mono ?_; rintro e w' ⟨rfl, rfl⟩) | (go_at_call 30; refine HC.out.mono ?_; rintro e w' ⟨rfl, rfl⟩) | (go_at_call 34; refine HP.out.mono ?_; rintro e w' ⟨rfl, q, rfl⟩))
    go_ret
    exact ⟨rfl, _, rfl⟩
  | false =>
    rw [hf] at e1
    simp only [Bool.false_eq_true, if_false, Int.natCast_zero] at e1
    clear hf
    go_enter Tryd.func20, Tryd.ntmps20
    go_wp2_with (first | (go_at_call 28; refine HZ.out.mono ?_; rintro e w' ⟨rfl, rfl⟩) | (go_at_call 30; refine HC.out.mono ?_; rintro e w' ⟨rfl, rfl⟩) | (go_at_call 34; refine HP.out.mono ?_; rintro e w' ⟨rfl, q, rfl⟩))
    go_ret
    exact ⟨rfl, _, rfl⟩
theorem Has_out (h : isI w b g fl) (id : Int) (h1 : id < 1 ∨ fl.length < id) :
    Calls Tryd.prog 20 #[.pointer (some ⟨b, 0, none⟩), .int .i64 id] w fun e w' => e = .returned (.bool false) ∧ ∃ n, w' = w.drewN n := by
  have HZ := Lib.hid (zero_any h)
  have HC := Lib.hid (contains_out h id h1)
  clear h h1
  go_enter Tryd.func20, Tryd.ntmps20
  go_wp2_with (first | (go_at_call 28; refine HZ.out.mono ?_; rintro e w' ⟨rfl, rfl⟩) | (go_at_call 30; refine HC.out.mono ?_; rintro e w' ⟨rfl, rfl⟩))
  go_ret
  exact ⟨rfl, 0, rfl⟩

set_option maxHeartbeats 1000000 in
theorem Len_any (h : isI w b g fl) : Calls Tryd.prog 14 #[.pointer (some ⟨b, 0, none⟩)] w fun e w' => e = .returned (.int .i64 ((fl.count true : Nat) : Int)) ∧ w = w' := by
  have hl := h.l2
  obtain ⟨cap, c1⟩ := h.c1
  have HZ := Lib.hid (zero_any h)
  have H := Lib.hid h
  have hcl : ∀ i, (fl.take (64 * i)).count true ≤ 4096 := fun i => by
    have h1 := List.count_le_length (a := true) (l := fl.take (64 * i))
    have h2 : (fl.take (64 * i)).length ≤ fl.length := by simp; omega
    omega
  obtain ⟨n, hn⟩ : ∃ n, (fl.length + 63) / 64 = n := ⟨_, rfl⟩
  have hn64 : n ≤ 64 := by omega
  rw [hn] at c1
  have HN := Lib.hid hn
  have HL := Lib.hid hcl
  clear h hcl hn
  go_enter Tryd.func14, Tryd.ntmps14
  go_wp2_with (go_at_call 28; refine HZ.out.mono ?_; rintro e w' ⟨rfl, rfl⟩)
  go_loop [3, 13] (fun c i => ∃ k : Nat, k ≤ n ∧ i = .int .i64 k ∧ c = .int .i64 (((fl.take (64 * k)).count true : Nat) : Int)) (fun _ i => n - (intOf i).toNat)
  case atStart => exact ⟨0, Nat.zero_le _, rfl, by simp⟩
  case round =>
    obtain ⟨k, hk, rfl, rfl⟩ := hrel
    by_cases hlt : k < n
    · have x0 := H.out.word k (by rw [HN.out]; exact hlt)
      have hon := ones_any ((wds fl).getD k 0) w (wd_lt fl k)
      rw [wds_pop fl k (by rw [HN.out]; exact hlt)] at hon
      have HO := Lib.hid hon
      have hc0 := HL.out k
      have hc1 := HL.out (k + 1)
      have hcn := count_next fl k
      rw [hcn] at hc1
      have HCN := Lib.hid hcn
      clear hon hcn
      generalize (wds fl).getD k 0 = x at *
      generalize (fl.take (64 * k)).count true = a at *
      generalize ((fl.drop (64 * k)).take 64).count true = d at *
      go_wp2_with (go_at_call 29; refine HO.out.mono ?_; rintro e w' ⟨rfl, rfl⟩)
      go_round
      case rel => exact ⟨k + 1, by omega, by go_num, by rw [HCN.out]; go_num⟩
      case measure => simp [intOf]; omega
    · obtain rfl : k = n := by omega
      have hca := count_all fl k (by rw [HN.out]; exact Nat.le_refl _)
      have HCA := Lib.hid hca
      clear hca
      go_wp2
      go_ret
      exact ⟨by rw [← HCA.out]; rfl, rfl⟩
end Go.Proofs.YtefncefmolphfaaDoor.idFn
