/- Which target kinds an effect has; lists of effects that are compared. -/
import Derived.Test.YtlhnnjllbcglcaaGreatDoorCeByte
import Derived.Deep.RegionWith
import Derived.Deep.QuietTactic
import Derived.BigQuiet
namespace Go.Proofs.YtlhnnjllbcglcaaGreatDoor.efFn
open Go.ChangeShapes Go.WideShapes Go.ChangeAt Go.RowKit drMem
set_option linter.unusedVariables false

theorem dN {B : Nat} {a b : World} (h : Below B a b) (n : Nat) : Below B a (b.drewN n) := h.trans ⟨rfl, rfl, rfl, Nat.le_refl _, fun _ _ => rfl⟩
theorem kinds (t : Int) : t = 0 ∨ t = 1 ∨ t = 2 ∨ t = 3 ∨ t = 4 ∨ t = 5 ∨ t = 6 ∨ ¬ (0 ≤ t ∧ t ≤ 6) := by omega
theorem ret_str {a b : ByteArray} (h : a = b) : Ending.returned (.string a) = .returned (.string b) := by rw [h]
theorem aim_far (k t : Int) (k0 : 0 ≤ k) (k1 : k < 128) (h : ¬ (0 ≤ t ∧ t ≤ 6)) : aimB k t = false := by
  unfold aimB
  by_cases t0 : 0 ≤ t
  · have h1 : (128 : Int) ≤ 2 ^ min t.toNat 64 := by
      have : (2 : Nat) ^ 7 ≤ 2 ^ min t.toNat 64 := Nat.pow_le_pow_right (by omega) (by omega)
      exact_mod_cast this
    rw [Int.ediv_eq_zero_of_lt k0 (by omega), Bool.and_eq_false_iff]
    exact .inr rfl
  · rw [decide_eq_false t0, Bool.false_and]
theorem kd_bd (c : Int) : 0 ≤ kd c ∧ kd c < 128 := by unfold kd; (repeat' split) <;> omega
theorem kd_no (c : Int) (h : ¬ (1 ≤ c ∧ c ≤ 12)) : kd c = 0 := by
  unfold kd
  rw [if_neg (by omega), if_neg (by omega), if_neg (by omega), if_neg (by omega), if_neg (by omega), if_neg (by omega)]
theorem aim_zero (t : Int) : aimB 0 t = false := by
  unfold aimB
  rw [Int.zero_ediv, Bool.and_eq_false_iff]
  exact .inr rfl
theorem all_only (l : List Ef) (h : ¬ l.length ≤ 4) : allB l = false := by unfold allB; rw [decide_eq_false h, Bool.false_and]
def sameB (a b : List Ef) : Bool := decide (a = b)
theorem sameB_len {a b : List Ef} (h : a.length ≠ b.length) : sameB a b = false := by
  unfold sameB; exact decide_eq_false (fun e => h (by rw [e]))
theorem sameB_of {a b : List Ef} (h : a = b) : sameB a b = true := by unfold sameB; exact decide_eq_true h
theorem sameB_ne {a b : List Ef} (k : Nat) (h : a.getD k default ≠ b.getD k default) : sameB a b = false := by
  unfold sameB; exact decide_eq_false (fun e => h (by rw [e]))
theorem take_succ_of {a b : List Ef} {k : Nat} (h1 : k < a.length) (h2 : k < b.length) (h : a.take k = b.take k) (he : a.getD k default = b.getD k default) : a.take (k + 1) = b.take (k + 1) := by
  rw [List.take_succ_eq_append_getElem h1, List.take_succ_eq_append_getElem h2, h]
  simp [List.getD_eq_getElem?_getD, h1, h2] at he
  rw [he]
theorem eq5_ef (x y : Ef) : eq5 x.c x.t x.n x.m x.k y.c y.t y.n y.m y.k = decide (x = y) := by
  rw [Bool.eq_iff_iff, eq5_iff, decide_eq_true_eq]
  cases x; cases y; simp
set_option maxRecDepth 100000 in
set_option maxHeartbeats 2000000 in
theorem Same_any (s1 s2 : Option Addr) (n1 n2 c1 c2 : Nat) (a b : List Ef) (w : World) (h1 : EfsAt w s1 n1 a) (h2 : EfsAt w s2 n2 b) :
    Calls Tryz.prog 41 #[.slice s1 n1 c1, .slice s2 n2 c2] w fun e w' => e = .returned (.bool (sameB a b)) ∧ Below w.heap.size w w' := by
  have l1 := h1.n
  have l2 := h2.n
  have m1 := h1.m
  have m2 := h2.m
  by_cases hn : n1 = n2
  · subst hn
    rcases Nat.eq_zero_or_pos n1 with h0 | h0
    · subst h0
      have e : sameB a b = true := sameB_of (by rw [List.eq_nil_of_length_eq_zero l1, List.eq_nil_of_length_eq_zero l2])
      rw [e]
      clear e h1 h2 l1 l2
      go_enter Tryz.func41, Tryz.ntmps41
      go_wp2
      refine wp_loop_rounds 1 ?_
      rw [rounds_succ]
      go_wp2
      go_ret
      exact ⟨rfl, Below.refl _ _⟩
    · obtain ⟨b1, o1, rfl, hb1, hc1⟩ := h1.c h0
      obtain ⟨b2, o2, rfl, hb2, hc2⟩ := h2.c h0
      have C1 : Hid (∀ k, k < n1 → EfAt w b1 (o1 + k * 5) (a.getD k default)) := Lib.hid fun k hk => hc1 k _ (get_some (by omega))
      have C2 : Hid (∀ k, k < n1 → EfAt w b2 (o2 + k * 5) (b.getD k default)) := Lib.hid fun k hk => hc2 k _ (get_some (by omega))
      have L1 := Lib.hid l1
      have L2 := Lib.hid l2
      clear hc1 hc2 h1 h2 l1 l2
      go_enter Tryz.func41, Tryz.ntmps41
      go_wp2
      go_loopw [5] (fun i wr => ∃ k : Nat, k ≤ n1 ∧ i = .int .i64 k ∧ a.take k = b.take k ∧ ∃ n, wr = w.drewN n) (fun i _ => n1 - (intOf i).toNat)
      case atStart => exact ⟨0, Nat.zero_le _, rfl, rfl, 0, rfl⟩
      case round =>
        obtain ⟨k, hk, rfl, ht, n, rfl⟩ := hrel
        have HT := Lib.hid ht
        clear ht
        by_cases hlt : k < n1
        · obtain ⟨d0, d1, d2, d3, d4⟩ := C1.out k hlt
          obtain ⟨e0, e1, e2, e3, e4⟩ := C2.out k hlt
          have HX := Lib.hid (fun h => take_succ_of (by rw [L1.out]; exact hlt) (by rw [L2.out]; exact hlt) HT.out h)
          have HY := Lib.hid (fun h => sameB_ne (a := a) (b := b) k h)
          have NE := neE_run (a.getD k default).c (a.getD k default).t (a.getD k default).n (a.getD k default).m (a.getD k default).k (b.getD k default).c (b.getD k default).t (b.getD k default).n (b.getD k default).m (b.getD k default).k
          rw [eq5_ef] at NE
          generalize a.getD k default = x at *
          generalize b.getD k default = y at *
          obtain ⟨xc, xt, xn, xm, xk⟩ := x
          obtain ⟨yc, yt, yn, ym, yk⟩ := y
          dsimp only at d0 d1 d2 d3 d4 e0 e1 e2 e3 e4 NE
          by_cases hx : (⟨xc, xt, xn, xm, xk⟩ : Ef) = ⟨yc, yt, yn, ym, yk⟩
          · have hx2 := HX.out hx
            have HX2 := Lib.hid hx2
            rw [decide_eq_true hx] at NE
            clear hx hx2 HX HY
            go_wp2
            go_quiet (fail)
            go_wp2
            exact ⟨⟨k + 1, by omega, by go_num, HX2.out, n + nq, rfl⟩, by simp [intOf]; omega⟩
          · have es := HY.out hx
            have ES := Lib.hid es
            rw [decide_eq_false hx] at NE
            clear hx es HX HY
            go_wp2
            go_quiet (fail)
            go_wp2
            go_ret
            exact ⟨by rw [ES.out]; rfl, dN (dN (Below.refl _ _) _) _⟩
        · obtain rfl : k = n1 := by omega
          have es : sameB a b = true := sameB_of (by have := HT.out; rw [List.take_of_length_le (by rw [L1.out]; omega), List.take_of_length_le (by rw [L2.out]; omega)] at this; exact this)
          have ES := Lib.hid es
          clear es
          go_wp2
          go_ret
          exact ⟨by rw [ES.out]; rfl, dN (Below.refl _ _) _⟩
  · have e : sameB a b = false := sameB_len (by omega)
    rw [e]
    have hne : ((n1 : Int) != (n2 : Int)) = true := by rw [bne_iff_ne]; omega
    clear e h1 h2 l1 l2 hn
    go_enter Tryz.func41, Tryz.ntmps41
    go_wp2
    go_ret
    exact ⟨rfl, Below.refl _ _⟩
set_option maxRecDepth 100000 in
set_option maxHeartbeats 2000000 in
theorem slEq_any (s1 s2 : Option Addr) (n1 n2 c1 c2 : Nat) (a b : List Ef) (w : World) (h1 : EfsAt w s1 n1 a) (h2 : EfsAt w s2 n2 b) :
    Calls Tryz.prog 78 #[.slice s1 n1 c1, .slice s2 n2 c2] w fun e w' => e = .returned (.bool (sameB a b)) ∧ Below w.heap.size w w' := by
  have l1 := h1.n
  have l2 := h2.n
  have m1 := h1.m
  have m2 := h2.m
  by_cases hn : n1 = n2
  · subst hn
    rcases Nat.eq_zero_or_pos n1 with h0 | h0
    · subst h0
      have e : sameB a b = true := sameB_of (by rw [List.eq_nil_of_length_eq_zero l1, List.eq_nil_of_length_eq_zero l2])
      rw [e]
      clear e h1 h2 l1 l2
      go_enter Tryz.func78, Tryz.ntmps78
      go_wp2
      refine wp_loop_rounds 1 ?_
      rw [rounds_succ]
      go_wp2
      go_ret
      exact ⟨rfl, Below.refl _ _⟩
    · obtain ⟨b1, o1, rfl, hb1, hc1⟩ := h1.c h0
      obtain ⟨b2, o2, rfl, hb2, hc2⟩ := h2.c h0
      have C1 : Hid (∀ k, k < n1 → EfAt w b1 (o1 + k * 5) (a.getD k default)) := Lib.hid fun k hk => hc1 k _ (get_some (by omega))
      have C2 : Hid (∀ k, k < n1 → EfAt w b2 (o2 + k * 5) (b.getD k default)) := Lib.hid fun k hk => hc2 k _ (get_some (by omega))
      have L1 := Lib.hid l1
      have L2 := Lib.hid l2
      clear hc1 hc2 h1 h2 l1 l2
      go_enter Tryz.func78, Tryz.ntmps78
      go_wp2
      go_loopw [13] (fun i wr => ∃ k : Nat, k ≤ n1 ∧ i = .int .i64 k ∧ a.take k = b.take k ∧ ∃ n, wr = w.drewN n) (fun i _ => n1 - (intOf i).toNat)
      case atStart => exact ⟨0, Nat.zero_le _, rfl, rfl, 0, rfl⟩
      case round =>
        obtain ⟨k, hk, rfl, ht, n, rfl⟩ := hrel
        have HT := Lib.hid ht
        clear ht
        by_cases hlt : k < n1
        · obtain ⟨d0, d1, d2, d3, d4⟩ := C1.out k hlt
          obtain ⟨e0, e1, e2, e3, e4⟩ := C2.out k hlt
          have HX := Lib.hid (fun h => take_succ_of (by rw [L1.out]; exact hlt) (by rw [L2.out]; exact hlt) HT.out h)
          have HY := Lib.hid (fun h => sameB_ne (a := a) (b := b) k h)
          have NE := neE_run (a.getD k default).c (a.getD k default).t (a.getD k default).n (a.getD k default).m (a.getD k default).k (b.getD k default).c (b.getD k default).t (b.getD k default).n (b.getD k default).m (b.getD k default).k
          rw [eq5_ef] at NE
          generalize a.getD k default = x at *
          generalize b.getD k default = y at *
          obtain ⟨xc, xt, xn, xm, xk⟩ := x
          obtain ⟨yc, yt, yn, ym, yk⟩ := y
          dsimp only at d0 d1 d2 d3 d4 e0 e1 e2 e3 e4 NE
          by_cases hx : (⟨xc, xt, xn, xm, xk⟩ : Ef) = ⟨yc, yt, yn, ym, yk⟩
          · have hx2 := HX.out hx
            have HX2 := Lib.hid hx2
            rw [decide_eq_true hx] at NE
            clear hx hx2 HX HY
            go_wp2
            go_quiet (fail)
            go_wp2
            exact ⟨⟨k + 1, by omega, by go_num, HX2.out, n + nq, rfl⟩, by simp [intOf]; omega⟩
          · have es := HY.out hx
            have ES := Lib.hid es
            rw [decide_eq_false hx] at NE
            clear hx es HX HY
            go_wp2
            go_quiet (fail)
            go_wp2
            go_ret
            exact ⟨by rw [ES.out]; rfl, dN (dN (Below.refl _ _) _) _⟩
        · obtain rfl : k = n1 := by omega
          have es : sameB a b = true := sameB_of (by have := HT.out; rw [List.take_of_length_le (by rw [L1.out]; omega), List.take_of_length_le (by rw [L2.out]; omega)] at this; exact this)
          have ES := Lib.hid es
          clear es
          go_wp2
          go_ret
          exact ⟨by rw [ES.out]; rfl, dN (Below.refl _ _) _⟩
  · have e : sameB a b = false := sameB_len (by omega)
    rw [e]
    have hne : ((n1 : Int) != (n2 : Int)) = true := by rw [bne_iff_ne]; omega
    clear e h1 h2 l1 l2 hn
    go_enter Tryz.func78, Tryz.ntmps78
    go_wp2
    go_ret
    exact ⟨rfl, Below.refl _ _⟩
end Go.Proofs.YtlhnnjllbcglcaaGreatDoor.efFn
