/- Which lists of effects are valid, and how many need a target. -/
import Derived.Test.YtlhnnjllbcglcaaGreatDoorEfList
namespace Go.Proofs.YtlhnnjllbcglcaaGreatDoor.efFn
open Go.ChangeShapes Go.WideShapes Go.ChangeAt Go.RowKit drMem
set_option linter.unusedVariables false

def allB (l : List Ef) : Bool := decide (l.length ≤ 4) && l.all Ef.ok
theorem all_take_succ {l : List Ef} {k : Nat} (h : k < l.length) (h1 : (l.take k).all Ef.ok = true) (h2 : (l.getD k default).ok = true) : (l.take (k + 1)).all Ef.ok = true := by
  rw [List.take_succ_eq_append_getElem h, List.all_append, h1]
  simp [List.getD_eq_getElem?_getD, h] at h2
  simp [h2]
theorem all_not {l : List Ef} {k : Nat} (h : k < l.length) (h2 : (l.getD k default).ok = false) : l.all Ef.ok = false := by
  rw [List.all_eq_false]
  refine ⟨l[k], List.getElem_mem h, ?_⟩
  simp [List.getD_eq_getElem?_getD, h] at h2
  simp [h2]
theorem get_some {l : List Ef} {k : Nat} (h : k < l.length) : l[k]? = some (l.getD k default) := by
  simp [List.getD_eq_getElem?_getD, h]

set_option maxRecDepth 100000 in
set_option maxHeartbeats 2000000 in
theorem All_any (sp : Option Addr) (n cap : Nat) (l : List Ef) (w : World) (h : EfsAt w sp n l) :
    Calls Tryz.prog 63 #[.slice sp n cap] w fun e w' => e = .returned (.bool (allB l)) ∧ Below w.heap.size w w' := by
  have hn := h.n
  have hm := h.m
  by_cases h4 : n ≤ 4
  · rcases Nat.eq_zero_or_pos n with h0 | h0
    · subst h0
      have e : allB l = true := by rw [List.eq_nil_of_length_eq_zero hn]; rfl
      rw [e]
      clear e h hn hm h4
      go_enter Tryz.func63, Tryz.ntmps63
      go_wp2
      refine wp_loop_rounds 1 ?_
      rw [rounds_succ]
      go_wp2
      go_ret
      exact ⟨rfl, Below.refl _ _⟩
    · obtain ⟨b, off, rfl, hbl, hc⟩ := h.c h0
      have C : Hid (∀ k, k < n → EfAt w b (off + k * 5) (l.getD k default)) := Lib.hid fun k hk => hc k _ (get_some (by omega))
      have HN := Lib.hid hn
      have hd : decide (4 < (n : Int)) = false := decide_eq_false (by omega)
      clear hc h hn
      go_enter Tryz.func63, Tryz.ntmps63
      go_wp2
      go_loopw [10] (fun i wr => ∃ k : Nat, k ≤ n ∧ i = .int .i64 k ∧ Hid ((l.take k).all Ef.ok = true ∧ Below w.heap.size w wr)) (fun i _ => n - (intOf i).toNat)
      case atStart => exact ⟨0, Nat.zero_le _, rfl, Lib.hid ⟨by simp, Below.refl _ _⟩⟩
      case round =>
        obtain ⟨k, hk, rfl, HT⟩ := hrel
        by_cases hlt : k < n
        · obtain ⟨c0, c1, c2, c3, c4⟩ := (C.out k hlt).below HT.out.2 hbl
          have HX := Lib.hid (fun h => all_take_succ (l := l) (k := k) (by rw [HN.out]; exact hlt) HT.out.1 h)
          have HY := Lib.hid (fun h => all_not (l := l) (k := k) (by rw [HN.out]; exact hlt) h)
          generalize l.getD k default = x at *
          obtain ⟨xc, xt, xn, xm, xk⟩ := x
          have HV := Valid_any xc xt xn xm xk
          dsimp only at c0 c1 c2 c3 c4
          cases hx : okE xc xt xn xm xk
          · go_wp2_with fail
            refine (HV _).mono ?_; rintro e w1 ⟨rfl, hb1⟩
            have B1 := next (HT.out.2.trans ((Below.refl _ wr).alloc HT.out.2.size _)) hb1
            have e : allB l = false := by unfold allB; rw [HY.out hx, Bool.and_false]
            rw [hx]
            go_wp2
            go_ret
            exact ⟨ret_bool e.symm, B1⟩
          · go_wp2_with fail
            refine (HV _).mono ?_; rintro e w1 ⟨rfl, hb1⟩
            have B1 := next (HT.out.2.trans ((Below.refl _ wr).alloc HT.out.2.size _)) hb1
            rw [hx]
            go_wp2
            exact ⟨⟨k + 1, by omega, by go_num, Lib.hid ⟨HX.out hx, B1⟩⟩, by simp [intOf]; omega⟩
        · obtain rfl : k = n := by omega
          have e : allB l = true := by
            have h1 := HT.out.1
            rw [List.take_of_length_le (by rw [HN.out]; exact Nat.le_refl _)] at h1
            unfold allB; rw [h1, decide_eq_true (by rw [HN.out]; exact h4)]; rfl
          go_wp2
          go_ret
          exact ⟨ret_bool e.symm, HT.out.2⟩
  · have e : allB l = false := by unfold allB; rw [decide_eq_false (by omega), Bool.false_and]
    have hd : decide (4 < (n : Int)) = true := decide_eq_true (by omega)
    rw [e]
    clear e h hn hm h4
    go_enter Tryz.func63, Tryz.ntmps63
    go_wp2
    go_ret
    exact ⟨rfl, Below.refl _ _⟩

/- how many have another target kind than none -/
def tgN (l : List Ef) : Nat := l.countP fun e => e.t != 0
theorem tg_succ {l : List Ef} {k : Nat} (h : k < l.length) : tgN (l.take (k + 1)) = tgN (l.take k) + if (l.getD k default).t != 0 then 1 else 0 := by
  unfold tgN
  rw [List.take_succ_eq_append_getElem h, List.countP_append]
  simp [List.getD_eq_getElem?_getD, h, List.countP_cons]
theorem tg_yes {l : List Ef} {k : Nat} (h : k < l.length) (h2 : ((l.getD k default).t != 0) = true) : tgN (l.take (k + 1)) = tgN (l.take k) + 1 := by rw [tg_succ h, if_pos h2]
theorem tg_no {l : List Ef} {k : Nat} (h : k < l.length) (h2 : ((l.getD k default).t != 0) = false) : tgN (l.take (k + 1)) = tgN (l.take k) := by rw [tg_succ h, h2]; rfl
theorem tg_le (l : List Ef) : tgN l ≤ l.length := List.countP_le_length
set_option maxRecDepth 100000 in
set_option maxHeartbeats 2000000 in
theorem Targets_any (sp : Option Addr) (n cap : Nat) (l : List Ef) (w : World) (h : EfsAt w sp n l) :
    Calls Tryz.prog 98 #[.slice sp n cap] w fun e w' => e = .returned (.int .i64 (tgN l : Nat)) ∧ Below w.heap.size w w' := by
  have hn := h.n
  have hm := h.m
  rcases Nat.eq_zero_or_pos n with h0 | h0
  · subst h0
    have e : tgN l = 0 := by rw [List.eq_nil_of_length_eq_zero hn]; rfl
    rw [e]
    clear e h hn hm
    go_enter Tryz.func98, Tryz.ntmps98
    go_wp2
    refine wp_loop_rounds 1 ?_
    rw [rounds_succ]
    go_wp2
    go_ret
    exact ⟨rfl, Below.refl _ _⟩
  · obtain ⟨b, off, rfl, hbl, hc⟩ := h.c h0
    have C : Hid (∀ k, k < n → EfAt w b (off + k * 5) (l.getD k default)) := Lib.hid fun k hk => hc k _ (get_some (by omega))
    have HN := Lib.hid hn
    clear hc h hn
    go_enter Tryz.func98, Tryz.ntmps98
    go_wp2
    go_loopw [3, 8] (fun v i wr => ∃ k : Nat, ∃ z : Int, k ≤ n ∧ i = .int .i64 k ∧ v = .int .i64 z ∧ Hid (z = (tgN (l.take k) : Nat) ∧ Below w.heap.size w wr)) (fun _ i _ => n - (intOf i).toNat)
    case atStart => exact ⟨0, 0, Nat.zero_le _, rfl, rfl, Lib.hid ⟨by simp [tgN], Below.refl _ _⟩⟩
    case round =>
      obtain ⟨k, z, hk, rfl, rfl, HT⟩ := hrel
      by_cases hlt : k < n
      · obtain ⟨c0, c1, c2, c3, c4⟩ := (C.out k hlt).below HT.out.2 hbl
        have HX := Lib.hid (tg_yes (l := l) (k := k) (by rw [HN.out]; exact hlt))
        have HY := Lib.hid (tg_no (l := l) (k := k) (by rw [HN.out]; exact hlt))
        generalize l.getD k default = x at *
        obtain ⟨xc, xt, xn, xm, xk⟩ := x
        dsimp only at c0 c1 c2 c3 c4
        have hz0 : 0 ≤ z := by have := HT.out.1; omega
        have hz1 : z < 9223372036854775807 := by have := HT.out.1; have := tg_le (l.take k); have := List.length_take_le k l; omega
        cases hx : (xt != 0)
        · go_wp2
          exact ⟨⟨k + 1, z, by omega, by go_num, rfl, Lib.hid ⟨by rw [HY.out hx]; exact HT.out.1, HT.out.2.trans ((Below.refl _ wr).alloc HT.out.2.size _)⟩⟩, by simp [intOf]; omega⟩
        · go_wp2
          exact ⟨⟨k + 1, z + 1, by omega, by go_num, by go_num, Lib.hid ⟨by rw [HX.out hx, HT.out.1]; omega, HT.out.2.trans ((Below.refl _ wr).alloc HT.out.2.size _)⟩⟩, by simp [intOf]; omega⟩
      · obtain rfl : k = n := by omega
        have e : z = (tgN l : Nat) := by
          rw [HT.out.1, List.take_of_length_le (by rw [HN.out]; exact Nat.le_refl _)]
        go_wp2
        go_ret
        exact ⟨ret_int e, HT.out.2⟩
end Go.Proofs.YtlhnnjllbcglcaaGreatDoor.efFn
