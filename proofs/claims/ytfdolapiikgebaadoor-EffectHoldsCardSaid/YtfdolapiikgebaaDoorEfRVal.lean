/- Which effects and lists of effects the reference holds valid. -/
import Derived.Test.YtfdolapiikgebaaDoorEfRNum2
import Derived.Test.YtfdolapiikgebaaDoorEfRKind
import Derived.Deep.RegionWith
namespace Go.Proofs.YtfdolapiikgebaaDoor.efFn
open Go.ChangeShapes Go.WideShapes Go.ChangeAt Go.RowKit drMem
set_option linter.unusedVariables false

set_option maxRecDepth 100000 in
set_option maxHeartbeats 4000000 in
theorem rValid_any (c t n m k : Int) (w : World) :
    Calls Tryd.prog 11 #[eV c t n m k] w fun e w' => e = .returned (.bool (okE c t n m k)) ∧ Below w.heap.size w w' := by
  have HT := rTargets_any c
  have HL := rLetter_any t
  have HH := rHas_any c (letN t)
  have HN := rnum_any c t n m k
  rw [aims_ref] at HH
  unfold okE
  cases ha : aimB (kd c) t
  all_goals
    rw [ha] at HH
    go_enter Tryd.func11, Tryd.ntmps11
    go_wp2_with fail
    have M' : has (w.alloc (.cells #[.int .i64 c, .int .i64 t, .int .i64 n, .int .i64 m, .int .i64 k] 28)).drew w.heap.size 28 (eL c t n m k) := new0 w 28 (eL c t n m k)
    have B' : Below w.heap.size w (w.alloc (.cells #[.int .i64 c, .int .i64 t, .int .i64 n, .int .i64 m, .int .i64 k] 28)).drew := ((Below.refl _ _).alloc (Nat.le_refl _) _).drew
    obtain ⟨W, hW⟩ : ∃ W, w.alloc (.cells #[.int .i64 c, .int .i64 t, .int .i64 n, .int .i64 m, .int .i64 k] 28) = W := ⟨_, rfl⟩
    rw [hW] at M' B' ⊢
    clear hW
    obtain ⟨u0, u1, u2, u3, u4, u5⟩ := five M'
    first
      | (go_region_with (first | (go_at_call 31; (with_reducible refine (HT _).mono ?_); rintro e wa ⟨rfl, hba⟩; have Ma := M'.below hba M'.lt; have Ba := next B' hba; clear hba; obtain ⟨u0, u1, u2, u3, u4, u5⟩ := five Ma) | (go_at_call 32; (with_reducible refine (HL _).mono ?_); rintro e wl ⟨rfl, rfl⟩) | (go_at_call 30; (with_reducible refine (HH _).mono ?_); rintro e wh ⟨rfl, rfl⟩) | (go_at_call 33; (with_reducible refine (HN _).mono ?_); rintro e wb ⟨rfl, hbb⟩; have Mb := Ma.below hbb Ma.lt; have Bb := next Ba hbb; clear hbb; obtain ⟨u0, u1, u2, u3, u4, u5⟩ := five Mb)))
      | (go_region_held3 (fun w' => w'.cell? ⟨w.heap.size, 0, none⟩ = some (.int .i64 c) ∧ w'.cell? ⟨w.heap.size, 1, none⟩ = some (.int .i64 t) ∧ w'.cell? ⟨w.heap.size, 2, none⟩ = some (.int .i64 n) ∧ w'.cell? ⟨w.heap.size, 3, none⟩ = some (.int .i64 m) ∧ w'.cell? ⟨w.heap.size, 4, none⟩ = some (.int .i64 k) ∧ Below w.heap.size w w') (first | assumption | (refine ⟨?_, ?_, ?_, ?_, ?_, ?_⟩ <;> first | assumption | go_keep)) (first | (go_at_call 31; (with_reducible refine (HT _).mono ?_); rintro e wa ⟨rfl, hba⟩; have Ma := M'.below hba M'.lt; have Ba := next B' hba; clear hba; obtain ⟨u0, u1, u2, u3, u4, u5⟩ := five Ma) | (go_at_call 32; (with_reducible refine (HL _).mono ?_); rintro e wl ⟨rfl, rfl⟩) | (go_at_call 30; (with_reducible refine (HH _).mono ?_); rintro e wh ⟨rfl, rfl⟩) | (go_at_call 33; (with_reducible refine (HN _).mono ?_); rintro e wb ⟨rfl, hbb⟩; have Mb := Ma.below hbb Ma.lt; have Bb := next Ba hbb; clear hbb; obtain ⟨u0, u1, u2, u3, u4, u5⟩ := five Mb)))
    all_goals
      go_wp2
      go_ret
      exact ⟨rfl, by assumption⟩

theorem all_only (l : List Ef) (h : ¬ l.length ≤ 4) : allB l = false := by unfold allB; rw [decide_eq_false h, Bool.false_and]
set_option maxRecDepth 100000 in
set_option maxHeartbeats 2000000 in
theorem rAll_any (sp : Option Addr) (n cap : Nat) (l : List Ef) (w : World) (h : EfsAt w sp n l) :
    Calls Tryd.prog 13 #[.slice sp n cap] w fun e w' => e = .returned (.bool (allB l)) ∧ Below w.heap.size w w' := by
  have hn := h.n
  have hm := h.m
  rcases Nat.eq_zero_or_pos n with h0 | h0
  · subst h0
    have e : allB l = true := by rw [List.eq_nil_of_length_eq_zero hn]; rfl
    rw [e]
    clear e h hn hm
    go_enter Tryd.func13, Tryd.ntmps13
    go_wp2
    refine wp_loop_rounds 1 ?_
    rw [rounds_succ]
    go_wp2
    go_ret
    exact ⟨rfl, Below.refl _ _⟩
  · obtain ⟨b, off, rfl, hbl, hc⟩ := h.c h0
    have C : Hid (∀ k, k < n → EfAt w b (off + k * 5) (l.getD k default)) := Lib.hid fun k hk => hc k _ (get_some (by omega))
    have HN := Lib.hid hn
    clear hc h hn
    go_enter Tryd.func13, Tryd.ntmps13
    go_wp2
    go_loopw [3] (fun i wr => ∃ k : Nat, k ≤ n ∧ i = .int .i64 k ∧ Hid ((l.take k).all Ef.ok = true ∧ Below w.heap.size w wr)) (fun i _ => n - (intOf i).toNat)
    case atStart => exact ⟨0, Nat.zero_le _, rfl, Lib.hid ⟨by simp, Below.refl _ _⟩⟩
    case round =>
      obtain ⟨k, hk, rfl, HT⟩ := hrel
      by_cases hlt : k < n
      · obtain ⟨c0, c1, c2, c3, c4⟩ := (C.out k hlt).below HT.out.2 hbl
        have HX := Lib.hid (fun h => all_take_succ (l := l) (k := k) (by rw [HN.out]; exact hlt) HT.out.1 h)
        have HY := Lib.hid (fun h => all_not (l := l) (k := k) (by rw [HN.out]; exact hlt) h)
        generalize l.getD k default = x at *
        obtain ⟨xc, xt, xn, xm, xk⟩ := x
        have HV := rValid_any xc xt xn xm xk
        dsimp only at c0 c1 c2 c3 c4
        cases hx : okE xc xt xn xm xk
        · go_wp2_with fail
          refine (HV _).mono ?_; rintro e w1 ⟨rfl, hb1⟩
          have B1 := next HT.out.2 hb1
          have e : allB l = false := by unfold allB; rw [HY.out hx, Bool.and_false]
          rw [hx]
          go_wp2
          go_ret
          exact ⟨ret_bool e.symm, B1⟩
        · go_wp2_with fail
          refine (HV _).mono ?_; rintro e w1 ⟨rfl, hb1⟩
          have B1 := next HT.out.2 hb1
          rw [hx]
          go_wp2
          exact ⟨⟨k + 1, by omega, by go_num, Lib.hid ⟨HX.out hx, B1⟩⟩, by simp [intOf]; omega⟩
      · obtain rfl : k = n := by omega
        have e : allB l = decide ((k : Int) ≤ 4) := by
          have h1 := HT.out.1
          rw [List.take_of_length_le (by rw [HN.out]; exact Nat.le_refl _)] at h1
          unfold allB; rw [h1, Bool.and_true, HN.out]
          exact decide_eq_decide.2 (by omega)
        go_wp2
        go_ret
        exact ⟨ret_bool e.symm, HT.out.2⟩

def sameB (a b : List Ef) : Bool := decide (a = b)
theorem sameB_len {a b : List Ef} (h : a.length ≠ b.length) : sameB a b = false := by
  unfold sameB; exact decide_eq_false (fun e => h (by rw [e]))
theorem sameB_of {a b : List Ef} (h : a = b) : sameB a b = true := by unfold sameB; exact decide_eq_true h
theorem sameB_ne {a b : List Ef} (k : Nat) (h : a.getD k default ≠ b.getD k default) : sameB a b = false := by
  unfold sameB; exact decide_eq_false (fun e => h (by rw [e]))
theorem take_succ_of {a b : List Ef} {k : Nat} (h1 : k < a.length) (h2 : k < b.length) (h : a.take k = b.take k) (he : a.getD k default = b.getD k default) : a.take (k + 1) = b.take (k + 1) := by
  rw [List.take_succ_eq_append_getElem h1, List.take_succ_eq_append_getElem h2, h]
  simp [List.getD_eq_getElem?_getD, h1, h2] at he
  rw [he]
theorem eq5_ef (x y : Ef) : eq5 x.c x.t x.n x.m x.k y.c y.t y.n y.m y.k = decide (x = y) := by
  rw [Bool.eq_iff_iff, eq5_iff, decide_eq_true_eq]
  cases x; cases y; simp
set_option maxRecDepth 100000 in
set_option maxHeartbeats 2000000 in
theorem Same_any (s1 s2 : Option Addr) (n1 n2 c1 c2 : Nat) (a b : List Ef) (w : World) (h1 : EfsAt w s1 n1 a) (h2 : EfsAt w s2 n2 b) :
    Calls Tryd.prog 34 #[.slice s1 n1 c1, .slice s2 n2 c2] w fun e w' => e = .returned (.bool (sameB a b)) ∧ Below w.heap.size w w' := by
  have l1 := h1.n
  have l2 := h2.n
  have m1 := h1.m
  have m2 := h2.m
  by_cases hn : n1 = n2
  · subst hn
    rcases Nat.eq_zero_or_pos n1 with h0 | h0
    · subst h0
      have e : sameB a b = true := sameB_of (by rw [List.eq_nil_of_length_eq_zero l1, List.eq_nil_of_length_eq_zero l2])
      rw [e]
      clear e h1 h2 l1 l2
      go_enter Tryd.func34, Tryd.ntmps34
      go_wp2
      refine wp_loop_rounds 1 ?_
      rw [rounds_succ]
      go_wp2
      go_ret
      exact ⟨rfl, Below.refl _ _⟩
    · obtain ⟨b1, o1, rfl, hb1, hc1⟩ := h1.c h0
      obtain ⟨b2, o2, rfl, hb2, hc2⟩ := h2.c h0
      have C1 : Hid (∀ k, k < n1 → EfAt w b1 (o1 + k * 5) (a.getD k default)) := Lib.hid fun k hk => hc1 k _ (get_some (by omega))
      have C2 : Hid (∀ k, k < n1 → EfAt w b2 (o2 + k * 5) (b.getD k default)) := Lib.hid fun k hk => hc2 k _ (get_some (by omega))
      have L1 := Lib.hid l1
      have L2 := Lib.hid l2
      clear hc1 hc2 h1 h2 l1 l2
      go_enter Tryd.func34, Tryd.ntmps34
      go_wp2
      go_loopw [5] (fun i wr => ∃ k : Nat, k ≤ n1 ∧ i = .int .i64 k ∧ a.take k = b.take k ∧ ∃ n, wr = w.drewN n) (fun i _ => n1 - (intOf i).toNat)
      case atStart => exact ⟨0, Nat.zero_le _, rfl, rfl, 0, rfl⟩
      case round =>
        obtain ⟨k, hk, rfl, ht, n, rfl⟩ := hrel
        have HT := Lib.hid ht
        clear ht
        by_cases hlt : k < n1
        · obtain ⟨d0, d1, d2, d3, d4⟩ := C1.out k hlt
          obtain ⟨e0, e1, e2, e3, e4⟩ := C2.out k hlt
          have HX := Lib.hid (fun h => take_succ_of (by rw [L1.out]; exact hlt) (by rw [L2.out]; exact hlt) HT.out h)
          have HY := Lib.hid (fun h => sameB_ne (a := a) (b := b) k h)
          have NE := neE_run (a.getD k default).c (a.getD k default).t (a.getD k default).n (a.getD k default).m (a.getD k default).k (b.getD k default).c (b.getD k default).t (b.getD k default).n (b.getD k default).m (b.getD k default).k
          rw [eq5_ef] at NE
          generalize a.getD k default = x at *
          generalize b.getD k default = y at *
          obtain ⟨xc, xt, xn, xm, xk⟩ := x
          obtain ⟨yc, yt, yn, ym, yk⟩ := y
          dsimp only at d0 d1 d2 d3 d4 e0 e1 e2 e3 e4 NE
          by_cases hx : (⟨xc, xt, xn, xm, xk⟩ : Ef) = ⟨yc, yt, yn, ym, yk⟩
          · have hx2 := HX.out hx
            have HX2 := Lib.hid hx2
            rw [decide_eq_true hx] at NE
            clear hx hx2 HX HY
            go_wp2
            go_quiet (fail)
            go_wp2
            exact ⟨⟨k + 1, by omega, by go_num, HX2.out, n + nq, rfl⟩, by simp [intOf]; omega⟩
          · have es := HY.out hx
            have ES := Lib.hid es
            rw [decide_eq_false hx] at NE
            clear hx es HX HY
            go_wp2
            go_quiet (fail)
            go_wp2
            go_ret
            exact ⟨by rw [ES.out]; rfl, dN (dN (Below.refl _ _) _) _⟩
        · obtain rfl : k = n1 := by omega
          have es : sameB a b = true := sameB_of (by have := HT.out; rw [List.take_of_length_le (by rw [L1.out]; omega), List.take_of_length_le (by rw [L2.out]; omega)] at this; exact this)
          have ES := Lib.hid es
          clear es
          go_wp2
          go_ret
          exact ⟨by rw [ES.out]; rfl, dN (Below.refl _ _) _⟩
  · have e : sameB a b = false := sameB_len (by omega)
    rw [e]
    have hne : ((n1 : Int) != (n2 : Int)) = true := by rw [bne_iff_ne]; omega
    clear e h1 h2 l1 l2 hn
    go_enter Tryd.func34, Tryd.ntmps34
    go_wp2
    go_ret
    exact ⟨rfl, Below.refl _ _⟩
end Go.Proofs.YtfdolapiikgebaaDoor.efFn
