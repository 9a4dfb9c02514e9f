/- The law EffectValid. -/
import Derived.Test.YtfdolapiikgebaaDoorEfLawE
import Derived.Deep.RegionHeld3
namespace Go.Proofs.YtfdolapiikgebaaDoor.efFn
open Go.ChangeShapes Go.WideShapes Go.ChangeAt Go.RowKit drMem
set_option linter.unusedVariables false

set_option maxRecDepth 100000 in
set_option maxHeartbeats 8000000 in
theorem Valid_law (sp : Option Addr) (n cap : Nat) (l : List Ef) (w : World) (hG : G w) (h : EfsAt w sp n l) :
    Calls Tryd.prog 3 #[.slice sp n cap] w (lawPost w) := by
  have HG := Lib.hid hG
  have HH := Lib.hid h
  have hn := h.n
  have hm := h.m
  clear hG
  by_cases hl : n ≤ 20
  · rcases Nat.eq_zero_or_pos n with h0 | h0
    · subst h0
      obtain rfl := List.eq_nil_of_length_eq_zero hn
      clear h hn hm
      have HB := Lib.hid (Below.refl w.heap.size w)
      obtain ⟨sp0, hsp⟩ : ∃ x, x = sp := ⟨_, rfl⟩
      subst hsp
      obtain ⟨l, hl0⟩ : ∃ l : List Ef, l = [] := ⟨_, rfl⟩
      rw [← hl0] at HH
      have hz : tgN l = 0 := by rw [hl0]; rfl
      clear hl0
      go_enter Tryd.func3, Tryd.ntmps3
      go_wp2
      refine wp_loop_rounds 1 ?_
      rw [rounds_succ]
      have HA1 := All_any sp0 0 cap l
      have HA2 := rAll_any sp0 0 cap l
      have HTG := Targets_any sp0 0 cap l
      generalize allB l = ab at HA1 HA2
      go_wp2_with fail
      refine (HA1 _ (HH.out.below HB.out (Nat.le_refl _))).mono ?_; rintro e v1 ⟨rfl, hb1⟩
      have HB := Lib.hid (next HB.out hb1)
      clear hb1 HA1
      go_wp2_with fail
      refine (HA2 _ (HH.out.below HB.out (Nat.le_refl _))).mono ?_; rintro e v2 ⟨rfl, hb2⟩
      have HB := Lib.hid (next HB.out hb2)
      clear hb2 HA2
      have hbb : (ab == ab) = true := by simp
      go_wp2_with fail
      refine (HTG _ (HH.out.below HB.out (Nat.le_refl _))).mono ?_; rintro e v3 ⟨rfl, hb3⟩
      have HB := Lib.hid (next HB.out hb3)
      clear hb3 HTG
      rw [hz]
      go_wp2_with fail
      refine (known_any _ (HG.out.below HB.out)).mono ?_; rintro e v4 ⟨rfl, hb4⟩
      have HB := Lib.hid (next HB.out hb4)
      clear hb4
      go_wp2_with fail
      go_ret
      exact ⟨rfl, HB.out⟩
    · obtain ⟨b, off, rfl, hbl, hc⟩ := h.c h0
      have C : Hid (∀ k, k < n → EfAt w b (off + k * 5) (l.getD k default)) := Lib.hid fun k hk => hc k _ (get_some (by omega))
      have HN := Lib.hid hn
      clear hc h hn
      go_enter Tryd.func3, Tryd.ntmps3
      go_wp2
      go_loopw [3, 12] (fun v i wr => ∃ k : Nat, ∃ z : Int, k ≤ n ∧ i = .int .i64 k ∧ v = .int .i64 z ∧ Hid (z = (tgN (l.take k) : Nat) ∧ Below w.heap.size w wr)) (fun _ i _ => n - (intOf i).toNat)
      case atStart => exact ⟨0, 0, Nat.zero_le _, rfl, rfl, Lib.hid ⟨by simp [tgN], Below.refl _ _⟩⟩
      case round =>
        obtain ⟨k, z, hk, rfl, rfl, HT⟩ := hrel
        by_cases hlt : k < n
        · obtain ⟨c0, c1, c2, c3, c4⟩ := (C.out k hlt).below HT.out.2 hbl
          have HX := Lib.hid (tg_yes (l := l) (k := k) (by rw [HN.out]; exact hlt))
          have HY := Lib.hid (tg_no (l := l) (k := k) (by rw [HN.out]; exact hlt))
          generalize l.getD k default = x at *
          obtain ⟨xc, xt, xn, xm, xk⟩ := x
          dsimp only at c0 c1 c2 c3 c4 HX HY
          have hz0 : 0 ≤ z := by have := HT.out.1; omega
          have hz1 : z < 9223372036854775807 := by have := HT.out.1; have := tg_le (l.take k); have := List.length_take_le k l; omega
          have HV1 := Valid_any xc xt xn xm xk
          have HV2 := rValid_any xc xt xn xm xk
          generalize okE xc xt xn xm xk = ok at HV1 HV2
          have MD : has (wr.alloc (.cells #[.int .i64 xc, .int .i64 xt, .int .i64 xn, .int .i64 xm, .int .i64 xk] 28)).drew wr.heap.size 28 (eL xc xt xn xm xk) := new0 wr 28 (eL xc xt xn xm xk)
          have BD : Below w.heap.size w (wr.alloc (.cells #[.int .i64 xc, .int .i64 xt, .int .i64 xn, .int .i64 xm, .int .i64 xk] 28)).drew := (HT.out.2.alloc HT.out.2.size _).drew
          go_wp2_with fail
          obtain ⟨u0, u1, u2, u3, u4, u5⟩ := five MD
          clear c0 c1 c2 c3 c4
          go_region_held3 (fun w' => w'.cell? ⟨wr.heap.size, 0, none⟩ = some (.int .i64 xc) ∧ w'.cell? ⟨wr.heap.size, 1, none⟩ = some (.int .i64 xt) ∧ w'.cell? ⟨wr.heap.size, 2, none⟩ = some (.int .i64 xn) ∧ w'.cell? ⟨wr.heap.size, 3, none⟩ = some (.int .i64 xm) ∧ w'.cell? ⟨wr.heap.size, 4, none⟩ = some (.int .i64 xk) ∧ Below w.heap.size w w') (first | assumption | (refine ⟨?_, ?_, ?_, ?_, ?_, ?_⟩ <;> first | assumption | go_keep)) (first | (go_at_call 10; (with_reducible refine (HV1 _).mono ?_); rintro e wa ⟨rfl, hba⟩; have Ma := has.below (by assumption) hba (has.lt (by assumption)); have Ba := next (by assumption) hba; clear hba; obtain ⟨u0, u1, u2, u3, u4, u5⟩ := five Ma) | (go_at_call 11; (with_reducible refine (HV2 _).mono ?_); rintro e wb ⟨rfl, hbb⟩; have Mb := has.below (by assumption) hbb (has.lt (by assumption)); have Bb := next (by assumption) hbb; clear hbb; obtain ⟨u0, u1, u2, u3, u4, u5⟩ := five Mb))
          all_goals
            have hbb : (ok != ok) = false := by simp
            have HB := Lib.hid Bb
            clear BD MD Ma Ba Mb Bb HV1 HV2
            cases hx : (xt != 0)
            · go_wp2_with fail
              exact ⟨⟨k + 1, z, by omega, by go_num, rfl, Lib.hid ⟨by rw [HY.out hx]; exact HT.out.1, HB.out⟩⟩, by simp [intOf]; omega⟩
            · go_wp2_with fail
              exact ⟨⟨k + 1, z + 1, by omega, by go_num, by go_num, Lib.hid ⟨by rw [HX.out hx, HT.out.1]; omega, HB.out⟩⟩, by simp [intOf]; omega⟩
        · obtain rfl : k = n := by omega
          have e : z = (tgN l : Nat) := by
            rw [HT.out.1, List.take_of_length_le (by rw [HN.out]; exact Nat.le_refl _)]
          have HB := Lib.hid HT.out.2
          subst e
          clear HT C
          have HA1 := All_any (some ⟨b, off, none⟩) k cap l
          have HA2 := rAll_any (some ⟨b, off, none⟩) k cap l
          have HTG := Targets_any (some ⟨b, off, none⟩) k cap l
          generalize allB l = ab at HA1 HA2
          go_wp2_with fail
          refine (HA1 _ (HH.out.below HB.out (Nat.le_refl _))).mono ?_; rintro e v1 ⟨rfl, hb1⟩
          have HB := Lib.hid (next HB.out hb1)
          clear hb1 HA1
          go_wp2_with fail
          refine (HA2 _ (HH.out.below HB.out (Nat.le_refl _))).mono ?_; rintro e v2 ⟨rfl, hb2⟩
          have HB := Lib.hid (next HB.out hb2)
          clear hb2 HA2
          have hbb : (ab == ab) = true := by simp
          go_wp2_with fail
          refine (HTG _ (HH.out.below HB.out (Nat.le_refl _))).mono ?_; rintro e v3 ⟨rfl, hb3⟩
          have HB := Lib.hid (next HB.out hb3)
          clear hb3 HTG
          skip
          go_wp2_with fail
          refine (known_any _ (HG.out.below HB.out)).mono ?_; rintro e v4 ⟨rfl, hb4⟩
          have HB := Lib.hid (next HB.out hb4)
          clear hb4
          go_wp2_with fail
          go_ret
          exact ⟨rfl, HB.out⟩
  · have HK := known_any w HG.out
    clear h
    go_enter Tryd.func3, Tryd.ntmps3
    go_wp2_with fail
    refine HK.mono ?_; rintro e w1 ⟨rfl, hb1⟩
    have HB := Lib.hid hb1
    clear hb1 HK
    go_wp2_with fail
    go_ret
    exact ⟨rfl, HB.out⟩
end Go.Proofs.YtfdolapiikgebaaDoor.efFn
