/- The law EffectCodes. -/
import Derived.Test.YtfdolapiikgebaaDoorEfLawE
import Derived.Deep.RegionHeld3
namespace Go.Proofs.YtfdolapiikgebaaDoor.efFn
open Go.ChangeShapes Go.WideShapes Go.ChangeAt Go.RowKit drMem
set_option linter.unusedVariables false

set_option maxRecDepth 100000 in
set_option maxHeartbeats 4000000 in
theorem of_any (c t n m k : Int) (w : World) : Calls Tryd.prog 15 #[.int .i64 c, .int .i64 t, .int .i64 n, .int .i64 m, .int .i64 k] w fun e w' => e = .returned (eV c t n m k) ∧ Below w.heap.size w w' := by
  go_enter Tryd.func15, Tryd.ntmps15
  go_wp2
  have RF := new0 w 28 (eL c t n m k)
  have BF : Below w.heap.size w (w.alloc (.cells #[.int .i64 c, .int .i64 t, .int .i64 n, .int .i64 m, .int .i64 k] 28)) := (Below.refl _ _).alloc (Nat.le_refl _) _
  obtain ⟨r0, r1, r2, r3, r4, r5⟩ := five RF
  exact bodyPost_ret (v := eV c t n m k) (by simp [results, Tryd.results15, go_sem, r0, r1, r2, r3, r4]) rfl ⟨rfl, BF⟩
theorem six_wf {c t n m k : Int} (hc : i64ok c) (ht : i64ok t) (hn : i64ok n) (hm : i64ok m) (hk : i64ok k) :
    ∀ e ∈ ([⟨c, t, n, m, k⟩, ⟨c, t, n, 0, 0⟩, ⟨c, t, 0, 0, 0⟩, ⟨c, t, n, m, 0⟩, ⟨c, t, n, 0, k⟩, ⟨c, t, 0, m, 0⟩] : List Ef), e.wf := by
  have h0 : i64ok 0 := by unfold i64ok; omega
  intro e he
  simp only [List.mem_cons, List.not_mem_nil, or_false] at he
  rcases he with rfl | rfl | rfl | rfl | rfl | rfl <;> exact ⟨by assumption, by assumption, by assumption, by assumption, by assumption⟩
set_option maxRecDepth 100000 in
set_option maxHeartbeats 8000000 in
theorem Codes_law (c n m k : Int) (w : World) (hG : G w) (hc : i64ok c) (hn : i64ok n) (hm : i64ok m) (hk : i64ok k) :
    Calls Tryd.prog 4 #[.int .i64 c, .int .i64 n, .int .i64 m, .int .i64 k] w (lawPost w) := by
  have HG := Lib.hid hG
  have HWF := Lib.hid (fun t (ht : i64ok t) => six_wf hc ht hn hm hk)
  clear hG hc hn hm hk
  go_enter Tryd.func4, Tryd.ntmps4
  go_wp2
  go_loopw [9] (fun i wr => ∃ j : Nat, j ≤ 9 ∧ i = .int .i64 ((j : Int) - 1) ∧ Hid (Below w.heap.size w wr)) (fun i _ => 9 - (intOf i + 1).toNat)
  case atStart => exact ⟨0, by omega, by simp, Lib.hid (Below.refl _ _)⟩
  case round =>
    obtain ⟨j, hj, rfl, HB⟩ := hrel
    by_cases hlt : j ≤ 8
    · obtain ⟨t, ht⟩ : ∃ t : Int, t = (j : Int) - 1 := ⟨_, rfl⟩
      have t_hi : t ≤ 7 := by omega
      have t_lo : -2 < t := by omega
      have HJ : Hid (t + 1 = ((j + 1 : Nat) : Int) - 1 ∧ 9 - (t + 1 + 1).toNat < 9 - (t + 1).toNat ∧ j + 1 ≤ 9) := Lib.hid ⟨by omega, by omega, by omega⟩
      rw [← ht]
      clear ht hj hlt
      have H0 := of_any c t n m k
      have H1 := of_any c t n 0 0
      have H2 := of_any c t 0 0 0
      have H3 := of_any c t n m 0
      have H4 := of_any c t n 0 k
      have H5 := of_any c t 0 m 0
      go_wp2_with fail
      refine (H0 _).mono ?_; rintro e w1 ⟨rfl, hb⟩
      have HB := Lib.hid (next HB.out hb)
      clear hb H0
      go_wp2_with fail
      refine (H1 _).mono ?_; rintro e w2 ⟨rfl, hb⟩
      have HB := Lib.hid (next HB.out hb)
      clear hb H1
      go_wp2_with fail
      refine (H2 _).mono ?_; rintro e w3 ⟨rfl, hb⟩
      have HB := Lib.hid (next HB.out hb)
      clear hb H2
      go_wp2_with fail
      refine (H3 _).mono ?_; rintro e w4 ⟨rfl, hb⟩
      have HB := Lib.hid (next HB.out hb)
      clear hb H3
      go_wp2_with fail
      refine (H4 _).mono ?_; rintro e w5 ⟨rfl, hb⟩
      have HB := Lib.hid (next HB.out hb)
      clear hb H4
      go_wp2_with fail
      refine (H5 _).mono ?_; rintro e w6 ⟨rfl, hb⟩
      have HB := Lib.hid (next HB.out hb)
      clear hb H5
      have HS := (show has (w6.alloc (.cells #[.int .i64 c, .int .i64 t, .int .i64 n, .int .i64 m, .int .i64 k, .int .i64 c, .int .i64 t, .int .i64 n, .int .i64 0, .int .i64 0, .int .i64 c, .int .i64 t, .int .i64 0, .int .i64 0, .int .i64 0, .int .i64 c, .int .i64 t, .int .i64 n, .int .i64 m, .int .i64 0, .int .i64 c, .int .i64 t, .int .i64 n, .int .i64 0, .int .i64 k, .int .i64 c, .int .i64 t, .int .i64 0, .int .i64 m, .int .i64 0] 28)) w6.heap.size 28 (efC [⟨c, t, n, m, k⟩, ⟨c, t, n, 0, 0⟩, ⟨c, t, 0, 0, 0⟩, ⟨c, t, n, m, 0⟩, ⟨c, t, n, 0, k⟩, ⟨c, t, 0, m, 0⟩]) from new0 w6 28 (efC [⟨c, t, n, m, k⟩, ⟨c, t, n, 0, 0⟩, ⟨c, t, 0, 0, 0⟩, ⟨c, t, n, m, 0⟩, ⟨c, t, n, 0, k⟩, ⟨c, t, 0, m, 0⟩]))
      have HE := EfsAt.of_src (src.of HS) (HWF.out t ⟨by omega, by omega⟩) (by simp)
      have HBA := Lib.hid (HB.out.alloc HB.out.size (.cells #[.int .i64 c, .int .i64 t, .int .i64 n, .int .i64 m, .int .i64 k, .int .i64 c, .int .i64 t, .int .i64 n, .int .i64 0, .int .i64 0, .int .i64 c, .int .i64 t, .int .i64 0, .int .i64 0, .int .i64 0, .int .i64 c, .int .i64 t, .int .i64 n, .int .i64 m, .int .i64 0, .int .i64 c, .int .i64 t, .int .i64 n, .int .i64 0, .int .i64 k, .int .i64 c, .int .i64 t, .int .i64 0, .int .i64 m, .int .i64 0] 28))
      obtain ⟨b, off, hbo, hbl, hcc⟩ := HE.c (by simp)
      cases hbo
      generalize hl6 : ([⟨c, t, n, m, k⟩, ⟨c, t, n, 0, 0⟩, ⟨c, t, 0, 0, 0⟩, ⟨c, t, n, m, 0⟩, ⟨c, t, n, 0, k⟩, ⟨c, t, 0, m, 0⟩] : List Ef) = l at *
      have hlen : l.length = 6 := by rw [← hl6]; rfl
      clear hl6 HE HS
      have C : Hid (∀ q, q < 6 → EfAt (w6.alloc (.cells #[.int .i64 c, .int .i64 t, .int .i64 n, .int .i64 m, .int .i64 k, .int .i64 c, .int .i64 t, .int .i64 n, .int .i64 0, .int .i64 0, .int .i64 c, .int .i64 t, .int .i64 0, .int .i64 0, .int .i64 0, .int .i64 c, .int .i64 t, .int .i64 n, .int .i64 m, .int .i64 0, .int .i64 c, .int .i64 t, .int .i64 n, .int .i64 0, .int .i64 k, .int .i64 c, .int .i64 t, .int .i64 0, .int .i64 m, .int .i64 0] 28)) w6.heap.size (0 + q * 5) (l.getD q default)) := Lib.hid fun q hq => hcc q _ (get_some (by omega))
      clear hcc hlen
      go_wp2_with fail
      generalize (w6.alloc (.cells #[.int .i64 c, .int .i64 t, .int .i64 n, .int .i64 m, .int .i64 k, .int .i64 c, .int .i64 t, .int .i64 n, .int .i64 0, .int .i64 0, .int .i64 c, .int .i64 t, .int .i64 0, .int .i64 0, .int .i64 0, .int .i64 c, .int .i64 t, .int .i64 n, .int .i64 m, .int .i64 0, .int .i64 c, .int .i64 t, .int .i64 n, .int .i64 0, .int .i64 k, .int .i64 c, .int .i64 t, .int .i64 0, .int .i64 m, .int .i64 0] 28)) = wz at *
      go_loopw [45] (fun i ws => ∃ q : Nat, q ≤ 6 ∧ i = .int .i64 q ∧ Hid (Below w.heap.size w ws ∧ Below wz.heap.size wz ws)) (fun i _ => 6 - (intOf i).toNat)
      case atStart => exact ⟨0, by omega, rfl, Lib.hid ⟨HBA.out, Below.refl _ _⟩⟩
      case round =>
        obtain ⟨q, hq, rfl, HT⟩ := hrel
        by_cases hlq : q < 6
        · obtain ⟨c0, c1, c2, c3, c4⟩ := (C.out q hlq).below HT.out.2 hbl
          generalize l.getD q default = x at *
          obtain ⟨xc, xt, xn, xm, xk⟩ := x
          simp only [Nat.zero_add] at c0 c1 c2 c3 c4
          have HV1 := Valid_any xc xt xn xm xk
          have HV2 := rValid_any xc xt xn xm xk
          generalize okE xc xt xn xm xk = ok at HV1 HV2
          have MD : has (wr.alloc (.cells #[.int .i64 xc, .int .i64 xt, .int .i64 xn, .int .i64 xm, .int .i64 xk] 28)).drew wr.heap.size 28 (eL xc xt xn xm xk) := new0 wr 28 (eL xc xt xn xm xk)
          have BD : Below w.heap.size w (wr.alloc (.cells #[.int .i64 xc, .int .i64 xt, .int .i64 xn, .int .i64 xm, .int .i64 xk] 28)).drew := (HT.out.1.alloc HT.out.1.size _).drew
          have BZ : Below wz.heap.size wz (wr.alloc (.cells #[.int .i64 xc, .int .i64 xt, .int .i64 xn, .int .i64 xm, .int .i64 xk] 28)).drew := (HT.out.2.alloc HT.out.2.size _).drew
          go_wp2_with fail
          obtain ⟨u0, u1, u2, u3, u4, u5⟩ := five MD
          clear c0 c1 c2 c3 c4
          go_region_held3 (fun w' => w'.cell? ⟨wr.heap.size, 0, none⟩ = some (.int .i64 xc) ∧ w'.cell? ⟨wr.heap.size, 1, none⟩ = some (.int .i64 xt) ∧ w'.cell? ⟨wr.heap.size, 2, none⟩ = some (.int .i64 xn) ∧ w'.cell? ⟨wr.heap.size, 3, none⟩ = some (.int .i64 xm) ∧ w'.cell? ⟨wr.heap.size, 4, none⟩ = some (.int .i64 xk) ∧ Below w.heap.size w w' ∧ Below wz.heap.size wz w') (first | assumption | (refine ⟨?_, ?_, ?_, ?_, ?_, ?_, ?_⟩ <;> first | assumption | go_keep)) (first | (go_at_call 10; (with_reducible refine (HV1 _).mono ?_); rintro e wa ⟨rfl, hba⟩; have Ma := has.below (by assumption) hba (has.lt (by assumption)); have Ba := next BD hba; have Za := next BZ hba; clear hba; obtain ⟨u0, u1, u2, u3, u4, u5⟩ := five Ma) | (go_at_call 11; (with_reducible refine (HV2 _).mono ?_); rintro e wb ⟨rfl, hbb⟩; have Mb := has.below (by assumption) hbb (has.lt (by assumption)); have Bb := next Ba hbb; have Zb := next Za hbb; clear hbb; obtain ⟨u0, u1, u2, u3, u4, u5⟩ := five Mb))
          have hbb : (ok != ok) = false := by simp
          have HB := Lib.hid (And.intro Bb Zb)
          clear BD MD BZ Ma Ba Za Mb Bb Zb HV1 HV2 u0 u1 u2 u3 u4 u5
          go_wp2_with fail
          exact ⟨⟨q + 1, by omega, by go_num, HB⟩, by simp [intOf]; omega⟩
        · obtain rfl : q = 6 := by omega
          have HB := Lib.hid HT.out.1
          clear HT C
          go_wp2_with fail
          exact ⟨⟨j + 1, HJ.out.2.2, by rw [← HJ.out.1], HB⟩, HJ.out.2.1⟩
    · obtain rfl : j = 9 := by omega
      go_wp2_with fail
      refine (known_any _ (HG.out.below HB.out)).mono ?_; rintro e v4 ⟨rfl, hb4⟩
      have HB := Lib.hid (next HB.out hb4)
      clear hb4
      go_wp2_with fail
      go_ret
      exact ⟨rfl, HB.out⟩
end Go.Proofs.YtfdolapiikgebaaDoor.efFn
