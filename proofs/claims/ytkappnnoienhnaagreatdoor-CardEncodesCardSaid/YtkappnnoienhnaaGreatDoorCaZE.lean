/- Joined texts: CaLawE -/
import Derived.Test.YtkappnnoienhnaaGreatDoorCaZP
import Derived.Test.YtkappnnoienhnaaGreatDoorCaZV
import Derived.Test.YtkappnnoienhnaaGreatDoorCaZK
/- The law CardEncodes. -/
namespace Go.Proofs.YtkappnnoienhnaaGreatDoor.caFn
open Go.ChangeShapes Go.WideShapes Go.ChangeAt Go.RowKit drMem efFn
set_option linter.unusedVariables false

set_option maxRecDepth 100000 in
set_option maxHeartbeats 8000000 in
theorem Encodes_law (q : Cd) (es : Option Addr) (en ec : Nat) (ts : Option Addr) (tn tc : Nat) (w : World) (hG : G w) (hp : CdAt w es en q.ef ts tn q.tr) (hpc : tn ≤ tc) :
    Calls Tryz.prog 3 #[cdV q es en ec ts tn tc] w (lawPost w) := by
  have HG := Lib.hid hG
  have HP := Lib.hid hp
  have HTN := Lib.hid hpc
  have HA := Lib.hid (new0 w 32 (cL (bs q.nm) q.kd q.a q.b q.c q.d q.x q.ml q.pw q.tg q.kw es en ec ts tn tc q.ra))
  have HB := Lib.hid (show Below w.heap.size w (w.alloc (.cells #[.string (bs q.nm), .int .i64 q.kd, .int .i64 q.a, .int .i64 q.b, .int .i64 q.c, .int .i64 q.d, .int .i64 q.x, .int .i64 q.ml, .int .i64 q.pw, .int .i64 q.tg, .int .i64 q.kw, .slice es en ec, .slice ts tn tc, .int .i64 q.ra] 32)) from (Below.refl _ w).alloc (Nat.le_refl _) _)
  have hm1 := hp.e.m
  clear hG hp hpc
  obtain ⟨u0, u1, u2, u3, u4, u5, u6, u7, u8, u9, u10, u11, u12, u13, u14⟩ := card14 HA.out
  go_enter Tryz.func3, Tryz.ntmps3
  go_wp2_with fail
  refine (light_any (bs q.nm) q.kd q.a q.b q.c q.d q.x q.ml q.pw q.tg q.kw es en ec ts tn tc q.ra q.tr _ (HP.out.t.below HB.out (Nat.le_refl _)) (by omega)).mono ?_; rintro v w1 ⟨b1, rfl, _, hb⟩
  have HA := Lib.hid (HA.out.below hb HA.out.lt)
  have HB := Lib.hid (next HB.out hb)
  clear hb
  clear u0 u1 u2 u3 u4 u5 u6 u7 u8 u9 u10 u11 u12 u13 u14
  obtain ⟨u0, u1, u2, u3, u4, u5, u6, u7, u8, u9, u10, u11, u12, u13, u14⟩ := card14 HA.out
  cases b1
  · go_wp2_with fail
    refine (known_any _ (HG.out.below HB.out)).mono ?_; rintro e wk ⟨rfl, hbk⟩
    have HB := Lib.hid (next HB.out hbk)
    clear hbk
    go_wp2_with fail
    go_ret
    exact ⟨rfl, HB.out⟩
  go_wp2_with fail
  have HV := rValid_c (bs q.nm) q.kd q.a q.b q.c q.d q.x q.ml q.pw q.tg q.kw es en ec ts tn tc q.ra q.ef q.tr w1 (HP.out.below HB.out (Nat.le_refl _))
  rw [show okCd ⟨(bs q.nm).data.toList, q.kd, q.a, q.b, q.c, q.d, q.x, q.ml, q.pw, q.tg, q.kw, q.ef, q.tr, q.ra⟩ = okCd q from rfl] at HV
  have HEN : Hid (∀ (sq : Option Addr) (nq cq : Nat) (lw : List UInt8) (no : Int) (W : World), Below w.heap.size w W → BsAt W sq nq lw → cdZ q = (lw, no) → Calls Tryz.prog 8 #[cdV q es en ec ts tn tc, .slice sq nq cq, .int .i64 no] W fun v w' => v = .returned (.bool true) ∧ Below W.heap.size W w') := Lib.hid fun sq nq cq lw no W hW hs hz => by
    have h7 := encodes_any (bs q.nm) q.kd q.a q.b q.c q.d q.x q.ml q.pw q.tg q.kw es en ec ts tn tc q.ra q.ef q.tr sq nq cq lw no W (HP.out.below hW (Nat.le_refl _)) HTN.out hs
    rw [show (true : Bool) = decide (cdZ q = (lw, no)) from (decide_eq_true hz).symm]
    exact h7
  have HLN : Hid (∀ (sl : List UInt8) (no : Int) (W : World), Below w.heap.size w W → lnZ q = (sl, no) → Calls Tryz.prog 9 #[cdV q es en ec ts tn tc, .string (bs sl), .int .i64 no] W fun v w' => v = .returned (.bool true) ∧ Below W.heap.size W w') := Lib.hid fun sl no W hW hz => by
    have h7 := lines_any (bs q.nm) q.kd q.a q.b q.c q.d q.x q.ml q.pw q.tg q.kw es en ec ts tn tc q.ra q.ef q.tr sl no W (HP.out.below hW (Nat.le_refl _)) (fun W' hB' => LineV_any (bs q.nm) q.kd q.a q.b q.c q.d q.x q.ml q.pw q.tg q.kw es en ec ts tn tc q.ra q.ef q.tr W' (HP.out.below (hW.trans (hB'.mono hW.size)) (Nat.le_refl _)) HTN.out (HG.out.below (hW.trans (hB'.mono hW.size))))
    rw [show (true : Bool) = decide (lnZ q = (sl, no)) from (decide_eq_true hz).symm]
    exact h7
  cases ho : okCd q
  · rw [ho] at HV
    have h1 := cdZ_no ho
    have h2 := lnZ_no ho
    clear ho
    refine HV.mono ?_; rintro v w2 ⟨rfl, hb⟩
    have HA := Lib.hid (HA.out.below hb HA.out.lt)
    have HB := Lib.hid (next HB.out hb)
    clear hb HV
    clear u0 u1 u2 u3 u4 u5 u6 u7 u8 u9 u10 u11 u12 u13 u14
    obtain ⟨u0, u1, u2, u3, u4, u5, u6, u7, u8, u9, u10, u11, u12, u13, u14⟩ := card14 HA.out
    go_wp2_with fail
    refine (HEN.out none 0 0 [] 2 w2 HB.out (BsAt.nil _ _) h1).mono ?_; rintro v w3 ⟨rfl, hb⟩
    have HA := Lib.hid (HA.out.below hb HA.out.lt)
    have HB := Lib.hid (next HB.out hb)
    clear hb h1
    clear u0 u1 u2 u3 u4 u5 u6 u7 u8 u9 u10 u11 u12 u13 u14
    obtain ⟨u0, u1, u2, u3, u4, u5, u6, u7, u8, u9, u10, u11, u12, u13, u14⟩ := card14 HA.out
    go_wp2_with fail
    refine (HLN.out [] 2 w3 HB.out h2).mono ?_; rintro v w4 ⟨rfl, hb⟩
    have HB := Lib.hid (next HB.out hb)
    clear hb h2
    clear u0 u1 u2 u3 u4 u5 u6 u7 u8 u9 u10 u11 u12 u13 u14
    go_wp2_with fail
    refine (known_any _ (HG.out.below HB.out)).mono ?_; rintro e wk ⟨rfl, hbk⟩
    have HB := Lib.hid (next HB.out hbk)
    clear hbk
    go_wp2_with fail
    go_ret
    exact ⟨rfl, HB.out⟩
  · rw [ho] at HV
    have h1 := cdZ_yes ho
    have h2 := lnZ_yes ho
    have HRE := Lib.hid (fun W (hW : Below w.heap.size w W) => rEncodeC_any (bs q.nm) q.kd q.a q.b q.c q.d q.x q.ml q.pw q.tg q.kw es en ec ts tn tc q.ra q.ef q.tr W (HP.out.below hW (Nat.le_refl _)) ho)
    have HRL := Lib.hid (fun W (hW : Below w.heap.size w W) => rLine_c (bs q.nm) q.kd q.a q.b q.c q.d q.x q.ml q.pw q.tg q.kw es en ec ts tn tc q.ra q.ef q.tr W (HP.out.below hW (Nat.le_refl _)) ho)
    clear ho
    refine HV.mono ?_; rintro v w2 ⟨rfl, hb⟩
    have HA := Lib.hid (HA.out.below hb HA.out.lt)
    have HB := Lib.hid (next HB.out hb)
    clear hb HV
    clear u0 u1 u2 u3 u4 u5 u6 u7 u8 u9 u10 u11 u12 u13 u14
    go_wp2_with fail
    have HA := Lib.hid (show has w2.drew w.heap.size 32 (cL (bs q.nm) q.kd q.a q.b q.c q.d q.x q.ml q.pw q.tg q.kw es en ec ts tn tc q.ra) from HA.out)
    have HB := Lib.hid HB.out.drew
    refine wp_region_held_drew (S := (fun w' => has w' w.heap.size 32 (cL (bs q.nm) q.kd q.a q.b q.c q.d q.x q.ml q.pw q.tg q.kw es en ec ts tn tc q.ra))) (by kernel_rfl) ?_ (fun hH0 => ?_)
    · exact HA.out
    refine wpAnyH_take (i := 0) (oi := _) (v := ?_) rfl (by kernel_rfl) (by kernel_rfl) (by kernel_rfl) (fun _ _ _ h => h) (Or.inl ⟨by rfl, ?_⟩) (by assumption) ?_
    rotate_left
    · intro w hSw; (try dsimp only at hSw); obtain ⟨x0, x1, x2, x3, x4, x5, x6, x7, x8, x9, x10, x11, x12, x13, x14⟩ := card14 hSw; first | (go_simp; done) | (go_simp; with_reducible rfl)
    try simp only [go_sem, Act.put, List.getElem_toArray, List.getElem_cons_zero, List.setIfInBounds_toArray, List.set_cons_succ, List.set_cons_zero]
    refine wpAnyH_take (i := 1) (oi := _) (v := ?_) rfl (by kernel_rfl) (by kernel_rfl) (by kernel_rfl) (fun _ _ _ h => h) (Or.inl ⟨by rfl, ?_⟩) (by assumption) ?_
    rotate_left
    · intro w hSw; (try dsimp only at hSw); obtain ⟨x0, x1, x2, x3, x4, x5, x6, x7, x8, x9, x10, x11, x12, x13, x14⟩ := card14 hSw; first | (go_simp; done) | (go_simp; with_reducible rfl)
    try simp only [go_sem, Act.put, List.getElem_toArray, List.getElem_cons_succ, List.getElem_cons_zero, List.setIfInBounds_toArray, List.set_cons_succ, List.set_cons_zero]
    refine wpAnyH_ready (rs := [2]) (by kernel_rfl) (by simp) ?_
    refine AllReadyH.cons (o := _) rfl (fun K hK => ?_) AllReadyH.nil
    go_simp; refine (HRE.out _ HB.out).mono ?_; rintro ee w3 ⟨sp, n, cap, rfl, hx, hb3⟩; have HA := Lib.hid (HA.out.below hb3 HA.out.lt); have HB := Lib.hid (next HB.out hb3); have HX := Lib.hid hx; clear hx hb3
    refine hK.out _ _ ?_ (fun hH1 => ?_)
    · exact HA.out
    clear hK K hH0
    try simp only [go_sem, Act.put, List.getElem_toArray, List.getElem_cons_succ, List.getElem_cons_zero, List.setIfInBounds_toArray, List.set_cons_succ, List.set_cons_zero]
    refine wpAnyH_ready (rs := [3]) (by kernel_rfl) (by simp) ?_
    refine AllReadyH.cons (o := _) rfl (fun K hK => ?_) AllReadyH.nil
    go_simp; refine (HEN.out sp n cap _ 0 _ HB.out HX.out h1).mono ?_; rintro ee w4 ⟨rfl, hb4⟩; have HA := Lib.hid (HA.out.below hb4 HA.out.lt); have HB := Lib.hid (next HB.out hb4)
    refine hK.out _ _ ?_ (fun hH2 => ?_)
    · exact HA.out
    clear hK K hH1
    try simp only [go_sem, Act.put, List.getElem_toArray, List.getElem_cons_succ, List.getElem_cons_zero, List.setIfInBounds_toArray, List.set_cons_succ, List.set_cons_zero]
    refine wpAnyH_take (i := 4) (oi := _) (v := ?_) rfl (by kernel_rfl) (by kernel_rfl) (by kernel_rfl) (fun _ _ _ h => h) (Or.inl ⟨by rfl, ?_⟩) (by assumption) ?_
    rotate_left
    · intro w hSw; (try dsimp only at hSw); obtain ⟨x0, x1, x2, x3, x4, x5, x6, x7, x8, x9, x10, x11, x12, x13, x14⟩ := card14 hSw; first | (go_simp; done) | (go_simp; with_reducible rfl)
    try simp only [go_sem, Act.put, List.getElem_toArray, List.getElem_cons_succ, List.getElem_cons_zero, List.setIfInBounds_toArray, List.set_cons_succ, List.set_cons_zero]
    refine wpAnyH_take (i := 5) (oi := _) (v := ?_) rfl (by kernel_rfl) (by kernel_rfl) (by kernel_rfl) (fun _ _ _ h => h) (Or.inl ⟨by rfl, ?_⟩) (by assumption) ?_
    rotate_left
    · intro w hSw; (try dsimp only at hSw); obtain ⟨x0, x1, x2, x3, x4, x5, x6, x7, x8, x9, x10, x11, x12, x13, x14⟩ := card14 hSw; first | (go_simp; done) | (go_simp; with_reducible rfl)
    try simp only [go_sem, Act.put, List.getElem_toArray, List.getElem_cons_succ, List.getElem_cons_zero, List.setIfInBounds_toArray, List.set_cons_succ, List.set_cons_zero]
    refine wpAnyH_take (i := 6) (oi := _) (v := ?_) rfl (by kernel_rfl) (by kernel_rfl) (by kernel_rfl) (fun _ _ _ h => h) (Or.inl ⟨by rfl, ?_⟩) (by assumption) ?_
    rotate_left
    · intro w hSw; (try dsimp only at hSw); obtain ⟨x0, x1, x2, x3, x4, x5, x6, x7, x8, x9, x10, x11, x12, x13, x14⟩ := card14 hSw; first | (go_simp; done) | (go_simp; with_reducible rfl)
    try simp only [go_sem, Act.put, List.getElem_toArray, List.getElem_cons_succ, List.getElem_cons_zero, List.setIfInBounds_toArray, List.set_cons_succ, List.set_cons_zero]
    refine wpAnyH_ready (rs := [7]) (by kernel_rfl) (by simp) ?_
    refine AllReadyH.cons (o := _) rfl (fun K hK => ?_) AllReadyH.nil
    go_simp; refine (HRL.out _ HB.out).mono ?_; rintro ee w5 ⟨rfl, hb5⟩; have HA := Lib.hid (HA.out.below hb5 HA.out.lt); have HB := Lib.hid (next HB.out hb5)
    refine hK.out _ _ ?_ (fun hH3 => ?_)
    · exact HA.out
    clear hK K hH2
    try simp only [go_sem, Act.put, List.getElem_toArray, List.getElem_cons_succ, List.getElem_cons_zero, List.setIfInBounds_toArray, List.set_cons_succ, List.set_cons_zero]
    refine wpAnyH_ready (rs := [8]) (by kernel_rfl) (by simp) ?_
    refine AllReadyH.cons (o := _) rfl (fun K hK => ?_) AllReadyH.nil
    go_simp; refine (HLN.out _ 0 _ HB.out h2).mono ?_; rintro ee w6 ⟨rfl, hb6⟩; have HA := Lib.hid (HA.out.below hb6 HA.out.lt); have HB := Lib.hid (next HB.out hb6)
    refine hK.out _ _ ?_ (fun hH4 => ?_)
    · exact HA.out
    clear hK K hH3
    try simp only [go_sem, Act.put, List.getElem_toArray, List.getElem_cons_succ, List.getElem_cons_zero, List.setIfInBounds_toArray, List.set_cons_succ, List.set_cons_zero]
    refine wpAnyH_take (i := 9) (oi := _) (v := ?_) rfl (by kernel_rfl) (by kernel_rfl) (by kernel_rfl) (fun _ _ _ h => h) (Or.inl ⟨by rfl, ?_⟩) (by assumption) ?_
    rotate_left
    · intro w hSw; (try dsimp only at hSw); obtain ⟨x0, x1, x2, x3, x4, x5, x6, x7, x8, x9, x10, x11, x12, x13, x14⟩ := card14 hSw; first | (go_simp; done) | (go_simp; with_reducible rfl)
    try simp only [go_sem, Act.put, List.getElem_toArray, List.getElem_cons_succ, List.getElem_cons_zero, List.setIfInBounds_toArray, List.set_cons_succ, List.set_cons_zero]
    refine wpAnyH_take (i := 10) (oi := _) (v := ?_) rfl (by kernel_rfl) (by kernel_rfl) (by kernel_rfl) (fun _ _ _ h => h) (Or.inl ⟨by rfl, ?_⟩) (by assumption) ?_
    rotate_left
    · intro w hSw; (try dsimp only at hSw); obtain ⟨x0, x1, x2, x3, x4, x5, x6, x7, x8, x9, x10, x11, x12, x13, x14⟩ := card14 hSw; first | (go_simp; done) | (go_simp; with_reducible rfl)
    try simp only [go_sem, Act.put, List.getElem_toArray, List.getElem_cons_succ, List.getElem_cons_zero, List.setIfInBounds_toArray, List.set_cons_succ, List.set_cons_zero]
    refine wpAnyH_ready (rs := [11]) (by kernel_rfl) (by simp) ?_
    refine AllReadyH.cons (o := _) rfl (fun K hK => ?_) AllReadyH.nil
    go_simp; refine (known_any _ (HG.out.below HB.out)).mono ?_; rintro ee w7 ⟨rfl, hb7⟩; have HA := Lib.hid (HA.out.below hb7 HA.out.lt); have HB := Lib.hid (next HB.out hb7)
    refine hK.out _ _ ?_ (fun hH5 => ?_)
    · exact HA.out
    clear hK K hH4
    try simp only [go_sem, Act.put, List.getElem_toArray, List.getElem_cons_succ, List.getElem_cons_zero, List.setIfInBounds_toArray, List.set_cons_succ, List.set_cons_zero]
    refine wpAnyH_take (i := 12) (oi := _) (v := ?_) rfl (by kernel_rfl) (by kernel_rfl) (by kernel_rfl) (fun _ _ _ h => h) (Or.inl ⟨by rfl, ?_⟩) (by assumption) ?_
    rotate_left
    · intro w hSw; (try dsimp only at hSw); obtain ⟨x0, x1, x2, x3, x4, x5, x6, x7, x8, x9, x10, x11, x12, x13, x14⟩ := card14 hSw; first | (go_simp; done) | (go_simp; with_reducible rfl)
    try simp only [go_sem, Act.put, List.getElem_toArray, List.getElem_cons_succ, List.getElem_cons_zero, List.setIfInBounds_toArray, List.set_cons_succ, List.set_cons_zero]
    refine wpAnyH_take (i := 13) (oi := _) (v := ?_) rfl (by kernel_rfl) (by kernel_rfl) (by kernel_rfl) (fun _ _ _ h => h) (Or.inl ⟨by rfl, ?_⟩) (by assumption) ?_
    rotate_left
    · intro w hSw; (try dsimp only at hSw); obtain ⟨x0, x1, x2, x3, x4, x5, x6, x7, x8, x9, x10, x11, x12, x13, x14⟩ := card14 hSw; first | (go_simp; done) | (go_simp; with_reducible rfl)
    try simp only [go_sem, Act.put, List.getElem_toArray, List.getElem_cons_succ, List.getElem_cons_zero, List.setIfInBounds_toArray, List.set_cons_succ, List.set_cons_zero]
    refine wpAnyH_done (by kernel_rfl) ?_ _
    go_wp2_with fail
    go_ret
    exact ⟨rfl, HB.out⟩
end Go.Proofs.YtkappnnoienhnaaGreatDoor.caFn
