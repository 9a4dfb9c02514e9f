/- What package mana's Pay returns. -/
import Derived.Test.YthnndmojijnbnaaDoorMaCan
namespace Go.Proofs.YthnndmojijnbnaaDoor.maFn
open Go.ChangeShapes Go.WideShapes Go.ChangeAt Go.RowKit drMem
set_option linter.unusedVariables false

structure P4 where
  a : Int
  b : Int
  c : Int
  d : Int
def P4.ok (m : P4) : Bool := okM 99 m.a m.b m.c m.d
def P4.sum (m : P4) : Int := m.a + m.b + m.c + m.d
def P4.cells (m : P4) : List Value := [.int .i64 m.a, .int .i64 m.b, .int .i64 m.c, .int .i64 m.d]
/- one is taken away from the colour of which there is most -/
def take1 (m : P4) : P4 := if gt m.a m.b m.c m.d = 0 then ⟨m.a - 1, m.b, m.c, m.d⟩ else if gt m.a m.b m.c m.d = 1 then ⟨m.a, m.b - 1, m.c, m.d⟩ else if gt m.a m.b m.c m.d = 2 then ⟨m.a, m.b, m.c - 1, m.d⟩ else ⟨m.a, m.b, m.c, m.d - 1⟩
def payN : Nat → P4 → P4
  | 0, m => m
  | k + 1, m => take1 (payN k m)
theorem gt_cases (a b c d : Int) : gt a b c d = 0 ∧ (b ≤ a ∧ c ≤ a ∧ d ≤ a) ∨ gt a b c d = 1 ∧ (a ≤ b ∧ c ≤ b ∧ d ≤ b) ∨ gt a b c d = 2 ∧ (a ≤ c ∧ b ≤ c ∧ d ≤ c) ∨ gt a b c d = 3 ∧ (a ≤ d ∧ b ≤ d ∧ c ≤ d) := by
  unfold gt; (repeat' split) <;> omega
theorem take1_ok (m : P4) (h : m.ok = true) (hs : 1 ≤ m.sum) : (take1 m).ok = true ∧ (take1 m).sum = m.sum - 1 := by
  obtain ⟨a, b, c, d⟩ := m
  unfold P4.ok P4.sum at *
  simp only [okM_iff] at *
  unfold take1
  simp only
  rcases gt_cases a b c d with ⟨g, h1⟩ | ⟨g, h1⟩ | ⟨g, h1⟩ | ⟨g, h1⟩
  all_goals
    rw [g]
    simp
    omega
theorem payN_ok (m : P4) (h : m.ok = true) : ∀ k : Nat, (k : Int) ≤ m.sum → (payN k m).ok = true ∧ (payN k m).sum = m.sum - k
  | 0, _ => ⟨h, by simp [payN]⟩
  | k + 1, hk => by
    obtain ⟨h1, h2⟩ := payN_ok m h k (by omega)
    obtain ⟨h3, h4⟩ := take1_ok _ h1 (by omega)
    exact ⟨h3, by show (take1 (payN k m)).sum = _; rw [h4, h2]; omega⟩

theorem greatest_at (a b c d i : Int) (h : (gt a b c d : Int) = i) (w : World) :
    Calls Tryd.prog 40 #[.agg #[.int .i64 a, .int .i64 b, .int .i64 c, .int .i64 d]] w fun e w' => e = .returned (.int .i64 i) ∧ Below w.heap.size w w' := by
  subst h; exact greatest_any a b c d w

def payRel (w : World) (m0 : P4) (k : Nat) (wr : World) : Prop :=
  has wr w.heap.size 23 (payN k m0).cells ∧ has wr (w.heap.size + 1 + 1) 23 [.int .i64 0, .int .i64 0, .int .i64 0, .int .i64 0] ∧ Below w.heap.size w wr

theorem pay_next (w wr w4 : World) (m0 : P4) (k : Nat) (e t l u e' t' l' u' : Int) (i : Nat) (v : Int) (hp : payN k m0 = ⟨e, t, l, u⟩) (ht : take1 ⟨e, t, l, u⟩ = ⟨e', t', l', u'⟩)
    (hl : (P4.mk e t l u).cells.set i (.int .i64 v) = (P4.mk e' t' l' u').cells) (h : payRel w m0 k wr) (hb : Below wr.heap.size wr w4) :
    payRel w m0 (k + 1) (w4.setCell ⟨w.heap.size, i, none⟩ (.int .i64 v)) := by
  obtain ⟨h1, h2, h3⟩ := h
  have hp' : payN (k + 1) m0 = ⟨e', t', l', u'⟩ := by show take1 (payN k m0) = _; rw [hp, ht]
  refine ⟨?_, ?_, ?_⟩
  · have := (h1.below hb h1.lt).put i (.int .i64 v)
    rw [hp, hl] at this
    rw [hp']
    exact this
  · exact (h2.below hb h2.lt).far (by simp; omega) _
  · exact (next h3 hb).setCell (by simp) _


set_option maxRecDepth 100000 in
set_option maxHeartbeats 4000000 in
theorem Pay_yes (a b c d p q r s : Int) (x : Nat) (w : World) (hm : okM 99 a b c d = true) (hk : okC p q r s x = true) (hy : may a b c d p q r s x = true) :
    Calls Tryd.prog 29 #[.agg #[.int .i64 a, .int .i64 b, .int .i64 c, .int .i64 d], .agg #[.int .i64 p, .int .i64 q, .int .i64 r, .int .i64 s, .int .i64 x]] w
      fun e w' => e = .returned (.tuple #[.agg #[.int .i64 (payN x ⟨a - p, b - q, c - r, d - s⟩).a, .int .i64 (payN x ⟨a - p, b - q, c - r, d - s⟩).b, .int .i64 (payN x ⟨a - p, b - q, c - r, d - s⟩).c, .int .i64 (payN x ⟨a - p, b - q, c - r, d - s⟩).d], .int .i64 0]) ∧ Below w.heap.size w w' := by
  have HC := Can_yes a b c d p q r s x
  rw [hy] at HC
  obtain ⟨⟨a0, a1⟩, ⟨b0, b1⟩, ⟨c0, c1⟩, ⟨e0, e1⟩⟩ := (okM_iff _ _ _ _ _).1 hm
  obtain ⟨⟨⟨p0, p1⟩, ⟨q0, q1⟩, ⟨r0, r1⟩, ⟨s0, s1⟩⟩, x0, x1⟩ := (okC_iff _ _ _ _ _).1 hk
  obtain ⟨⟨pa, qb, rc, sd⟩, xl⟩ := (may_iff _ _ _ _ _ _ _ _ _).1 hy
  have hok : (P4.mk (a - p) (b - q) (c - r) (d - s)).ok = true := by unfold P4.ok; rw [okM_iff]; simp only; omega
  have hsum : (x : Int) ≤ (P4.mk (a - p) (b - q) (c - r) (d - s)).sum := by unfold lf de at xl; unfold P4.sum; simp only; omega
  have PN := payN_ok _ hok
  have d1 : (!okM 99 a b c d) = false := by rw [hm]; rfl
  have d2 : (!okC p q r s x) = false := by rw [hk]; rfl
  have HQ := Lib.hid hm; have HK := Lib.hid hk; have HP := Lib.hid PN
  clear hm hk hy xl hok PN
  have i0 := ix0 p q r s; have i1 := ix1 p q r s; have i2 := ix2 p q r s; have i3 := ix3 p q r s
  go_enter Tryd.func29, Tryd.ntmps29
  go_wp2_with fail
  refine (Valid_any _ _ _ _ _).mono ?_; rintro e w1 ⟨rfl, hb1⟩
  have M1 := (((new0 w 23 [.int .i64 a, .int .i64 b, .int .i64 c, .int .i64 d]).alloc _).alloc _).below hb1 (by simp; omega)
  have K1 := ((new1 w _ 25 [.int .i64 p, .int .i64 q, .int .i64 r, .int .i64 s, .int .i64 x]).alloc _).below hb1 (by simp)
  have R1 := (new2 w _ _ 23 [.int .i64 0, .int .i64 0, .int .i64 0, .int .i64 0]).below hb1 (by simp)
  have B1 : Below w.heap.size w w1 := next (by go_grown) hb1
  clear hb1
  obtain ⟨u0, u1, u2, u3, u4, u5⟩ := five K1
  go_wp2_with fail
  refine (ValidCost_any _ _ _ _ _ _).mono ?_; rintro e w2 ⟨rfl, hb2⟩
  clear u0 u1 u2 u3 u4 u5
  have M2 := M1.below hb2 M1.lt
  have K2 := K1.below hb2 K1.lt
  have R2 := R1.below hb2 R1.lt
  obtain ⟨t0, t1, t2, t3, t5⟩ := four M2
  obtain ⟨u0, u1, u2, u3, u4, u5⟩ := five K2
  have B2 : Below w.heap.size w w2 := next B1 hb2
  clear hb2 M1 K1 R1
  go_wp2_with fail
  refine (HC _ HQ.out HK.out).mono ?_; rintro e w3 ⟨rfl, hb3⟩
  clear t0 t1 t2 t3 t5 u0 u1 u2 u3 u4 u5 HC
  have M3 := M2.below hb3 M2.lt
  have K3 := K2.below hb3 K2.lt
  have R3 := R2.below hb3 R2.lt
  obtain ⟨t0, t1, t2, t3, t5⟩ := four M3
  obtain ⟨u0, u1, u2, u3, u4, u5⟩ := five K3
  have B3 : Below w.heap.size w w3 := next B2 hb3
  clear hb3 M2 K2 R2
  have z3 : w.heap.size + 1 + 1 < w3.heap.size := R3.lt
  go_wp2_with fail
  refine wp_loop_rounds 5 ?_
  rw [rounds_succ]
  go_wp2_with fail
  rw [rounds_succ]
  go_wp2_with fail
  rw [rounds_succ]
  go_wp2_with fail
  rw [rounds_succ]
  go_wp2_with fail
  rw [rounds_succ]
  go_wp2_with fail
  have NE : ∀ i : Nat, w.heap.size + 1 + 1 ≠ (Addr.mk w.heap.size i none).block := fun _ => by show w.heap.size + 1 + 1 ≠ w.heap.size; omega
  have HST : payRel w ⟨a - p, b - q, c - r, d - s⟩ 0 ((((w3.setCell ⟨w.heap.size, 0, none⟩ (.int .i64 (a - p))).setCell ⟨w.heap.size, 1, none⟩ (.int .i64 (b - q))).setCell ⟨w.heap.size, 2, none⟩ (.int .i64 (c - r))).setCell ⟨w.heap.size, 3, none⟩ (.int .i64 (d - s))) := by
    refine ⟨(((M3.put 0 _).put 1 _).put 2 _).put 3 _, (((R3.far (NE _) _).far (NE _) _).far (NE _) _).far (NE _) _, by go_grown⟩
  have HS := Lib.hid HST
  clear HST M3 K3 R3 NE
  generalize hm0 : (P4.mk (a - p) (b - q) (c - r) (d - s)) = m0 at *
  have HM0 := Lib.hid hm0
  clear hm0
  go_loopw [39] (fun i wr => ∃ k : Nat, k ≤ x ∧ i = .int .i64 k ∧ payRel w m0 k wr) (fun i _ => x - (intOf i).toNat)
  case atStart => exact ⟨0, Nat.zero_le _, rfl, HS.out⟩
  case round =>
    obtain ⟨k, hkx, rfl, hrel⟩ := hrel
    clear HS t0 t1 t2 t3 t5 u0 u1 u2 u3 u4 u5
    obtain ⟨hok, hs⟩ := HP.out k (by omega)
    have HREL := Lib.hid hrel
    obtain ⟨m1, r1, bl⟩ := hrel
    generalize ep : payN k m0 = P at *
    have EP := Lib.hid ep
    clear ep
    by_cases hlt : k < x
    · obtain ⟨e, t, l, u⟩ := P
      unfold P4.ok at hok
      unfold P4.sum at hs
      simp only [okM_iff] at hok hs
      have HM := Lib.hid m1
      obtain ⟨c0, c1, c2, c3, cf⟩ := four m1
      clear m1 r1 bl hs
      obtain ⟨⟨y0, y1⟩, ⟨y2, y3⟩, ⟨y4, y5⟩, ⟨y6, y7⟩⟩ := hok
      rcases gt_cases e t l u with ⟨g, _⟩ | ⟨g, _⟩ | ⟨g, _⟩ | ⟨g, _⟩
      · have HT : take1 ⟨e, t, l, u⟩ = ⟨e - 1, t, l, u⟩ := by unfold take1; simp [g]
        have HG := greatest_at e t l u 0 (by rw [g]; rfl)
        have HL : (P4.mk e t l u).cells.set 0 (.int .i64 (e - 1)) = (P4.mk (e - 1) t l u).cells := rfl
        have NX := fun w4 hb => pay_next w wr w4 m0 k e t l u (e - 1) t l u 0 (e - 1) EP.out HT HL HREL.out hb
        have NX' := Lib.hid NX
        clear NX HT HL g
        go_wp2_with fail
        refine (HG _).mono ?_; rintro y w4 ⟨rfl, hb4⟩
        have NX := Lib.hid (NX'.out w4 hb4)
        clear c0 c1 c2 c3 cf NX' HG
        obtain ⟨c0, c1, c2, c3, cf⟩ := four (HM.out.below hb4 HM.out.lt)
        clear hb4
        go_wp2_with fail
        go_roundw
        case rel => exact ⟨k + 1, by omega, by go_num, NX.out⟩
        case measure => simp [intOf]; omega
      · have HT : take1 ⟨e, t, l, u⟩ = ⟨e, t - 1, l, u⟩ := by unfold take1; simp [g]
        have HG := greatest_at e t l u 1 (by rw [g]; rfl)
        have HL : (P4.mk e t l u).cells.set 1 (.int .i64 (t - 1)) = (P4.mk e (t - 1) l u).cells := rfl
        have NX := fun w4 hb => pay_next w wr w4 m0 k e t l u e (t - 1) l u 1 (t - 1) EP.out HT HL HREL.out hb
        have NX' := Lib.hid NX
        clear NX HT HL g
        go_wp2_with fail
        refine (HG _).mono ?_; rintro y w4 ⟨rfl, hb4⟩
        have NX := Lib.hid (NX'.out w4 hb4)
        clear c0 c1 c2 c3 cf NX' HG
        obtain ⟨c0, c1, c2, c3, cf⟩ := four (HM.out.below hb4 HM.out.lt)
        clear hb4
        go_wp2_with fail
        go_roundw
        case rel => exact ⟨k + 1, by omega, by go_num, NX.out⟩
        case measure => simp [intOf]; omega
      · have HT : take1 ⟨e, t, l, u⟩ = ⟨e, t, l - 1, u⟩ := by unfold take1; simp [g]
        have HG := greatest_at e t l u 2 (by rw [g]; rfl)
        have HL : (P4.mk e t l u).cells.set 2 (.int .i64 (l - 1)) = (P4.mk e t (l - 1) u).cells := rfl
        have NX := fun w4 hb => pay_next w wr w4 m0 k e t l u e t (l - 1) u 2 (l - 1) EP.out HT HL HREL.out hb
        have NX' := Lib.hid NX
        clear NX HT HL g
        go_wp2_with fail
        refine (HG _).mono ?_; rintro y w4 ⟨rfl, hb4⟩
        have NX := Lib.hid (NX'.out w4 hb4)
        clear c0 c1 c2 c3 cf NX' HG
        obtain ⟨c0, c1, c2, c3, cf⟩ := four (HM.out.below hb4 HM.out.lt)
        clear hb4
        go_wp2_with fail
        go_roundw
        case rel => exact ⟨k + 1, by omega, by go_num, NX.out⟩
        case measure => simp [intOf]; omega
      · have HT : take1 ⟨e, t, l, u⟩ = ⟨e, t, l, u - 1⟩ := by unfold take1; simp [g]
        have HG := greatest_at e t l u 3 (by rw [g]; rfl)
        have HL : (P4.mk e t l u).cells.set 3 (.int .i64 (u - 1)) = (P4.mk e t l (u - 1)).cells := rfl
        have NX := fun w4 hb => pay_next w wr w4 m0 k e t l u e t l (u - 1) 3 (u - 1) EP.out HT HL HREL.out hb
        have NX' := Lib.hid NX
        clear NX HT HL g
        go_wp2_with fail
        refine (HG _).mono ?_; rintro y w4 ⟨rfl, hb4⟩
        have NX := Lib.hid (NX'.out w4 hb4)
        clear c0 c1 c2 c3 cf NX' HG
        obtain ⟨c0, c1, c2, c3, cf⟩ := four (HM.out.below hb4 HM.out.lt)
        clear hb4
        go_wp2_with fail
        go_roundw
        case rel => exact ⟨k + 1, by omega, by go_num, NX.out⟩
        case measure => simp [intOf]; omega
    · obtain rfl : k = x := by omega
      obtain ⟨c0, c1, c2, c3, cf⟩ := four m1
      obtain ⟨v0, v1, v2, v3, vf⟩ := four r1
      have z4 := r1.lt
      clear m1 r1 hs hok
      go_wp2_with fail
      exact bodyPost_ret (v := .tuple #[.agg #[.int .i64 P.a, .int .i64 P.b, .int .i64 P.c, .int .i64 P.d], .int .i64 0]) (by simp [results, Tryd.results29, go_sem, v0, v1, v2, v3]) rfl ⟨by rw [← EP.out, ← HM0.out], by go_grown⟩

end Go.Proofs.YthnndmojijnbnaaDoor.maFn
