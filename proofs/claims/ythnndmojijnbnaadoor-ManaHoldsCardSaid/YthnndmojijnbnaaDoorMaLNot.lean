/- ManaHolds: costs that cannot be paid. -/
import Derived.Test.YthnndmojijnbnaaDoorMaNotMath
namespace Go.Proofs.YthnndmojijnbnaaDoor.maFn
open Go.ChangeShapes Go.WideShapes Go.ChangeAt Go.RowKit drMem
set_option linter.unusedVariables false

/- the pool that is filled: after k colours, after t of any colours -/
def mkK (a b c d i j l n : Int) (k : Nat) : List Value := [.int .i64 (a + if 0 < k then i else 0), .int .i64 (b + if 1 < k then j else 0), .int .i64 (c + if 2 < k then l else 0), .int .i64 (d + if 3 < k then n else 0)]
def mkT (a b c d i j l n : Int) (t : Nat) : List Value := [.int .i64 (a + i + ((t + 3) / 4 : Nat)), .int .i64 (b + j + ((t + 2) / 4 : Nat)), .int .i64 (c + l + ((t + 1) / 4 : Nat)), .int .i64 (d + n + (t / 4 : Nat))]
structure HB (w : World) (n8 n10 : Nat) (a b c d p q r s x i j l n y : Int) (cs : List Value) (wr : World) : Prop where
  hw : MW w a b c d p q r s x wr
  hy : has wr n8 25 [.int .i64 i, .int .i64 j, .int .i64 l, .int .i64 n, .int .i64 y]
  hr : has wr n10 23 cs
variable {w wr wy : World} {n8 n10 : Nat} {a b c d p q r s x i j l n y : Int} {cs cs' : List Value}
theorem HB.below (h : HB w n8 n10 a b c d p q r s x i j l n y cs wr) (hb : Below wr.heap.size wr wy) : HB w n8 n10 a b c d p q r s x i j l n y cs wy := ⟨h.hw.below hb, h.hy.below hb h.hy.lt, h.hr.below hb h.hr.lt⟩
theorem HB.drew (h : HB w n8 n10 a b c d p q r s x i j l n y cs wr) : HB w n8 n10 a b c d p q r s x i j l n y cs wr.drew := ⟨h.hw.drew, h.hy, h.hr⟩
theorem HB.alloc (h : HB w n8 n10 a b c d p q r s x i j l n y cs wr) (o : Obj) : HB w n8 n10 a b c d p q r s x i j l n y cs (wr.alloc o) := ⟨h.hw.alloc _, h.hy.alloc _, h.hr.alloc _⟩
theorem HB.put (h : HB w n8 n10 a b c d p q r s x i j l n y cs wr) (h1 : w.heap.size + 1 < n10) (h2 : n8 < n10) (k : Nat) (v : Value) (he : cs.set k v = cs') : HB w n8 n10 a b c d p q r s x i j l n y cs' (wr.setCell ⟨n10, k, none⟩ v) :=
  ⟨⟨h.hw.hm.far (by show w.heap.size ≠ n10; omega) _, h.hw.hc.far (by show w.heap.size + 1 ≠ n10; omega) _, h.hw.hb.setCell (by show w.heap.size ≤ n10; omega) _⟩, h.hy.far (by show n8 ≠ n10; omega) _, he ▸ h.hr.put k v⟩
theorem HB.side (h : HB w n8 n10 a b c d p q r s x i j l n y cs wr) (N k : Nat) (v : Value) (h0 : w.heap.size < N) (h1 : w.heap.size + 1 < N) (h2 : n8 < N) (h3 : n10 < N) : HB w n8 n10 a b c d p q r s x i j l n y cs (wr.setCell ⟨N, k, none⟩ v) :=
  ⟨⟨h.hw.hm.far (by show w.heap.size ≠ N; omega) _, h.hw.hc.far (by show w.heap.size + 1 ≠ N; omega) _, h.hw.hb.setCell (by show w.heap.size ≤ N; omega) _⟩, h.hy.far (by show n8 ≠ N; omega) _, h.hr.far (by show n10 ≠ N; omega) _⟩
/- a pool that has less of a colour than a cost names cannot pay it -/
theorem less_no (e f g h p q r s x : Int) (hk : okC p q r s x = true) (hl : e < p ∨ f < q ∨ g < r ∨ h < s) : ∀ w, Calls Tryd.prog 21 #[.agg #[.int .i64 e, .int .i64 f, .int .i64 g, .int .i64 h], .agg #[.int .i64 p, .int .i64 q, .int .i64 r, .int .i64 s, .int .i64 x]] w fun z w' => z = .returned (.bool false) ∧ Below w.heap.size w w' := fun w => by
  by_cases hm : okM 99 e f g h = true
  · have hn : ¬ may e f g h p q r s x = true := by rw [may_iff]; omega
    have h1 := Can_yes e f g h p q r s x w hm hk
    rw [Bool.eq_false_iff.2 hn] at h1
    exact h1
  · exact Can_no e f g h p q r s x w (.inl (by simpa using hm))
theorem mkT_next (a b c d i j l n : Int) (t idx : Nat) (v : Int) (h : t % 4 = idx) (hv : (mkT a b c d i j l n t)[idx]? = some (.int .i64 v)) : (mkT a b c d i j l n t).set idx (.int .i64 (v + 1)) = mkT a b c d i j l n (t + 1) := by
  have hx : idx = 0 ∨ idx = 1 ∨ idx = 2 ∨ idx = 3 := by omega
  unfold mkT at *
  rcases hx with rfl | rfl | rfl | rfl
  all_goals
    simp at hv
    subst hv
    simp
    omega


set_option maxRecDepth 100000 in
set_option maxHeartbeats 8000000 in
theorem holds_not (a b c d : Int) (p q r s x : Nat) (w : World) (hm : okM 99 a b c d = true) (hk : okC p q r s x = true) (hy : may a b c d p q r s x = false) (hE : E w) :
    Calls Tryd.prog 7 #[.agg #[.int .i64 a, .int .i64 b, .int .i64 c, .int .i64 d], .agg #[.int .i64 ((p : Nat)), .int .i64 ((q : Nat)), .int .i64 ((r : Nat)), .int .i64 ((s : Nat)), .int .i64 ((x : Nat))]] w fun z w' => z = .returned (.bool true) ∧ Below w.heap.size w w' := by
  have HE := Lib.hid hE
  have HK := Lib.hid hk
  obtain ⟨i, j, l, n, y, hf, HM⟩ := mf_ex a b c d p q r s x hm hk hy
  have HP : ∀ w, Calls Tryd.prog 29 #[.agg #[.int .i64 a, .int .i64 b, .int .i64 c, .int .i64 d], .agg #[.int .i64 ((p : Nat)), .int .i64 ((q : Nat)), .int .i64 ((r : Nat)), .int .i64 ((s : Nat)), .int .i64 ((x : Nat))]] w fun z w' => z = .returned (.tuple #[.agg #[.int .i64 0, .int .i64 0, .int .i64 0, .int .i64 0], .int .i64 12]) ∧ Below w.heap.size w w' := fun w => Pay_no a b c d p q r s x w hm hk hy
  have HC : ∀ w, Calls Tryd.prog 21 #[.agg #[.int .i64 a, .int .i64 b, .int .i64 c, .int .i64 d], .agg #[.int .i64 ((p : Nat)), .int .i64 ((q : Nat)), .int .i64 ((r : Nat)), .int .i64 ((s : Nat)), .int .i64 ((x : Nat))]] w fun z w' => z = .returned (.bool false) ∧ Below w.heap.size w w' := fun w => by
    have h1 := Can_yes a b c d p q r s x w hm hk
    rw [hy] at h1
    exact h1
  have hz : ∀ w, (binOp .eql 25 (.agg #[.int .i64 i, .int .i64 j, .int .i64 l, .int .i64 n, .int .i64 (y : Nat)]) (.agg #[.int .i64 0, .int .i64 0, .int .i64 0, .int .i64 0, .int .i64 0])).run Tryd.prog w = .ok (.bool false) w := fun w => by
    rw [eqC_run]
    have : ¬ eq5 i j l n y 0 0 0 0 0 = true := by
      rw [eq5_iff]
      have := hf.one
      omega
    rw [Bool.eq_false_iff.2 this]
  have d1 : (!okM 99 a b c d) = false := by rw [hm]; rfl
  have d2 : (!okC p q r s x) = false := by rw [hk]; rfl
  obtain ⟨⟨a0, a1⟩, ⟨b0, b1⟩, ⟨c0, c1⟩, ⟨k0, k1⟩⟩ := (okM_iff _ _ _ _ _).1 hm
  have HF := Lib.hid hf
  clear hE hm hk hy hf
  go_enter Tryd.func7, Tryd.ntmps7
  go_wp2_with fail
  refine (Valid_any _ _ _ _ _).mono ?_; rintro z w1 ⟨rfl, hb1⟩
  have M1 : MW w a b c d p q r s x w1 := ⟨((new0 w 23 [.int .i64 a, .int .i64 b, .int .i64 c, .int .i64 d]).alloc _).below hb1 (by simp; omega), (new1 w _ 25 [.int .i64 ((p : Nat)), .int .i64 ((q : Nat)), .int .i64 ((r : Nat)), .int .i64 ((s : Nat)), .int .i64 ((x : Nat))]).below hb1 (by simp), next (by go_grown) hb1⟩
  clear hb1
  obtain ⟨u0, u1, u2, u3, u4, u5⟩ := five M1.hc
  go_wp2_with fail
  refine (ValidCost_any _ _ _ _ _ _).mono ?_; rintro z w2 ⟨rfl, hb2⟩
  have M2 := M1.below hb2
  clear u0 u1 u2 u3 u4 u5 hb2 M1
  obtain ⟨u0, u1, u2, u3, u4, u5⟩ := five M2.hc
  go_wp2_with fail
  refine (Text_yes _ _ _ _ _ _ HK.out).mono ?_; rintro z w3 ⟨rfl, hb3⟩
  have M3 := M2.below hb3
  clear u0 u1 u2 u3 u4 u5 hb3 M2
  obtain ⟨u0, u1, u2, u3, u4, u5⟩ := five M3.hc
  go_wp2_with fail
  refine (parses_true _ _ _ _ _ _ _ (fun w hw => Parse_yes _ _ _ _ _ HK.out w hw) _ (HE.out.below M3.hb)).mono ?_; rintro z w4 ⟨rfl, hb4⟩
  have M4 := M3.below hb4
  clear u0 u1 u2 u3 u4 u5 hb4 M3
  obtain ⟨t0, t1, t2, t3, t5⟩ := four M4.hm
  obtain ⟨u0, u1, u2, u3, u4, u5⟩ := five M4.hc
  go_wp2_with fail
  refine (HP _).mono ?_; rintro z w5 ⟨rfl, hb5⟩
  have M5 := M4.below hb5
  clear t0 t1 t2 t3 t5 u0 u1 u2 u3 u4 u5 hb5 M4
  have z5 : w.heap.size + 1 < w5.heap.size := M5.hc.lt
  obtain ⟨w6, hw6⟩ : ∃ w6, w6 = w5.alloc (.cells #[.int .i64 0, .int .i64 0, .int .i64 0, .int .i64 0] 23) := ⟨_, rfl⟩
  have M6 : MW w a b c d p q r s x w6 := by rw [hw6]; exact M5.alloc _
  have V6 : has w6 w5.heap.size 23 [.int .i64 0, .int .i64 0, .int .i64 0, .int .i64 0] := by rw [hw6]; exact new0 w5 _ _
  have HW6 := Lib.hid hw6
  clear hw6 M5
  obtain ⟨t0, t1, t2, t3, t5⟩ := four M6.hm
  obtain ⟨u0, u1, u2, u3, u4, u5⟩ := five M6.hc
  go_upto_region 7 with fail
  rw [← HW6.out]
  go_wp2_with fail
  refine (HM _).mono ?_; rintro z w7 ⟨rfl, hb7⟩
  have M7 := M6.below hb7
  have V7 := V6.below hb7 V6.lt
  have z7 : w5.heap.size < w7.heap.size := V7.lt
  clear t0 t1 t2 t3 t5 u0 u1 u2 u3 u4 u5 hb7 M6 V6 HW6
  obtain ⟨w8, hw8⟩ : ∃ w8, w8 = w7.alloc (.cells #[.int .i64 i, .int .i64 j, .int .i64 l, .int .i64 n, .int .i64 ((y : Nat))] 25) := ⟨_, rfl⟩
  have M8 : MW w a b c d p q r s x w8 := by rw [hw8]; exact M7.alloc _
  have V8 : has w8 w5.heap.size 23 [.int .i64 0, .int .i64 0, .int .i64 0, .int .i64 0] := by rw [hw8]; exact V7.alloc _
  have Y8 : has w8 w7.heap.size 25 [.int .i64 i, .int .i64 j, .int .i64 l, .int .i64 n, .int .i64 ((y : Nat))] := by rw [hw8]; exact new0 w7 _ _
  have HW8 := Lib.hid hw8
  clear hw8 M7 V7
  obtain ⟨t0, t1, t2, t3, t5⟩ := four M8.hm
  obtain ⟨u0, u1, u2, u3, u4, u5⟩ := five M8.hc
  go_upto_region 8 with fail
  rw [← HW8.out]
  go_wp2_with fail
  refine (HC _).mono ?_; rintro z w9 ⟨rfl, hb9⟩
  have M9 := M8.below hb9
  have V9 := V8.below hb9 V8.lt
  have Y9 := Y8.below hb9 Y8.lt
  clear t0 t1 t2 t3 t5 u0 u1 u2 u3 u4 u5 hb9 M8 V8 Y8 HW8
  obtain ⟨y0, y1, y2, y3, y4, y5⟩ := five Y9
  have z9 : w7.heap.size < w9.heap.size := Y9.lt
  have z8 := z9
  have z10 : w.heap.size + 1 < w9.heap.size := by omega
  have H10 : HB w w7.heap.size w9.heap.size a b c d p q r s x i j l n y (mkK a b c d i j l n 0) (w9.alloc (.cells #[.int .i64 a, .int .i64 b, .int .i64 c, .int .i64 d] 23)) := ⟨M9.alloc _, Y9.alloc _, by
    have := new0 w9 23 [.int .i64 a, .int .i64 b, .int .i64 c, .int .i64 d]
    unfold mkK
    simpa using this⟩
  have HX := Lib.hid H10
  obtain ⟨t0, t1, t2, t3, t5⟩ := four M9.hm
  clear H10 HP HM HC z9
  go_wp2_with fail
  clear t0 t1 t2 t3 t5 y0 y1 y2 y3 y4 y5 M9 V9 Y9 hz
  go_loopw [94] (fun s94 wr => ∃ k : Nat, k ≤ 4 ∧ s94 = .int .i64 k ∧ Hid (HB w w7.heap.size w9.heap.size a b c d p q r s x i j l n y (mkK a b c d i j l n k) wr)) (fun s94 _ => 4 - (intOf s94).toNat)
  case atStart => exact ⟨0, by omega, rfl, HX⟩
  case round =>
    clear HX
    obtain ⟨k, hk4, hk6, HX⟩ := hrel
    obtain ⟨i0, i1, i2, i3⟩ := HF.out.hi; obtain ⟨j0, j1, j2, j3⟩ := HF.out.hj; obtain ⟨l0, l1, l2, l3⟩ := HF.out.hl; obtain ⟨n0, n1, n2, n3⟩ := HF.out.hn
    have y20 := HF.out.hy
    have I2 := Lib.hid i2; have J2 := Lib.hid j2; have L2 := Lib.hid l2; have N2 := Lib.hid n2
    clear i2 j2 l2 n2
    obtain ⟨y0, y1, y2, y3, y4, y5⟩ := five HX.out.hy
    have hk' : k = 0 ∨ k = 1 ∨ k = 2 ∨ k = 3 ∨ k = 4 := by omega
    clear hk4
    rcases hk' with rfl | rfl | rfl | rfl | rfl
    · replace hk6 : _ = Value.int .i64 0 := hk6
      subst hk6
      have cm : wr.cell? ⟨w9.heap.size, 0, none⟩ = some (.int .i64 (a + 0)) := HX.out.hr.cell 0
      rw [Int.add_zero] at cm
      have fm := HX.out.hr.free
      have NX : ∀ u, HB w w7.heap.size w9.heap.size a b c d p q r s x i j l n y (mkK a b c d i j l n 0) u → HB w w7.heap.size w9.heap.size a b c d p q r s x i j l n y (mkK a b c d i j l n (0 + 1)) (u.setCell ⟨w9.heap.size, 0, none⟩ (.int .i64 (a + i))) := fun u hu => hu.put z10 z8 0 _ rfl
      have NX' := Lib.hid NX
      clear NX
      go_wp2_with fail
      go_region
      all_goals
        go_wp2_with fail
        go_roundw
        case rel => exact ⟨0 + 1, by omega, by go_num, Lib.hid (NX'.out _ HX.out.drew)⟩
        case measure => simp [intOf]
    · replace hk6 : _ = Value.int .i64 1 := hk6
      subst hk6
      have cm : wr.cell? ⟨w9.heap.size, 1, none⟩ = some (.int .i64 (b + 0)) := HX.out.hr.cell 1
      rw [Int.add_zero] at cm
      have fm := HX.out.hr.free
      have NX : ∀ u, HB w w7.heap.size w9.heap.size a b c d p q r s x i j l n y (mkK a b c d i j l n 1) u → HB w w7.heap.size w9.heap.size a b c d p q r s x i j l n y (mkK a b c d i j l n (1 + 1)) (u.setCell ⟨w9.heap.size, 1, none⟩ (.int .i64 (b + j))) := fun u hu => hu.put z10 z8 1 _ rfl
      have NX' := Lib.hid NX
      clear NX
      go_wp2_with fail
      go_region
      all_goals
        go_wp2_with fail
        go_roundw
        case rel => exact ⟨1 + 1, by omega, by go_num, Lib.hid (NX'.out _ HX.out.drew)⟩
        case measure => simp [intOf]
    · replace hk6 : _ = Value.int .i64 2 := hk6
      subst hk6
      have cm : wr.cell? ⟨w9.heap.size, 2, none⟩ = some (.int .i64 (c + 0)) := HX.out.hr.cell 2
      rw [Int.add_zero] at cm
      have fm := HX.out.hr.free
      have NX : ∀ u, HB w w7.heap.size w9.heap.size a b c d p q r s x i j l n y (mkK a b c d i j l n 2) u → HB w w7.heap.size w9.heap.size a b c d p q r s x i j l n y (mkK a b c d i j l n (2 + 1)) (u.setCell ⟨w9.heap.size, 2, none⟩ (.int .i64 (c + l))) := fun u hu => hu.put z10 z8 2 _ rfl
      have NX' := Lib.hid NX
      clear NX
      go_wp2_with fail
      go_region
      all_goals
        go_wp2_with fail
        go_roundw
        case rel => exact ⟨2 + 1, by omega, by go_num, Lib.hid (NX'.out _ HX.out.drew)⟩
        case measure => simp [intOf]
    · replace hk6 : _ = Value.int .i64 3 := hk6
      subst hk6
      have cm : wr.cell? ⟨w9.heap.size, 3, none⟩ = some (.int .i64 (d + 0)) := HX.out.hr.cell 3
      rw [Int.add_zero] at cm
      have fm := HX.out.hr.free
      have NX : ∀ u, HB w w7.heap.size w9.heap.size a b c d p q r s x i j l n y (mkK a b c d i j l n 3) u → HB w w7.heap.size w9.heap.size a b c d p q r s x i j l n y (mkK a b c d i j l n (3 + 1)) (u.setCell ⟨w9.heap.size, 3, none⟩ (.int .i64 (d + n))) := fun u hu => hu.put z10 z8 3 _ rfl
      have NX' := Lib.hid NX
      clear NX
      go_wp2_with fail
      go_region
      all_goals
        go_wp2_with fail
        go_roundw
        case rel => exact ⟨3 + 1, by omega, by go_num, Lib.hid (NX'.out _ HX.out.drew)⟩
        case measure => simp [intOf]
    · replace hk6 : _ = Value.int .i64 4 := hk6
      subst hk6
      have HT : HB w w7.heap.size w9.heap.size a b c d p q r s x i j l n y (mkT a b c d i j l n 0) wr := by
        have e : mkT a b c d i j l n 0 = mkK a b c d i j l n 4 := by simp [mkT, mkK]
        rw [e]; exact HX.out
      have HX := Lib.hid HT
      clear HT
      go_wp2_with fail
      clear y0 y1 y2 y3 y4 y5
      go_loopw [12] (fun s12 wr => ∃ t : Nat, t ≤ y ∧ s12 = .int .i64 t ∧ Hid (HB w w7.heap.size w9.heap.size a b c d p q r s x i j l n y (mkT a b c d i j l n t) wr)) (fun s12 _ => y - (intOf s12).toNat)
      case atStart => exact ⟨0, by omega, rfl, HX⟩
      case round =>
        clear HX
        obtain ⟨t, hty, rfl, HX⟩ := hrel
        obtain ⟨y0, y1, y2, y3, y4, y5⟩ := five HX.out.hy
        by_cases hlt : t < y
        · have h4 : t % 4 = 0 ∨ t % 4 = 1 ∨ t % 4 = 2 ∨ t % 4 = 3 := by omega
          rcases h4 with ht4 | ht4 | ht4 | ht4
          · have e4 : (t : Int) % 4 = 0 := by omega
            have hq : ((t + 3) / 4 : Nat) ≤ 6 := by omega
            have NX0 := mkT_next a b c d i j l n t 0 _ ht4 rfl
            generalize hg : ((t + 3) / 4 : Nat) = u4 at *
            have HG := Lib.hid hg
            have cm : wr.cell? ⟨w9.heap.size, 0, none⟩ = some (.int .i64 (a + i + (u4 : Nat))) := by rw [← HG.out]; exact HX.out.hr.cell 0
            have fm := HX.out.hr.free
            have NX : ∀ u, HB w w7.heap.size w9.heap.size a b c d p q r s x i j l n y (mkT a b c d i j l n t) u → HB w w7.heap.size w9.heap.size a b c d p q r s x i j l n y (mkT a b c d i j l n (t + 1)) (u.setCell ⟨w9.heap.size, 0, none⟩ (.int .i64 (a + i + (u4 : Nat) + 1))) := fun u hu => hu.put z10 z8 0 _ NX0
            have NX' := Lib.hid NX
            clear NX NX0 hg ht4
            go_wp2_with fail
            go_roundw
            case rel => exact ⟨t + 1, by omega, by go_num, Lib.hid (NX'.out _ HX.out)⟩
            case measure => simp [intOf]; omega
          · have e4 : (t : Int) % 4 = 1 := by omega
            have hq : ((t + 2) / 4 : Nat) ≤ 6 := by omega
            have NX0 := mkT_next a b c d i j l n t 1 _ ht4 rfl
            generalize hg : ((t + 2) / 4 : Nat) = u4 at *
            have HG := Lib.hid hg
            have cm : wr.cell? ⟨w9.heap.size, 1, none⟩ = some (.int .i64 (b + j + (u4 : Nat))) := by rw [← HG.out]; exact HX.out.hr.cell 1
            have fm := HX.out.hr.free
            have NX : ∀ u, HB w w7.heap.size w9.heap.size a b c d p q r s x i j l n y (mkT a b c d i j l n t) u → HB w w7.heap.size w9.heap.size a b c d p q r s x i j l n y (mkT a b c d i j l n (t + 1)) (u.setCell ⟨w9.heap.size, 1, none⟩ (.int .i64 (b + j + (u4 : Nat) + 1))) := fun u hu => hu.put z10 z8 1 _ NX0
            have NX' := Lib.hid NX
            clear NX NX0 hg ht4
            go_wp2_with fail
            go_roundw
            case rel => exact ⟨t + 1, by omega, by go_num, Lib.hid (NX'.out _ HX.out)⟩
            case measure => simp [intOf]; omega
          · have e4 : (t : Int) % 4 = 2 := by omega
            have hq : ((t + 1) / 4 : Nat) ≤ 6 := by omega
            have NX0 := mkT_next a b c d i j l n t 2 _ ht4 rfl
            generalize hg : ((t + 1) / 4 : Nat) = u4 at *
            have HG := Lib.hid hg
            have cm : wr.cell? ⟨w9.heap.size, 2, none⟩ = some (.int .i64 (c + l + (u4 : Nat))) := by rw [← HG.out]; exact HX.out.hr.cell 2
            have fm := HX.out.hr.free
            have NX : ∀ u, HB w w7.heap.size w9.heap.size a b c d p q r s x i j l n y (mkT a b c d i j l n t) u → HB w w7.heap.size w9.heap.size a b c d p q r s x i j l n y (mkT a b c d i j l n (t + 1)) (u.setCell ⟨w9.heap.size, 2, none⟩ (.int .i64 (c + l + (u4 : Nat) + 1))) := fun u hu => hu.put z10 z8 2 _ NX0
            have NX' := Lib.hid NX
            clear NX NX0 hg ht4
            go_wp2_with fail
            go_roundw
            case rel => exact ⟨t + 1, by omega, by go_num, Lib.hid (NX'.out _ HX.out)⟩
            case measure => simp [intOf]; omega
          · have e4 : (t : Int) % 4 = 3 := by omega
            have hq : (t / 4 : Nat) ≤ 6 := by omega
            have NX0 := mkT_next a b c d i j l n t 3 _ ht4 rfl
            generalize hg : (t / 4 : Nat) = u4 at *
            have HG := Lib.hid hg
            have cm : wr.cell? ⟨w9.heap.size, 3, none⟩ = some (.int .i64 (d + n + (u4 : Nat))) := by rw [← HG.out]; exact HX.out.hr.cell 3
            have fm := HX.out.hr.free
            have NX : ∀ u, HB w w7.heap.size w9.heap.size a b c d p q r s x i j l n y (mkT a b c d i j l n t) u → HB w w7.heap.size w9.heap.size a b c d p q r s x i j l n y (mkT a b c d i j l n (t + 1)) (u.setCell ⟨w9.heap.size, 3, none⟩ (.int .i64 (d + n + (u4 : Nat) + 1))) := fun u hu => hu.put z10 z8 3 _ NX0
            have NX' := Lib.hid NX
            clear NX NX0 hg ht4
            go_wp2_with fail
            go_roundw
            case rel => exact ⟨t + 1, by omega, by go_num, Lib.hid (NX'.out _ HX.out)⟩
            case measure => simp [intOf]; omega
        · obtain rfl : y = t := by omega
          obtain ⟨v, hv⟩ : ∃ v : Int, i + j + l + n + y = v := ⟨_, rfl⟩
          obtain ⟨u, hu⟩ : ∃ u : Int, (p : Int) + q + r + s + x = u := ⟨_, rfl⟩
          have HVm : ∀ w, Calls Tryd.prog 15 #[.agg #[.int .i64 i, .int .i64 j, .int .i64 l, .int .i64 n, .int .i64 (y : Nat)]] w fun z w' => z = .returned (.int .i64 v) ∧ Below w.heap.size w w' := fun w => by rw [← hv]; exact Value_yes _ _ _ _ _ w HF.out.val
          have HVc : ∀ w, Calls Tryd.prog 15 #[.agg #[.int .i64 ((p : Nat)), .int .i64 ((q : Nat)), .int .i64 ((r : Nat)), .int .i64 ((s : Nat)), .int .i64 ((x : Nat))]] w fun z w' => z = .returned (.int .i64 u) ∧ Below w.heap.size w w' := fun w => by rw [← hu]; exact Value_yes _ _ _ _ _ w HK.out
          have v1' : decide (v < 1) = false := by have := HF.out.one; simp; omega
          have v2' : decide (u < v) = false := by have := HF.out.least; simp; omega
          have hful := HF.out.full
          have hcan := HF.out.can
          have HXr : HB w w7.heap.size w9.heap.size a b c d p q r s x i j l n y (mkT a b c d i j l n y) wr := HX.out
          unfold mkT at HXr
          generalize a + i + (((y + 3) / 4 : Nat) : Int) = f1 at *
          generalize b + j + (((y + 2) / 4 : Nat) : Int) = f2 at *
          generalize c + l + (((y + 1) / 4 : Nat) : Int) = f3 at *
          generalize d + n + ((y / 4 : Nat) : Int) = f4 at *
          have HVal := fun w => (Valid_any f1 f2 f3 f4 w).mono fun e w' (h : _ ∧ _) => And.intro (h.1.trans (ret_bool hful)) h.2
          have HCan := fun w => (Can_yes f1 f2 f3 f4 p q r s x w hful HK.out).mono fun e w' (h : _ ∧ _) => And.intro (h.1.trans (ret_bool hcan)) h.2
          clear hful hcan hv hu hlt HX
          go_wp2_with fail
          clear y0 y1 y2 y3 y4 y5
          obtain ⟨t0, t1, t2, t3, t5⟩ := four HXr.hr
          obtain ⟨u0, u1, u2, u3, u4, u5⟩ := five HXr.hw.hc
          obtain ⟨v0, v1, v2, v3, v4, v5⟩ := five HXr.hy
          have M' := HXr.drew
          go_region_held3 (fun w' => w'.cell? ⟨w9.heap.size, 0, none⟩ = some (.int .i64 f1) ∧ w'.cell? ⟨w9.heap.size, 1, none⟩ = some (.int .i64 f2) ∧ w'.cell? ⟨w9.heap.size, 2, none⟩ = some (.int .i64 f3) ∧ w'.cell? ⟨w9.heap.size, 3, none⟩ = some (.int .i64 f4) ∧ w'.cell? ⟨w.heap.size + 1, 0, none⟩ = some (.int .i64 (p : Nat)) ∧ w'.cell? ⟨w.heap.size + 1, 1, none⟩ = some (.int .i64 (q : Nat)) ∧ w'.cell? ⟨w.heap.size + 1, 2, none⟩ = some (.int .i64 (r : Nat)) ∧ w'.cell? ⟨w.heap.size + 1, 3, none⟩ = some (.int .i64 (s : Nat)) ∧ w'.cell? ⟨w.heap.size + 1, 4, none⟩ = some (.int .i64 (x : Nat)) ∧ w'.cell? ⟨w7.heap.size, 0, none⟩ = some (.int .i64 i) ∧ w'.cell? ⟨w7.heap.size, 1, none⟩ = some (.int .i64 j) ∧ w'.cell? ⟨w7.heap.size, 2, none⟩ = some (.int .i64 l) ∧ w'.cell? ⟨w7.heap.size, 3, none⟩ = some (.int .i64 n) ∧ w'.cell? ⟨w7.heap.size, 4, none⟩ = some (.int .i64 (y : Nat)) ∧ HB w w7.heap.size w9.heap.size a b c d p q r s x i j l n y [.int .i64 f1, .int .i64 f2, .int .i64 f3, .int .i64 f4] w') (first | assumption | (refine ⟨?_, ?_, ?_, ?_, ?_, ?_, ?_, ?_, ?_, ?_, ?_, ?_, ?_, ?_, ?_⟩ <;> first | assumption | go_keep)) (first | (go_at_call 12; first | ((with_reducible refine (HVal _).mono ?_); rintro z wa ⟨rfl, hbwa⟩; have Mwa := M'.below hbwa; clear hbwa; obtain ⟨t0, t1, t2, t3, t5⟩ := four Mwa.hr; obtain ⟨u0, u1, u2, u3, u4, u5⟩ := five Mwa.hw.hc; obtain ⟨v0, v1, v2, v3, v4, v5⟩ := five Mwa.hy)) | (go_at_call 21; first | ((with_reducible refine (HCan _).mono ?_); rintro z wb ⟨rfl, hbwb⟩; have Mwb := Mwa.below hbwb; clear hbwb; obtain ⟨t0, t1, t2, t3, t5⟩ := four Mwb.hr; obtain ⟨u0, u1, u2, u3, u4, u5⟩ := five Mwb.hw.hc; obtain ⟨v0, v1, v2, v3, v4, v5⟩ := five Mwb.hy)) | (go_at_call 15; first | ((with_reducible refine (HVm _).mono ?_); rintro z wc ⟨rfl, hbwc⟩; have Mwc := Mwb.below hbwc; clear hbwc; obtain ⟨t0, t1, t2, t3, t5⟩ := four Mwc.hr; obtain ⟨u0, u1, u2, u3, u4, u5⟩ := five Mwc.hw.hc; obtain ⟨v0, v1, v2, v3, v4, v5⟩ := five Mwc.hy) | ((with_reducible refine (HVm _).mono ?_); rintro z wd ⟨rfl, hbwd⟩; have Mwd := Mwc.below hbwd; clear hbwd; obtain ⟨t0, t1, t2, t3, t5⟩ := four Mwd.hr; obtain ⟨u0, u1, u2, u3, u4, u5⟩ := five Mwd.hw.hc; obtain ⟨v0, v1, v2, v3, v4, v5⟩ := five Mwd.hy) | ((with_reducible refine (HVc _).mono ?_); rintro z we ⟨rfl, hbwe⟩; have Mwe := Mwd.below hbwe; clear hbwe; obtain ⟨t0, t1, t2, t3, t5⟩ := four Mwe.hr; obtain ⟨u0, u1, u2, u3, u4, u5⟩ := five Mwe.hw.hc; obtain ⟨v0, v1, v2, v3, v4, v5⟩ := five Mwe.hy)))
          go_wp2_with fail
          have HX := Lib.hid Mwe
          clear t0 t1 t2 t3 t5 u0 u1 u2 u3 u4 u5 v0 v1 v2 v3 v4 v5 M' Mwa Mwb Mwc Mwd Mwe HXr HVal HCan HVm HVc v1' v2'
          go_loopw [151] (fun s151 wr => ∃ k : Nat, k ≤ 4 ∧ s151 = .int .i64 k ∧ Hid (HB w w7.heap.size w9.heap.size a b c d p q r s x i j l n y [.int .i64 f1, .int .i64 f2, .int .i64 f3, .int .i64 f4] wr)) (fun s151 _ => 4 - (intOf s151).toNat)
          case atStart => exact ⟨0, by omega, rfl, HX⟩
          case round =>
            clear HX
            obtain ⟨k, hk4, hk6, HX⟩ := hrel
            obtain ⟨t0, t1, t2, t3, t5⟩ := four HX.out.hr
            obtain ⟨m0, m1, m2, m3, m5⟩ := four HX.out.hw.hm
            obtain ⟨u0, u1, u2, u3, u4, u5⟩ := five HX.out.hw.hc
            obtain ⟨v0, v1, v2, v3, v4, v5⟩ := five HX.out.hy
            have zw := HX.out.hr.lt
            have hk' : k = 0 ∨ k = 1 ∨ k = 2 ∨ k = 3 ∨ k = 4 := by omega
            clear hk4
            have hkz : True := trivial
            rcases hk' with rfl | rfl | rfl | rfl | rfl
            · replace hk6 : _ = Value.int .i64 0 := hk6
              subst hk6
              by_cases hp : 0 < i
              · have HL : ∀ w, Calls Tryd.prog 21 #[.agg #[.int .i64 (a + i - 1), .int .i64 f2, .int .i64 f3, .int .i64 f4], .agg #[.int .i64 ((p : Nat)), .int .i64 ((q : Nat)), .int .i64 ((r : Nat)), .int .i64 ((s : Nat)), .int .i64 ((x : Nat))]] w fun z w' => z = .returned (.bool false) ∧ Below w.heap.size w w' := less_no _ _ _ _ _ _ _ _ _ HK.out (by have := I2.out hp; omega)
                obtain ⟨wl, hwl⟩ : ∃ wl, wl = wr.alloc (.cells #[.int .i64 f1, .int .i64 f2, .int .i64 f3, .int .i64 f4] 23) := ⟨_, rfl⟩
                have HXl : HB w w7.heap.size w9.heap.size a b c d p q r s x i j l n y [.int .i64 f1, .int .i64 f2, .int .i64 f3, .int .i64 f4] wl := by rw [hwl]; exact HX.out.alloc _
                have RL : has wl wr.heap.size 23 [.int .i64 f1, .int .i64 f2, .int .i64 f3, .int .i64 f4] := by rw [hwl]; exact new0 wr _ _
                have HWl := Lib.hid hwl
                have ne1 : w.heap.size + 1 ≠ wr.heap.size := by omega
                clear hkz hwl
                go_upto_region 37 with fail
                rw [← HWl.out]
                clear t0 t1 t2 t3 t5 m0 m1 m2 m3 m5 u0 u1 u2 u3 u4 u5 v0 v1 v2 v3 v4 v5 HWl
                obtain ⟨t0, t1, t2, t3, t5⟩ := four RL
                obtain ⟨m0, m1, m2, m3, m5⟩ := four HXl.hw.hm
                obtain ⟨u0, u1, u2, u3, u4, u5⟩ := five HXl.hw.hc
                obtain ⟨v0, v1, v2, v3, v4, v5⟩ := five HXl.hy
                go_region
                all_goals
                  go_wp2_with fail
                  refine (HL _).mono ?_; rintro z ws ⟨rfl, hbs⟩
                  have HXs : HB w w7.heap.size w9.heap.size a b c d p q r s x i j l n y [.int .i64 f1, .int .i64 f2, .int .i64 f3, .int .i64 f4] ws := HB.below ((HXl.side wr.heap.size 0 (.int .i64 (a + i - 1)) (by omega) (by omega) (by omega) (by omega)).drew) hbs
                  have HX2 := Lib.hid HXs
                  clear hbs HXs HXl RL
                  go_wp2_with fail
                  go_roundw
                  case rel => exact ⟨0 + 1, by omega, by go_num, HX2⟩
                  case measure => simp [intOf]
              · go_wp2_with fail
                go_roundw
                case rel => exact ⟨0 + 1, by omega, by go_num, HX⟩
                case measure => simp [intOf]
            · replace hk6 : _ = Value.int .i64 1 := hk6
              subst hk6
              by_cases hp : 0 < j
              · have HL : ∀ w, Calls Tryd.prog 21 #[.agg #[.int .i64 f1, .int .i64 (b + j - 1), .int .i64 f3, .int .i64 f4], .agg #[.int .i64 ((p : Nat)), .int .i64 ((q : Nat)), .int .i64 ((r : Nat)), .int .i64 ((s : Nat)), .int .i64 ((x : Nat))]] w fun z w' => z = .returned (.bool false) ∧ Below w.heap.size w w' := less_no _ _ _ _ _ _ _ _ _ HK.out (by have := J2.out hp; omega)
                obtain ⟨wl, hwl⟩ : ∃ wl, wl = wr.alloc (.cells #[.int .i64 f1, .int .i64 f2, .int .i64 f3, .int .i64 f4] 23) := ⟨_, rfl⟩
                have HXl : HB w w7.heap.size w9.heap.size a b c d p q r s x i j l n y [.int .i64 f1, .int .i64 f2, .int .i64 f3, .int .i64 f4] wl := by rw [hwl]; exact HX.out.alloc _
                have RL : has wl wr.heap.size 23 [.int .i64 f1, .int .i64 f2, .int .i64 f3, .int .i64 f4] := by rw [hwl]; exact new0 wr _ _
                have HWl := Lib.hid hwl
                have ne1 : w.heap.size + 1 ≠ wr.heap.size := by omega
                clear hkz hwl
                go_upto_region 37 with fail
                rw [← HWl.out]
                clear t0 t1 t2 t3 t5 m0 m1 m2 m3 m5 u0 u1 u2 u3 u4 u5 v0 v1 v2 v3 v4 v5 HWl
                obtain ⟨t0, t1, t2, t3, t5⟩ := four RL
                obtain ⟨m0, m1, m2, m3, m5⟩ := four HXl.hw.hm
                obtain ⟨u0, u1, u2, u3, u4, u5⟩ := five HXl.hw.hc
                obtain ⟨v0, v1, v2, v3, v4, v5⟩ := five HXl.hy
                go_region
                all_goals
                  go_wp2_with fail
                  refine (HL _).mono ?_; rintro z ws ⟨rfl, hbs⟩
                  have HXs : HB w w7.heap.size w9.heap.size a b c d p q r s x i j l n y [.int .i64 f1, .int .i64 f2, .int .i64 f3, .int .i64 f4] ws := HB.below ((HXl.side wr.heap.size 1 (.int .i64 (b + j - 1)) (by omega) (by omega) (by omega) (by omega)).drew) hbs
                  have HX2 := Lib.hid HXs
                  clear hbs HXs HXl RL
                  go_wp2_with fail
                  go_roundw
                  case rel => exact ⟨1 + 1, by omega, by go_num, HX2⟩
                  case measure => simp [intOf]
              · go_wp2_with fail
                go_roundw
                case rel => exact ⟨1 + 1, by omega, by go_num, HX⟩
                case measure => simp [intOf]
            · replace hk6 : _ = Value.int .i64 2 := hk6
              subst hk6
              by_cases hp : 0 < l
              · have HL : ∀ w, Calls Tryd.prog 21 #[.agg #[.int .i64 f1, .int .i64 f2, .int .i64 (c + l - 1), .int .i64 f4], .agg #[.int .i64 ((p : Nat)), .int .i64 ((q : Nat)), .int .i64 ((r : Nat)), .int .i64 ((s : Nat)), .int .i64 ((x : Nat))]] w fun z w' => z = .returned (.bool false) ∧ Below w.heap.size w w' := less_no _ _ _ _ _ _ _ _ _ HK.out (by have := L2.out hp; omega)
                obtain ⟨wl, hwl⟩ : ∃ wl, wl = wr.alloc (.cells #[.int .i64 f1, .int .i64 f2, .int .i64 f3, .int .i64 f4] 23) := ⟨_, rfl⟩
                have HXl : HB w w7.heap.size w9.heap.size a b c d p q r s x i j l n y [.int .i64 f1, .int .i64 f2, .int .i64 f3, .int .i64 f4] wl := by rw [hwl]; exact HX.out.alloc _
                have RL : has wl wr.heap.size 23 [.int .i64 f1, .int .i64 f2, .int .i64 f3, .int .i64 f4] := by rw [hwl]; exact new0 wr _ _
                have HWl := Lib.hid hwl
                have ne1 : w.heap.size + 1 ≠ wr.heap.size := by omega
                clear hkz hwl
                go_upto_region 37 with fail
                rw [← HWl.out]
                clear t0 t1 t2 t3 t5 m0 m1 m2 m3 m5 u0 u1 u2 u3 u4 u5 v0 v1 v2 v3 v4 v5 HWl
                obtain ⟨t0, t1, t2, t3, t5⟩ := four RL
                obtain ⟨m0, m1, m2, m3, m5⟩ := four HXl.hw.hm
                obtain ⟨u0, u1, u2, u3, u4, u5⟩ := five HXl.hw.hc
                obtain ⟨v0, v1, v2, v3, v4, v5⟩ := five HXl.hy
                go_region
                all_goals
                  go_wp2_with fail
                  refine (HL _).mono ?_; rintro z ws ⟨rfl, hbs⟩
                  have HXs : HB w w7.heap.size w9.heap.size a b c d p q r s x i j l n y [.int .i64 f1, .int .i64 f2, .int .i64 f3, .int .i64 f4] ws := HB.below ((HXl.side wr.heap.size 2 (.int .i64 (c + l - 1)) (by omega) (by omega) (by omega) (by omega)).drew) hbs
                  have HX2 := Lib.hid HXs
                  clear hbs HXs HXl RL
                  go_wp2_with fail
                  go_roundw
                  case rel => exact ⟨2 + 1, by omega, by go_num, HX2⟩
                  case measure => simp [intOf]
              · go_wp2_with fail
                go_roundw
                case rel => exact ⟨2 + 1, by omega, by go_num, HX⟩
                case measure => simp [intOf]
            · replace hk6 : _ = Value.int .i64 3 := hk6
              subst hk6
              by_cases hp : 0 < n
              · have HL : ∀ w, Calls Tryd.prog 21 #[.agg #[.int .i64 f1, .int .i64 f2, .int .i64 f3, .int .i64 (d + n - 1)], .agg #[.int .i64 ((p : Nat)), .int .i64 ((q : Nat)), .int .i64 ((r : Nat)), .int .i64 ((s : Nat)), .int .i64 ((x : Nat))]] w fun z w' => z = .returned (.bool false) ∧ Below w.heap.size w w' := less_no _ _ _ _ _ _ _ _ _ HK.out (by have := N2.out hp; omega)
                obtain ⟨wl, hwl⟩ : ∃ wl, wl = wr.alloc (.cells #[.int .i64 f1, .int .i64 f2, .int .i64 f3, .int .i64 f4] 23) := ⟨_, rfl⟩
                have HXl : HB w w7.heap.size w9.heap.size a b c d p q r s x i j l n y [.int .i64 f1, .int .i64 f2, .int .i64 f3, .int .i64 f4] wl := by rw [hwl]; exact HX.out.alloc _
                have RL : has wl wr.heap.size 23 [.int .i64 f1, .int .i64 f2, .int .i64 f3, .int .i64 f4] := by rw [hwl]; exact new0 wr _ _
                have HWl := Lib.hid hwl
                have ne1 : w.heap.size + 1 ≠ wr.heap.size := by omega
                clear hkz hwl
                go_upto_region 37 with fail
                rw [← HWl.out]
                clear t0 t1 t2 t3 t5 m0 m1 m2 m3 m5 u0 u1 u2 u3 u4 u5 v0 v1 v2 v3 v4 v5 HWl
                obtain ⟨t0, t1, t2, t3, t5⟩ := four RL
                obtain ⟨m0, m1, m2, m3, m5⟩ := four HXl.hw.hm
                obtain ⟨u0, u1, u2, u3, u4, u5⟩ := five HXl.hw.hc
                obtain ⟨v0, v1, v2, v3, v4, v5⟩ := five HXl.hy
                go_region
                all_goals
                  go_wp2_with fail
                  refine (HL _).mono ?_; rintro z ws ⟨rfl, hbs⟩
                  have HXs : HB w w7.heap.size w9.heap.size a b c d p q r s x i j l n y [.int .i64 f1, .int .i64 f2, .int .i64 f3, .int .i64 f4] ws := HB.below ((HXl.side wr.heap.size 3 (.int .i64 (d + n - 1)) (by omega) (by omega) (by omega) (by omega)).drew) hbs
                  have HX2 := Lib.hid HXs
                  clear hbs HXs HXl RL
                  go_wp2_with fail
                  go_roundw
                  case rel => exact ⟨3 + 1, by omega, by go_num, HX2⟩
                  case measure => simp [intOf]
              · go_wp2_with fail
                go_roundw
                case rel => exact ⟨3 + 1, by omega, by go_num, HX⟩
                case measure => simp [intOf]
            · replace hk6 : _ = Value.int .i64 4 := hk6
              subst hk6
              go_wp2_with fail
              refine (known_true _ (HE.out.below HX.out.hw.hb)).mono ?_; rintro z w3 ⟨rfl, hb3⟩
              go_wp2_with fail
              go_ret
              exact ⟨rfl, next HX.out.hw.hb hb3⟩

end Go.Proofs.YthnndmojijnbnaaDoor.maFn
