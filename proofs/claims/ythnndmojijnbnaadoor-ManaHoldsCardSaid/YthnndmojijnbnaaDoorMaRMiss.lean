/- What the reference's Missing returns. -/
import Derived.Test.YthnndmojijnbnaaDoorMaRef
import Derived.LoopTactic
namespace Go.Proofs.YthnndmojijnbnaaDoor.maFn
open Go.ChangeShapes Go.WideShapes Go.ChangeAt Go.RowKit drMem
set_option linter.unusedVariables false

theorem new3 (w : World) (o o' o'' : Obj) (t : TypeId) (cs : List Value) : has ((((w.alloc o).alloc o').alloc o'').alloc (.cells cs.toArray t)) (w.heap.size + 1 + 1 + 1) t cs := by
  have := has.new (((w.alloc o).alloc o').alloc o'') t cs; simpa using this
/- what is missing of the first k colours, and what is left of them -/
def outK (a b c d p q r s : Int) (k : Nat) : List Value := [.int .i64 (if 0 < k then de p a else 0), .int .i64 (if 1 < k then de q b else 0), .int .i64 (if 2 < k then de r c else 0), .int .i64 (if 3 < k then de s d else 0), .int .i64 0]
def lfK (a b c d p q r s : Int) (k : Nat) : Int := (if 0 < k then de a p else 0) + (if 1 < k then de b q else 0) + (if 2 < k then de c r else 0) + (if 3 < k then de d s else 0)
theorem lfK_bd {a b c d p q r s x : Int} (hm : okM 99 a b c d = true) (hk : okC p q r s x = true) : ∀ k, 0 ≤ lfK a b c d p q r s k ∧ lfK a b c d p q r s k ≤ 396 := by
  intro k
  rw [okM_iff] at hm; rw [okC_iff] at hk
  unfold lfK de
  (repeat' split) <;> omega
structure MR (w : World) (a b c d p q r s x : Int) (k : Nat) (wr : World) : Prop where
  hm : has wr w.heap.size 23 [.int .i64 a, .int .i64 b, .int .i64 c, .int .i64 d]
  hc : has wr (w.heap.size + 1) 25 [.int .i64 p, .int .i64 q, .int .i64 r, .int .i64 s, .int .i64 x]
  hr : has wr (w.heap.size + 1 + 1) 25 [.int .i64 0, .int .i64 0, .int .i64 0, .int .i64 0, .int .i64 0]
  ho : has wr (w.heap.size + 1 + 1 + 1) 25 (outK a b c d p q r s k)
  hb : Below w.heap.size w wr
variable {w wr : World} {a b c d p q r s x : Int} {k : Nat}
theorem MR.drew (h : MR w a b c d p q r s x k wr) : MR w a b c d p q r s x k wr.drew := ⟨h.hm, h.hc, h.hr, h.ho, h.hb.drew⟩
theorem MR.keep (h : MR w a b c d p q r s x k wr) (he : outK a b c d p q r s (k + 1) = outK a b c d p q r s k) : MR w a b c d p q r s x (k + 1) wr := ⟨h.hm, h.hc, h.hr, he ▸ h.ho, h.hb⟩
theorem MR.put (h : MR w a b c d p q r s x k wr) (i : Nat) (v : Int) (he : outK a b c d p q r s (k + 1) = (outK a b c d p q r s k).set i (.int .i64 v)) : MR w a b c d p q r s x (k + 1) (wr.setCell ⟨w.heap.size + 1 + 1 + 1, i, none⟩ (.int .i64 v)) :=
  ⟨h.hm.far (by show w.heap.size ≠ w.heap.size + 1 + 1 + 1; omega) _, h.hc.far (by show w.heap.size + 1 ≠ w.heap.size + 1 + 1 + 1; omega) _, h.hr.far (by show w.heap.size + 1 + 1 ≠ w.heap.size + 1 + 1 + 1; omega) _, he ▸ h.ho.put i _, h.hb.setCell (by show w.heap.size ≤ w.heap.size + 1 + 1 + 1; omega) _⟩


set_option maxRecDepth 100000 in
set_option maxHeartbeats 2000000 in
theorem rMissing_yes (a b c d p q r s x : Int) (w : World) (hm : okM 99 a b c d = true) (hk : okC p q r s x = true) :
    Calls Tryd.prog 19 #[.agg #[.int .i64 a, .int .i64 b, .int .i64 c, .int .i64 d], .agg #[.int .i64 p, .int .i64 q, .int .i64 r, .int .i64 s, .int .i64 x]] w
      fun e w' => e = .returned (.agg #[.int .i64 (de p a), .int .i64 (de q b), .int .i64 (de r c), .int .i64 (de s d), .int .i64 (de x (lf a b c d p q r s))]) ∧ Below w.heap.size w w' := by
  obtain ⟨⟨a0, a1⟩, ⟨b0, b1⟩, ⟨c0, c1⟩, ⟨e0, e1⟩⟩ := (okM_iff _ _ _ _ _).1 hm
  obtain ⟨⟨⟨p0, p1⟩, ⟨q0, q1⟩, ⟨r0, r1⟩, ⟨s0, s1⟩⟩, x0, x1⟩ := (okC_iff _ _ _ _ _).1 hk
  have HL := Lib.hid (lfK_bd hm hk)
  clear hm hk
  go_enter Tryd.func19, Tryd.ntmps19
  go_wp2
  have HS : MR w a b c d p q r s x 0 ((((w.alloc (.cells #[.int .i64 a, .int .i64 b, .int .i64 c, .int .i64 d] 23)).alloc (.cells #[.int .i64 p, .int .i64 q, .int .i64 r, .int .i64 s, .int .i64 x] 25)).alloc (.cells #[.int .i64 0, .int .i64 0, .int .i64 0, .int .i64 0, .int .i64 0] 25)).alloc (.cells #[.int .i64 0, .int .i64 0, .int .i64 0, .int .i64 0, .int .i64 0] 25)) :=
    ⟨(((new0 w _ _).alloc _).alloc _).alloc _, ((new1 w _ _ _).alloc _).alloc _, (new2 w _ _ _ _).alloc _, new3 w _ _ _ _ _, by go_grown⟩
  have HS' := Lib.hid HS
  clear HS
  go_loopw [6, 7] (fun l i wr => ∃ k : Nat, k ≤ 4 ∧ i = .int .i64 k ∧ l = .int .i64 (lfK a b c d p q r s k) ∧ MR w a b c d p q r s x k wr) (fun _ i _ => 4 - (intOf i).toNat)
  case atStart => exact ⟨0, Nat.zero_le _, rfl, rfl, HS'.out⟩
  case round =>
    obtain ⟨k, hk, rfl, rfl, hr⟩ := hrel
    clear HS'
    have HR := Lib.hid hr
    obtain ⟨t0, t1, t2, t3, t5⟩ := four hr.hm
    obtain ⟨u0, u1, u2, u3, u4, u5⟩ := five hr.hc
    clear hr
    have of := HR.out.ho.free
    obtain ⟨l0, l1⟩ := HL.out k
    generalize hlv : lfK a b c d p q r s k = lv at *
    have HLV := Lib.hid hlv
    clear hlv
    have hk' : k = 0 ∨ k = 1 ∨ k = 2 ∨ k = 3 ∨ k = 4 := by omega
    clear hk
    rcases hk' with rfl | rfl | rfl | rfl | rfl
    · have oc : wr.cell? ⟨w.heap.size + 1 + 1 + 1, 0, none⟩ = some (.int .i64 0) := HR.out.ho.cell 0
      by_cases hb : a < p
      · have e1 : p - a = de p a := by unfold de; omega
        have NX : ∀ u, MR w a b c d p q r s x 0 u → MR w a b c d p q r s x (0 + 1) (u.setCell ⟨w.heap.size + 1 + 1 + 1, 0, none⟩ (.int .i64 (p - a))) := fun u hu => hu.put 0 _ (by rw [e1]; rfl)
        have e2 : lfK a b c d p q r s (0 + 1) = lv := by
          have : de a p = 0 := by unfold de; omega
          rw [← HLV.out]; simp [lfK, this]
        have E2 := Lib.hid e2
        have NX' := Lib.hid NX
        clear e1 e2 NX
        go_wp2
        go_region
        go_wp2
        go_region
        all_goals
          go_wp2
          go_roundw
          case rel => exact ⟨0 + 1, by omega, by go_num, by rw [E2.out], NX'.out _ HR.out.drew.drew⟩
          case measure => simp [intOf]
      · have e1 : de p a = 0 := by unfold de; omega
        have NX : ∀ u, MR w a b c d p q r s x 0 u → MR w a b c d p q r s x (0 + 1) u := fun u hu => hu.keep (by simp [outK, e1])
        have e2 : lfK a b c d p q r s (0 + 1) = lv + a - p := by
          have : de a p = a - p := by unfold de; omega
          rw [← HLV.out]; simp [lfK, this]; try omega
        have E2 := Lib.hid e2
        have NX' := Lib.hid NX
        clear e1 e2 NX
        go_wp2
        go_region
        go_wp2
        go_region
        all_goals
          go_wp2
          go_roundw
          case rel => exact ⟨0 + 1, by omega, by go_num, by rw [E2.out], NX'.out _ HR.out.drew.drew⟩
          case measure => simp [intOf]
    · have oc : wr.cell? ⟨w.heap.size + 1 + 1 + 1, 1, none⟩ = some (.int .i64 0) := HR.out.ho.cell 1
      by_cases hb : b < q
      · have e1 : q - b = de q b := by unfold de; omega
        have NX : ∀ u, MR w a b c d p q r s x 1 u → MR w a b c d p q r s x (1 + 1) (u.setCell ⟨w.heap.size + 1 + 1 + 1, 1, none⟩ (.int .i64 (q - b))) := fun u hu => hu.put 1 _ (by rw [e1]; rfl)
        have e2 : lfK a b c d p q r s (1 + 1) = lv := by
          have : de b q = 0 := by unfold de; omega
          rw [← HLV.out]; simp [lfK, this]
        have E2 := Lib.hid e2
        have NX' := Lib.hid NX
        clear e1 e2 NX
        go_wp2
        go_region
        go_wp2
        go_region
        all_goals
          go_wp2
          go_roundw
          case rel => exact ⟨1 + 1, by omega, by go_num, by rw [E2.out], NX'.out _ HR.out.drew.drew⟩
          case measure => simp [intOf]
      · have e1 : de q b = 0 := by unfold de; omega
        have NX : ∀ u, MR w a b c d p q r s x 1 u → MR w a b c d p q r s x (1 + 1) u := fun u hu => hu.keep (by simp [outK, e1])
        have e2 : lfK a b c d p q r s (1 + 1) = lv + b - q := by
          have : de b q = b - q := by unfold de; omega
          rw [← HLV.out]; simp [lfK, this]; try omega
        have E2 := Lib.hid e2
        have NX' := Lib.hid NX
        clear e1 e2 NX
        go_wp2
        go_region
        go_wp2
        go_region
        all_goals
          go_wp2
          go_roundw
          case rel => exact ⟨1 + 1, by omega, by go_num, by rw [E2.out], NX'.out _ HR.out.drew.drew⟩
          case measure => simp [intOf]
    · have oc : wr.cell? ⟨w.heap.size + 1 + 1 + 1, 2, none⟩ = some (.int .i64 0) := HR.out.ho.cell 2
      by_cases hb : c < r
      · have e1 : r - c = de r c := by unfold de; omega
        have NX : ∀ u, MR w a b c d p q r s x 2 u → MR w a b c d p q r s x (2 + 1) (u.setCell ⟨w.heap.size + 1 + 1 + 1, 2, none⟩ (.int .i64 (r - c))) := fun u hu => hu.put 2 _ (by rw [e1]; rfl)
        have e2 : lfK a b c d p q r s (2 + 1) = lv := by
          have : de c r = 0 := by unfold de; omega
          rw [← HLV.out]; simp [lfK, this]
        have E2 := Lib.hid e2
        have NX' := Lib.hid NX
        clear e1 e2 NX
        go_wp2
        go_region
        go_wp2
        go_region
        all_goals
          go_wp2
          go_roundw
          case rel => exact ⟨2 + 1, by omega, by go_num, by rw [E2.out], NX'.out _ HR.out.drew.drew⟩
          case measure => simp [intOf]
      · have e1 : de r c = 0 := by unfold de; omega
        have NX : ∀ u, MR w a b c d p q r s x 2 u → MR w a b c d p q r s x (2 + 1) u := fun u hu => hu.keep (by simp [outK, e1])
        have e2 : lfK a b c d p q r s (2 + 1) = lv + c - r := by
          have : de c r = c - r := by unfold de; omega
          rw [← HLV.out]; simp [lfK, this]; try omega
        have E2 := Lib.hid e2
        have NX' := Lib.hid NX
        clear e1 e2 NX
        go_wp2
        go_region
        go_wp2
        go_region
        all_goals
          go_wp2
          go_roundw
          case rel => exact ⟨2 + 1, by omega, by go_num, by rw [E2.out], NX'.out _ HR.out.drew.drew⟩
          case measure => simp [intOf]
    · have oc : wr.cell? ⟨w.heap.size + 1 + 1 + 1, 3, none⟩ = some (.int .i64 0) := HR.out.ho.cell 3
      by_cases hb : d < s
      · have e1 : s - d = de s d := by unfold de; omega
        have NX : ∀ u, MR w a b c d p q r s x 3 u → MR w a b c d p q r s x (3 + 1) (u.setCell ⟨w.heap.size + 1 + 1 + 1, 3, none⟩ (.int .i64 (s - d))) := fun u hu => hu.put 3 _ (by rw [e1]; rfl)
        have e2 : lfK a b c d p q r s (3 + 1) = lv := by
          have : de d s = 0 := by unfold de; omega
          rw [← HLV.out]; simp [lfK, this]
        have E2 := Lib.hid e2
        have NX' := Lib.hid NX
        clear e1 e2 NX
        go_wp2
        go_region
        go_wp2
        go_region
        all_goals
          go_wp2
          go_roundw
          case rel => exact ⟨3 + 1, by omega, by go_num, by rw [E2.out], NX'.out _ HR.out.drew.drew⟩
          case measure => simp [intOf]
      · have e1 : de s d = 0 := by unfold de; omega
        have NX : ∀ u, MR w a b c d p q r s x 3 u → MR w a b c d p q r s x (3 + 1) u := fun u hu => hu.keep (by simp [outK, e1])
        have e2 : lfK a b c d p q r s (3 + 1) = lv + d - s := by
          have : de d s = d - s := by unfold de; omega
          rw [← HLV.out]; simp [lfK, this]; try omega
        have E2 := Lib.hid e2
        have NX' := Lib.hid NX
        clear e1 e2 NX
        go_wp2
        go_region
        go_wp2
        go_region
        all_goals
          go_wp2
          go_roundw
          case rel => exact ⟨3 + 1, by omega, by go_num, by rw [E2.out], NX'.out _ HR.out.drew.drew⟩
          case measure => simp [intOf]
    · have O4 : has wr (w.heap.size + 1 + 1 + 1) 25 [.int .i64 (de p a), .int .i64 (de q b), .int .i64 (de r c), .int .i64 (de s d), .int .i64 0] := HR.out.ho
      obtain ⟨o0, o1, o2, o3, o4, o5⟩ := five O4
      obtain ⟨v0, v1, v2, v3, v4, v5⟩ := five HR.out.hr
      have hz := O4.lt
      have hB := HR.out.hb
      have e1 : lf a b c d p q r s = lv := by rw [← HLV.out]; simp [lfK, lf]
      have E1 := Lib.hid e1
      clear e1 O4
      by_cases hx : lv < x
      · have e2 : de x lv = x - lv := by unfold de; omega
        have E2 := Lib.hid e2
        clear e2
        go_wp2
        exact bodyPost_ret (v := .agg #[.int .i64 (de p a), .int .i64 (de q b), .int .i64 (de r c), .int .i64 (de s d), .int .i64 (x - lv)]) (by simp [results, Tryd.results19, go_sem, v0, v1, v2, v3, v4]) rfl ⟨by rw [E1.out, E2.out], by go_grown⟩
      · have e2 : de x lv = 0 := by unfold de; omega
        have E2 := Lib.hid e2
        clear e2
        go_wp2
        exact bodyPost_ret (v := .agg #[.int .i64 (de p a), .int .i64 (de q b), .int .i64 (de r c), .int .i64 (de s d), .int .i64 0]) (by simp [results, Tryd.results19, go_sem, v0, v1, v2, v3, v4]) rfl ⟨by rw [E1.out, E2.out], by go_grown⟩

end Go.Proofs.YthnndmojijnbnaaDoor.maFn
