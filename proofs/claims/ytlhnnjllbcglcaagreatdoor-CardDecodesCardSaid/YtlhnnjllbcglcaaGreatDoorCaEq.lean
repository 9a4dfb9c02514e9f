/- Cards and lists of triggers that are compared. -/
import Derived.Test.YtlhnnjllbcglcaaGreatDoorCaTrigs
import Derived.Test.YtlhnnjllbcglcaaGreatDoorCeKind
namespace Go.Proofs.YtlhnnjllbcglcaaGreatDoor.caFn
open Go.ChangeShapes Go.WideShapes Go.ChangeAt Go.RowKit drMem efFn
set_option linter.unusedVariables false

theorem equalT_any (k1 k2 : Int) (s1 s2 : Option Addr) (n1 n2 c1 c2 : Nat) (a b : List Ef) (w : World) (h1 : EfsAt w s1 n1 a) (h2 : EfsAt w s2 n2 b) :
    Calls Tryz.prog 80 #[tV k1 s1 n1 c1, tV k2 s2 n2 c2] w fun e w' => e = .returned (.bool (decide ((⟨k1, a⟩ : Tr) = ⟨k2, b⟩))) ∧ Below w.heap.size w w' := by
  have B1 : Below w.heap.size w ((w.alloc (.cells #[.int .i64 k1, .slice s1 n1 c1] 47)).alloc (.cells #[.int .i64 k2, .slice s2 n2 c2] 47)) := ((Below.refl _ _).alloc (Nat.le_refl _) _).alloc (by simp) _
  have HS := slEq_any s1 s2 n1 n2 c1 c2 a b _ (h1.below B1 (Nat.le_refl _)) (h2.below B1 (Nat.le_refl _))
  have HB1 := Lib.hid B1
  clear h1 h2 B1
  have e : decide ((⟨k1, a⟩ : Tr) = ⟨k2, b⟩) = ((k1 == k2) && sameB a b) := by
    rw [Bool.eq_iff_iff]; simp [sameB]
  rw [e]
  cases hk : (k1 == k2)
  · go_enter Tryz.func80, Tryz.ntmps80
    go_wp2
    go_ret
    exact ⟨rfl, HB1.out⟩
  · go_enter Tryz.func80, Tryz.ntmps80
    go_wp2_with fail
    refine HS.mono ?_; rintro e w1 ⟨rfl, hb1⟩
    have HB2 := Lib.hid (next HB1.out hb1)
    clear hb1
    go_wp2_with fail
    go_ret
    exact ⟨rfl, HB2.out⟩

def sameT (a b : List Tr) : Bool := decide (a = b)
theorem sameT_len {a b : List Tr} (h : a.length ≠ b.length) : sameT a b = false := by
  unfold sameT; exact decide_eq_false (fun e => h (by rw [e]))
theorem sameT_of {a b : List Tr} (h : a = b) : sameT a b = true := by unfold sameT; exact decide_eq_true h
theorem sameT_ne {a b : List Tr} (k : Nat) (h : a.getD k default ≠ b.getD k default) : sameT a b = false := by
  unfold sameT; exact decide_eq_false (fun e => h (by rw [e]))
theorem takeT_succ {a b : List Tr} {k : Nat} (h1 : k < a.length) (h2 : k < b.length) (h : a.take k = b.take k) (he : a.getD k default = b.getD k default) : a.take (k + 1) = b.take (k + 1) := by
  rw [List.take_succ_eq_append_getElem h1, List.take_succ_eq_append_getElem h2, h]
  have e1 : a.getD k default = a[k] := by simp [List.getD_eq_getElem?_getD, h1]
  have e2 : b.getD k default = b[k] := by simp [List.getD_eq_getElem?_getD, h2]
  rw [← e1, ← e2, he]
set_option maxRecDepth 100000 in
set_option maxHeartbeats 4000000 in
theorem equalF_any (s1 s2 : Option Addr) (n1 n2 c1 c2 : Nat) (a b : List Tr) (w : World) (h1 : TrsAt w s1 n1 a) (h2 : TrsAt w s2 n2 b) :
    Calls Tryz.prog 79 #[.slice s1 n1 c1, .slice s2 n2 c2, .func (.func 80) #[] #[]] w fun e w' => e = .returned (.bool (sameT a b)) ∧ Below w.heap.size w w' := by
  have l1 := h1.n
  have l2 := h2.n
  have m1 := h1.m
  have m2 := h2.m
  by_cases hn : n1 = n2
  · subst hn
    rcases Nat.eq_zero_or_pos n1 with h0 | h0
    · subst h0
      have e : sameT a b = true := sameT_of (by rw [List.eq_nil_of_length_eq_zero l1, List.eq_nil_of_length_eq_zero l2])
      rw [e]
      clear e h1 h2 l1 l2
      go_enter Tryz.func79, Tryz.ntmps79
      go_wp2
      refine wp_loop_rounds 1 ?_
      rw [rounds_succ]
      go_wp2
      go_ret
      exact ⟨rfl, Below.refl _ _⟩
    · obtain ⟨b1, o1, rfl, hb1, hc1⟩ := h1.c h0
      obtain ⟨b2, o2, rfl, hb2, hc2⟩ := h2.c h0
      have C1 : Hid (∀ k, k < n1 → ∃ s m c, TrAt w b1 (o1 + k * 2) (a.getD k default) s m c) := Lib.hid fun k hk => hc1 k _ (getT (by omega))
      have C2 : Hid (∀ k, k < n1 → ∃ s m c, TrAt w b2 (o2 + k * 2) (b.getD k default) s m c) := Lib.hid fun k hk => hc2 k _ (getT (by omega))
      have L1 := Lib.hid l1
      have L2 := Lib.hid l2
      clear hc1 hc2 h1 h2 l1 l2
      go_enter Tryz.func79, Tryz.ntmps79
      go_wp2
      go_loopw [17] (fun i wr => ∃ k : Nat, k ≤ n1 ∧ i = .int .i64 k ∧ Hid (a.take k = b.take k ∧ Below w.heap.size w wr)) (fun i _ => n1 - (intOf i).toNat)
      case atStart => exact ⟨0, Nat.zero_le _, rfl, Lib.hid ⟨rfl, Below.refl _ _⟩⟩
      case round =>
        obtain ⟨k, hk, rfl, HT⟩ := hrel
        by_cases hlt : k < n1
        · obtain ⟨t1, p1, q1, hat1⟩ := C1.out k hlt
          obtain ⟨t2, p2, q2, hat2⟩ := C2.out k hlt
          obtain ⟨d0, d1, de⟩ := hat1.below HT.out.2 hb1 (Nat.le_refl _)
          obtain ⟨e0, e1, ee⟩ := hat2.below HT.out.2 hb2 (Nat.le_refl _)
          clear hat1 hat2
          have z := HT.out.2.size
          have HX := Lib.hid (fun h => takeT_succ (by rw [L1.out]; exact hlt) (by rw [L2.out]; exact hlt) HT.out.1 h)
          have HY := Lib.hid (fun h => sameT_ne (a := a) (b := b) k h)
          generalize a.getD k default = x at *
          generalize b.getD k default = y at *
          obtain ⟨xw, xe⟩ := x
          obtain ⟨yw, ye⟩ := y
          dsimp only at d0 d1 de e0 e1 ee
          have e0' : (wr.alloc (.cells #[.int .i64 xw, .slice t1 p1 q1] 47)).cell? ⟨b2, o2 + k * 2, none⟩ = some (.int .i64 yw) := (((Below.refl wr.heap.size wr).alloc (Nat.le_refl _) (.cells #[.int .i64 xw, .slice t1 p1 q1] 47)).cell (p := ⟨b2, _, none⟩) (by show b2 < _; omega)).trans e0
          have e1' : (wr.alloc (.cells #[.int .i64 xw, .slice t1 p1 q1] 47)).cell? ⟨b2, o2 + k * 2 + 1, none⟩ = some (.slice t2 p2 q2) := (((Below.refl wr.heap.size wr).alloc (Nat.le_refl _) (.cells #[.int .i64 xw, .slice t1 p1 q1] 47)).cell (p := ⟨b2, _, none⟩) (by show b2 < _; omega)).trans e1
          have B0 : Below wr.heap.size wr ((wr.alloc (.cells #[.int .i64 xw, .slice t1 p1 q1] 47)).alloc (.cells #[.int .i64 yw, .slice t2 p2 q2] 47)) := ((Below.refl _ _).alloc (Nat.le_refl _) _).alloc (by simp) _
          have HV := equalT_any xw yw t1 t2 p1 p2 q1 q2 xe ye _ (de.below B0 (Nat.le_refl _)) (ee.below B0 (Nat.le_refl _))
          have HB0 := Lib.hid B0
          clear de ee B0
          by_cases hx : (⟨xw, xe⟩ : Tr) = ⟨yw, ye⟩
          · have hx2 := HX.out hx
            have HX2 := Lib.hid hx2
            rw [decide_eq_true hx] at HV
            clear hx hx2 HX HY
            go_wp2_with fail
            refine HV.mono ?_; rintro e w1 ⟨rfl, hb⟩
            have HB := Lib.hid (HT.out.2.trans ((next HB0.out hb).mono z))
            clear hb
            go_wp2_with fail
            exact ⟨⟨k + 1, by omega, by go_num, Lib.hid ⟨HX2.out, HB.out⟩⟩, by simp [intOf]; omega⟩
          · have es := HY.out hx
            have ES := Lib.hid es
            rw [decide_eq_false hx] at HV
            clear hx es HX HY
            go_wp2_with fail
            refine HV.mono ?_; rintro e w1 ⟨rfl, hb⟩
            have HB := Lib.hid (HT.out.2.trans ((next HB0.out hb).mono z))
            clear hb
            go_wp2_with fail
            go_ret
            exact ⟨by rw [ES.out]; rfl, HB.out⟩
        · obtain rfl : k = n1 := by omega
          have es : sameT a b = true := sameT_of (by have := HT.out.1; rw [List.take_of_length_le (by rw [L1.out]; omega), List.take_of_length_le (by rw [L2.out]; omega)] at this; exact this)
          have ES := Lib.hid es
          clear es
          go_wp2
          go_ret
          exact ⟨by rw [ES.out]; rfl, HT.out.2⟩
  · have e : sameT a b = false := sameT_len (by omega)
    rw [e]
    have hne : ((n1 : Int) != (n2 : Int)) = true := by rw [bne_iff_ne]; omega
    clear e h1 h2 l1 l2 hn
    go_enter Tryz.func79, Tryz.ntmps79
    go_wp2
    go_ret
    exact ⟨rfl, Below.refl _ _⟩
end Go.Proofs.YtlhnnjllbcglcaaGreatDoor.caFn
