/- Which triggers are valid. -/
import Derived.Test.YtlhnnjllbcglcaaGreatDoorCaSmall
namespace Go.Proofs.YtlhnnjllbcglcaaGreatDoor.caFn
open Go.ChangeShapes Go.WideShapes Go.ChangeAt Go.RowKit drMem efFn
set_option linter.unusedVariables false

theorem two {w : World} {g : Nat} {t : TypeId} {a b : Value} (h : has w g t [a, b]) :
    w.cell? ⟨g, 0, none⟩ = some a ∧ w.cell? ⟨g, 1, none⟩ = some b ∧ ∀ i, w.frozen? ⟨g, i, none⟩ = false :=
  ⟨h.cell 0, h.cell 1, h.free⟩
set_option maxRecDepth 100000 in
set_option maxHeartbeats 2000000 in
theorem validTrigger_any (k : Int) (s : Option Addr) (n c : Nat) (l : List Ef) (w : World) (h : EfsAt w s n l) :
    Calls Tryz.prog 83 #[tV k s n c] w fun e w' => e = .returned (.bool (trB ⟨k, l⟩)) ∧ Below w.heap.size w w' := by
  have hn := h.n
  have e : trB ⟨k, l⟩ = (decide (1 ≤ k) && (decide (k ≤ 3) && (decide (1 ≤ n) && (decide (n ≤ 2) && (allB l && decide (tgN l = 0)))))) := by rw [← hn]; rfl
  rw [e]
  have M0 := new0 w 47 (tL k s n c)
  have B0 : Below w.heap.size w (w.alloc (.cells #[.int .i64 k, .slice s n c] 47)) := (Below.refl _ _).alloc (Nat.le_refl _) _
  have E0 := h.below B0 (Nat.le_refl _)
  have HM0 := Lib.hid M0
  have HB0 := Lib.hid B0
  have HA := All_any s n c l _ E0
  have HE0 := Lib.hid E0
  clear hn e h M0 B0 E0
  by_cases g0 : 1 ≤ k
  · by_cases g1 : k ≤ 3
    · by_cases g2 : 1 ≤ n
      · by_cases g3 : n ≤ 2
        · have g2' : (1 : Int) ≤ (n : Int) := by omega
          have g3' : (n : Int) ≤ 2 := by omega
          cases ha : allB l
          all_goals
            rw [ha] at HA
            rw [decide_eq_true g0, decide_eq_true g1, decide_eq_true g2, decide_eq_true g3]
            go_enter Tryz.func83, Tryz.ntmps83
            go_wp2_with fail
            refine HA.mono ?_; rintro e w1 ⟨rfl, hb1⟩
            have HB1 := Lib.hid (next HB0.out hb1)
            have HM1 := Lib.hid (HM0.out.below hb1 HM0.out.lt)
            obtain ⟨u0, u1, u2⟩ := two HM1.out
            have HE1 := Lib.hid (HE0.out.below hb1 (Nat.le_refl _))
            clear hb1
          · go_wp2_with fail
            go_ret
            exact ⟨rfl, HB1.out⟩
          · have HT := Targets_any s n c l w1 HE1.out
            go_wp2_with fail
            refine HT.mono ?_; rintro e w2 ⟨rfl, hb2⟩
            have HB2 := Lib.hid (next HB1.out hb2)
            clear hb2
            go_wp2_with fail
            go_ret
            exact ⟨ret_bool (by rw [Bool.eq_iff_iff]; simp), HB2.out⟩
        · rw [decide_eq_false g3]
          have g3' : ¬ (n : Int) ≤ 2 := by omega
          go_enter Tryz.func83, Tryz.ntmps83
          go_wp2
          go_ret
          exact ⟨ret_bool (by simp), HB0.out⟩
      · rw [decide_eq_false g2]
        have g3' : ¬ (1 : Int) ≤ (n : Int) := by omega
        go_enter Tryz.func83, Tryz.ntmps83
        go_wp2
        go_ret
        exact ⟨ret_bool (by simp), HB0.out⟩
    · rw [decide_eq_false g1]
      go_enter Tryz.func83, Tryz.ntmps83
      go_wp2
      go_ret
      exact ⟨ret_bool (by simp), HB0.out⟩
  · rw [decide_eq_false g0]
    go_enter Tryz.func83, Tryz.ntmps83
    go_wp2
    go_ret
    exact ⟨ret_bool (by simp), HB0.out⟩

/- the closure that asks whether an earlier trigger has the same occasion -/
theorem again_any (k j : Int) (s : Option Addr) (n c g : Nat) (w : World) (h : w.cell? ⟨g, 0, none⟩ = some (.int .i64 j)) (hg : g < w.heap.size) :
    Calls Tryz.prog 82 #[tV k s n c, .pointer (some ⟨g, 0, none⟩)] w fun e w' => e = .returned (.bool (k == j)) ∧ Below w.heap.size w w' := by
  have h' := (((Below.refl _ _).alloc (Nat.le_refl _) (.cells #[.int .i64 k, .slice s n c] 47) : Below w.heap.size w _).cell (p := ⟨g, 0, none⟩) hg).trans h
  go_enter Tryz.func82, Tryz.ntmps82
  go_wp2
  go_ret
  exact ⟨rfl, (Below.refl _ _).alloc (Nat.le_refl _) _⟩

theorem TrsAt.take {w : World} {sp : Option Addr} {n : Nat} {l : List Tr} (h : TrsAt w sp n l) (k : Nat) (hk : k ≤ n) : TrsAt w sp k (l.take k) :=
  ⟨by rw [List.length_take, h.n]; omega, by have := h.m; omega, (fun h0 => by
    obtain ⟨b, off, e, hl, hc⟩ := h.c (by omega)
    refine ⟨b, off, e, hl, fun i t hi => hc i t ?_⟩
    rw [List.getElem?_take] at hi
    split at hi
    · exact hi
    · cases hi), fun t ht => h.v t (List.mem_of_mem_take ht)⟩
set_option maxRecDepth 100000 in
set_option maxHeartbeats 2000000 in
theorem indexT_any (j : Int) (g : Nat) (sp : Option Addr) (n cap : Nat) (l : List Tr) (w : World) (h : TrsAt w sp n l) (hg0 : w.cell? ⟨g, 0, none⟩ = some (.int .i64 j)) (hg : g < w.heap.size) :
    Calls Tryz.prog 99 #[.slice sp n cap, .func (.func 82) #[] #[.pointer (some ⟨g, 0, none⟩)]] w (idxPost (l.any fun u => u.w == j) w) := by
  have hn := h.n
  have hm := h.m
  have HG := Lib.hid hg0
  clear hg0
  rcases Nat.eq_zero_or_pos n with h0 | h0
  · subst h0
    have e : (l.any fun u => u.w == j) = false := by rw [List.eq_nil_of_length_eq_zero hn]; rfl
    rw [e]
    clear e h hn hm
    go_enter Tryz.func99, Tryz.ntmps99
    go_wp2
    refine wp_loop_rounds 1 ?_
    rw [rounds_succ]
    go_wp2
    go_ret
    exact ⟨-1, rfl, by decide, Below.refl _ _⟩
  · obtain ⟨b, off, rfl, hbl, hc⟩ := h.c h0
    have C : Hid (∀ k, k < n → ∃ s m c, TrAt w b (off + k * 2) (l.getD k default) s m c) := Lib.hid fun k hk => hc k _ (getT (by omega))
    have HN := Lib.hid hn
    clear hc h hn
    go_enter Tryz.func99, Tryz.ntmps99
    go_wp2
    go_loopw [8] (fun i wr => ∃ k : Nat, k ≤ n ∧ i = .int .i64 k ∧ Hid (((l.take k).any fun u => u.w == j) = false ∧ Below w.heap.size w wr)) (fun i _ => n - (intOf i).toNat)
    case atStart => exact ⟨0, Nat.zero_le _, rfl, Lib.hid ⟨by simp, Below.refl _ _⟩⟩
    case round =>
      obtain ⟨k, hk, rfl, HT⟩ := hrel
      by_cases hlt : k < n
      · obtain ⟨s, m, c, hat⟩ := C.out k hlt
        obtain ⟨c0, c1, _⟩ := hat.below HT.out.2 hbl (Nat.le_refl _)
        clear hat
        have HX := Lib.hid (fun h => any_no (l := l) (p := fun u => u.w == j) (k := k) (by rw [HN.out]; exact hlt) HT.out.1 h)
        have HY := Lib.hid (fun h => any_yes (l := l) (p := fun u => u.w == j) (k := k) (by rw [HN.out]; exact hlt) h)
        generalize l.getD k default = x at *
        obtain ⟨xw, xe⟩ := x
        dsimp only at c0 c1
        have HV := again_any xw j s m c g wr ((HT.out.2.cell (p := ⟨g, 0, none⟩) hg).trans HG.out) (by have := HT.out.2.size; omega)
        cases hx : (xw == j)
        all_goals
          rw [hx] at HV
          go_wp2_with fail
          refine HV.mono ?_; rintro e w1 ⟨rfl, hb1⟩
          have HB := Lib.hid (HT.out.2.trans (hb1.mono HT.out.2.size))
          clear hb1
          go_wp2_with fail
        · exact ⟨⟨k + 1, by omega, by go_num, Lib.hid ⟨HX.out hx, HB.out⟩⟩, by simp [intOf]; omega⟩
        · go_ret
          exact ⟨k, rfl, by rw [HY.out hx]; simp, HB.out⟩
      · obtain rfl : k = n := by omega
        have e : (l.any fun u => u.w == j) = false := by
          rw [← HT.out.1, List.take_of_length_le (by rw [HN.out]; exact Nat.le_refl _)]
        have HE := Lib.hid e
        clear e
        go_wp2
        go_ret
        exact ⟨-1, rfl, by rw [HE.out]; decide, HT.out.2⟩
theorem containsT_any (j : Int) (g : Nat) (sp : Option Addr) (n cap : Nat) (l : List Tr) (w : World) (h : TrsAt w sp n l) (hg0 : w.cell? ⟨g, 0, none⟩ = some (.int .i64 j)) (hg : g < w.heap.size) :
    Calls Tryz.prog 84 #[.slice sp n cap, .func (.func 82) #[] #[.pointer (some ⟨g, 0, none⟩)]] w fun e w' => e = .returned (.bool (l.any fun u => u.w == j)) ∧ Below w.heap.size w w' := by
  have HI := indexT_any j g sp n cap l w h hg0 hg
  go_enter Tryz.func84, Tryz.ntmps84
  go_wp2_with fail
  refine HI.mono ?_; rintro e w1 ⟨r, rfl, hr, hb1⟩
  go_wp2_with fail
  go_ret
  exact ⟨rfl, hb1⟩
end Go.Proofs.YtlhnnjllbcglcaaGreatDoor.caFn
