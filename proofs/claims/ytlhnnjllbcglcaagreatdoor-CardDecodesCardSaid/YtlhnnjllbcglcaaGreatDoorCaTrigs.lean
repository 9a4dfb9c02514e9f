/- Which lists of triggers are valid. -/
import Derived.Test.YtlhnnjllbcglcaaGreatDoorCaTrig
namespace Go.Proofs.YtlhnnjllbcglcaaGreatDoor.caFn
open Go.ChangeShapes Go.WideShapes Go.ChangeAt Go.RowKit drMem efFn
set_option linter.unusedVariables false

set_option maxRecDepth 100000 in
set_option maxHeartbeats 4000000 in
theorem validTriggers_any (sp : Option Addr) (n cap : Nat) (l : List Tr) (w : World) (h : TrsAt w sp n l) (hcap : n ≤ cap) :
    Calls Tryz.prog 64 #[.slice sp n cap] w fun e w' => e = .returned (.bool (trsB l)) ∧ Below w.heap.size w w' := by
  have hmf : ∀ (fn : Fn) (first cap : Array Value) (w : World), (Instr.makeFunc fn first cap).run Tryz.prog w = .ok (.func fn first cap) w := fun _ _ _ _ => rfl
  have hn := h.n
  have hm := h.m
  by_cases h2 : n ≤ 2
  · have HR : Hid (trsB l = trsOk l n) := Lib.hid (by unfold trsB; rw [hn, decide_eq_true h2]; rfl)
    have hd : decide (2 < (n : Int)) = false := decide_eq_false (by omega)
    rcases Nat.eq_zero_or_pos n with h0 | h0
    · subst h0
      have e : trsB l = true := by rw [List.eq_nil_of_length_eq_zero hn]; rfl
      rw [e]
      clear e h hn hm h2 HR
      go_enter Tryz.func64, Tryz.ntmps64
      go_wp2
      refine wp_loop_rounds 1 ?_
      rw [rounds_succ]
      go_wp2
      go_ret
      exact ⟨rfl, Below.refl _ _⟩
    · have HH := Lib.hid h
      obtain ⟨b, off, rfl, hbl, hc⟩ := h.c h0
      have C : Hid (∀ k, k < n → ∃ s m c, TrAt w b (off + k * 2) (l.getD k default) s m c) := Lib.hid fun k hk => hc k _ (getT (by omega))
      clear hc h
      have HN := Lib.hid hn
      clear hn h2
      go_enter Tryz.func64, Tryz.ntmps64
      go_wp2
      go_loopw [11] (fun i wr => ∃ k : Nat, k ≤ n ∧ i = .int .i64 k ∧ Hid (trsOk l k = true ∧ Below w.heap.size w wr)) (fun i _ => n - (intOf i).toNat)
      case atStart => exact ⟨0, Nat.zero_le _, rfl, Lib.hid ⟨rfl, Below.refl _ _⟩⟩
      case round =>
        obtain ⟨k, hk, rfl, HT⟩ := hrel
        by_cases hlt : k < n
        · obtain ⟨s, m, c, hat⟩ := C.out k hlt
          obtain ⟨c0, c1, ce⟩ := hat.below HT.out.2 hbl (Nat.le_refl _)
          clear hat
          have HX := Lib.hid (trsOk_succ l k)
          have HY := Lib.hid (fun h => trsOk_no l k n hlt h)
          have HK : Hid (TrsAt w (some ⟨b, off, none⟩) k (l.take k)) := Lib.hid (HH.out.take k hk)
          generalize l.getD k default = x at *
          obtain ⟨xw, xe⟩ := x
          dsimp only at c0 c1 ce HX HY
          have z := HT.out.2.size
          have M0 := (new0 wr 47 (tL xw s m c))
          have B0 : Below wr.heap.size wr (wr.alloc (.cells #[.int .i64 xw, .slice s m c] 47)) := (Below.refl _ _).alloc (Nat.le_refl _) _
          have HM0 := Lib.hid M0
          have HB0 := Lib.hid B0
          have HV := validTrigger_any xw s m c xe (wr.alloc (.cells #[.int .i64 xw, .slice s m c] 47)) (ce.below B0 (Nat.le_refl _))
          clear M0 B0 ce
          cases hx : trB ⟨xw, xe⟩
          · rw [hx] at HV
            have hr := HY.out (by rw [hx]; rfl)
            have HRR := Lib.hid (HR.out.trans hr)
            clear hr
            go_wp2_with fail
            refine HV.mono ?_; rintro e w1 ⟨rfl, hb1⟩
            have HB := Lib.hid (HT.out.2.trans ((next HB0.out hb1).mono z))
            clear hb1
            go_wp2_with fail
            go_ret
            exact ⟨ret_bool HRR.out.symm, HB.out⟩
          · rw [hx] at HV
            rw [hx] at HX HY
            go_wp2_with fail
            refine HV.mono ?_; rintro e w1 ⟨rfl, hb1⟩
            have HB := Lib.hid (HT.out.2.trans ((next HB0.out hb1).mono z))
            have HM1 := Lib.hid (HM0.out.below hb1 HM0.out.lt)
            have z1 := HM1.out.lt
            clear hb1
            have HC := containsT_any xw wr.heap.size (some ⟨b, off, none⟩) k cap (l.take k) w1 (HK.out.below HB.out (Nat.le_refl _)) (HM1.out.cell 0) z1
            cases hy : (l.take k).any fun u => u.w == xw
            all_goals
              rw [hy] at HC HX HY
              go_wp2_with fail
              refine HC.mono ?_; rintro e w2 ⟨rfl, hb2⟩
              have HB2 := Lib.hid (HB.out.trans (hb2.mono HB.out.size))
              clear hb2
              go_wp2_with fail
            · exact ⟨⟨k + 1, by omega, by go_num, Lib.hid ⟨by rw [HX.out, HT.out.1]; rfl, HB2.out⟩⟩, by simp [intOf]; omega⟩
            · go_ret
              exact ⟨ret_bool (by rw [HR.out, HY.out rfl]), HB2.out⟩
        · obtain rfl : k = n := by omega
          have e := HR.out.trans HT.out.1
          have HE := Lib.hid e
          clear e
          go_wp2
          go_ret
          exact ⟨ret_bool HE.out.symm, HT.out.2⟩
  · have e : trsB l = false := by unfold trsB; rw [decide_eq_false (by omega), Bool.false_and]
    have hd : decide (2 < (n : Int)) = true := decide_eq_true (by omega)
    rw [e]
    clear e h hn hm h2
    go_enter Tryz.func64, Tryz.ntmps64
    go_wp2
    go_ret
    exact ⟨rfl, Below.refl _ _⟩
end Go.Proofs.YtlhnnjllbcglcaaGreatDoor.caFn
