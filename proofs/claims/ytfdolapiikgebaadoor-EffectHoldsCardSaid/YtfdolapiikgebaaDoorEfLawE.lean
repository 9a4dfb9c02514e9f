/- The laws EffectEncodes, EffectDecodes. -/
import Derived.Test.YtfdolapiikgebaaDoorEfKnown
namespace Go.Proofs.YtfdolapiikgebaaDoor.efFn
open Go.ChangeShapes Go.WideShapes Go.ChangeAt Go.RowKit drMem
set_option linter.unusedVariables false

def lawPost (w : World) (e : Ending) (w' : World) : Prop := e = .returned (.bool true) ∧ Below w.heap.size w w'
set_option maxRecDepth 100000 in
set_option maxHeartbeats 4000000 in
theorem Encodes_law (sp : Option Addr) (n cap : Nat) (l : List Ef) (w : World) (hG : G w) (h : EfsAt w sp n l) :
    Calls Tryd.prog 5 #[.slice sp n cap] w (lawPost w) := by
  have HG := Lib.hid hG
  have hm := h.m
  clear hG
  by_cases hl : n ≤ 20
  · have HA := rAll_any sp n cap l w h
    cases ha : allB l
    · rw [ha] at HA
      have HZ := Lib.hid (encZ_no ha)
      have HH := Lib.hid h
      clear ha h
      go_enter Tryd.func5, Tryd.ntmps5
      go_wp2_with fail
      refine HA.mono ?_; rintro e w1 ⟨rfl, hb1⟩
      have B1 := Lib.hid hb1
      have HV := encodes_any sp none n cap 0 0 l [] 2 w1 (HH.out.below hb1 (Nat.le_refl _)) (BsAt.nil _ _)
      rw [HZ.out, decide_eq_true rfl] at HV
      clear hb1 HA
      go_wp2_with fail
      refine HV.mono ?_; rintro e w2 ⟨rfl, hb2⟩
      have B2 := Lib.hid (next B1.out hb2)
      clear hb2 HV
      go_wp2_with fail
      refine (known_any _ (HG.out.below B2.out)).mono ?_; rintro e w3 ⟨rfl, hb3⟩
      have B3 := Lib.hid (next B2.out hb3)
      clear hb3
      go_wp2_with fail
      go_ret
      exact ⟨rfl, B3.out⟩
    · rw [ha] at HA
      have HZ := Lib.hid (encZ_yes ha)
      have HA2 := Lib.hid ha
      have HH := Lib.hid h
      clear ha h
      go_enter Tryd.func5, Tryd.ntmps5
      go_wp2_with fail
      refine HA.mono ?_; rintro e w1 ⟨rfl, hb1⟩
      have B1 := Lib.hid hb1
      have HV := rEncode_yes sp n cap l w1 (HH.out.below hb1 (Nat.le_refl _)) HA2.out
      clear hb1 HA
      go_wp2_with fail
      refine HV.mono ?_; rintro e w2 ⟨sq, nq, cq, rfl, hq, hb2⟩
      have B2 := Lib.hid (next B1.out hb2)
      have HV := encodes_any sp sq n cap nq cq l (encB l) 0 w2 (HH.out.below B2.out (Nat.le_refl _)) hq
      rw [HZ.out, decide_eq_true rfl] at HV
      clear hb2 hq
      go_wp2_with fail
      refine HV.mono ?_; rintro e w3 ⟨rfl, hb3⟩
      have B3 := Lib.hid (next B2.out hb3)
      clear hb3 HV
      go_wp2_with fail
      refine (known_any _ (HG.out.below B3.out)).mono ?_; rintro e w4 ⟨rfl, hb4⟩
      have B4 := Lib.hid (next B3.out hb4)
      clear hb4
      go_wp2_with fail
      go_ret
      exact ⟨rfl, B4.out⟩
  · have HK := known_any w HG.out
    clear h
    go_enter Tryd.func5, Tryd.ntmps5
    go_wp2_with fail
    refine HK.mono ?_; rintro e w1 ⟨rfl, hb1⟩
    have B1 := Lib.hid hb1
    clear hb1 HK
    go_wp2_with fail
    go_ret
    exact ⟨rfl, B1.out⟩

set_option maxRecDepth 100000 in
set_option maxHeartbeats 4000000 in
theorem Decodes_law (sp : Option Addr) (n cap : Nat) (l : List UInt8) (w : World) (hG : G w) (h : BsAt w sp n l) (hcap : n ≤ cap) :
    Calls Tryd.prog 6 #[.slice sp n cap] w (lawPost w) := by
  have HG := Lib.hid hG
  have hm := h.m
  clear hG
  by_cases hl : n ≤ 300
  · have HD := rDecode_any sp n cap l w h hcap
    have HX : ∀ (sq : Option Addr) (nq cq : Nat) (w2 : World), Below w.heap.size w w2 → EfsAt w2 sq nq (decR l).1 → Calls Tryd.prog 19 #[.slice sp n cap, .slice sq nq cq, .int .i64 ((decR l).2.1 : Int), .int .i64 ((decR l).2.2 : Int)] w2 fun e w' => e = .returned (.bool true) ∧ Below w2.heap.size w2 w' := fun sq nq cq w2 hb2 hq => by
      have := decodes_any sp sq n cap nq cq l (decR l).1 ((decR l).2.1 : Int) ((decR l).2.2 : Int) w2 (h.below hb2 (Nat.le_refl _)) hcap hq
      rw [decide_eq_true ⟨rfl, rfl, rfl⟩] at this
      exact this
    have hk : IntKind.i64.wrap ((decR l).2.2 : Int) = ((decR l).2.2 : Int) := IntWalk.i64_in _ (by unfold decR; (repeat' split) <;> simp)
    generalize decR l = z at *
    obtain ⟨a, b, c⟩ := z
    unfold decPost at HD
    dsimp only at HD HX hk
    clear h hcap
    go_enter Tryd.func6, Tryd.ntmps6
    go_wp2_with fail
    refine HD.mono ?_; rintro e w1 ⟨sr, cr, rfl, hr, hb1⟩
    have B1 := Lib.hid hb1
    have HV := HX sr a.length cr w1 hb1 hr
    clear hb1 HD HX hr
    go_wp2_with fail
    refine HV.mono ?_; rintro e w2 ⟨rfl, hb2⟩
    have B2 := Lib.hid (next B1.out hb2)
    clear hb2 HV
    go_wp2_with fail
    refine (known_any _ (HG.out.below B2.out)).mono ?_; rintro e w3 ⟨rfl, hb3⟩
    have B3 := Lib.hid (next B2.out hb3)
    clear hb3
    go_wp2_with fail
    go_ret
    exact ⟨rfl, B3.out⟩
  · have HK := known_any w HG.out
    clear h
    go_enter Tryd.func6, Tryd.ntmps6
    go_wp2_with fail
    refine HK.mono ?_; rintro e w1 ⟨rfl, hb1⟩
    have B1 := Lib.hid hb1
    clear hb1 HK
    go_wp2_with fail
    go_ret
    exact ⟨rfl, B1.out⟩
end Go.Proofs.YtfdolapiikgebaaDoor.efFn
