/- What All returns, and what its iterator hands on. -/
import Derived.RangeFuncBox
import Derived.RangeFuncNested
import Derived.RangeFuncBound
import Derived.RangeFuncCalls
import Derived.RangeFuncLeaves
import Derived.Shelf.Abstract
import Derived.Shelf.RegionOpen
import Derived.OwnWalkIn
import Derived.TacticsInMore
import Derived.LoopNIn
import Derived.LoopIn
import Derived.Maps.AppendAt
import Derived.Test.YtefncefmolphfaaDoorIdCopy
namespace Go.Proofs.YtefncefmolphfaaDoor.idFn
open Go.ChangeShapes Go.WideShapes Go.ChangeAt Go.RowKit Go.Shelf drMem idBits
set_option linter.unusedVariables false
attribute [local go_sem] Oper.semAt_some
variable {w w' : World} {b g : Nat} {fl : List Bool}

/- the ids that are taken among the first k -/
def ids (fl : List Bool) (k : Nat) : List Int := ((List.range k).filter fun i => fl.getD i false).map fun (i : Nat) => (i : Int) + 1
theorem ids_yes {fl : List Bool} {k : Nat} (h : fl.getD k false = true) : ids fl (k + 1) = ids fl k ++ [(k : Int) + 1] := by
  unfold ids; rw [List.range_succ, List.filter_append, List.map_append, List.filter_cons_of_pos (by exact h)]; rfl
theorem ids_no {fl : List Bool} {k : Nat} (h : fl.getD k false = false) : ids fl (k + 1) = ids fl k := by
  unfold ids; rw [List.range_succ, List.filter_append, List.map_append, List.filter_cons_of_neg (by rw [h]; simp)]; simp
theorem ids_pre (fl : List Bool) {k n : Nat} (h : k ≤ n) : ids fl k <+: ids fl n := by
  induction n with
  | zero => obtain rfl : k = 0 := by omega
            exact List.prefix_refl _
  | succ n ih =>
    rcases Nat.lt_or_ge k (n + 1) with h1 | h1
    · refine (ih (by omega)).trans ?_
      cases hf : fl.getD n false with
      | true => rw [ids_yes hf]; exact List.prefix_append _ _
      | false => rw [ids_no hf]; exact List.prefix_refl _
    · obtain rfl : k = n + 1 := by omega
      exact List.prefix_refl _
theorem ids_len (fl : List Bool) : (ids fl fl.length).length = fl.count true := by
  have h : ∀ k, k ≤ fl.length → (ids fl k).length = (fl.take k).count true := by
    intro k
    induction k with
    | zero => intro _; simp [ids]
    | succ k ih =>
      intro hk
      have e : fl.getD k false = fl[k] := by simp [List.getD_eq_getElem?_getD, show k < fl.length by omega]
      rw [List.take_succ_eq_append_getElem (by omega), List.count_append, ← ih (by omega)]
      cases hf : fl.getD k false with
      | true => rw [ids_yes hf, ← e, hf]; simp
      | false => rw [ids_no hf, ← e, hf]; simp
  rw [h _ (Nat.le_refl _), List.take_length]

theorem Has_k (h : isI w b g fl) (k : Nat) (h2 : k < fl.length) :
    Calls Tryd.prog 20 #[.pointer (some ⟨b, 0, none⟩), .int .i64 ((k : Int) + 1)] w fun e w' => e = .returned (.bool (fl.getD k false)) ∧ ∃ n, w' = w.drewN n := by
  have := Has_in h (k + 1) (by omega) (by omega)
  rw [Nat.add_sub_cancel] at this
  exact this
def allPost (fl : List Bool) (w : World) (e : Ending) (w' : World) : Prop :=
  ∃ q b' g', e = .returned (.func (.func 33) #[] #[.pointer (some ⟨q, 0, none⟩)]) ∧ w'.cell? ⟨q, 0, none⟩ = some (.pointer (some ⟨b', 0, none⟩)) ∧ isI w' b' g' fl ∧ w.heap.size ≤ q ∧ w.heap.size ≤ b' ∧ w.heap.size ≤ g' ∧ q < w'.heap.size ∧ Below w.heap.size w w'
set_option maxHeartbeats 400000 in
theorem All_any (h : isI w b g fl) : Calls Tryd.prog 18 #[.pointer (some ⟨b, 0, none⟩)] w (allPost fl w) := by
  have HZ := Lib.hid (zero_any h)
  have HC := Lib.hid (Copy_any h)
  clear h
  go_enter Tryd.func18, Tryd.ntmps18
  go_wp2_with (first | (go_at_call 28; refine HZ.out.mono ?_; rintro e w' ⟨rfl, rfl⟩) | (go_at_call 22; refine HC.out.mono ?_; rintro e w' ⟨b', g', rfl, hi, hb1, hg1, hb⟩; have HI := Lib.hid hi; have B := Lib.hid hb; clear hi hb))
  go_ret
  refine ⟨w'.heap.size, b', g', rfl, (has.new w' 24 [.pointer (some ⟨b', 0, none⟩)]).cell 0, HI.out.belowW ((Below.refl _ _).alloc (Nat.le_refl _) _), B.out.size, hb1, hg1, by simp, B.out.alloc B.out.size _⟩
theorem All_none (p : Option Addr) (w : World) (hp : p = none ∨ ∃ b, p = some ⟨b, 0, none⟩ ∧ w.cell? ⟨b, 0, none⟩ = some (.int .i64 0)) :
    Calls Tryd.prog 18 #[.pointer p] w fun e w' => e = .returned (.func (.func 32) #[] #[]) ∧ w = w' := by
  have HZ : Hid (Calls Tryd.prog 28 #[.pointer p] w fun e w' => e = .returned (.bool true) ∧ w = w') := Lib.hid (by
    rcases hp with rfl | ⟨b, rfl, hc⟩
    · exact zero_nil w
    · exact zero_zero b w hc)
  clear hp
  go_enter Tryd.func18, Tryd.ntmps18
  go_wp2_with (go_at_call 28; refine HZ.out.mono ?_; rintro e w' ⟨rfl, rfl⟩)
  go_ret
  exact ⟨rfl, rfl⟩

set_option maxRecDepth 100000 in
set_option maxHeartbeats 2000000 in
theorem seq_in (n : Nat) (hn : 1 ≤ n) (l q b g n₀ : Nat) (fl : List Bool) (hq : q < n₀) (hb : b < n₀) (hg : g < n₀) (J Jx : List Int → World → Prop) (hJd : ∀ pre A m, J pre A → J pre (A.drewN m))
    (hY : ∀ pre x W, J pre W → pre.length < fl.length → YieldAt Fence.wide (n - 1) Tryd.prog l #[.int .i64 x] W fun e W' =>
      (e = .returned (.bool true) ∧ J (pre ++ [x]) W' ∧ Below n₀ W W') ∨ (e = .returned (.bool false) ∧ Jx (pre ++ [x]) W'))
    (W : World) (hc : W.cell? ⟨q, 0, none⟩ = some (.pointer (some ⟨b, 0, none⟩))) (hI : isI W b g fl) (h0 : J [] W) :
    CallsIn Fence.wide n Tryd.prog 33 #[.func (.yield l) #[] #[], .pointer (some ⟨q, 0, none⟩)] W fun e W' => (∃ v, e = .returned v) ∧
      ((∃ ys, ys = ids fl fl.length ∧ J ys W') ∨ (∃ pre, pre <+: ids fl fl.length ∧ Jx pre W')) := by
  have hl2 := hI.l2
  have HY := Lib.hid hY
  have HJ := Lib.hid hJd
  have HI := Lib.hid hI
  have HC := Lib.hid hc
  have hlen : Hid (∀ k, k < fl.length → (ids fl k).length < fl.length) := Lib.hid fun k hk => by
    have h1 : (ids fl k).length ≤ k := by
      unfold ids
      rw [List.length_map]
      exact Nat.le_trans (List.length_filter_le _ _) (by simp)
    omega
  clear hY hJd hI hc
  refine callsIn_of_wp Tryd.func33 rfl trivial ?_ rfl
  simp only [Tryd.ntmps33, List.size_toArray, List.length_cons, List.length_nil, Nat.reduceAdd, Nat.reduceSub, Array.replicate_succ, Array.replicate_zero, List.push_toArray, List.append_toArray, List.nil_append, List.cons_append]
  gi_wp2
  gi_loopw [3] (fun i wr => ∃ k : Nat, k ≤ fl.length ∧ i = .int .i64 ((k : Int) + 1) ∧ J (ids fl k) wr ∧ Hid (Below n₀ W wr)) (fun i _ => fl.length + 1 - (intOf i).toNat)
  case atStart => exact ⟨0, Nat.zero_le _, rfl, h0, Lib.hid (Below.refl _ _)⟩
  case round =>
    obtain ⟨k, hk, rfl, hJs, hnx⟩ := hrel
    have hI2 := HI.out.below hnx.out hb hg
    have hc2 : wr.cell? ⟨q, 0, none⟩ = some (.pointer (some ⟨b, 0, none⟩)) := (hnx.out.cell (p := ⟨q, 0, none⟩) hq).trans HC.out
    have c0 := hI2.c0
    by_cases hlt : k < fl.length
    · have hh := Has_k hI2 k hlt
      have hle : decide ((k : Int) + 1 ≤ (fl.length : Int)) = true := by simp; omega
      cases hf : fl.getD k false with
      | false =>
        rw [hf] at hh
        have HH := Lib.hid hh
        have e1 := ids_no hf
        have E1 := Lib.hid e1
        clear hh hf e1 hI2
        gi_wp2_with (refine ⟨trivial, ?_⟩; gi_at_call 20; refine (callsIn_wide.2 HH.out).mono ?_; rintro e w' ⟨rfl, m, rfl⟩)
        refine ⟨fun _ h => (by cases h), ?_⟩
        gi_wp2
        go_roundw
        case rel => exact ⟨k + 1, by omega, by go_num, by rw [E1.out]; exact HJ.out _ _ _ hJs, Lib.hid (hnx.out.trans ⟨rfl, rfl, rfl, Nat.le_refl _, fun _ _ => rfl⟩)⟩
        case measure => simp [intOf]; omega
      | true =>
        rw [hf] at hh
        have HH := Lib.hid hh
        have e1 := ids_yes hf
        have E1 := Lib.hid e1
        clear hh hf e1 hI2
        gi_wp2_with (refine ⟨trivial, ?_⟩; gi_at_call 20; refine (callsIn_wide.2 HH.out).mono ?_; rintro e w' ⟨rfl, m, rfl⟩; obtain ⟨fn, tmps, assign, body, hy, hR⟩ := HY.out (ids fl k) ((k : Int) + 1) (wr.drewN m) (HJ.out _ _ _ hJs) (hlen.out k hlt); have HR := Lib.hid hR; clear hR)
        refine HR.out.mono ?_
        rintro e W3 (⟨rfl, hJ3, hk3⟩ | ⟨rfl, hJx3⟩)
        · have K3 := Lib.hid hk3
          clear hk3
          gi_wp2
          go_roundw
          case rel => exact ⟨k + 1, by omega, by go_num, by rw [E1.out]; exact hJ3, Lib.hid (hnx.out.trans ⟨K3.out.os, K3.out.tape, K3.out.output, K3.out.size, K3.out.block⟩)⟩
          case measure => simp [intOf]; omega
        · gi_wp2
          refine bodyPost_ret (results_none rfl _ _ _) rfl ?_
          exact ⟨⟨_, rfl⟩, .inr ⟨_, by rw [← E1.out]; exact ids_pre fl (by omega), hJx3⟩⟩
    · obtain rfl : k = fl.length := by omega
      have hle : decide ((fl.length : Int) + 1 ≤ (fl.length : Int)) = false := by simp; omega
      gi_wp2
      go_end0
      exact ⟨⟨_, rfl⟩, .inl ⟨_, rfl, hJs⟩⟩
end Go.Proofs.YtefncefmolphfaaDoor.idFn
