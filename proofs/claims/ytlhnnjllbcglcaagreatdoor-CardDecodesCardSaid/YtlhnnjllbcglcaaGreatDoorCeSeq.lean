/- The pieces of a list of bytes, one after another: the iterator of slices.Chunk. -/
import Derived.Test.YtlhnnjllbcglcaaGreatDoorCeOf
import Derived.RangeFuncNested
import Derived.RangeFuncBound
import Derived.RangeFuncCalls
import Derived.RangeFuncLeaves
import Derived.RangeFuncWrites
import Derived.RangeFuncOne
import Derived.RangeFuncBox
import Derived.Shelf.Abstract
import Derived.Shelf.RegionOpen
import Derived.OwnWalkIn
import Derived.TacticsInMore
import Derived.LoopNIn
import Derived.LoopIn
import Derived.Maps.AppendAt
namespace Go.Proofs.YtlhnnjllbcglcaaGreatDoor.efFn
open Go.ChangeShapes Go.WideShapes Go.ChangeAt Go.RowKit Go.Shelf drMem
set_option linter.unusedVariables false
attribute [local go_sem] Oper.semAt_some

/- all that lies below n₁ and is not block g lies as it lay -/
structure KF (n₁ g : Nat) (A B : World) : Prop where
  os : B.os = A.os
  tape : B.tape = A.tape
  output : B.output = A.output
  size : A.heap.size ≤ B.heap.size
  block : ∀ i, i < n₁ → i ≠ g → B.heap[i]? = A.heap[i]?
section
variable {A B C : World} {n₁ g z : Nat} {t : TypeId} {cs : List Value}
theorem KF.refl (n₁ g : Nat) (A : World) : KF n₁ g A A := ⟨rfl, rfl, rfl, Nat.le_refl _, fun _ _ _ => rfl⟩
theorem KF.trans (h : KF n₁ g A B) (k : KF n₁ g B C) : KF n₁ g A C := ⟨k.os.trans h.os, k.tape.trans h.tape, k.output.trans h.output, Nat.le_trans h.size k.size, fun i h1 h2 => (k.block i h1 h2).trans (h.block i h1 h2)⟩
theorem KF.drewN (A : World) (m : Nat) : KF n₁ g A (A.drewN m) := ⟨rfl, rfl, rfl, Nat.le_refl _, fun _ _ _ => rfl⟩
theorem KF.of_grown {row : Option Nat} (h : A.grownBy B row) (hn : n₁ ≤ A.heap.size) (hr : ∀ r, row = some r → r = g ∨ n₁ ≤ r) : KF n₁ g A B :=
  ⟨h.os, h.tape, h.output, h.size, fun i h1 h2 => h.block i (by omega) (fun e => by rcases hr i e.symm with h3 | h3 <;> omega)⟩
theorem KF.of_below {N : Nat} (h : Below N A B) (hn : n₁ ≤ N) : KF n₁ g A B := ⟨h.os, h.tape, h.output, h.size, fun i h1 _ => h.block i (by omega)⟩
theorem KF.cell (h : KF n₁ g A B) {o : Nat} (h1 : z < n₁) (h2 : z ≠ g) : B.cell? ⟨z, o, none⟩ = A.cell? ⟨z, o, none⟩ := World.cell?_of_block (h.block z h1 h2)
theorem KF.below (h : KF n₁ g A B) (hg : g ≤ n₁) : Below g A B := ⟨h.os, h.tape, h.output, h.size, fun i hi => h.block i (by omega) (by omega)⟩
theorem KF.ofPut (W : World) (l : Nat) (o o' : Obj) (hl : n₁ ≤ l) : KF n₁ g W (W.putObj l o') :=
  ⟨rfl, rfl, rfl, by simp [World.putObj], fun i h1 h2 => World.putObj_heap_other (by omega)⟩
theorem KF.own {w0 : World} (hn : n₁ = w0.heap.size) {β : Type} : OwnFrom n₁ (fun (_ : β) W => KF n₁ g w0 W) :=
  fun _ _ _ _ hs hg hr => hs.trans (KF.of_grown hg (by have := hs.size; omega) (fun r e => .inr (hr r e).1))
end
abbrev pcs (b o : Nat) (N : Nat) (x : Ix N) : Array Value := #[.slice (some ⟨b, o + 5 * x.1, none⟩) 5 5]
set_option maxRecDepth 100000 in
set_option maxHeartbeats 4000000 in
theorem chunk_in (n : Nat) (hn : 1 ≤ n) (l q1 q2 b o N cp n₁ g : Nat) (hN : N ≤ 4) (hcp : 5 * N ≤ cp) (h1 : q1 < n₁) (h1' : q1 ≠ g) (h2 : q2 < n₁) (h2' : q2 ≠ g)
    (J Jx : List (Ix N) → World → Prop) (hJd : ∀ pre A m, J pre A → J pre (A.drewN m))
    (hY : ∀ pre x W, J pre W → pre.length < N → YieldAt Fence.wide (n - 1) Tryz.prog l (pcs b o N x) W fun e W' =>
      (e = .returned (.bool true) ∧ J (pre ++ [x]) W' ∧ KF n₁ g W W') ∨ (e = .returned (.bool false) ∧ Jx (pre ++ [x]) W'))
    (W : World) (hc1 : W.cell? ⟨q1, 0, none⟩ = some (.slice (some ⟨b, o, none⟩) (5 * N) cp)) (hc2 : W.cell? ⟨q2, 0, none⟩ = some (.int .i64 5)) (h0 : J [] W) :
    CallsIn Fence.wide n Tryz.prog 108 #[.func (.yield l) #[] #[], .pointer (some ⟨q1, 0, none⟩), .pointer (some ⟨q2, 0, none⟩)] W fun e W' => (∃ v, e = .returned v) ∧
      ((∃ ys, ys = ixs N N ∧ J ys W') ∨ (∃ pre, True ∧ Jx pre W')) := by
  have HY := Lib.hid hY
  have HJ := Lib.hid hJd
  have HC1 := Lib.hid hc1
  have HC2 := Lib.hid hc2
  clear hY hJd hc1 hc2
  refine callsIn_of_wp Tryz.func108 rfl trivial ?_ rfl
  simp only [Tryz.ntmps108, List.size_toArray, List.length_cons, List.length_nil, Nat.reduceAdd, Nat.reduceSub, Array.replicate_succ, Array.replicate_zero, List.push_toArray, List.append_toArray, List.nil_append, List.cons_append]
  gi_wp2
  gi_loopw [4] (fun i wr => ∃ k : Nat, k ≤ N ∧ i = .int .i64 ((5 * k : Nat) : Int) ∧ J (ixs N k) wr ∧ Hid (KF n₁ g W wr)) (fun i _ => 5 * N + 5 - (intOf i).toNat)
  case atStart => exact ⟨0, Nat.zero_le _, rfl, h0, Lib.hid (KF.refl _ _ _)⟩
  case round =>
    obtain ⟨k, hk, rfl, hJs, hnx⟩ := hrel
    have c1 : wr.cell? ⟨q1, 0, none⟩ = some (.slice (some ⟨b, o, none⟩) (5 * N) cp) := (hnx.out.cell h1 h1').trans HC1.out
    have c2 : wr.cell? ⟨q2, 0, none⟩ = some (.int .i64 5) := (hnx.out.cell h2 h2').trans HC2.out
    by_cases hlt : k < N
    · obtain ⟨z, hz⟩ : ∃ z, 5 * k = z := ⟨_, rfl⟩
      rw [hz]
      obtain ⟨m, hm⟩ : ∃ m, 5 * N = m := ⟨_, rfl⟩
      rw [hm] at c1 hcp ⊢
      have HZ := Lib.hid hz
      have HM := Lib.hid hm
      have z5 : z + 5 ≤ m := by omega
      have zm : z < m := by omega
      have zb : z ≤ 20 := by omega
      have hle : decide ((z : Int) < (m : Int)) = true := by simp; omega
      clear hz hm
      have hmin : min (5 : Int) ((m - z : Nat) : Int) = 5 := by omega
      have hz5 : IntKind.i64.wrap ((z : Int) + 5) = ((z + 5 : Nat) : Int) := by rw [IntWalk.i64_in _ (by omega)]; omega
      have hz6 : ((z + 5 : Nat) : Int) ≤ (m : Int) := by omega
      have hz7 : (z : Int) + 5 ≤ (cp : Int) := by omega
      have hz8 : (z : Int) + 5 ≤ (m : Int) := by omega
      gi_wp2
      gi_region
      obtain ⟨fn, tmps, assign, body, hy, hR⟩ := HY.out (ixs N k) ⟨k, hlt⟩ wr.drew (HJ.out _ _ 1 hJs) (by rw [ixs_len N k (by omega)]; exact hlt)
      have HR := Lib.hid hR
      clear hR
      simp only [pcs, HZ.out] at hy
      gi_wp2
      refine HR.out.mono ?_
      rintro e W3 (⟨rfl, hJ3, hk3⟩ | ⟨rfl, hJx3⟩)
      · have K3 := Lib.hid hk3
        have K0 : Hid (KF n₁ g wr wr.drew) := Lib.hid (KF.drewN wr 1)
        have c2' : W3.cell? ⟨q2, 0, none⟩ = some (.int .i64 5) := ((K0.out.trans K3.out).cell h2 h2').trans c2
        have hJ4 : J (ixs N (k + 1)) W3 := by rw [ixs_succ N k hlt]; exact hJ3
        have HJ4 := Lib.hid hJ4
        clear hk3 hJ3 hJ4 c1 c2 hy
        gi_wp2
        go_roundw
        case rel => exact ⟨k + 1, by omega, by rw [show 5 * (k + 1) = z + 5 by have := HZ.out; omega]; go_num, HJ4.out, Lib.hid (hnx.out.trans (K0.out.trans K3.out))⟩
        case measure => simp [intOf]; have := HM.out; omega
      · gi_wp2
        refine bodyPost_ret (results_none rfl _ _ _) rfl ?_
        exact ⟨⟨_, rfl⟩, .inr ⟨_, trivial, hJx3⟩⟩
    · obtain rfl : k = N := by omega
      have hle : decide (((5 * k : Nat) : Int) < ((5 * k : Nat) : Int)) = false := by simp
      gi_wp2
      go_end0
      exact ⟨⟨_, rfl⟩, .inl ⟨_, rfl, hJs⟩⟩
theorem chunk_stops (n : Nat) (hn : 1 ≤ n) (q1 q2 b o N cp n₁ g : Nat) (w : World) (hN : N ≤ 4) (hcp : 5 * N ≤ cp) (h1 : q1 < n₁) (h1' : q1 ≠ g) (h2 : q2 < n₁) (h2' : q2 ≠ g) (hn₁ : n₁ ≤ w.heap.size)
    (hc1 : w.cell? ⟨q1, 0, none⟩ = some (.slice (some ⟨b, o, none⟩) (5 * N) cp)) (hc2 : w.cell? ⟨q2, 0, none⟩ = some (.int .i64 5)) :
    SeqStopsK Fence.wide n Tryz.prog 108 #[.pointer (some ⟨q1, 0, none⟩), .pointer (some ⟨q2, 0, none⟩)] (pcs b o N) (KF n₁ g) (fun ys => ys = ixs N N) (fun _ => True) N w := fun l J Jx W hW hJ _ hY h00 => by
  refine chunk_in n hn l q1 q2 b o N cp n₁ g hN hcp h1 h1' h2 h2' J Jx (fun pre A m hA => hJ pre A _ none hA ⟨rfl, rfl, rfl, Nat.le_refl _, fun _ _ _ => rfl⟩ (by simp)) hY W ((hW.cell (p := ⟨q1, 0, none⟩) (by show q1 < _; omega)).trans hc1) ((hW.cell (p := ⟨q2, 0, none⟩) (by show q2 < _; omega)).trans hc2) h00
end Go.Proofs.YtlhnnjllbcglcaaGreatDoor.efFn
