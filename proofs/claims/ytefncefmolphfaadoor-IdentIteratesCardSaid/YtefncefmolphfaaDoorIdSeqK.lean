/- The iterator once more, where the body keeps what Kp says. -/
import Derived.Test.YtefncefmolphfaaDoorIdAll
namespace Go.Proofs.YtefncefmolphfaaDoor.idFn
open Go.ChangeShapes Go.WideShapes Go.ChangeAt Go.RowKit Go.Shelf drMem idBits
set_option linter.unusedVariables false
attribute [local go_sem] Oper.semAt_some
variable {w w' : World} {b g : Nat} {fl : List Bool}

/- all that lies below n₁ and is not block g lies as it lay -/
structure KF (n₁ g : Nat) (A B : World) : Prop where
  os : B.os = A.os
  tape : B.tape = A.tape
  output : B.output = A.output
  size : A.heap.size ≤ B.heap.size
  block : ∀ i, i < n₁ → i ≠ g → B.heap[i]? = A.heap[i]?
section
variable {A B C : World} {n₁ g z : Nat} {t : TypeId} {cs : List Value}
theorem KF.refl (n₁ g : Nat) (A : World) : KF n₁ g A A := ⟨rfl, rfl, rfl, Nat.le_refl _, fun _ _ _ => rfl⟩
theorem KF.trans (h : KF n₁ g A B) (k : KF n₁ g B C) : KF n₁ g A C := ⟨k.os.trans h.os, k.tape.trans h.tape, k.output.trans h.output, Nat.le_trans h.size k.size, fun i h1 h2 => (k.block i h1 h2).trans (h.block i h1 h2)⟩
theorem KF.drewN (A : World) (m : Nat) : KF n₁ g A (A.drewN m) := ⟨rfl, rfl, rfl, Nat.le_refl _, fun _ _ _ => rfl⟩
theorem KF.of_grown {row : Option Nat} (h : A.grownBy B row) (hn : n₁ ≤ A.heap.size) (hr : ∀ r, row = some r → r = g ∨ n₁ ≤ r) : KF n₁ g A B :=
  ⟨h.os, h.tape, h.output, h.size, fun i h1 h2 => h.block i (by omega) (fun e => by rcases hr i e.symm with h3 | h3 <;> omega)⟩
theorem KF.has (h : KF n₁ g A B) (x : has A z t cs) (h1 : z < n₁) (h2 : z ≠ g) : has B z t cs := (h.block z h1 h2).trans x
theorem KF.cell (h : KF n₁ g A B) {o : Nat} (h1 : z < n₁) (h2 : z ≠ g) : B.cell? ⟨z, o, none⟩ = A.cell? ⟨z, o, none⟩ := World.cell?_of_block (h.block z h1 h2)
theorem KF.isI {b' g' : Nat} {fl : List Bool} (h : KF n₁ g A B) (x : isI A b' g' fl) (h1 : b' < n₁) (h2 : b' ≠ g) (h3 : g' < n₁) (h4 : g' ≠ g) (h0 : 0 < n₁) (hg : 0 ≠ g) : isI B b' g' fl :=
  ⟨x.d.imp fun _ y => h.has y h1 h2, x.r.imp fun _ y => h.has y h3 h4, x.l1, x.l2, x.b0, x.g0, fun j hj => (h.cell h0 hg).trans (x.t j hj)⟩
end
set_option maxRecDepth 100000 in
set_option maxHeartbeats 2000000 in
theorem seq_inK (n : Nat) (hn : 1 ≤ n) (l q b g : Nat) (fl : List Bool) (Kp : World → World → Prop) (hKr : ∀ A, Kp A A) (hKt : ∀ A B C, Kp A B → Kp B C → Kp A C) (hKd : ∀ (A : World) m, Kp A (A.drewN m))
    (hKI : ∀ A B, Kp A B → isI A b g fl → isI B b g fl) (hKc : ∀ A B v, Kp A B → A.cell? ⟨q, 0, none⟩ = some v → B.cell? ⟨q, 0, none⟩ = some v) (J Jx : List Int → World → Prop) (hJd : ∀ pre A m, J pre A → J pre (A.drewN m))
    (hY : ∀ pre x W, J pre W → pre.length < fl.length → YieldAt Fence.wide (n - 1) Tryd.prog l #[.int .i64 x] W fun e W' =>
      (e = .returned (.bool true) ∧ J (pre ++ [x]) W' ∧ Kp W W') ∨ (e = .returned (.bool false) ∧ Jx (pre ++ [x]) W'))
    (W : World) (hc : W.cell? ⟨q, 0, none⟩ = some (.pointer (some ⟨b, 0, none⟩))) (hI : isI W b g fl) (h0 : J [] W) :
    CallsIn Fence.wide n Tryd.prog 33 #[.func (.yield l) #[] #[], .pointer (some ⟨q, 0, none⟩)] W fun e W' => (∃ v, e = .returned v) ∧
      ((∃ ys, ys = ids fl fl.length ∧ J ys W') ∨ (∃ pre, pre <+: ids fl fl.length ∧ Jx pre W')) := by
  have hl2 := hI.l2
  have HY := Lib.hid hY
  have HJ := Lib.hid hJd
  have HI := Lib.hid hI
  have HC := Lib.hid hc
  have hlen : Hid (∀ k, k < fl.length → (ids fl k).length < fl.length) := Lib.hid fun k hk => by
    have h1 : (ids fl k).length ≤ k := by
      unfold ids
      rw [List.length_map]
      exact Nat.le_trans (List.length_filter_le _ _) (by simp)
    omega
  clear hY hJd hI hc
  refine callsIn_of_wp Tryd.func33 rfl trivial ?_ rfl
  simp only [Tryd.ntmps33, List.size_toArray, List.length_cons, List.length_nil, Nat.reduceAdd, Nat.reduceSub, Array.replicate_succ, Array.replicate_zero, List.push_toArray, List.append_toArray, List.nil_append, List.cons_append]
  gi_wp2
  gi_loopw [3] (fun i wr => ∃ k : Nat, k ≤ fl.length ∧ i = .int .i64 ((k : Int) + 1) ∧ J (ids fl k) wr ∧ Hid (Kp W wr)) (fun i _ => fl.length + 1 - (intOf i).toNat)
  case atStart => exact ⟨0, Nat.zero_le _, rfl, h0, Lib.hid (hKr _)⟩
  case round =>
    obtain ⟨k, hk, rfl, hJs, hnx⟩ := hrel
    have hI2 := hKI _ _ hnx.out HI.out
    have hc2 : wr.cell? ⟨q, 0, none⟩ = some (.pointer (some ⟨b, 0, none⟩)) := hKc _ _ _ hnx.out HC.out
    have c0 := hI2.c0
    by_cases hlt : k < fl.length
    · have hh := Has_k hI2 k hlt
      have hle : decide ((k : Int) + 1 ≤ (fl.length : Int)) = true := by simp; omega
      cases hf : fl.getD k false with
      | false =>
        rw [hf] at hh
        have HH := Lib.hid hh
        have e1 := ids_no hf
        have E1 := Lib.hid e1
        clear hh hf e1 hI2
        gi_wp2_with (refine ⟨trivial, ?_⟩; gi_at_call 20; refine (callsIn_wide.2 HH.out).mono ?_; rintro e w' ⟨rfl, m, rfl⟩)
        refine ⟨fun _ h => (by cases h), ?_⟩
        gi_wp2
        go_roundw
        case rel => exact ⟨k + 1, by omega, by go_num, by rw [E1.out]; exact HJ.out _ _ _ hJs, Lib.hid (hKt _ _ _ hnx.out (hKd _ m))⟩
        case measure => simp [intOf]; omega
      | true =>
        rw [hf] at hh
        have HH := Lib.hid hh
        have e1 := ids_yes hf
        have E1 := Lib.hid e1
        clear hh hf e1 hI2
        gi_wp2_with (refine ⟨trivial, ?_⟩; gi_at_call 20; refine (callsIn_wide.2 HH.out).mono ?_; rintro e w' ⟨rfl, m, rfl⟩; obtain ⟨fn, tmps, assign, body, hy, hR⟩ := HY.out (ids fl k) ((k : Int) + 1) (wr.drewN m) (HJ.out _ _ _ hJs) (hlen.out k hlt); have HR := Lib.hid hR; clear hR)
        refine HR.out.mono ?_
        rintro e W3 (⟨rfl, hJ3, hk3⟩ | ⟨rfl, hJx3⟩)
        · have K3 := Lib.hid hk3
          clear hk3
          gi_wp2
          go_roundw
          case rel => exact ⟨k + 1, by omega, by go_num, by rw [E1.out]; exact hJ3, Lib.hid (hKt _ _ _ hnx.out (hKt _ _ _ (hKd _ m) K3.out))⟩
          case measure => simp [intOf]; omega
        · gi_wp2
          refine bodyPost_ret (results_none rfl _ _ _) rfl ?_
          exact ⟨⟨_, rfl⟩, .inr ⟨_, by rw [← E1.out]; exact ids_pre fl (by omega), hJx3⟩⟩
    · obtain rfl : k = fl.length := by omega
      have hle : decide ((fl.length : Int) + 1 ≤ (fl.length : Int)) = false := by simp; omega
      gi_wp2
      go_end0
      exact ⟨⟨_, rfl⟩, .inl ⟨_, rfl, hJs⟩⟩
end Go.Proofs.YtefncefmolphfaaDoor.idFn
