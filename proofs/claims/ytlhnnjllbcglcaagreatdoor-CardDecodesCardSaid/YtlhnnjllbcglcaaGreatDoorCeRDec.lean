/- The list that bytes begin with, as data. -/
import Derived.Test.YtlhnnjllbcglcaaGreatDoorCeEnc
import Derived.Deep.AppendLies
namespace Go.Proofs.YtlhnnjllbcglcaaGreatDoor.efFn
open Go.ChangeShapes Go.WideShapes Go.ChangeAt Go.RowKit drMem
set_option linter.unusedVariables false

def byAt (l : List UInt8) (j : Nat) : Int := ((l.getD j 0).toNat : Int)
theorem byAt_bd (l : List UInt8) (j : Nat) : 0 ≤ byAt l j ∧ byAt l j < 256 := by
  unfold byAt
  have := (l.getD j 0).toNat_lt
  omega
/- the effect number i behind the first byte -/
def efAt (l : List UInt8) (i : Nat) : Ef := ⟨byAt l (1 + 5 * i), byAt l (1 + 5 * i + 1), byAt l (1 + 5 * i + 2), byAt l (1 + 5 * i + 3), byAt l (1 + 5 * i + 4)⟩
def decL (l : List UInt8) (n : Nat) : List Ef := (List.range n).map (efAt l)
theorem decL_len (l : List UInt8) (n : Nat) : (decL l n).length = n := by simp [decL]
theorem decL_succ (l : List UInt8) (n : Nat) : decL l (n + 1) = decL l n ++ [efAt l n] := by simp [decL, List.range_succ]
theorem efAt_wf (l : List UInt8) (i : Nat) : (efAt l i).wf := by
  have h := byAt_bd l
  unfold efAt
  refine ⟨?_, ?_, ?_, ?_, ?_⟩ <;> (dsimp only [i64ok]; have := h (1 + 5 * i); have := h (1 + 5 * i + 1); have := h (1 + 5 * i + 2); have := h (1 + 5 * i + 3); have := h (1 + 5 * i + 4); omega)
theorem decL_wf (l : List UInt8) (n : Nat) : ∀ e ∈ decL l n, e.wf := by
  intro e he
  obtain ⟨i, _, rfl⟩ := List.mem_map.1 he
  exact efAt_wf l i
def nB (l : List UInt8) : Nat := (l.getD 0 0).toNat
def decR (l : List UInt8) : List Ef × Nat × Nat :=
  if l.length = 0 then ([], 0, 4)
  else if 4 < nB l then ([], 0, 6)
  else if l.length < 1 + 5 * nB l then ([], 0, 4)
  else if (decL l (nB l)).all Ef.ok then (decL l (nB l), 1 + 5 * nB l, 0) else ([], 0, 6)
theorem decR_0 {l : List UInt8} (h : l.length = 0) : decR l = ([], 0, 4) := by unfold decR; rw [if_pos h]
theorem decR_1 {l : List UInt8} (h : 0 < l.length) (h1 : 4 < nB l) : decR l = ([], 0, 6) := by unfold decR; rw [if_neg (by omega), if_pos h1]
theorem decR_2 {l : List UInt8} (h : 0 < l.length) (h1 : ¬ 4 < nB l) (h2 : l.length < 1 + 5 * nB l) : decR l = ([], 0, 4) := by unfold decR; rw [if_neg (by omega), if_neg h1, if_pos h2]
theorem decR_3 {l : List UInt8} (h : 0 < l.length) (h1 : ¬ 4 < nB l) (h2 : ¬ l.length < 1 + 5 * nB l) (h3 : (decL l (nB l)).all Ef.ok = false) : decR l = ([], 0, 6) := by
  unfold decR; rw [if_neg (by omega), if_neg h1, if_neg h2, h3]; rfl
theorem decR_4 {l : List UInt8} (h : 0 < l.length) (h1 : ¬ 4 < nB l) (h2 : ¬ l.length < 1 + 5 * nB l) (h3 : (decL l (nB l)).all Ef.ok = true) : decR l = (decL l (nB l), 1 + 5 * nB l, 0) := by
  unfold decR; rw [if_neg (by omega), if_neg h1, if_neg h2, h3]; rfl
def decPost (r : List Ef × Nat × Nat) (w : World) (e : Ending) (w' : World) : Prop :=
  ∃ sp cap, e = .returned (.tuple #[.slice sp r.1.length cap, .int .i64 (r.2.1 : Nat), .int .i64 (r.2.2 : Nat)]) ∧ EfsAt w' sp r.1.length r.1 ∧ Below w.heap.size w w' ∧ ∀ a, sp = some a → w.heap.size ≤ a.block
theorem decPost_no {w w' : World} {k : Nat} {l : List UInt8} (h : decR l = ([], 0, k)) (hb : Below w.heap.size w w') : decPost (decR l) w (.returned (.tuple #[.slice none 0 0, .int .i64 0, .int .i64 (k : Nat)])) w' := by
  rw [h]
  exact ⟨none, 0, rfl, EfsAt.nil _ _, hb, by intro a h; cases h⟩
/- the cells of bytes -/
theorem BsAt.at {w : World} {b off len : Nat} {l : List UInt8} (h : src w (some ⟨b, off, none⟩) (bys l)) (j : Nat) (hj : j < l.length) : w.cell? ⟨b, off + j, none⟩ = some (.int .u8 (byAt l j)) := by
  obtain ⟨b', o', e, _, hc⟩ := h (by rw [bys_len]; omega)
  cases e
  have := hc j _ (bys_get l j hj)
  rw [this]
  simp [byAt, List.getD_eq_getElem?_getD, hj]

theorem own_below {w w' : World} {base n : Nat} {t : TypeId} {size : Nat} {v : Value} {xs : List Value} (h : w.ownsRow base t size v n xs) (hb : Below w.heap.size w w') : w'.ownsRow base t size v n xs :=
  h.kept (grown_of_below hb none) (by
    cases hv : v.ownBlock with
    | none => exact .inl rfl
    | some k => exact .inr (by simp))
end Go.Proofs.YtlhnnjllbcglcaaGreatDoor.efFn
