/- The helpers of package ident, and the two of the library that it calls. -/
import Derived.Test.YtefncefmolphfaaDoorDrMem
import Derived.Test.YtefncefmolphfaaDoorIdMath
import Derived.Shelf.Spec.TrailingZeros
import Derived.Deep.QuietTactic
import Derived.BigQuiet
import Derived.Laws.Bits64b
import Derived.Laws.BitsAllLaws
import Derived.Lib.TrailingZeros
namespace Go.Proofs.YtefncefmolphfaaDoor.idFn
open Go.ChangeShapes Go.WideShapes Go.ChangeAt Go.RowKit drMem idBits
set_option linter.unusedVariables false

/- the library's table, as its own initialiser lays it -/
def tabAt (w : World) : Prop := ∀ j, j < 64 → w.cell? ⟨0, j, none⟩ = some (.int .u8 ((Lib.deBruijn64tab.getD j 0 : Nat) : Int))
theorem tabAt.pos {w : World} (h : tabAt w) : 0 < w.heap.size := World.block_lt_of_cell? _ _ (h 0 (by decide))
theorem tabAt.below {w w' : World} {B : Nat} (h : tabAt w) (hb : Below B w w') (h0 : 0 < B) : tabAt w' := fun j hj => (hb.cell (p := ⟨0, j, none⟩) h0).trans (h j hj)
theorem tabAt.grown {w w' : World} {r : Nat} (h : tabAt w) (hb : w.grownBy w' (some r)) (h0 : r ≠ 0) : tabAt w' := fun j hj => (World.cell?_of_block (hb.block 0 h.pos (by simpa using Ne.symm h0))).trans (h j hj)
theorem and_u64 (a b : Nat) (ha : a < 18446744073709551616) (hb : b < 18446744073709551616) : bits .and .u64 (a : Int) (b : Int) = ((a &&& b : Nat) : Int) := bits_and_u64_nat a b ha hb
theorem wr_u64 (a : Nat) (ha : a < 18446744073709551616) : IntKind.u64.wrap (a : Int) = (a : Int) := by rw [IntKind.wrap_u64]; omega
theorem and_i64 (a b : Nat) (ha : a < 9223372036854775808) (hb : b < 9223372036854775808) : bits .and .i64 (a : Int) (b : Int) = ((a &&& b : Nat) : Int) := by
  have hx : a &&& b < 2 ^ 63 := Nat.and_lt_two_pow _ (by omega)
  show IntKind.i64.wrap ((BitVec.ofInt 64 (a : Int) &&& BitVec.ofInt 64 (b : Int)).toNat : Int) = _
  rw [BitVec.toNat_and, ofInt_u64 a (by omega), ofInt_u64 b (by omega)]
  exact IntWalk.i64_in _ (by omega)
theorem xor_u64 (a b : Nat) (ha : a < 18446744073709551616) (hb : b < 18446744073709551616) : bits .xor .u64 (a : Int) (b : Int) = ((a ^^^ b : Nat) : Int) := by
  have hx : a ^^^ b < 2 ^ 64 := Nat.xor_lt_two_pow (by omega) (by omega)
  show IntKind.u64.wrap ((BitVec.ofInt 64 (a : Int) ^^^ BitVec.ofInt 64 (b : Int)).toNat : Int) = _
  rw [BitVec.toNat_xor, ofInt_u64 a (by omega), ofInt_u64 b (by omega)]
  exact wr_u64 _ (by omega)
/- ids at block b, their words at block g -/
structure isI (w : World) (b g : Nat) (fl : List Bool) : Prop where
  d : ∃ cap, has w b 51 [.int .i64 (fl.length : Int), .slice (some ⟨g, 0, none⟩) ((fl.length + 63) / 64) cap]
  r : ∃ more, has w g 60 (us (wds fl) ++ more)
  l1 : 1 ≤ fl.length
  l2 : fl.length ≤ 4096
  b0 : 0 < b
  g0 : 0 < g
  t : tabAt w
variable {w w' : World} {b g : Nat} {fl : List Bool}
theorem isI.c0 (h : isI w b g fl) : w.cell? ⟨b, 0, none⟩ = some (.int .i64 (fl.length : Int)) := by obtain ⟨_, d⟩ := h.d; rw [d.cell]; rfl
theorem isI.c1 (h : isI w b g fl) : ∃ cap, w.cell? ⟨b, 1, none⟩ = some (.slice (some ⟨g, 0, none⟩) ((fl.length + 63) / 64) cap) := by obtain ⟨cap, d⟩ := h.d; exact ⟨cap, by rw [d.cell]; rfl⟩
theorem isI.blt (h : isI w b g fl) : b < w.heap.size := by obtain ⟨_, d⟩ := h.d; exact d.lt
theorem isI.glt (h : isI w b g fl) : g < w.heap.size := by obtain ⟨_, d⟩ := h.r; exact d.lt
theorem isI.free (h : isI w b g fl) (i : Nat) : w.frozen? ⟨g, i, none⟩ = false := by obtain ⟨_, d⟩ := h.r; exact d.free i

theorem zero_any (h : isI w b g fl) : Calls Tryd.prog 28 #[.pointer (some ⟨b, 0, none⟩)] w fun e w' => e = .returned (.bool false) ∧ w = w' := by
  have c0 := h.c0
  have h1 := h.l1
  have d0 : ((fl.length : Int) == 0) = false := by rw [beq_eq_false_iff_ne]; omega
  clear h
  go_enter Tryd.func28, Tryd.ntmps28
  go_wp2
  go_ret
  exact ⟨rfl, rfl⟩
theorem zero_nil (w : World) : Calls Tryd.prog 28 #[.pointer none] w fun e w' => e = .returned (.bool true) ∧ w = w' := by
  go_enter Tryd.func28, Tryd.ntmps28
  go_wp2
  go_ret
  exact ⟨rfl, rfl⟩
theorem zero_zero (b : Nat) (w : World) (c0 : w.cell? ⟨b, 0, none⟩ = some (.int .i64 0)) : Calls Tryd.prog 28 #[.pointer (some ⟨b, 0, none⟩)] w fun e w' => e = .returned (.bool true) ∧ w = w' := by
  go_enter Tryd.func28, Tryd.ntmps28
  go_wp2
  go_ret
  exact ⟨rfl, rfl⟩
theorem contains_in (h : isI w b g fl) (id : Int) (h1 : 1 ≤ id) (h2 : id ≤ fl.length) : Calls Tryd.prog 30 #[.pointer (some ⟨b, 0, none⟩), .int .i64 id] w fun e w' => e = .returned (.bool true) ∧ w = w' := by
  have c0 := h.c0
  have d0 : decide (1 ≤ id) = true := by simpa using h1
  have d1 : decide (id ≤ (fl.length : Int)) = true := by simpa using h2
  clear h
  go_enter Tryd.func30, Tryd.ntmps30
  go_wp2
  go_ret
  exact ⟨rfl, rfl⟩
theorem contains_out (h : isI w b g fl) (id : Int) (h1 : id < 1 ∨ fl.length < id) : Calls Tryd.prog 30 #[.pointer (some ⟨b, 0, none⟩), .int .i64 id] w fun e w' => e = .returned (.bool false) ∧ w = w' := by
  have c0 := h.c0
  by_cases h3 : 1 ≤ id
  · have d0 : decide (1 ≤ id) = true := by simpa using h3
    have d1 : decide (id ≤ (fl.length : Int)) = false := by simp; omega
    clear h h1 h3
    go_enter Tryd.func30, Tryd.ntmps30
    go_wp2
    go_ret
    exact ⟨rfl, rfl⟩
  · have d0 : decide (1 ≤ id) = false := by simpa using h3
    clear h h1 h3
    go_enter Tryd.func30, Tryd.ntmps30
    go_wp2
    go_ret
    exact ⟨rfl, rfl⟩
set_option maxHeartbeats 400000 in
theorem position_any (id : Nat) (w : World) (h1 : 1 ≤ id) (h2 : id ≤ 4096) : Calls Tryd.prog 34 #[.int .i64 (id : Int)] w fun e w' => e = .returned (.tuple #[.int .i64 (((id - 1) / 64 : Nat) : Int), .int .u64 ((2 ^ ((id - 1) % 64) : Nat) : Int)]) ∧ ∃ n, w' = w.drewN n := by
  obtain ⟨k, rfl⟩ : ∃ k, id = k + 1 := ⟨id - 1, by omega⟩
  go_enter Tryd.func34, Tryd.ntmps34
  have v1 : IntKind.u64.wrap ((2 : Int) ^ (k % 64)) = ((2 ^ (k % 64) : Nat) : Int) := by
    have h3 : 2 ^ (k % 64) ≤ 2 ^ 63 := Nat.pow_le_pow_right (by decide) (by omega)
    rw [show ((2 : Int) ^ (k % 64)) = ((2 ^ (k % 64) : Nat) : Int) by simp]
    exact wr_u64 _ (by omega)
  have V1 := Lib.hid v1
  clear v1
  go_wp2
  go_quiet (fail)
  go_wp2
  rw [V1.out]
  go_ret2
  refine ⟨?_, _, rfl⟩
  rw [Nat.add_sub_cancel]; simp
set_option maxHeartbeats 400000 in
theorem ones_any (x : Nat) (w : World) (hx : x < 18446744073709551616) : Calls Tryd.prog 29 #[.int .u64 (x : Int)] w fun e w' => e = .returned (.int .i64 ((popN 64 x : Nat) : Int)) ∧ w = w' := by
  obtain ⟨⟨b1, b2, b3⟩, b4, b5, b6, b7⟩ := pop_eq x hx
  obtain ⟨y1, h1⟩ : ∃ y, a1 x = y := ⟨_, rfl⟩
  rw [h1] at b1 b2 b3 b4 b5 b6 b7
  obtain ⟨y2, h2⟩ : ∃ y, a2 y1 = y := ⟨_, rfl⟩
  rw [h2] at b2 b3 b4 b5 b6 b7
  obtain ⟨y3, h3⟩ : ∃ y, a3 y2 = y := ⟨_, rfl⟩
  rw [h3] at b4 b5 b6 b7
  obtain ⟨y4, h4⟩ : ∃ y, a4 y3 = y := ⟨_, rfl⟩
  rw [h4] at b4 b5 b6 b7
  obtain ⟨y5, h5⟩ : ∃ y, a5 y4 = y := ⟨_, rfl⟩
  rw [h5] at b5 b6 b7
  obtain ⟨y6, h6⟩ : ∃ y, a6 y5 = y := ⟨_, rfl⟩
  rw [h6] at b6 b7
  rw [← b7]
  unfold a1 at h1; unfold a2 at h2; unfold a3 at h3; unfold a4 at h4; unfold a5 at h5; unfold a6 at h6
  have l3 : y3 < 18446744073709551616 := by rw [← h3]; exact Nat.lt_of_le_of_lt Nat.and_le_right (by decide)
  have e1 : bits .and .u64 ((x : Int) / 2) 6148914691236517205 = ((x / 2 &&& 6148914691236517205 : Nat) : Int) := and_u64 (x / 2) _ (by omega) (by decide)
  have e2 : bits .and .u64 (x : Int) 6148914691236517205 = ((x &&& 6148914691236517205 : Nat) : Int) := and_u64 x _ hx (by decide)
  have e3 : IntKind.u64.wrap (((x / 2 &&& 6148914691236517205 : Nat) : Int) + ((x &&& 6148914691236517205 : Nat) : Int)) = (y1 : Int) := by rw [← Int.natCast_add, h1]; exact wr_u64 _ b1
  have e4 : bits .and .u64 ((y1 : Int) / 4) 3689348814741910323 = ((y1 / 4 &&& 3689348814741910323 : Nat) : Int) := and_u64 (y1 / 4) _ (by omega) (by decide)
  have e5 : bits .and .u64 (y1 : Int) 3689348814741910323 = ((y1 &&& 3689348814741910323 : Nat) : Int) := and_u64 y1 _ b1 (by decide)
  have e6 : IntKind.u64.wrap (((y1 / 4 &&& 3689348814741910323 : Nat) : Int) + ((y1 &&& 3689348814741910323 : Nat) : Int)) = (y2 : Int) := by rw [← Int.natCast_add, h2]; exact wr_u64 _ b2
  have e7 : IntKind.u64.wrap ((y2 : Int) / 16 + (y2 : Int)) = ((y2 / 16 + y2 : Nat) : Int) := wr_u64 (y2 / 16 + y2) b3
  have e8 : bits .and .u64 ((y2 / 16 + y2 : Nat) : Int) 1085102592571150095 = (y3 : Int) := by rw [← h3]; exact and_u64 _ _ b3 (by decide)
  have e9 : IntKind.u64.wrap ((y3 : Int) + (y3 : Int) / 256) = (y4 : Int) := by rw [← h4]; exact wr_u64 (y3 + y3 / 256) (by omega)
  have e10 : IntKind.u64.wrap ((y4 : Int) + (y4 : Int) / 65536) = (y5 : Int) := by rw [← h5]; exact wr_u64 (y4 + y4 / 65536) (by omega)
  have e11 : IntKind.u64.wrap ((y5 : Int) + (y5 : Int) / 4294967296) = (y6 : Int) := by rw [← h6]; exact wr_u64 (y5 + y5 / 4294967296) (by omega)
  generalize ((y2 / 16 + y2 : Nat) : Int) = z2 at *
  generalize ((x / 2 &&& 6148914691236517205 : Nat) : Int) = z3 at *
  generalize ((x &&& 6148914691236517205 : Nat) : Int) = z4 at *
  generalize ((y1 / 4 &&& 3689348814741910323 : Nat) : Int) = z5 at *
  generalize ((y1 &&& 3689348814741910323 : Nat) : Int) = z6 at *
  have e12 : wrap64 (y6 : Int) = (y6 : Int) := by unfold wrap64; omega
  have e13 : bits .and .i64 (y6 : Int) 127 = ((y6 % 128 : Nat) : Int) := by
    rw [← Nat.and_two_pow_sub_one_eq_mod y6 7]; exact and_i64 y6 127 b6 (by decide)
  clear b1 b2 b3 b4 b5 b6 b7 h1 h2 h3 h4 h5 h6 l3
  go_enter Tryd.func29, Tryd.ntmps29
  go_wp2
  go_ret
  exact ⟨by simp [Array.getD], rfl⟩
set_option maxHeartbeats 400000 in
theorem tz_core (x k idx : Nat) (w : World) (hx0 : ((x : Int) == 0) = false)
    (key : IntKind.u64.wrap (bits BinOp.and IntKind.u64 (x : Int) (IntKind.u64.wrap (-(x : Int))) * 285870213051353865) / 288230376151711744 = (idx : Int))
    (hi : idx < 64) (hk : k < 64) (hcell : w.cell? ⟨0, idx, none⟩ = some (.int .u8 k)) :
    Calls Tryd.prog 39 #[.int .u64 x] w fun e w' => e = .returned (.int .i64 k) ∧ w = w' := by
  go_enter Tryd.func39, Tryd.ntmps39
  go_wp2_with (simp only [key])
  go_ret
  exact ⟨rfl, rfl⟩
theorem tz_any (x : Nat) (w : World) (hx : x < 18446744073709551616) (hx0 : x ≠ 0) (hT : tabAt w) : Calls Tryd.prog 39 #[.int .u64 (x : Int)] w fun e w' => e = .returned (.int .i64 (Lib.ctz 64 x)) ∧ w = w' := by
  obtain ⟨hlow, hk⟩ := Lib.lowest_bit 64 x hx0 hx
  obtain ⟨hi, htab⟩ := Lib.deBruijn64_at _ hk
  have hcell := hT _ hi
  rw [htab] at hcell
  exact tz_core x _ _ w (by simp; omega) (tz64_key x _ hx hx0 hlow) hi hk hcell
end Go.Proofs.YtefncefmolphfaaDoor.idFn
