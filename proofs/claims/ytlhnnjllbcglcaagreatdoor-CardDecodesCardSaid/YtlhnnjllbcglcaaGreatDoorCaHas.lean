/- Sets of keywords. -/
import Derived.Test.YtlhnnjllbcglcaaGreatDoorCaTrig
namespace Go.Proofs.YtlhnnjllbcglcaaGreatDoor.caFn
open Go.ChangeShapes Go.WideShapes Go.ChangeAt Go.RowKit drMem efFn
set_option linter.unusedVariables false
theorem Has_any (a b : Int) (w : World) :
    Calls Tryz.prog 15 #[.int .i64 a, .int .i64 b] w fun e w' => e = .returned (.bool (bits .and .i64 a b == b)) ∧ w = w' := by
  go_enter Tryz.func15, Tryz.ntmps15
  go_wp2
  go_ret
  exact ⟨rfl, rfl⟩
theorem wrap_small (n : Nat) (h : n < 9223372036854775808) : IntKind.i64.wrap (n : Int) = (n : Int) := by
  have e : (n : Int) % 2 ^ 64 = n := Int.emod_eq_of_lt (by omega) (by omega)
  simp only [IntKind.wrap, IntKind.bits, IntKind.signed, e]
  rw [if_neg]
  simp
  omega
theorem and15 (k : Int) : bits .and .i64 15 k = k % 16 := by
  show IntKind.i64.wrap ((BitVec.ofInt 64 15 &&& BitVec.ofInt 64 k).toNat : Int) = _
  rw [BitVec.toNat_and, show (BitVec.ofInt 64 15).toNat = 2 ^ 4 - 1 by decide, Nat.and_comm, Nat.and_two_pow_sub_one_eq_mod, BitVec.toNat_ofInt, wrap_small _ (by omega)]
  omega
theorem has15 (k : Int) : (bits .and .i64 15 k == k) = decide (0 ≤ k ∧ k ≤ 15) := by
  rw [and15, Bool.eq_iff_iff]
  simp only [beq_iff_eq, decide_eq_true_eq]
  omega
/- a keyword of a set -/
def kwHas (k : Nat) (i : Nat) : Bool := k / 2 ^ i % 2 == 1
theorem hasK : ∀ k : Nat, k < 16 → ∀ i : Nat, i < 4 → (bits .and .i64 (k : Int) (2 ^ i : Nat) == ((2 ^ i : Nat) : Int)) = kwHas k i := by decide +kernel
end Go.Proofs.YtlhnnjllbcglcaaGreatDoor.caFn
