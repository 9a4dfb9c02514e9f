/- The orders of a list of at most five numbers, each by its number; an order as the key of a map. -/
import Derived.Test.YtefncefmolphfaaDrShuf
import Derived.Maps.OwnOps
import Derived.Maps.OwnSet
import Derived.DeepKeys4
import Derived.WalkArith
namespace Go.Proofs.Ytefncefmolphfaa.drFn
open Go.ChangeShapes Go.WideShapes Go.ChangeAt Go.RowKit drMem
set_option linter.unusedVariables false

def upto (k : Nat) : List Int := (List.range k).map fun (i : Nat) => (i : Int)
theorem upto_len (k : Nat) : (upto k).length = k := by simp [upto]
theorem upto_succ (k : Nat) : upto (k + 1) = upto k ++ [(k : Int)] := by simp [upto, List.range_succ]
def fac : Nat → Nat
  | 0 => 1
  | k + 1 => fac k * (k + 1)
theorem fac_le : ∀ k, k ≤ 5 → fac k ≤ 120 := by decide
theorem fac_le1 : ∀ k, k < 5 → fac k ≤ 24 := by decide
/- the numbers that are given, from a bound down -/
def giveL (x : Nat) : Nat → Nat → List Nat
  | 0, _ => []
  | 1, _ => []
  | b + 2, r => (r % (b + 2) + (b + 2) * x) :: giveL x (b + 1) (r / (b + 2))
theorem giveL_len (x : Nat) : ∀ b r, (giveL x b r).length = b - 1
  | 0, _ => rfl
  | 1, _ => rfl
  | b + 2, r => by rw [giveL, List.length_cons, giveL_len x (b + 1)]; omega
theorem giveL_lt (x : Nat) (hx : x < 1000) : ∀ b r, b ≤ 5 → ∀ v ∈ giveL x b r, v < 18446744073709551616
  | 0, _, _ => by simp [giveL]
  | 1, _, _ => by simp [giveL]
  | b + 2, r, hb => by
    intro v hv
    rw [giveL, List.mem_cons] at hv
    rcases hv with rfl | hv
    · have h1 := Nat.mod_lt r (show 0 < b + 2 by omega)
      have h2 : (b + 2) * x ≤ 5 * 1000 := Nat.mul_le_mul (by omega) (by omega)
      omega
    · exact giveL_lt x hx (b + 1) _ (by omega) v hv
/- the order that they make -/
def ordP : Nat → Nat → List Int → List Int
  | 0, _, xs => xs
  | 1, _, xs => xs
  | b + 2, r, xs => ordP (b + 1) (r / (b + 2)) (swp xs (b + 1) (r % (b + 2)))
theorem shuf_give (x : Nat) (L : List Nat) : ∀ (i u r : Nat) (xs : List Int), L.drop u = giveL x (i + 1) r → shufL L u i xs = ordP (i + 1) r xs
  | 0, _, _, _, _ => rfl
  | i + 1, u, r, xs, h => by
    have h0 : L.getD u 0 = r % (i + 2) + (i + 2) * x := by
      have : (L.drop u).getD 0 0 = r % (i + 2) + (i + 2) * x := by rw [h]; rfl
      rw [List.getD_eq_getElem?_getD, List.getElem?_drop, Nat.add_zero, ← List.getD_eq_getElem?_getD] at this
      exact this
    have h1 : L.drop (u + 1) = giveL x (i + 1) (r / (i + 2)) := by
      rw [← List.drop_drop, h]; rfl
    have h2 : pick1 L u (i + 2) = r % (i + 2) := by
      unfold pick1; rw [h0, Nat.add_mul_mod_self_left, Nat.mod_mod]
    rw [shufL, h2, shuf_give x L i (u + 1) _ _ h1, ordP]
theorem ord_len : ∀ (b r : Nat) (xs : List Int), (ordP b r xs).length = xs.length
  | 0, _, _ => rfl
  | 1, _, _ => rfl
  | b + 2, r, xs => by rw [ordP, ord_len (b + 1), swp_len]
def ord (m n : Nat) : List Int := ordP m n (upto m)
def pad5 (l : List Int) : List Int := l ++ List.replicate (5 - l.length) 0
theorem shOut_give (x m n : Nat) (hm : m ≤ 5) : shOut (giveL x m n) 0 (upto m) = ord m n ∧ shE (giveL x m n) 0 (upto m).length = 0 ∧ shU (giveL x m n) 0 (upto m).length = (giveL x m n).length := by
  have e1 : shE (giveL x m n) 0 (upto m).length = 0 := by
    unfold shE; rw [upto_len, giveL_len, if_neg (by omega), if_neg (by omega)]
  refine ⟨?_, e1, ?_⟩
  · unfold shOut; rw [e1, if_pos rfl, upto_len]
    cases m with
    | zero => rfl
    | succ m => exact shuf_give x _ m 0 n _ rfl
  · unfold shU; rw [e1, if_pos rfl, upto_len, giveL_len]; omega
/- each order by only one number -/
theorem ord_ne0 : ∀ n, n < fac 0 → ∀ k, k < n → pad5 (ord 0 n) ≠ pad5 (ord 0 k) := by decide +kernel
theorem ord_ne1 : ∀ n, n < fac 1 → ∀ k, k < n → pad5 (ord 1 n) ≠ pad5 (ord 1 k) := by decide +kernel
theorem ord_ne2 : ∀ n, n < fac 2 → ∀ k, k < n → pad5 (ord 2 n) ≠ pad5 (ord 2 k) := by decide +kernel
theorem ord_ne3 : ∀ n, n < fac 3 → ∀ k, k < n → pad5 (ord 3 n) ≠ pad5 (ord 3 k) := by decide +kernel
theorem ord_ne4 : ∀ n, n < fac 4 → ∀ k, k < n → pad5 (ord 4 n) ≠ pad5 (ord 4 k) := by decide +kernel
theorem ord_ne5 : ∀ n, n < fac 5 → ∀ k, k < n → pad5 (ord 5 n) ≠ pad5 (ord 5 k) := by decide +kernel
theorem ord_ne (m : Nat) (hm : m ≤ 5) : ∀ n, n < fac m → ∀ k, k < n → pad5 (ord m n) ≠ pad5 (ord m k) := by
  match m, hm with
  | 0, _ => exact ord_ne0
  | 1, _ => exact ord_ne1
  | 2, _ => exact ord_ne2
  | 3, _ => exact ord_ne3
  | 4, _ => exact ord_ne4
  | 5, _ => exact ord_ne5
  | m + 6, h => omega
theorem ord_ok5 : ∀ m, m ≤ 5 → ∀ n, n < fac m → (pad5 (ord m n)).length = 5 ∧ ∀ x ∈ pad5 (ord m n), 0 ≤ x ∧ x ≤ 4 := by decide +kernel
end Go.Proofs.Ytefncefmolphfaa.drFn
