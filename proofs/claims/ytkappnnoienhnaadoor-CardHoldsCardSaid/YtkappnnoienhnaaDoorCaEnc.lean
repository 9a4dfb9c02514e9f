/- The bytes of any card: what Encode returns. -/
import Derived.Test.YtkappnnoienhnaaDoorCaEncZ
import Derived.Test.YtkappnnoienhnaaDoorCaEncO
namespace Go.Proofs.YtkappnnoienhnaaDoor.caFn
open Go.ChangeShapes Go.WideShapes Go.ChangeAt Go.RowKit drMem efFn
set_option linter.unusedVariables false

def cdZ (q : Cd) : List UInt8 × Int := if okCd q = true then (cdB q, 0) else ([], 2)
theorem cdZ_yes {q : Cd} (h : okCd q = true) : cdZ q = (cdB q, 0) := if_pos h
theorem cdZ_no {q : Cd} (h : okCd q = false) : cdZ q = ([], 2) := if_neg (by rw [h]; decide)
theorem EncodeV_any (s : ByteArray) (kd a b c d x m p t k : Int) (es : Option Addr) (en ec : Nat) (ts : Option Addr) (tn tc : Nat) (r : Int) (e : List Ef) (l : List Tr) (w : World) (h : CdAt w es en e ts tn l) (htc : tn ≤ tc) :
    Calls Tryd.prog 13 #[cV s kd a b c d x m p t k es en ec ts tn tc r] w fun v w' => ∃ sp n cap, v = .returned (.tuple #[.slice sp n cap, .int .i64 (cdZ ⟨s.data.toList, kd, a, b, c, d, x, m, p, t, k, e, l, r⟩).2]) ∧ BsAt w' sp n (cdZ ⟨s.data.toList, kd, a, b, c, d, x, m, p, t, k, e, l, r⟩).1 ∧ n ≤ cap ∧ Below w.heap.size w w' := by
  cases ho : okCd ⟨s.data.toList, kd, a, b, c, d, x, m, p, t, k, e, l, r⟩
  · rw [cdZ_no ho]
    exact (Encode_no s kd a b c d x m p t k es en ec ts tn tc r e l w h htc ho).mono fun v w' ⟨h1, h2⟩ => ⟨none, 0, 0, h1, BsAt.nil _ _, Nat.le_refl _, h2⟩
  · rw [cdZ_yes ho]
    rcases Nat.eq_zero_or_pos tn with h0 | h0
    · exact Encode_0 s kd a b c d x m p t k es en ec ts tn tc r e l w h h0 htc ho
    · obtain ⟨tb, toff, rfl, _, _⟩ := h.t.c h0
      exact Encode_1 s kd a b c d x m p t k es en ec tb toff tn tc r e l w h h0 htc ho
end Go.Proofs.YtkappnnoienhnaaDoor.caFn
