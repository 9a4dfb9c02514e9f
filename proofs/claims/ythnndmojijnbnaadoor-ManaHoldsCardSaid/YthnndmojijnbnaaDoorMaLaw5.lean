/- ManaHolds in the shape of its frame. -/
import Derived.Test.YthnndmojijnbnaaDoorMaLNot
import Derived.Test.YthnndmojijnbnaaDoorMaLaid
namespace Go.Proofs.YthnndmojijnbnaaDoor.maFn
open Go.ChangeShapes Go.WideShapes Go.ChangeAt Go.RowKit
set_option linter.unusedVariables false

theorem law_holds (a b c d p q r s x : Int) (w : World) (hE : E w) :
    Calls Tryd.prog 7 #[.agg #[.int .i64 a, .int .i64 b, .int .i64 c, .int .i64 d], .agg #[.int .i64 p, .int .i64 q, .int .i64 r, .int .i64 s, .int .i64 x]] w fun z w' => z = .returned (.bool true) ∧ Below w.heap.size w w' := by
  by_cases hm : okM 99 a b c d = true
  · by_cases hk : okC p q r s x = true
    · obtain ⟨⟨⟨p0, _⟩, ⟨q0, _⟩, ⟨r0, _⟩, ⟨s0, _⟩⟩, x0, _⟩ := (okC_iff _ _ _ _ _).1 hk
      obtain ⟨p, rfl⟩ := Int.eq_ofNat_of_zero_le p0
      obtain ⟨q, rfl⟩ := Int.eq_ofNat_of_zero_le q0
      obtain ⟨r, rfl⟩ := Int.eq_ofNat_of_zero_le r0
      obtain ⟨s, rfl⟩ := Int.eq_ofNat_of_zero_le s0
      obtain ⟨x, rfl⟩ := Int.eq_ofNat_of_zero_le x0
      by_cases hy : may a b c d p q r s x = true
      · exact holds_may a b c d p q r s x w hm hk hy hE
      · exact holds_not a b c d p q r s x w hm hk (by simpa using hy) hE
    · exact holds_bad a b c d p q r s x w (.inr (by simpa using hk)) hE
  · exact holds_bad a b c d p q r s x w (.inl (by simpa using hm)) hE
end Go.Proofs.YthnndmojijnbnaaDoor.maFn
