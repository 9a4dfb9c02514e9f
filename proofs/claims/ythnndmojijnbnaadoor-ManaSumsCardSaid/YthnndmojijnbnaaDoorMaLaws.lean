/- The laws of mana in the shape of their frames. -/
import Derived.Test.YthnndmojijnbnaaDoorMaLTexts
import Derived.Test.YthnndmojijnbnaaDoorMaLPays
import Derived.Test.YthnndmojijnbnaaDoorMaLaid
namespace Go.Proofs.YthnndmojijnbnaaDoor.maFn
open Go.ChangeShapes Go.WideShapes Go.ChangeAt Go.RowKit
set_option linter.unusedVariables false

theorem law_texts (p q r s x k : Int) (w : World) (hk : -9223372036854775808 ≤ k ∧ k ≤ 9223372036854775807) (hE : E w) :
    Calls Tryd.prog 5 #[.agg #[.int .i64 p, .int .i64 q, .int .i64 r, .int .i64 s, .int .i64 x], .int .i64 k] w fun z w' => z = .returned (.bool true) ∧ Below w.heap.size w w' := texts_law p q r s x k w hE
theorem law_parses (s : ByteArray) (w : World) (hs : s.size ≤ maxLen) (hE : E w) :
    Calls Tryd.prog 6 #[.string s] w fun z w' => z = .returned (.bool true) ∧ Below w.heap.size w w' := parses_law s w (by unfold maxLen at hs; omega) hE
theorem law_sums (a b c d p q r s x k n : Int) (w : World) (hk : -9223372036854775808 ≤ k ∧ k ≤ 9223372036854775807) (hn : -9223372036854775808 ≤ n ∧ n ≤ 9223372036854775807) (hE : E w) :
    Calls Tryd.prog 3 #[.agg #[.int .i64 a, .int .i64 b, .int .i64 c, .int .i64 d], .agg #[.int .i64 p, .int .i64 q, .int .i64 r, .int .i64 s, .int .i64 x], .int .i64 k, .int .i64 n] w fun z w' => z = .returned (.bool true) ∧ Below w.heap.size w w' := sums_law a b c d p q r s x k n w hn.2 hE
theorem law_pays (a b c d p q r s x : Int) (w : World) (hE : E w) :
    Calls Tryd.prog 4 #[.agg #[.int .i64 a, .int .i64 b, .int .i64 c, .int .i64 d], .agg #[.int .i64 p, .int .i64 q, .int .i64 r, .int .i64 s, .int .i64 x]] w fun z w' => z = .returned (.bool true) ∧ Below w.heap.size w w' := pays_law a b c d p q r s x w hE
end Go.Proofs.YthnndmojijnbnaaDoor.maFn
