/- What the lists of one id are after each call. -/
import Derived.Test.YtklohgecgjlgeaaZoKnown
namespace Go.Proofs.Ytklohgecgjlgeaa.zoFn
open drMem
attribute [local simp] entE movE leaE putL undL movL remL topL botL outL homeI inL row okZ whB whZ whI idxI List.findIdx_cons
theorem nf0 (x : Int) (hk : okID x = true) : movE 3 [[], [], []] x 0 = 9 ∧ movL [[], [], []] x 0 = [[], [], []] ∧ leaE 3 [[], [], []] x = 9 ∧ remL [[], [], []] x = [[], [], []] ∧ entE 3 [[], [], []] x 0 = 0 ∧ putL [[], [], []] x 0 = [[x], [], []] ∧ entE 3 [[x], [], []] x 0 = 11 ∧ undL [[x], [], []] x 0 = [[x], [], []] ∧ entE 3 [[x], [], []] x 0 = 11 ∧ putL [[x], [], []] x 0 = [[x], [], []] ∧ whB [[x], [], []] x 0 0 0 = true ∧ movE 3 [[x], [], []] x 2 = 0 ∧ movL [[x], [], []] x 2 = [[], [], [x]] ∧ whB [[], [], [x]] x 2 0 0 = true ∧ leaE 3 [[], [], [x]] x = 0 ∧ remL [[], [], [x]] x = [[], [], []] := by
  refine ⟨?_, ?_, ?_, ?_, ?_, ?_, ?_, ?_, ?_, ?_, ?_, ?_, ?_, ?_, ?_, ?_⟩ <;> simp [hk]
theorem nf1 (x : Int) (hk : okID x = true) : movE 3 [[], [], []] x 1 = 9 ∧ movL [[], [], []] x 1 = [[], [], []] ∧ leaE 3 [[], [], []] x = 9 ∧ remL [[], [], []] x = [[], [], []] ∧ entE 3 [[], [], []] x 1 = 0 ∧ putL [[], [], []] x 1 = [[], [x], []] ∧ entE 3 [[], [x], []] x 0 = 11 ∧ undL [[], [x], []] x 0 = [[], [x], []] ∧ entE 3 [[], [x], []] x 1 = 11 ∧ putL [[], [x], []] x 1 = [[], [x], []] ∧ whB [[], [x], []] x 1 0 0 = true ∧ movE 3 [[], [x], []] x 1 = 0 ∧ movL [[], [x], []] x 1 = [[], [x], []] ∧ whB [[], [x], []] x 1 0 0 = true ∧ leaE 3 [[], [x], []] x = 0 ∧ remL [[], [x], []] x = [[], [], []] := by
  refine ⟨?_, ?_, ?_, ?_, ?_, ?_, ?_, ?_, ?_, ?_, ?_, ?_, ?_, ?_, ?_, ?_⟩ <;> simp [hk]
theorem nf2 (x : Int) (hk : okID x = true) : movE 3 [[], [], []] x 2 = 9 ∧ movL [[], [], []] x 2 = [[], [], []] ∧ leaE 3 [[], [], []] x = 9 ∧ remL [[], [], []] x = [[], [], []] ∧ entE 3 [[], [], []] x 2 = 0 ∧ putL [[], [], []] x 2 = [[], [], [x]] ∧ entE 3 [[], [], [x]] x 0 = 11 ∧ undL [[], [], [x]] x 0 = [[], [], [x]] ∧ entE 3 [[], [], [x]] x 2 = 11 ∧ putL [[], [], [x]] x 2 = [[], [], [x]] ∧ whB [[], [], [x]] x 2 0 0 = true ∧ movE 3 [[], [], [x]] x 0 = 0 ∧ movL [[], [], [x]] x 0 = [[x], [], []] ∧ whB [[x], [], []] x 0 0 0 = true ∧ leaE 3 [[x], [], []] x = 0 ∧ remL [[x], [], []] x = [[], [], []] := by
  refine ⟨?_, ?_, ?_, ?_, ?_, ?_, ?_, ?_, ?_, ?_, ?_, ?_, ?_, ?_, ?_, ?_⟩ <;> simp [hk]
end Go.Proofs.Ytklohgecgjlgeaa.zoFn
