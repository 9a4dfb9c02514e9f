/- The law EffectHolds, in the form that the row wants. -/
import Derived.Test.YtfdolapiikgebaaDoorEfLawH
import Derived.Test.YtfdolapiikgebaaDoorEfLaid
namespace Go.Proofs.YtfdolapiikgebaaDoor.efFn
open Go.ChangeShapes Go.WideShapes Go.ChangeAt Go.RowKit drMem
set_option linter.unusedVariables false

section
variable {H : Type} {enc : TypeId × Value → H}
set_option maxRecDepth 100000 in
theorem bytes_nil {w : World} {sp : Option Addr} {n c : Nat} {d : DataW H} {p : List MemPlace} (h : DataW.Trod enc Tryd.prog w 0 (fun _ => true) true 36 (.slice sp n c) d p) : sp = none → n = 0 ∧ c = 0 := by
  rintro rfl
  obtain ⟨fuel, hf⟩ := h
  have hf' : DataW.trod enc Tryd.prog w 0 (fun _ => true) true fuel 36 [.slice none n c] = some (d, p) := hf
  rcases open_ints Tryd.underlying36 Tryd.underlying5 cB hf' with ⟨hv, _⟩ | ⟨a, len, cap, zs, hv, _⟩
  · cases hv; exact ⟨rfl, rfl⟩
  · cases hv
end
theorem Holds_row (sp : Option Addr) (n cap : Nat) (l : List Ef) (sq : Option Addr) (nq cq : Nat) (lb : List UInt8) (s : ByteArray) (w : World) (hG : G w) (hE : EfsAt w sp n l) (hQ : BsAt w sq nq lb) (hcap : nq ≤ cq) (hnil : sq = none → nq = 0 ∧ cq = 0) (hs : s.size ≤ maxLen) :
    Calls Tryd.prog 8 #[.slice sp n cap, .slice sq nq cq, .string s] w (lawPost w) :=
  Holds_law sp sq n cap nq cq l lb s.data.toList w hG hE hQ hcap hnil (by
    have : s.size = s.data.toList.length := bs_size s.data.toList
    unfold maxLen at hs; omega)
end Go.Proofs.YtfdolapiikgebaaDoor.efFn
