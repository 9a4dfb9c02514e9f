/- Numbers that come in, with what is known of their room: what the reference asks of them. -/
import Derived.Test.YtefncefmolphfaaDrActs
import Derived.Test.YtefncefmolphfaaDrRef
namespace Go.Proofs.Ytefncefmolphfaa.drFn
open Go.ChangeShapes Go.WideShapes Go.ChangeAt Go.RowKit drMem
set_option linter.unusedVariables false
section
variable {H : Type} {enc : TypeId × Value → H} {w : World}
theorem open_us2 {fuel : Nat} {v : Value} {x : DataW H × List MemPlace} (h : DataW.trod enc Try.prog w 0 (fun _ => true) true fuel 22 [v] = some x) :
    ∃ (sp : Option Addr) (len cap : Nat) (l : List Nat), v = .slice sp len cap ∧ UsAt w sp len l ∧ (sp = none → len = 0 ∧ cap = 0) ∧ len ≤ cap ∧ cap ≤ 9223372036854775807 := by
  obtain ⟨sp, len, cap, l, hv, hu⟩ := open_us h
  refine ⟨sp, len, cap, l, hv, hu, ?_⟩
  rcases open_ints Try.underlying22 Try.underlying30 cU h with ⟨hv2, _⟩ | ⟨a, len2, cap2, zs, hv2, _, hl, hm, _⟩
  · have h3 := (List.cons.inj hv2).1
    rw [hv] at h3; cases h3; exact ⟨fun _ => ⟨rfl, rfl⟩, by omega, by omega⟩
  · have h3 := (List.cons.inj hv2).1
    rw [hv] at h3; cases h3
    exact ⟨fun h0 => (by cases h0), hl, by unfold maxLen at hm; omega⟩
end
/- the reference's view of them -/
theorem lf_of_us {w : World} {sp : Option Addr} {len cap : Nat} {l : List Nat} (h : UsAt w sp len l) (h1 : len ≤ cap) (h2 : cap ≤ 9223372036854775807) : Lf w.heap.size w sp len cap l :=
  ⟨h.n, fun h0 => by
    obtain ⟨b, off, e, hb, hc⟩ := h.c (by simp [us]; have := h.n; omega)
    exact ⟨b, off, e, hb, hc⟩, h1, h2, h.v⟩
end Go.Proofs.Ytefncefmolphfaa.drFn
