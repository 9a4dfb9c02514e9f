/-
  DERIVED. GIVEN WITH THE SEED: THE CARDS: each row of YtkappnnoienhnaaDoorRows.lean that lists a variable, with what it lists TIED to the program's text (the seventh form; the later family's looks); each row that meets fmt, with fmt's text TOLD by the authors' own Lean function (tested against real Go, not proved from fmt's source: count such statements apart). THE CARD IS WHAT COUNTS. Prove the row's statement (the work); the ties are given (YtkappnnoienhnaaDoorTie.lean); close each card by the builder's one call (the guide's Derived/Test/ToyasCard.lean, 'card_holds'). Laid BY PROGRAM, IN A SANDBOX (cutbox-door.mjs). By AI agents, Wed Nov 11 2026. No macro, syntax, notation, axiom, sorry.
-/
import Derived.Test.YtkappnnoienhnaaDoorRows
import GoSem.ClaimSeven
namespace Go.Proofs.YtkappnnoienhnaaDoor
namespace Rows

/-- THE TIED CARD OF 'zeitnotlaw07.CardNames'. -/
def cardNamesCard : Claim7 := { stood := { row := cardNamesRow, standIns := [], harness := (true, "d42777cb45b7d87cce284c6fe597cf8530e05fb7763c50b3b49e3035ae1bfd04"), looks := true }, kinds := [], alts := [], laidByText := true, laidKinds := [.data, .data, .data, .data, .data, .data], laidTests := true, laidLooks := .later }
def CardNamesCardSaid : Prop := Claim7.holds Tryd.pinned (.plain (OpenSpec.ofChange cardNamesSpec)) cardNamesCard

/-- THE TIED CARD OF 'zeitnotlaw07.CardEqual'. -/
def cardEqualCard : Claim7 := { stood := { row := cardEqualRow, standIns := [], harness := (true, "d42777cb45b7d87cce284c6fe597cf8530e05fb7763c50b3b49e3035ae1bfd04"), looks := true }, kinds := [], alts := [], laidByText := true, laidKinds := [.data, .data, .data, .data, .data, .data], laidTests := true, laidLooks := .later }
def CardEqualCardSaid : Prop := Claim7.holds Tryd.pinned (.plain (OpenSpec.ofChange cardEqualSpec)) cardEqualCard

/-- THE TIED CARD OF 'zeitnotlaw07.CardHolds'. -/
def cardHoldsCard : Claim7 := { stood := { row := cardHoldsRow, standIns := [], harness := (true, "d42777cb45b7d87cce284c6fe597cf8530e05fb7763c50b3b49e3035ae1bfd04"), looks := true }, kinds := [], alts := [], laidByText := true, laidKinds := [.data, .data, .data, .data, .data, .data], laidTests := true, laidLooks := .later }
def CardHoldsCardSaid : Prop := Claim7.holds Tryd.pinned (.plain (OpenSpec.ofChange cardHoldsSpec)) cardHoldsCard

/-- THE SECOND FORM's CARD OF 'zeitnotlaw07.CardNames'. -/
def cardNamesUptoCard : Claim7 := { stood := { row := cardNamesUptoRow, standIns := [], harness := (true, "d42777cb45b7d87cce284c6fe597cf8530e05fb7763c50b3b49e3035ae1bfd04"), looks := true }, kinds := [], alts := [], laidByText := true, laidKinds := [.data, .data, .data, .data, .data, .data], laidTests := true, laidLooks := .later }
def CardNamesUptoCardSaid : Prop := Claim7.holds Tryd.pinned (.plain (OpenSpec.upto cardNamesSpec)) cardNamesUptoCard

/-- THE SECOND FORM's CARD OF 'zeitnotlaw07.CardEqual'. -/
def cardEqualUptoCard : Claim7 := { stood := { row := cardEqualUptoRow, standIns := [], harness := (true, "d42777cb45b7d87cce284c6fe597cf8530e05fb7763c50b3b49e3035ae1bfd04"), looks := true }, kinds := [], alts := [], laidByText := true, laidKinds := [.data, .data, .data, .data, .data, .data], laidTests := true, laidLooks := .later }
def CardEqualUptoCardSaid : Prop := Claim7.holds Tryd.pinned (.plain (OpenSpec.upto cardEqualSpec)) cardEqualUptoCard

/-- THE SECOND FORM's CARD OF 'zeitnotlaw07.CardHolds'. -/
def cardHoldsUptoCard : Claim7 := { stood := { row := cardHoldsUptoRow, standIns := [], harness := (true, "d42777cb45b7d87cce284c6fe597cf8530e05fb7763c50b3b49e3035ae1bfd04"), looks := true }, kinds := [], alts := [], laidByText := true, laidKinds := [.data, .data, .data, .data, .data, .data], laidTests := true, laidLooks := .later }
def CardHoldsUptoCardSaid : Prop := Claim7.holds Tryd.pinned (.plain (OpenSpec.upto cardHoldsSpec)) cardHoldsUptoCard
end Rows
end Go.Proofs.YtkappnnoienhnaaDoor
