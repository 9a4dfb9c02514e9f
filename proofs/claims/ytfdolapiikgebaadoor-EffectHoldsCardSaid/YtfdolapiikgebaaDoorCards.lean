/-
  DERIVED. GIVEN WITH THE SEED: THE CARDS: each row of YtfdolapiikgebaaDoorRows.lean that lists a variable, with what it lists TIED to the program's text (the seventh form; the later family's looks); each row that meets fmt, with fmt's text TOLD by the authors' own Lean function (tested against real Go, not proved from fmt's source: count such statements apart). THE CARD IS WHAT COUNTS. Prove the row's statement (the work); the ties are given (YtfdolapiikgebaaDoorTie.lean); close each card by the builder's one call (the guide's Derived/Test/ToyasCard.lean, 'card_holds'). Laid BY PROGRAM, IN A SANDBOX (cutbox-door.mjs). By AI agents, Wed Nov 11 2026. No macro, syntax, notation, axiom, sorry.
-/
import Derived.Test.YtfdolapiikgebaaDoorRows
import GoSem.ClaimSeven
namespace Go.Proofs.YtfdolapiikgebaaDoor
namespace Rows

/-- THE TIED CARD OF 'zeitnotlaw06.EffectValid'. -/
def effectValidCard : Claim7 := { stood := { row := effectValidRow, standIns := [], harness := (true, "42d88bc5fb594f90cbdd9138d9325e7a5c56cb9826906f31eff9cffb8791453d"), looks := true }, kinds := [], alts := [], laidByText := true, laidKinds := [.data, .data, .data, .sentinel, .sentinel, .data], laidTests := true, laidLooks := .later }
def EffectValidCardSaid : Prop := Claim7.holds Tryd.pinned (.plain (OpenSpec.ofChange effectValidSpec)) effectValidCard

/-- THE TIED CARD OF 'zeitnotlaw06.EffectCodes'. -/
def effectCodesCard : Claim7 := { stood := { row := effectCodesRow, standIns := [], harness := (true, "42d88bc5fb594f90cbdd9138d9325e7a5c56cb9826906f31eff9cffb8791453d"), looks := true }, kinds := [], alts := [], laidByText := true, laidKinds := [.data, .data, .data, .sentinel, .sentinel, .data], laidTests := true, laidLooks := .later }
def EffectCodesCardSaid : Prop := Claim7.holds Tryd.pinned (.plain (OpenSpec.ofChange effectCodesSpec)) effectCodesCard

/-- THE TIED CARD OF 'zeitnotlaw06.EffectEncodes'. -/
def effectEncodesCard : Claim7 := { stood := { row := effectEncodesRow, standIns := [], harness := (true, "42d88bc5fb594f90cbdd9138d9325e7a5c56cb9826906f31eff9cffb8791453d"), looks := true }, kinds := [], alts := [], laidByText := true, laidKinds := [.data, .data, .data, .sentinel, .sentinel, .data], laidTests := true, laidLooks := .later }
def EffectEncodesCardSaid : Prop := Claim7.holds Tryd.pinned (.plain (OpenSpec.ofChange effectEncodesSpec)) effectEncodesCard

/-- THE TIED CARD OF 'zeitnotlaw06.EffectDecodes'. -/
def effectDecodesCard : Claim7 := { stood := { row := effectDecodesRow, standIns := [], harness := (true, "42d88bc5fb594f90cbdd9138d9325e7a5c56cb9826906f31eff9cffb8791453d"), looks := true }, kinds := [], alts := [], laidByText := true, laidKinds := [.data, .data, .data, .sentinel, .sentinel, .data], laidTests := true, laidLooks := .later }
def EffectDecodesCardSaid : Prop := Claim7.holds Tryd.pinned (.plain (OpenSpec.ofChange effectDecodesSpec)) effectDecodesCard

/-- THE TIED CARD OF 'zeitnotlaw06.EffectTexts'. -/
def effectTextsCard : Claim7 := { stood := { row := effectTextsRow, standIns := [], harness := (true, "42d88bc5fb594f90cbdd9138d9325e7a5c56cb9826906f31eff9cffb8791453d"), looks := true }, kinds := [], alts := [], laidByText := true, laidKinds := [.data, .data, .data, .sentinel, .sentinel, .data], laidTests := true, laidLooks := .later }
def EffectTextsCardSaid : Prop := Claim7.holds Tryd.pinned (.plain (OpenSpec.ofChange effectTextsSpec)) effectTextsCard

/-- THE TIED CARD OF 'zeitnotlaw06.EffectHolds'. -/
def effectHoldsCard : Claim7 := { stood := { row := effectHoldsRow, standIns := [], harness := (true, "42d88bc5fb594f90cbdd9138d9325e7a5c56cb9826906f31eff9cffb8791453d"), looks := true }, kinds := [], alts := [], laidByText := true, laidKinds := [.data, .data, .data, .sentinel, .sentinel, .data], laidTests := true, laidLooks := .later }
def EffectHoldsCardSaid : Prop := Claim7.holds Tryd.pinned (.plain (OpenSpec.ofChange effectHoldsSpec)) effectHoldsCard

/-- THE SECOND FORM's CARD OF 'zeitnotlaw06.EffectValid'. -/
def effectValidUptoCard : Claim7 := { stood := { row := effectValidUptoRow, standIns := [], harness := (true, "42d88bc5fb594f90cbdd9138d9325e7a5c56cb9826906f31eff9cffb8791453d"), looks := true }, kinds := [], alts := [], laidByText := true, laidKinds := [.data, .data, .data, .sentinel, .sentinel, .data], laidTests := true, laidLooks := .later }
def EffectValidUptoCardSaid : Prop := Claim7.holds Tryd.pinned (.plain (OpenSpec.upto effectValidSpec)) effectValidUptoCard

/-- THE SECOND FORM's CARD OF 'zeitnotlaw06.EffectCodes'. -/
def effectCodesUptoCard : Claim7 := { stood := { row := effectCodesUptoRow, standIns := [], harness := (true, "42d88bc5fb594f90cbdd9138d9325e7a5c56cb9826906f31eff9cffb8791453d"), looks := true }, kinds := [], alts := [], laidByText := true, laidKinds := [.data, .data, .data, .sentinel, .sentinel, .data], laidTests := true, laidLooks := .later }
def EffectCodesUptoCardSaid : Prop := Claim7.holds Tryd.pinned (.plain (OpenSpec.upto effectCodesSpec)) effectCodesUptoCard

/-- THE SECOND FORM's CARD OF 'zeitnotlaw06.EffectEncodes'. -/
def effectEncodesUptoCard : Claim7 := { stood := { row := effectEncodesUptoRow, standIns := [], harness := (true, "42d88bc5fb594f90cbdd9138d9325e7a5c56cb9826906f31eff9cffb8791453d"), looks := true }, kinds := [], alts := [], laidByText := true, laidKinds := [.data, .data, .data, .sentinel, .sentinel, .data], laidTests := true, laidLooks := .later }
def EffectEncodesUptoCardSaid : Prop := Claim7.holds Tryd.pinned (.plain (OpenSpec.upto effectEncodesSpec)) effectEncodesUptoCard

/-- THE SECOND FORM's CARD OF 'zeitnotlaw06.EffectDecodes'. -/
def effectDecodesUptoCard : Claim7 := { stood := { row := effectDecodesUptoRow, standIns := [], harness := (true, "42d88bc5fb594f90cbdd9138d9325e7a5c56cb9826906f31eff9cffb8791453d"), looks := true }, kinds := [], alts := [], laidByText := true, laidKinds := [.data, .data, .data, .sentinel, .sentinel, .data], laidTests := true, laidLooks := .later }
def EffectDecodesUptoCardSaid : Prop := Claim7.holds Tryd.pinned (.plain (OpenSpec.upto effectDecodesSpec)) effectDecodesUptoCard

/-- THE SECOND FORM's CARD OF 'zeitnotlaw06.EffectTexts'. -/
def effectTextsUptoCard : Claim7 := { stood := { row := effectTextsUptoRow, standIns := [], harness := (true, "42d88bc5fb594f90cbdd9138d9325e7a5c56cb9826906f31eff9cffb8791453d"), looks := true }, kinds := [], alts := [], laidByText := true, laidKinds := [.data, .data, .data, .sentinel, .sentinel, .data], laidTests := true, laidLooks := .later }
def EffectTextsUptoCardSaid : Prop := Claim7.holds Tryd.pinned (.plain (OpenSpec.upto effectTextsSpec)) effectTextsUptoCard

/-- THE SECOND FORM's CARD OF 'zeitnotlaw06.EffectHolds'. -/
def effectHoldsUptoCard : Claim7 := { stood := { row := effectHoldsUptoRow, standIns := [], harness := (true, "42d88bc5fb594f90cbdd9138d9325e7a5c56cb9826906f31eff9cffb8791453d"), looks := true }, kinds := [], alts := [], laidByText := true, laidKinds := [.data, .data, .data, .sentinel, .sentinel, .data], laidTests := true, laidLooks := .later }
def EffectHoldsUptoCardSaid : Prop := Claim7.holds Tryd.pinned (.plain (OpenSpec.upto effectHoldsSpec)) effectHoldsUptoCard
end Rows
end Go.Proofs.YtfdolapiikgebaaDoor
