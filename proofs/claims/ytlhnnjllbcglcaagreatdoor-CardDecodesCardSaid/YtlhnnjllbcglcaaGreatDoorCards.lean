/-
  DERIVED. GIVEN WITH THE SEED: THE CARDS: each row of YtlhnnjllbcglcaaGreatDoorRows.lean that lists a variable, with what it lists TIED to the program's text (the seventh form; the later family's looks); each row that meets fmt, with fmt's text TOLD by the authors' own Lean function (tested against real Go, not proved from fmt's source: count such statements apart). THE CARD IS WHAT COUNTS. Prove the row's statement (the work); the ties are given (YtlhnnjllbcglcaaGreatDoorTie.lean); close each card by the builder's one call (the guide's Derived/Test/ToyasCard.lean, 'card_holds'). Laid BY PROGRAM, IN A SANDBOX (cutbox-door.mjs). By AI agents, Wed Nov 11 2026. No macro, syntax, notation, axiom, sorry.
-/
import Derived.Test.YtlhnnjllbcglcaaGreatDoorRows
import GoSem.ClaimSeven
namespace Go.Proofs.YtlhnnjllbcglcaaGreatDoor
namespace Rows

/-- THE TIED CARD OF 'zeitnotlaw07.CardEncodes'. -/
def cardEncodesCard : Claim7 := { stood := { row := cardEncodesRow, standIns := [], harness := (true, "660cf0d64a796671602adb0325e75b3cfc44f4f4c06d9c76d52b357c07a6acf3"), looks := true }, kinds := [], alts := [], laidByText := true, laidKinds := [.data, .data, .data, .data, .data, .data], laidTests := true, laidLooks := .later }
def CardEncodesCardSaid : Prop := Claim7.holds Tryz.pinned (.plain (OpenSpec.ofChange cardEncodesSpec)) cardEncodesCard

/-- THE TIED CARD OF 'zeitnotlaw07.CardDecodes'. -/
def cardDecodesCard : Claim7 := { stood := { row := cardDecodesRow, standIns := [], harness := (true, "660cf0d64a796671602adb0325e75b3cfc44f4f4c06d9c76d52b357c07a6acf3"), looks := true }, kinds := [], alts := [], laidByText := true, laidKinds := [.data, .data, .data, .data, .data, .data], laidTests := true, laidLooks := .later }
def CardDecodesCardSaid : Prop := Claim7.holds Tryz.pinned (.plain (OpenSpec.ofChange cardDecodesSpec)) cardDecodesCard

/-- THE SECOND FORM's CARD OF 'zeitnotlaw07.CardEncodes'. -/
def cardEncodesUptoCard : Claim7 := { stood := { row := cardEncodesUptoRow, standIns := [], harness := (true, "660cf0d64a796671602adb0325e75b3cfc44f4f4c06d9c76d52b357c07a6acf3"), looks := true }, kinds := [], alts := [], laidByText := true, laidKinds := [.data, .data, .data, .data, .data, .data], laidTests := true, laidLooks := .later }
def CardEncodesUptoCardSaid : Prop := Claim7.holds Tryz.pinned (.plain (OpenSpec.upto cardEncodesSpec)) cardEncodesUptoCard

/-- THE SECOND FORM's CARD OF 'zeitnotlaw07.CardDecodes'. -/
def cardDecodesUptoCard : Claim7 := { stood := { row := cardDecodesUptoRow, standIns := [], harness := (true, "660cf0d64a796671602adb0325e75b3cfc44f4f4c06d9c76d52b357c07a6acf3"), looks := true }, kinds := [], alts := [], laidByText := true, laidKinds := [.data, .data, .data, .data, .data, .data], laidTests := true, laidLooks := .later }
def CardDecodesUptoCardSaid : Prop := Claim7.holds Tryz.pinned (.plain (OpenSpec.upto cardDecodesSpec)) cardDecodesUptoCard
end Rows
end Go.Proofs.YtlhnnjllbcglcaaGreatDoor
