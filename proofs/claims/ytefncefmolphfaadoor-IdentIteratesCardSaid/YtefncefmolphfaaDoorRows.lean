/-
  NARROWER THAN 'FOR EVERY INPUT', by the rows' own cells (each row's printed sentence says how): IdentPlays: laid · IdentFills: laid · IdentIterates: laid · IdentNil: laid · IdentHolds: laid.
  DERIVED. THE GIVEN ROWS OF THIS SEAT. 5 by the template 'for every input the law returns true; each argument reads behind the call as it read before'; 0 by the template 'total and deterministic' (their statements: YtefncefmolphfaaDoorTotals.lean).
  GIVEN WITH THE SEED: the statements are not yours to turn. If you find one false, say at which input.
  Laid BY PROGRAM, IN A SANDBOX (cutbox-rows.mjs): the forced cells as the released guide's own fill.sh prints them over the translation 3811728be98ba264… (all of the seat's roots in one cut). By AI agents, Wed Nov 11 2026. No macro, syntax, notation, axiom, sorry.
-/
import Derived.Test.YtefncefmolphfaaDoorChecked
import GoSem.Claim
import GoSem.ClaimJoined
import GoSem.ClaimMapViews
import Derived.JoinedTies
import Derived.KernelRfl
namespace Go.Proofs.YtefncefmolphfaaDoor
/- THE CELL 'sum', in the pinned program and in every row, IS THE sha256 OF THE DUMP (.gsa) THAT YtefncefmolphfaaDoorProg.lean LOADS. Nothing in Lean hashes anything: it is a label: what it is worth is what the hold of that sum in a sandbox is worth. -/
noncomputable def Tryd.pinned : Pinned := { name := "ytefncefmolphfaadoor", sum := "3811728be98ba26494b76da3519f4994db154768da3a5c1ebf45b496f9ee1756", checked := Tryd.checked }
namespace Rows
def none {H : Type} : Left H := { results := [], args := [] }

/- WHAT THE LISTED PACKAGE-LEVEL VARIABLES READ AS WHEN THE CALL BEGINS. Each datum BY PROGRAM (the guide's laid-datum.mjs) off the statement by which the dump's own 'gosem.cut.vars' lays the variable. In a bare row this is a premise. The card (YtefncefmolphfaaDoorCards.lean) ties it to the program's text. -/
def laid_math_bits_deBruijn64tab {H : Type} : DataW H := .agg [.lit (.int .u8 0), .lit (.int .u8 1), .lit (.int .u8 56), .lit (.int .u8 2), .lit (.int .u8 57), .lit (.int .u8 49), .lit (.int .u8 28), .lit (.int .u8 3), .lit (.int .u8 61), .lit (.int .u8 58), .lit (.int .u8 42), .lit (.int .u8 50), .lit (.int .u8 38), .lit (.int .u8 29), .lit (.int .u8 17), .lit (.int .u8 4), .lit (.int .u8 62), .lit (.int .u8 47), .lit (.int .u8 59), .lit (.int .u8 36), .lit (.int .u8 45), .lit (.int .u8 43), .lit (.int .u8 51), .lit (.int .u8 22), .lit (.int .u8 53), .lit (.int .u8 39), .lit (.int .u8 33), .lit (.int .u8 30), .lit (.int .u8 24), .lit (.int .u8 18), .lit (.int .u8 12), .lit (.int .u8 5), .lit (.int .u8 63), .lit (.int .u8 55), .lit (.int .u8 48), .lit (.int .u8 27), .lit (.int .u8 60), .lit (.int .u8 41), .lit (.int .u8 37), .lit (.int .u8 16), .lit (.int .u8 46), .lit (.int .u8 35), .lit (.int .u8 44), .lit (.int .u8 21), .lit (.int .u8 52), .lit (.int .u8 32), .lit (.int .u8 23), .lit (.int .u8 11), .lit (.int .u8 54), .lit (.int .u8 26), .lit (.int .u8 40), .lit (.int .u8 15), .lit (.int .u8 34), .lit (.int .u8 20), .lit (.int .u8 31), .lit (.int .u8 10), .lit (.int .u8 25), .lit (.int .u8 14), .lit (.int .u8 19), .lit (.int .u8 9), .lit (.int .u8 13), .lit (.int .u8 8), .lit (.int .u8 7), .lit (.int .u8 6)]

/-- 'zeitnotlaw03.IdentPlays': WHATEVER THE INPUT: true; the input reads as it did. -/
def identPlaysSpec : ChangeSpec := { name := "identPlays", fn := fun _ => fun
  | [d1, d2] => { results := [.lit (.bool true)], args := [d1, d2] }
  | _ => none }
def identPlaysRow : OpenClaim := { program := "ytefncefmolphfaadoor", sum := "3811728be98ba26494b76da3519f4994db154768da3a5c1ebf45b496f9ee1756", func := "zeitnot/zeitnotlaw03.IdentPlays", spec := "identPlays", unfollowed := true, recurses := true, named := ["math/bits.deBruijn64tab"], apart := false, laid := [("math/bits.deBruijn64tab", laid_math_bits_deBruijn64tab)] }
def IdentPlaysSaid : Prop := identPlaysRow.holds Tryd.pinned (OpenSpec.ofChange identPlaysSpec)

/-- ITS FALSE NEIGHBOUR: 'it returns false'. Refute it at one input. -/
def identPlaysWrong : ChangeSpec := { name := "identPlays", fn := fun _ => fun
  | [d1, d2] => { results := [.lit (.bool false)], args := [d1, d2] }
  | _ => none }
def IdentPlaysWrongFalsely : Prop := identPlaysRow.holds Tryd.pinned (OpenSpec.ofChange identPlaysWrong)

/-- 'zeitnotlaw03.IdentFills': WHATEVER THE INPUT: true; the input reads as it did. -/
def identFillsSpec : ChangeSpec := { name := "identFills", fn := fun _ => fun
  | [d1, d2] => { results := [.lit (.bool true)], args := [d1, d2] }
  | _ => none }
def identFillsRow : OpenClaim := { program := "ytefncefmolphfaadoor", sum := "3811728be98ba26494b76da3519f4994db154768da3a5c1ebf45b496f9ee1756", func := "zeitnot/zeitnotlaw03.IdentFills", spec := "identFills", unfollowed := true, recurses := true, named := ["math/bits.deBruijn64tab"], apart := false, laid := [("math/bits.deBruijn64tab", laid_math_bits_deBruijn64tab)] }
def IdentFillsSaid : Prop := identFillsRow.holds Tryd.pinned (OpenSpec.ofChange identFillsSpec)

/-- ITS FALSE NEIGHBOUR: 'it returns false'. Refute it at one input. -/
def identFillsWrong : ChangeSpec := { name := "identFills", fn := fun _ => fun
  | [d1, d2] => { results := [.lit (.bool false)], args := [d1, d2] }
  | _ => none }
def IdentFillsWrongFalsely : Prop := identFillsRow.holds Tryd.pinned (OpenSpec.ofChange identFillsWrong)

/-- 'zeitnotlaw03.IdentIterates': WHATEVER THE INPUT: true; the input reads as it did. -/
def identIteratesSpec : ChangeSpec := { name := "identIterates", fn := fun _ => fun
  | [d1, d2, d3] => { results := [.lit (.bool true)], args := [d1, d2, d3] }
  | _ => none }
def identIteratesRow : OpenClaim := { program := "ytefncefmolphfaadoor", sum := "3811728be98ba26494b76da3519f4994db154768da3a5c1ebf45b496f9ee1756", func := "zeitnot/zeitnotlaw03.IdentIterates", spec := "identIterates", unfollowed := true, recurses := true, named := ["math/bits.deBruijn64tab"], apart := false, laid := [("math/bits.deBruijn64tab", laid_math_bits_deBruijn64tab)] }
def IdentIteratesSaid : Prop := identIteratesRow.holds Tryd.pinned (OpenSpec.ofChange identIteratesSpec)

/-- ITS FALSE NEIGHBOUR: 'it returns false'. Refute it at one input. -/
def identIteratesWrong : ChangeSpec := { name := "identIterates", fn := fun _ => fun
  | [d1, d2, d3] => { results := [.lit (.bool false)], args := [d1, d2, d3] }
  | _ => none }
def IdentIteratesWrongFalsely : Prop := identIteratesRow.holds Tryd.pinned (OpenSpec.ofChange identIteratesWrong)

/-- 'zeitnotlaw03.IdentNil': WHATEVER THE INPUT: true; the input reads as it did. -/
def identNilSpec : ChangeSpec := { name := "identNil", fn := fun _ => fun
  | [d] => { results := [.lit (.bool true)], args := [d] }
  | _ => none }
def identNilRow : OpenClaim := { program := "ytefncefmolphfaadoor", sum := "3811728be98ba26494b76da3519f4994db154768da3a5c1ebf45b496f9ee1756", func := "zeitnot/zeitnotlaw03.IdentNil", spec := "identNil", unfollowed := true, recurses := true, named := ["math/bits.deBruijn64tab"], apart := false, laid := [("math/bits.deBruijn64tab", laid_math_bits_deBruijn64tab)] }
def IdentNilSaid : Prop := identNilRow.holds Tryd.pinned (OpenSpec.ofChange identNilSpec)

/-- ITS FALSE NEIGHBOUR: 'it returns false'. Refute it at one input. -/
def identNilWrong : ChangeSpec := { name := "identNil", fn := fun _ => fun
  | [d] => { results := [.lit (.bool false)], args := [d] }
  | _ => none }
def IdentNilWrongFalsely : Prop := identNilRow.holds Tryd.pinned (OpenSpec.ofChange identNilWrong)

/-- 'zeitnotlaw03.IdentHolds': WHATEVER THE INPUT: true; the input reads as it did. -/
def identHoldsSpec : ChangeSpec := { name := "identHolds", fn := fun _ => fun
  | [d1, d2] => { results := [.lit (.bool true)], args := [d1, d2] }
  | _ => none }
def identHoldsRow : OpenClaim := { program := "ytefncefmolphfaadoor", sum := "3811728be98ba26494b76da3519f4994db154768da3a5c1ebf45b496f9ee1756", func := "zeitnot/zeitnotlaw03.IdentHolds", spec := "identHolds", unfollowed := true, recurses := true, named := ["math/bits.deBruijn64tab"], apart := false, laid := [("math/bits.deBruijn64tab", laid_math_bits_deBruijn64tab)] }
def IdentHoldsSaid : Prop := identHoldsRow.holds Tryd.pinned (OpenSpec.ofChange identHoldsSpec)

/-- ITS FALSE NEIGHBOUR: 'it returns false'. Refute it at one input. -/
def identHoldsWrong : ChangeSpec := { name := "identHolds", fn := fun _ => fun
  | [d1, d2] => { results := [.lit (.bool false)], args := [d1, d2] }
  | _ => none }
def IdentHoldsWrongFalsely : Prop := identHoldsRow.holds Tryd.pinned (OpenSpec.ofChange identHoldsWrong)

/- THE SECOND FORM. 'bulk': how many values and letters a reading holds, each counted each time it is reached (what is shared counts as often as it is met; a slice's spare places count too). A statement '..UptoSaid' is the law's where the arguments, and the package variables that the reading takes, are together of bulk at most 1048576: NARROWER than '..Said'. Prove '..Said' where nothing that the law and all that it calls make is longer than what came in: it says more and counts as full. Else prove '..UptoSaid'. A law counts once. -/
mutual
def uptoBulk {H : Type} : DataW H → Nat
  | .lit (.string bytes) => bytes.length + 1
  | .lit _ => 1
  | .nil => 1
  | .ptr d => uptoBulk d + 1
  | .slice elems spare => uptoBulkAll elems + uptoBulkAll spare + 1
  | .agg parts => uptoBulkAll parts + 1
  | .iface _ d => uptoBulk d + 1
  | .map entries => uptoBulkEntries entries + 1
  | .held _ => 1
def uptoBulkAll {H : Type} : List (DataW H) → Nat
  | [] => 0
  | d :: r => uptoBulk d + uptoBulkAll r
def uptoBulkEntries {H : Type} : List (Lit × DataW H) → Nat
  | [] => 0
  | x :: r => uptoBulkEntry x + uptoBulkEntries r
def uptoBulkEntry {H : Type} : Lit × DataW H → Nat
  | (.string bytes, d) => bytes.length + uptoBulk d + 1
  | (_, d) => uptoBulk d + 1
 end
def uptoSmall : (H : Type) → List (DataW H) → Bool := fun _ ds => decide (uptoBulkAll ds ≤ 1048576)
def OpenSpec.upto (s : _root_.Go.ChangeSpec) : _root_.Go.OpenSpec := { _root_.Go.OpenSpec.ofChange s with cond := some uptoSmall }

/-- 'zeitnotlaw03.IdentPlays', WHERE WHAT IT READS IS OF BULK AT MOST 1048576: true; the input reads as it did. -/
def identPlaysUptoRow : OpenClaim := { program := "ytefncefmolphfaadoor", sum := "3811728be98ba26494b76da3519f4994db154768da3a5c1ebf45b496f9ee1756", func := "zeitnot/zeitnotlaw03.IdentPlays", spec := "identPlays", unfollowed := true, recurses := true, named := ["math/bits.deBruijn64tab"], apart := false, laid := [("math/bits.deBruijn64tab", laid_math_bits_deBruijn64tab)], narrowed := true }
def IdentPlaysUptoSaid : Prop := identPlaysUptoRow.holds Tryd.pinned (OpenSpec.upto identPlaysSpec)

/-- 'zeitnotlaw03.IdentFills', WHERE WHAT IT READS IS OF BULK AT MOST 1048576: true; the input reads as it did. -/
def identFillsUptoRow : OpenClaim := { program := "ytefncefmolphfaadoor", sum := "3811728be98ba26494b76da3519f4994db154768da3a5c1ebf45b496f9ee1756", func := "zeitnot/zeitnotlaw03.IdentFills", spec := "identFills", unfollowed := true, recurses := true, named := ["math/bits.deBruijn64tab"], apart := false, laid := [("math/bits.deBruijn64tab", laid_math_bits_deBruijn64tab)], narrowed := true }
def IdentFillsUptoSaid : Prop := identFillsUptoRow.holds Tryd.pinned (OpenSpec.upto identFillsSpec)

/-- 'zeitnotlaw03.IdentIterates', WHERE WHAT IT READS IS OF BULK AT MOST 1048576: true; the input reads as it did. -/
def identIteratesUptoRow : OpenClaim := { program := "ytefncefmolphfaadoor", sum := "3811728be98ba26494b76da3519f4994db154768da3a5c1ebf45b496f9ee1756", func := "zeitnot/zeitnotlaw03.IdentIterates", spec := "identIterates", unfollowed := true, recurses := true, named := ["math/bits.deBruijn64tab"], apart := false, laid := [("math/bits.deBruijn64tab", laid_math_bits_deBruijn64tab)], narrowed := true }
def IdentIteratesUptoSaid : Prop := identIteratesUptoRow.holds Tryd.pinned (OpenSpec.upto identIteratesSpec)

/-- 'zeitnotlaw03.IdentNil', WHERE WHAT IT READS IS OF BULK AT MOST 1048576: true; the input reads as it did. -/
def identNilUptoRow : OpenClaim := { program := "ytefncefmolphfaadoor", sum := "3811728be98ba26494b76da3519f4994db154768da3a5c1ebf45b496f9ee1756", func := "zeitnot/zeitnotlaw03.IdentNil", spec := "identNil", unfollowed := true, recurses := true, named := ["math/bits.deBruijn64tab"], apart := false, laid := [("math/bits.deBruijn64tab", laid_math_bits_deBruijn64tab)], narrowed := true }
def IdentNilUptoSaid : Prop := identNilUptoRow.holds Tryd.pinned (OpenSpec.upto identNilSpec)

/-- 'zeitnotlaw03.IdentHolds', WHERE WHAT IT READS IS OF BULK AT MOST 1048576: true; the input reads as it did. -/
def identHoldsUptoRow : OpenClaim := { program := "ytefncefmolphfaadoor", sum := "3811728be98ba26494b76da3519f4994db154768da3a5c1ebf45b496f9ee1756", func := "zeitnot/zeitnotlaw03.IdentHolds", spec := "identHolds", unfollowed := true, recurses := true, named := ["math/bits.deBruijn64tab"], apart := false, laid := [("math/bits.deBruijn64tab", laid_math_bits_deBruijn64tab)], narrowed := true }
def IdentHoldsUptoSaid : Prop := identHoldsUptoRow.holds Tryd.pinned (OpenSpec.upto identHoldsSpec)

end Rows
end Go.Proofs.YtefncefmolphfaaDoor
