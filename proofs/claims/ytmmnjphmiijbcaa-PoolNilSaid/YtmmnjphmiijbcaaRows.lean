/-
  No cell of these rows narrows 'for every input' (looked for: loops, veiled, ifaces, maps, wideKeys, modest, calm, conditions, laid).
  DERIVED. THE GIVEN ROWS OF THIS SEAT. 6 by the template 'for every input the law returns true; each argument reads behind the call as it read before'; 0 by the template 'total and deterministic' (their statements: YtmmnjphmiijbcaaTotals.lean).
  GIVEN WITH THE SEED: the statements are not yours to turn. If you find one false, say at which input.
  Laid BY PROGRAM, IN A SANDBOX (cutbox-rows.mjs): the forced cells as the released guide's own fill.sh prints them over the translation b6a80c8b407f1943… (all of the seat's roots in one cut). By AI agents, Wed Nov 11 2026. No macro, syntax, notation, axiom, sorry.
-/
import Derived.Test.YtmmnjphmiijbcaaChecked
import GoSem.Claim
import GoSem.ClaimJoined
import GoSem.ClaimMapViews
import Derived.JoinedTies
import Derived.KernelRfl
namespace Go.Proofs.Ytmmnjphmiijbcaa
/- THE CELL 'sum', in the pinned program and in every row, IS THE sha256 OF THE DUMP (.gsa) THAT YtmmnjphmiijbcaaProg.lean LOADS. Nothing in Lean hashes anything: it is a label: what it is worth is what the hold of that sum in a sandbox is worth. -/
noncomputable def Try.pinned : Pinned := { name := "ytmmnjphmiijbcaa", sum := "b6a80c8b407f19436905a776c8f47a6ac671320faf9f59c2e29728415f3a387a", checked := Try.checked }
namespace Rows
def none {H : Type} : Left H := { results := [], args := [] }

/-- 'zeitnotlaw08.PoolNews': WHATEVER THE INPUT: true; the input reads as it did. -/
def poolNewsSpec : ChangeSpec := { name := "poolNews", fn := fun _ => fun
  | [d1, d2] => { results := [.lit (.bool true)], args := [d1, d2] }
  | _ => none }
def poolNewsRow : OpenClaim := { program := "ytmmnjphmiijbcaa", sum := "b6a80c8b407f19436905a776c8f47a6ac671320faf9f59c2e29728415f3a387a", func := "zeitnot/zeitnotlaw08.PoolNews", spec := "poolNews", unfollowed := true, recurses := true, apart := false }
def PoolNewsSaid : Prop := poolNewsRow.holds Try.pinned (OpenSpec.ofChange poolNewsSpec)

/-- ITS FALSE NEIGHBOUR: 'it returns false'. Refute it at one input. -/
def poolNewsWrong : ChangeSpec := { name := "poolNews", fn := fun _ => fun
  | [d1, d2] => { results := [.lit (.bool false)], args := [d1, d2] }
  | _ => none }
def PoolNewsWrongFalsely : Prop := poolNewsRow.holds Try.pinned (OpenSpec.ofChange poolNewsWrong)

/-- 'zeitnotlaw08.PoolSelects': WHATEVER THE INPUT: true; the input reads as it did. -/
def poolSelectsSpec : ChangeSpec := { name := "poolSelects", fn := fun _ => fun
  | [d1, d2, d3] => { results := [.lit (.bool true)], args := [d1, d2, d3] }
  | _ => none }
def poolSelectsRow : OpenClaim := { program := "ytmmnjphmiijbcaa", sum := "b6a80c8b407f19436905a776c8f47a6ac671320faf9f59c2e29728415f3a387a", func := "zeitnot/zeitnotlaw08.PoolSelects", spec := "poolSelects", unfollowed := true, recurses := true, apart := false }
def PoolSelectsSaid : Prop := poolSelectsRow.holds Try.pinned (OpenSpec.ofChange poolSelectsSpec)

/-- ITS FALSE NEIGHBOUR: 'it returns false'. Refute it at one input. -/
def poolSelectsWrong : ChangeSpec := { name := "poolSelects", fn := fun _ => fun
  | [d1, d2, d3] => { results := [.lit (.bool false)], args := [d1, d2, d3] }
  | _ => none }
def PoolSelectsWrongFalsely : Prop := poolSelectsRow.holds Try.pinned (OpenSpec.ofChange poolSelectsWrong)

/-- 'zeitnotlaw08.PoolDecodes': WHATEVER THE INPUT: true; the input reads as it did. -/
def poolDecodesSpec : ChangeSpec := { name := "poolDecodes", fn := fun _ => fun
  | [d1, d2] => { results := [.lit (.bool true)], args := [d1, d2] }
  | _ => none }
def poolDecodesRow : OpenClaim := { program := "ytmmnjphmiijbcaa", sum := "b6a80c8b407f19436905a776c8f47a6ac671320faf9f59c2e29728415f3a387a", func := "zeitnot/zeitnotlaw08.PoolDecodes", spec := "poolDecodes", unfollowed := true, recurses := true, apart := false }
def PoolDecodesSaid : Prop := poolDecodesRow.holds Try.pinned (OpenSpec.ofChange poolDecodesSpec)

/-- ITS FALSE NEIGHBOUR: 'it returns false'. Refute it at one input. -/
def poolDecodesWrong : ChangeSpec := { name := "poolDecodes", fn := fun _ => fun
  | [d1, d2] => { results := [.lit (.bool false)], args := [d1, d2] }
  | _ => none }
def PoolDecodesWrongFalsely : Prop := poolDecodesRow.holds Try.pinned (OpenSpec.ofChange poolDecodesWrong)

/-- 'zeitnotlaw08.PoolMany': WHATEVER THE INPUT: true; the input reads as it did. -/
def poolManySpec : ChangeSpec := { name := "poolMany", fn := fun _ => fun
  | [d1, d2] => { results := [.lit (.bool true)], args := [d1, d2] }
  | _ => none }
def poolManyRow : OpenClaim := { program := "ytmmnjphmiijbcaa", sum := "b6a80c8b407f19436905a776c8f47a6ac671320faf9f59c2e29728415f3a387a", func := "zeitnot/zeitnotlaw08.PoolMany", spec := "poolMany", unfollowed := true, recurses := true, apart := false }
def PoolManySaid : Prop := poolManyRow.holds Try.pinned (OpenSpec.ofChange poolManySpec)

/-- ITS FALSE NEIGHBOUR: 'it returns false'. Refute it at one input. -/
def poolManyWrong : ChangeSpec := { name := "poolMany", fn := fun _ => fun
  | [d1, d2] => { results := [.lit (.bool false)], args := [d1, d2] }
  | _ => none }
def PoolManyWrongFalsely : Prop := poolManyRow.holds Try.pinned (OpenSpec.ofChange poolManyWrong)

/-- 'zeitnotlaw08.PoolNil': WHATEVER THE INPUT: true; the input reads as it did. -/
def poolNilSpec : ChangeSpec := { name := "poolNil", fn := fun _ => fun
  | [d1, d2, d3] => { results := [.lit (.bool true)], args := [d1, d2, d3] }
  | _ => none }
def poolNilRow : OpenClaim := { program := "ytmmnjphmiijbcaa", sum := "b6a80c8b407f19436905a776c8f47a6ac671320faf9f59c2e29728415f3a387a", func := "zeitnot/zeitnotlaw08.PoolNil", spec := "poolNil", unfollowed := true, recurses := true, apart := false }
def PoolNilSaid : Prop := poolNilRow.holds Try.pinned (OpenSpec.ofChange poolNilSpec)

/-- ITS FALSE NEIGHBOUR: 'it returns false'. Refute it at one input. -/
def poolNilWrong : ChangeSpec := { name := "poolNil", fn := fun _ => fun
  | [d1, d2, d3] => { results := [.lit (.bool false)], args := [d1, d2, d3] }
  | _ => none }
def PoolNilWrongFalsely : Prop := poolNilRow.holds Try.pinned (OpenSpec.ofChange poolNilWrong)

/-- 'zeitnotlaw08.PoolHolds': WHATEVER THE INPUT: true; the input reads as it did. -/
def poolHoldsSpec : ChangeSpec := { name := "poolHolds", fn := fun _ => fun
  | [d1, d2, d3, d4] => { results := [.lit (.bool true)], args := [d1, d2, d3, d4] }
  | _ => none }
def poolHoldsRow : OpenClaim := { program := "ytmmnjphmiijbcaa", sum := "b6a80c8b407f19436905a776c8f47a6ac671320faf9f59c2e29728415f3a387a", func := "zeitnot/zeitnotlaw08.PoolHolds", spec := "poolHolds", unfollowed := true, recurses := true, apart := false }
def PoolHoldsSaid : Prop := poolHoldsRow.holds Try.pinned (OpenSpec.ofChange poolHoldsSpec)

/-- ITS FALSE NEIGHBOUR: 'it returns false'. Refute it at one input. -/
def poolHoldsWrong : ChangeSpec := { name := "poolHolds", fn := fun _ => fun
  | [d1, d2, d3, d4] => { results := [.lit (.bool false)], args := [d1, d2, d3, d4] }
  | _ => none }
def PoolHoldsWrongFalsely : Prop := poolHoldsRow.holds Try.pinned (OpenSpec.ofChange poolHoldsWrong)

/- THE SECOND FORM. 'bulk': how many values and letters a reading holds, each counted each time it is reached (what is shared counts as often as it is met; a slice's spare places count too). A statement '..UptoSaid' is the law's where the arguments, and the package variables that the reading takes, are together of bulk at most 1048576: NARROWER than '..Said'. Prove '..Said' where nothing that the law and all that it calls make is longer than what came in: it says more and counts as full. Else prove '..UptoSaid'. A law counts once. -/
mutual
def uptoBulk {H : Type} : DataW H → Nat
  | .lit (.string bytes) => bytes.length + 1
  | .lit _ => 1
  | .nil => 1
  | .ptr d => uptoBulk d + 1
  | .slice elems spare => uptoBulkAll elems + uptoBulkAll spare + 1
  | .agg parts => uptoBulkAll parts + 1
  | .iface _ d => uptoBulk d + 1
  | .map entries => uptoBulkEntries entries + 1
  | .held _ => 1
def uptoBulkAll {H : Type} : List (DataW H) → Nat
  | [] => 0
  | d :: r => uptoBulk d + uptoBulkAll r
def uptoBulkEntries {H : Type} : List (Lit × DataW H) → Nat
  | [] => 0
  | x :: r => uptoBulkEntry x + uptoBulkEntries r
def uptoBulkEntry {H : Type} : Lit × DataW H → Nat
  | (.string bytes, d) => bytes.length + uptoBulk d + 1
  | (_, d) => uptoBulk d + 1
 end
def uptoSmall : (H : Type) → List (DataW H) → Bool := fun _ ds => decide (uptoBulkAll ds ≤ 1048576)
def OpenSpec.upto (s : _root_.Go.ChangeSpec) : _root_.Go.OpenSpec := { _root_.Go.OpenSpec.ofChange s with cond := some uptoSmall }

/-- 'zeitnotlaw08.PoolNews', WHERE WHAT IT READS IS OF BULK AT MOST 1048576: true; the input reads as it did. -/
def poolNewsUptoRow : OpenClaim := { program := "ytmmnjphmiijbcaa", sum := "b6a80c8b407f19436905a776c8f47a6ac671320faf9f59c2e29728415f3a387a", func := "zeitnot/zeitnotlaw08.PoolNews", spec := "poolNews", unfollowed := true, recurses := true, apart := false, narrowed := true }
def PoolNewsUptoSaid : Prop := poolNewsUptoRow.holds Try.pinned (OpenSpec.upto poolNewsSpec)

/-- 'zeitnotlaw08.PoolSelects', WHERE WHAT IT READS IS OF BULK AT MOST 1048576: true; the input reads as it did. -/
def poolSelectsUptoRow : OpenClaim := { program := "ytmmnjphmiijbcaa", sum := "b6a80c8b407f19436905a776c8f47a6ac671320faf9f59c2e29728415f3a387a", func := "zeitnot/zeitnotlaw08.PoolSelects", spec := "poolSelects", unfollowed := true, recurses := true, apart := false, narrowed := true }
def PoolSelectsUptoSaid : Prop := poolSelectsUptoRow.holds Try.pinned (OpenSpec.upto poolSelectsSpec)

/-- 'zeitnotlaw08.PoolDecodes', WHERE WHAT IT READS IS OF BULK AT MOST 1048576: true; the input reads as it did. -/
def poolDecodesUptoRow : OpenClaim := { program := "ytmmnjphmiijbcaa", sum := "b6a80c8b407f19436905a776c8f47a6ac671320faf9f59c2e29728415f3a387a", func := "zeitnot/zeitnotlaw08.PoolDecodes", spec := "poolDecodes", unfollowed := true, recurses := true, apart := false, narrowed := true }
def PoolDecodesUptoSaid : Prop := poolDecodesUptoRow.holds Try.pinned (OpenSpec.upto poolDecodesSpec)

/-- 'zeitnotlaw08.PoolMany', WHERE WHAT IT READS IS OF BULK AT MOST 1048576: true; the input reads as it did. -/
def poolManyUptoRow : OpenClaim := { program := "ytmmnjphmiijbcaa", sum := "b6a80c8b407f19436905a776c8f47a6ac671320faf9f59c2e29728415f3a387a", func := "zeitnot/zeitnotlaw08.PoolMany", spec := "poolMany", unfollowed := true, recurses := true, apart := false, narrowed := true }
def PoolManyUptoSaid : Prop := poolManyUptoRow.holds Try.pinned (OpenSpec.upto poolManySpec)

/-- 'zeitnotlaw08.PoolNil', WHERE WHAT IT READS IS OF BULK AT MOST 1048576: true; the input reads as it did. -/
def poolNilUptoRow : OpenClaim := { program := "ytmmnjphmiijbcaa", sum := "b6a80c8b407f19436905a776c8f47a6ac671320faf9f59c2e29728415f3a387a", func := "zeitnot/zeitnotlaw08.PoolNil", spec := "poolNil", unfollowed := true, recurses := true, apart := false, narrowed := true }
def PoolNilUptoSaid : Prop := poolNilUptoRow.holds Try.pinned (OpenSpec.upto poolNilSpec)

/-- 'zeitnotlaw08.PoolHolds', WHERE WHAT IT READS IS OF BULK AT MOST 1048576: true; the input reads as it did. -/
def poolHoldsUptoRow : OpenClaim := { program := "ytmmnjphmiijbcaa", sum := "b6a80c8b407f19436905a776c8f47a6ac671320faf9f59c2e29728415f3a387a", func := "zeitnot/zeitnotlaw08.PoolHolds", spec := "poolHolds", unfollowed := true, recurses := true, apart := false, narrowed := true }
def PoolHoldsUptoSaid : Prop := poolHoldsUptoRow.holds Try.pinned (OpenSpec.upto poolHoldsSpec)

end Rows
end Go.Proofs.Ytmmnjphmiijbcaa
