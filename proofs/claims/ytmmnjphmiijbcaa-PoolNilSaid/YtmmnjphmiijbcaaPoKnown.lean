/- The program that this machine may run; the chapter's examples of pools. -/
import Derived.Test.YtmmnjphmiijbcaaSxR
import Derived.Test.YtmmnjphmiijbcaaProg
import Derived.KernelRfl
namespace Go.Proofs.Ytmmnjphmiijbcaa.sx
open Go.RowKit (Below)
theorem fitTry : Fit Try.prog := fit_of (by kernel_rfl) (by kernel_rfl) (by kernel_rfl)
theorem known_any (w : World) : Calls Try.prog 10 #[] w fun e w' => e = .returned (.bool true) ∧ Below w.heap.size w w' :=
  says_yes fitTry (fuel := 50) (args := []) rfl (by kernel_rfl) w
end Go.Proofs.Ytmmnjphmiijbcaa.sx
