/- PoolNil: nil and zero pools, whatever the arguments; then the chapter's examples. -/
import Derived.Test.YtmmnjphmiijbcaaPoKnown
namespace Go.Proofs.Ytmmnjphmiijbcaa.sx
open Go.RowKit (Below)
set_option linter.unusedVariables false
abbrev nilArgs (i k : Int) (name : ByteArray) : List Value := [.int .i64 i, .string name, .int .i64 k]
theorem nil_law (i k : Int) (name : ByteArray) (w : World) : Calls Try.prog 7 #[.int .i64 i, .string name, .int .i64 k] w (Yes w) := by
  have hR := rel0 sg0 (n := 1) (nt := Try.f7.ntmps) (args := nilArgs i k name) (by intro v hv; simp at hv; rcases hv with rfl | rfl | rfl <;> rfl) (Nat.le_of_ble_eq_true (by kernel_rfl))
  have hnp := yes_panic Try.prog Try.f7 w
  refine calls_of_wp Try.func7 rfl ?_
  refine wp_seq ?_
  refine code_nrm fitTry (fuel := 50) (T := setAll .lf 0 (nilArgs i k name)) (H := .lf) (n := 1) (by kernel_rfl) (by kernel_rfl) (fun c a w' h => hnp c a w' h) hR (inv0 w) ?_
  intro a1 w1 s1 hR1 hI1 hS1
  refine wp_seq ?_
  refine wp_seq ?_
  refine code_nrm fitTry (fuel := 50) (by kernel_rfl) (by kernel_rfl) (fun c a w' h => hnp c a w' h) hR1 hI1 ?_
  intro a2 w2 s2 hR2 hI2 hS2
  have hev : a2.eval (.tmp 14) = .bool (decide ((name.size : Int) > 100)) := by
    rw [hR2.eval hI2 rfl]
    exact congrArg (ren s2) (show ev _ _ = .bool (decide ((name.size : Int) > 100)) by kernel_rfl)
  have hS := hS1.trans hS2
  refine wp_cond_split hev (fun _ => ?_) (fun _ => ?_)
  · exact code_ret fitTry (fuel := 50) (fn := Try.f7) (w0 := w) (by kernel_rfl) (by kernel_rfl) (fun c a w' h => hnp c a w' h) hR2 hI2 hS (fun a' w' h => h)
  · refine wp_skip ?_
    exact code_end fitTry (fuel := 50) (fn := Try.f7) (w0 := w) (by kernel_rfl) (by kernel_rfl) hR2 hI2 hS
end Go.Proofs.Ytmmnjphmiijbcaa.sx
