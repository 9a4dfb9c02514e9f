/- Decode, by the reference: part 1 of the ways that it ends. -/
import Derived.Test.YtlhnnjllbcglcaaGreatDoorCaRh
import Derived.BigRegion
import Derived.Deep.RegionHeld3
import Derived.Deep.AppendLies
namespace Go.Proofs.YtlhnnjllbcglcaaGreatDoor.caFn
open Go.ChangeShapes Go.WideShapes Go.ChangeAt Go.RowKit drMem efFn
set_option linter.unusedVariables false

set_option maxRecDepth 100000 in
set_option maxHeartbeats 16000000 in
theorem rdec_p1 (b off n cap : Nat) (l : List UInt8) (w : World) (h : BsAt w (some ⟨b, off, none⟩) n l) (hcap : n ≤ cap) (h3 : 3 ≤ n) (hg1 : ¬ good1 l n) : Calls Tryz.prog 12 #[.slice (some ⟨b, off, none⟩) n cap] w (rdPost l w) := by
  obtain ⟨HR0, HN0, HC0, HB0⟩ := three (w := w)
  have hn := h.n
  have hm := h.m
  have HBS := Lib.hid h
  have HCAP := Lib.hid hcap
  have hbl : b < w.heap.size := by obtain ⟨b', o', e, hl, _⟩ := h.c (by rw [bys_len, hn]; omega); cases e; exact hl
  have HC := Lib.hid (fun (j : Nat) (hj : j < n) (W : World) (hW : Below w.heap.size w W) => (hW.cell (p := ⟨b, off + j, none⟩) hbl).trans (BsAt.at (len := 0) h.c j (by omega)))
  have HLN := Lib.hid hn
  clear h hn
  have h3i : ¬ (n : Int) < 3 := by omega
  have h2i : (2 : Int) < (n : Int) := by omega
  have h2n : 2 < n := by omega
  obtain ⟨N, hN⟩ : ∃ N : Nat, byAt l 2 = N := ⟨(byAt l 2).toNat, by have := (byAt_bd l 2).1; omega⟩
  have hN8 : N < 256 := by have := (byAt_bd l 2).2; omega
  have v2 : IntKind.i64.wrap (N : Int) = N := IntWalk.i64_in _ (by omega)
  have HNN := Lib.hid hN
  have hNt : (byAt l 2).toNat = N := by omega
  unfold good1 at hg1; rw [hNt] at hg1
  have HG1 := Lib.hid hg1
  clear hg1 hNt
  go_enter Tryz.func12, Tryz.ntmps12
  go_upto_region 2 with fail
  obtain ⟨w0, hw0⟩ : ∃ W, (((w.alloc (.cells #[.string ⟨#[]⟩, .int .i64 0, .int .i64 0, .int .i64 0, .int .i64 0, .int .i64 0, .int .i64 0, .int .i64 0, .int .i64 0, .int .i64 0, .int .i64 0, .slice none 0 0, .slice none 0 0, .int .i64 0] 32)).alloc (.cells #[.string ⟨#[]⟩, .int .i64 0, .int .i64 0, .int .i64 0, .int .i64 0, .int .i64 0, .int .i64 0, .int .i64 0, .int .i64 0, .int .i64 0, .int .i64 0, .slice none 0 0, .slice none 0 0, .int .i64 0] 32)).alloc (.cells #[.string ⟨#[]⟩, .int .i64 0, .int .i64 0, .int .i64 0, .int .i64 0, .int .i64 0, .int .i64 0, .int .i64 0, .int .i64 0, .int .i64 0, .int .i64 0, .slice none 0 0, .slice none 0 0, .int .i64 0] 32)) = W := ⟨_, rfl⟩
  rw [hw0] at HR0 HN0 HC0 HB0 ⊢
  clear hw0
  have HR := Lib.hid HR0
  have HNO := Lib.hid HN0
  have HCB := Lib.hid HC0
  have HB := Lib.hid HB0
  clear HR0 HN0 HC0 HB0
  have cb2 := HC.out 2 h2n w0 HB.out
  rw [hN] at cb2
  clear hN
  by_cases h32 : N ≤ 32
  case neg =>
    have h32i : (32 : Int) < (N : Int) := by omega
    have h32n : 32 < N := by omega
    have HF := Lib.hid (show decC l = (zeroCd, 0, 6) from decC_er (cdR_bad (by rw [HLN.out]; exact h3) (by rw [HNN.out]; exact h32i)) (by decide))
    clear h32
    obtain ⟨jx0, jx1, jx2, jx3, jx4, jx5, jx6, jx7, jx8, jx9, jx10, jx11, jx12, jx13, jx14⟩ := card14 HR.out
    obtain ⟨jy0, jy1, jy2, jy3, jy4, jy5, jy6, jy7, jy8, jy9, jy10, jy11, jy12, jy13, jy14⟩ := card14 HNO.out
    go_wp2_with fail
    obtain ⟨F, hF, RR, RG⟩ := store14 (.string ⟨#[]⟩) (.int .i64 0) (.int .i64 0) (.int .i64 0) (.int .i64 0) (.int .i64 0) (.int .i64 0) (.int .i64 0) (.int .i64 0) (.int .i64 0) (.int .i64 0) (.slice none 0 0) (.slice none 0 0) (.int .i64 0) (show has w0 w.heap.size 32 zeroL from HR.out)
    rw [hF]
    clear hF
    obtain ⟨k0, k1, k2, k3, k4, k5, k6, k7, k8, k9, k10, k11, k12, k13, k14⟩ := card14 RR
    refine bodyPost_ret (v := .tuple #[cV ⟨#[]⟩ 0 0 0 0 0 0 0 0 0 0 none 0 0 none 0 0 0, .int .i64 0, .int .i64 6]) (by simp [results, Tryz.results12, go_sem, k0, k1, k2, k3, k4, k5, k6, k7, k8, k9, k10, k11, k12, k13]) rfl ?_
    exact ⟨zeroCd, 0, 6, none, 0, 0, none, 0, 0, HF.out, rfl, ⟨EfsAt.nil _ _, TrsAt.nil _ _⟩, below_grown HB.out RG HB.out.size (Nat.le_refl _)⟩
  have h32i : ¬ (32 : Int) < (N : Int) := by omega
  have a1 : IntKind.i64.wrap (3 + (N : Int)) = ((3 + N : Nat) : Int) := by rw [IntWalk.i64_in _ (by omega)]; omega
  obtain ⟨A, hA⟩ : ∃ A, 3 + N = A := ⟨_, rfl⟩
  have HA := Lib.hid hA
  have hA3 : 3 ≤ A ∧ A ≤ 35 := by omega
  rw [hA] at a1
  have a2 : IntKind.i64.wrap ((A : Int) + 9) = ((A + 9 : Nat) : Int) := by rw [IntWalk.i64_in _ (by omega)]; omega
  obtain ⟨C, hC⟩ : ∃ C, A + 9 = C := ⟨_, rfl⟩
  have HCC := Lib.hid hC
  rw [hC] at a2
  by_cases hs : n < C
  case pos =>
    have hsi : (n : Int) < (C : Int) := by omega
    have HF := Lib.hid (show decC l = (zeroCd, 0, 4) from decC_er (cdR_mid (n := N) (by rw [HLN.out]; exact h3) HNN.out h32 (by rw [HLN.out]; omega)) (by decide))
    clear hA hC hs
    obtain ⟨jx0, jx1, jx2, jx3, jx4, jx5, jx6, jx7, jx8, jx9, jx10, jx11, jx12, jx13, jx14⟩ := card14 HR.out
    obtain ⟨jy0, jy1, jy2, jy3, jy4, jy5, jy6, jy7, jy8, jy9, jy10, jy11, jy12, jy13, jy14⟩ := card14 HNO.out
    go_wp2_with fail
    obtain ⟨F, hF, RR, RG⟩ := store14 (.string ⟨#[]⟩) (.int .i64 0) (.int .i64 0) (.int .i64 0) (.int .i64 0) (.int .i64 0) (.int .i64 0) (.int .i64 0) (.int .i64 0) (.int .i64 0) (.int .i64 0) (.slice none 0 0) (.slice none 0 0) (.int .i64 0) (show has w0 w.heap.size 32 zeroL from HR.out)
    rw [hF]
    clear hF
    obtain ⟨k0, k1, k2, k3, k4, k5, k6, k7, k8, k9, k10, k11, k12, k13, k14⟩ := card14 RR
    refine bodyPost_ret (v := .tuple #[cV ⟨#[]⟩ 0 0 0 0 0 0 0 0 0 0 none 0 0 none 0 0 0, .int .i64 0, .int .i64 4]) (by simp [results, Tryz.results12, go_sem, k0, k1, k2, k3, k4, k5, k6, k7, k8, k9, k10, k11, k12, k13]) rfl ?_
    exact ⟨zeroCd, 0, 4, none, 0, 0, none, 0, 0, HF.out, rfl, ⟨EfsAt.nil _ _, TrsAt.nil _ _⟩, below_grown HB.out RG HB.out.size (Nat.le_refl _)⟩
  exact absurd ⟨h32, by omega⟩ HG1.out

end Go.Proofs.YtlhnnjllbcglcaaGreatDoor.caFn
