/- Decode, by the reference: the head, and too few bytes. -/
import Derived.Test.YtlhnnjllbcglcaaGreatDoorCaZW
import Derived.Test.YtlhnnjllbcglcaaGreatDoorCaZK
import Derived.BigRegion
import Derived.Deep.RegionHeld3
import Derived.Deep.AppendLies
namespace Go.Proofs.YtlhnnjllbcglcaaGreatDoor.caFn
open Go.ChangeShapes Go.WideShapes Go.ChangeAt Go.RowKit drMem efFn
set_option linter.unusedVariables false

theorem store14 {W : World} {B : Nat} {q0 q1 q2 q3 q4 q5 q6 q7 q8 q9 q10 q11 q12 q13 : Value} (v0 v1 v2 v3 v4 v5 v6 v7 v8 v9 v10 v11 v12 v13 : Value) (h : has W B 32 [q0, q1, q2, q3, q4, q5, q6, q7, q8, q9, q10, q11, q12, q13]) : ∃ F, ((((((((((((((W.setCell ⟨B, 0, none⟩ (v0)).setCell ⟨B, 1, none⟩ (v1)).setCell ⟨B, 2, none⟩ (v2)).setCell ⟨B, 3, none⟩ (v3)).setCell ⟨B, 4, none⟩ (v4)).setCell ⟨B, 5, none⟩ (v5)).setCell ⟨B, 6, none⟩ (v6)).setCell ⟨B, 7, none⟩ (v7)).setCell ⟨B, 8, none⟩ (v8)).setCell ⟨B, 9, none⟩ (v9)).setCell ⟨B, 10, none⟩ (v10)).setCell ⟨B, 11, none⟩ (v11)).setCell ⟨B, 12, none⟩ (v12)).setCell ⟨B, 13, none⟩ (v13)) = F ∧ has F B 32 [v0, v1, v2, v3, v4, v5, v6, v7, v8, v9, v10, v11, v12, v13] ∧ W.grownBy F (some B) :=
  ⟨_, rfl, ((((((((((((((h.put 0 (v0)).put 1 (v1)).put 2 (v2)).put 3 (v3)).put 4 (v4)).put 5 (v5)).put 6 (v6)).put 7 (v7)).put 8 (v8)).put 9 (v9)).put 10 (v10)).put 11 (v11)).put 12 (v12)).put 13 (v13)), (grown_trans (grown_trans (grown_trans (grown_trans (grown_trans (grown_trans (grown_trans (grown_trans (grown_trans (grown_trans (grown_trans (grown_trans (grown_trans (grown_trans (grown_refl W (some B)) (grown_set _ ⟨B, 0, none⟩ (v0))) (grown_set _ ⟨B, 1, none⟩ (v1))) (grown_set _ ⟨B, 2, none⟩ (v2))) (grown_set _ ⟨B, 3, none⟩ (v3))) (grown_set _ ⟨B, 4, none⟩ (v4))) (grown_set _ ⟨B, 5, none⟩ (v5))) (grown_set _ ⟨B, 6, none⟩ (v6))) (grown_set _ ⟨B, 7, none⟩ (v7))) (grown_set _ ⟨B, 8, none⟩ (v8))) (grown_set _ ⟨B, 9, none⟩ (v9))) (grown_set _ ⟨B, 10, none⟩ (v10))) (grown_set _ ⟨B, 11, none⟩ (v11))) (grown_set _ ⟨B, 12, none⟩ (v12))) (grown_set _ ⟨B, 13, none⟩ (v13)))⟩
def good1 (l : List UInt8) (n : Nat) : Prop := (byAt l 2).toNat ≤ 32 ∧ 3 + (byAt l 2).toNat + 9 ≤ n
def good2 (l : List UInt8) (n : Nat) : Prop := (decR (l.drop (3 + (byAt l 2).toNat + 9))).2.2 = 0 ∧ 3 + (byAt l 2).toNat + 9 + (decR (l.drop (3 + (byAt l 2).toNat + 9))).2.1 < n ∧ byAt l (3 + (byAt l 2).toNat + 9 + (decR (l.drop (3 + (byAt l 2).toNat + 9))).2.1) ≤ 2
def rdPost (l : List UInt8) (w : World) (v : Ending) (W : World) : Prop :=
  ∃ q m e es en ec ts tn tc, decC l = (q, m, e) ∧ v = .returned (.tuple #[cdV q es en ec ts tn tc, .int .i64 m, .int .i64 e]) ∧ CdAt W es en q.ef ts tn q.tr ∧ Below w.heap.size w W
theorem three {w : World} : has (((w.alloc (.cells #[.string ⟨#[]⟩, .int .i64 0, .int .i64 0, .int .i64 0, .int .i64 0, .int .i64 0, .int .i64 0, .int .i64 0, .int .i64 0, .int .i64 0, .int .i64 0, .slice none 0 0, .slice none 0 0, .int .i64 0] 32)).alloc (.cells #[.string ⟨#[]⟩, .int .i64 0, .int .i64 0, .int .i64 0, .int .i64 0, .int .i64 0, .int .i64 0, .int .i64 0, .int .i64 0, .int .i64 0, .int .i64 0, .slice none 0 0, .slice none 0 0, .int .i64 0] 32)).alloc (.cells #[.string ⟨#[]⟩, .int .i64 0, .int .i64 0, .int .i64 0, .int .i64 0, .int .i64 0, .int .i64 0, .int .i64 0, .int .i64 0, .int .i64 0, .int .i64 0, .slice none 0 0, .slice none 0 0, .int .i64 0] 32)) w.heap.size 32 zeroL ∧ has (((w.alloc (.cells #[.string ⟨#[]⟩, .int .i64 0, .int .i64 0, .int .i64 0, .int .i64 0, .int .i64 0, .int .i64 0, .int .i64 0, .int .i64 0, .int .i64 0, .int .i64 0, .slice none 0 0, .slice none 0 0, .int .i64 0] 32)).alloc (.cells #[.string ⟨#[]⟩, .int .i64 0, .int .i64 0, .int .i64 0, .int .i64 0, .int .i64 0, .int .i64 0, .int .i64 0, .int .i64 0, .int .i64 0, .int .i64 0, .slice none 0 0, .slice none 0 0, .int .i64 0] 32)).alloc (.cells #[.string ⟨#[]⟩, .int .i64 0, .int .i64 0, .int .i64 0, .int .i64 0, .int .i64 0, .int .i64 0, .int .i64 0, .int .i64 0, .int .i64 0, .int .i64 0, .slice none 0 0, .slice none 0 0, .int .i64 0] 32)) (w.heap.size + 1) 32 zeroL ∧ has (((w.alloc (.cells #[.string ⟨#[]⟩, .int .i64 0, .int .i64 0, .int .i64 0, .int .i64 0, .int .i64 0, .int .i64 0, .int .i64 0, .int .i64 0, .int .i64 0, .int .i64 0, .slice none 0 0, .slice none 0 0, .int .i64 0] 32)).alloc (.cells #[.string ⟨#[]⟩, .int .i64 0, .int .i64 0, .int .i64 0, .int .i64 0, .int .i64 0, .int .i64 0, .int .i64 0, .int .i64 0, .int .i64 0, .int .i64 0, .slice none 0 0, .slice none 0 0, .int .i64 0] 32)).alloc (.cells #[.string ⟨#[]⟩, .int .i64 0, .int .i64 0, .int .i64 0, .int .i64 0, .int .i64 0, .int .i64 0, .int .i64 0, .int .i64 0, .int .i64 0, .int .i64 0, .slice none 0 0, .slice none 0 0, .int .i64 0] 32)) (w.heap.size + 2) 32 zeroL ∧ Below w.heap.size w (((w.alloc (.cells #[.string ⟨#[]⟩, .int .i64 0, .int .i64 0, .int .i64 0, .int .i64 0, .int .i64 0, .int .i64 0, .int .i64 0, .int .i64 0, .int .i64 0, .int .i64 0, .slice none 0 0, .slice none 0 0, .int .i64 0] 32)).alloc (.cells #[.string ⟨#[]⟩, .int .i64 0, .int .i64 0, .int .i64 0, .int .i64 0, .int .i64 0, .int .i64 0, .int .i64 0, .int .i64 0, .int .i64 0, .int .i64 0, .slice none 0 0, .slice none 0 0, .int .i64 0] 32)).alloc (.cells #[.string ⟨#[]⟩, .int .i64 0, .int .i64 0, .int .i64 0, .int .i64 0, .int .i64 0, .int .i64 0, .int .i64 0, .int .i64 0, .int .i64 0, .int .i64 0, .slice none 0 0, .slice none 0 0, .int .i64 0] 32)) :=
  ⟨((new0 w 32 zeroL).alloc _).alloc _, (new1 (by simp) 32 zeroL).alloc _, new1 (by simp) 32 zeroL, (((Below.refl _ w).alloc (Nat.le_refl _) _).alloc (by simp) _).alloc (by simp; omega) _⟩
set_option maxRecDepth 100000 in
set_option maxHeartbeats 4000000 in
theorem rdec_few (sp : Option Addr) (n cap : Nat) (l : List UInt8) (w : World) (h : BsAt w sp n l) (h3 : n < 3) : Calls Tryz.prog 12 #[.slice sp n cap] w (rdPost l w) := by
  obtain ⟨HR0, HN0, HC0, HB0⟩ := three (w := w)
  have hn := h.n
  have h3i : (n : Int) < 3 := by omega
  have HF := Lib.hid (show decC l = (zeroCd, 0, 4) from decC_er (cdR_few (by omega)) (by decide))
  clear h h3 hn
  go_enter Tryz.func12, Tryz.ntmps12
  go_upto_region 2 with fail
  obtain ⟨w0, hw0⟩ : ∃ W, (((w.alloc (.cells #[.string ⟨#[]⟩, .int .i64 0, .int .i64 0, .int .i64 0, .int .i64 0, .int .i64 0, .int .i64 0, .int .i64 0, .int .i64 0, .int .i64 0, .int .i64 0, .slice none 0 0, .slice none 0 0, .int .i64 0] 32)).alloc (.cells #[.string ⟨#[]⟩, .int .i64 0, .int .i64 0, .int .i64 0, .int .i64 0, .int .i64 0, .int .i64 0, .int .i64 0, .int .i64 0, .int .i64 0, .int .i64 0, .slice none 0 0, .slice none 0 0, .int .i64 0] 32)).alloc (.cells #[.string ⟨#[]⟩, .int .i64 0, .int .i64 0, .int .i64 0, .int .i64 0, .int .i64 0, .int .i64 0, .int .i64 0, .int .i64 0, .int .i64 0, .int .i64 0, .slice none 0 0, .slice none 0 0, .int .i64 0] 32)) = W := ⟨_, rfl⟩
  rw [hw0] at HR0 HN0 HC0 HB0 ⊢
  clear hw0
  obtain ⟨jx0, jx1, jx2, jx3, jx4, jx5, jx6, jx7, jx8, jx9, jx10, jx11, jx12, jx13, jx14⟩ := card14 HR0
  obtain ⟨jy0, jy1, jy2, jy3, jy4, jy5, jy6, jy7, jy8, jy9, jy10, jy11, jy12, jy13, jy14⟩ := card14 HN0
  go_wp2_with fail
  obtain ⟨F, hF, RR, RG⟩ := store14 (.string ⟨#[]⟩) (.int .i64 0) (.int .i64 0) (.int .i64 0) (.int .i64 0) (.int .i64 0) (.int .i64 0) (.int .i64 0) (.int .i64 0) (.int .i64 0) (.int .i64 0) (.slice none 0 0) (.slice none 0 0) (.int .i64 0) (show has w0 w.heap.size 32 zeroL from HR0)
  rw [hF]
  clear hF
  obtain ⟨k0, k1, k2, k3, k4, k5, k6, k7, k8, k9, k10, k11, k12, k13, k14⟩ := card14 RR
  refine bodyPost_ret (v := .tuple #[cV ⟨#[]⟩ 0 0 0 0 0 0 0 0 0 0 none 0 0 none 0 0 0, .int .i64 0, .int .i64 4]) (by simp [results, Tryz.results12, go_sem, k0, k1, k2, k3, k4, k5, k6, k7, k8, k9, k10, k11, k12, k13]) rfl ?_
  exact ⟨zeroCd, 0, 4, none, 0, 0, none, 0, 0, HF.out, rfl, ⟨EfsAt.nil _ _, TrsAt.nil _ _⟩, below_grown HB0 RG HB0.size (Nat.le_refl _)⟩

end Go.Proofs.YtlhnnjllbcglcaaGreatDoor.caFn
