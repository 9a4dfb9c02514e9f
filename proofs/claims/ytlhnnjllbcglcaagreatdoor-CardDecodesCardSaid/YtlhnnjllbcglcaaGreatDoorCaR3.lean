/- Decode, by the reference: part 3 of the ways that it ends. -/
import Derived.Test.YtlhnnjllbcglcaaGreatDoorCaRh
import Derived.BigRegion
import Derived.Deep.RegionHeld3
import Derived.Deep.AppendLies
namespace Go.Proofs.YtlhnnjllbcglcaaGreatDoor.caFn
open Go.ChangeShapes Go.WideShapes Go.ChangeAt Go.RowKit drMem efFn
set_option linter.unusedVariables false

set_option maxRecDepth 100000 in
set_option maxHeartbeats 16000000 in
theorem rdec_p3 (b off n cap : Nat) (l : List UInt8) (w : World) (h : BsAt w (some ⟨b, off, none⟩) n l) (hcap : n ≤ cap) (h3 : 3 ≤ n) (hg1 : good1 l n) (hg2 : good2 l n) (h4 : (cdR (l, 0)).2.2 ≠ 0) : Calls Tryz.prog 12 #[.slice (some ⟨b, off, none⟩) n cap] w (rdPost l w) := by
  obtain ⟨HR0, HN0, HC0, HB0⟩ := three (w := w)
  have hn := h.n
  have hm := h.m
  have HBS := Lib.hid h
  have HCAP := Lib.hid hcap
  have hbl : b < w.heap.size := by obtain ⟨b', o', e, hl, _⟩ := h.c (by rw [bys_len, hn]; omega); cases e; exact hl
  have HC := Lib.hid (fun (j : Nat) (hj : j < n) (W : World) (hW : Below w.heap.size w W) => (hW.cell (p := ⟨b, off + j, none⟩) hbl).trans (BsAt.at (len := 0) h.c j (by omega)))
  have HLN := Lib.hid hn
  clear h hn
  have h3i : ¬ (n : Int) < 3 := by omega
  have h2i : (2 : Int) < (n : Int) := by omega
  have h2n : 2 < n := by omega
  obtain ⟨N, hN⟩ : ∃ N : Nat, byAt l 2 = N := ⟨(byAt l 2).toNat, by have := (byAt_bd l 2).1; omega⟩
  have hN8 : N < 256 := by have := (byAt_bd l 2).2; omega
  have v2 : IntKind.i64.wrap (N : Int) = N := IntWalk.i64_in _ (by omega)
  have HNN := Lib.hid hN
  have hNt : (byAt l 2).toNat = N := by omega
  unfold good1 at hg1; rw [hNt] at hg1
  unfold good2 at hg2; rw [hNt] at hg2
  have HG1 := Lib.hid hg1
  have HGA := Lib.hid hg2
  have H4 := Lib.hid h4
  clear hg1 hg2 hNt h4
  go_enter Tryz.func12, Tryz.ntmps12
  go_upto_region 2 with fail
  obtain ⟨w0, hw0⟩ : ∃ W, (((w.alloc (.cells #[.string ⟨#[]⟩, .int .i64 0, .int .i64 0, .int .i64 0, .int .i64 0, .int .i64 0, .int .i64 0, .int .i64 0, .int .i64 0, .int .i64 0, .int .i64 0, .slice none 0 0, .slice none 0 0, .int .i64 0] 32)).alloc (.cells #[.string ⟨#[]⟩, .int .i64 0, .int .i64 0, .int .i64 0, .int .i64 0, .int .i64 0, .int .i64 0, .int .i64 0, .int .i64 0, .int .i64 0, .int .i64 0, .slice none 0 0, .slice none 0 0, .int .i64 0] 32)).alloc (.cells #[.string ⟨#[]⟩, .int .i64 0, .int .i64 0, .int .i64 0, .int .i64 0, .int .i64 0, .int .i64 0, .int .i64 0, .int .i64 0, .int .i64 0, .int .i64 0, .slice none 0 0, .slice none 0 0, .int .i64 0] 32)) = W := ⟨_, rfl⟩
  rw [hw0] at HR0 HN0 HC0 HB0 ⊢
  clear hw0
  have HR := Lib.hid HR0
  have HNO := Lib.hid HN0
  have HCB := Lib.hid HC0
  have HB := Lib.hid HB0
  clear HR0 HN0 HC0 HB0
  have cb2 := HC.out 2 h2n w0 HB.out
  rw [hN] at cb2
  clear hN
  by_cases h32 : N ≤ 32
  case neg =>
    have h32i : (32 : Int) < (N : Int) := by omega
    have h32n : 32 < N := by omega
    have HF := Lib.hid (show decC l = (zeroCd, 0, 6) from decC_er (cdR_bad (by rw [HLN.out]; exact h3) (by rw [HNN.out]; exact h32i)) (by decide))
    clear h32
    exact absurd HG1.out.1 (by omega)
  have h32i : ¬ (32 : Int) < (N : Int) := by omega
  have a1 : IntKind.i64.wrap (3 + (N : Int)) = ((3 + N : Nat) : Int) := by rw [IntWalk.i64_in _ (by omega)]; omega
  obtain ⟨A, hA⟩ : ∃ A, 3 + N = A := ⟨_, rfl⟩
  have HA := Lib.hid hA
  have hA3 : 3 ≤ A ∧ A ≤ 35 := by omega
  rw [hA] at a1
  have a2 : IntKind.i64.wrap ((A : Int) + 9) = ((A + 9 : Nat) : Int) := by rw [IntWalk.i64_in _ (by omega)]; omega
  obtain ⟨C, hC⟩ : ∃ C, A + 9 = C := ⟨_, rfl⟩
  have HCC := Lib.hid hC
  rw [hC] at a2
  by_cases hs : n < C
  case pos =>
    have hsi : (n : Int) < (C : Int) := by omega
    have HF := Lib.hid (show decC l = (zeroCd, 0, 4) from decC_er (cdR_mid (n := N) (by rw [HLN.out]; exact h3) HNN.out h32 (by rw [HLN.out]; omega)) (by decide))
    clear hA hC hs
    have := HG1.out.2; have := HA.out; have := HCC.out; omega
  have hsi : ¬ (n : Int) < (C : Int) := by omega
  have HSN := Lib.hid hs
  have HLG := Lib.hid (cdR_long (l := l) (n := N) (by rw [HLN.out]; exact h3) HNN.out h32 (by rw [HLN.out]; omega))
  have hsl : ∀ W, (Instr.slice 38 (.slice (some ⟨b, off, none⟩) n cap) (some (.int .i64 (A : Int))) none none).run Tryz.prog W = .ok (.slice (some ⟨b, off + A, none⟩) (n - A) (cap - A)) W := fun W => by
    have := sl_l (some ⟨b, off, none⟩) n cap A (by omega) W
    have hne : A ≠ cap := by have := HCAP.out; omega
    rw [this]; unfold slA; rw [if_neg hne.symm]; simp [addr_add]
  have hAn : A ≤ n := by omega
  have hnA : 9 ≤ n - A := by omega
  clear hA hC hs
  obtain ⟨nm, hnm⟩ : ∃ q, (l.drop 3).take N = q := ⟨_, rfl⟩
  have hsl3 : ∀ W, (Instr.slice 38 (.slice (some ⟨b, off, none⟩) n cap) (some (.int .i64 3)) (some (.int .i64 (A : Int))) none).run Tryz.prog W = .ok (.slice (some ⟨b, off + 3, none⟩) N (cap - 3)) W := fun W => by
    have hA' := HA.out
    rw [run_slice_lh (P := Tryz.prog) W _ (some ⟨b, off, none⟩) n cap elem8 .i64 .i64 3 A (by omega) (by omega) (by have := HCAP.out; omega), size8]
    have e1 : A - 3 = N := by omega
    have hne : ¬ cap = 3 := by have := HCAP.out; omega
    simp [Result.andThen, sliced, e1, hne, addr_add]
  have hstr : ∀ W, Below w.heap.size w W → (convert 38 9 (.slice (some ⟨b, off + 3, none⟩) N (cap - 3))).run Tryz.prog W = .ok (.string (bs nm)) W := fun W hW => by
    have hA' := HA.out
    have e1 : slA (slA (some ⟨b, off, none⟩) 3 cap) 0 (cap - 3) = some ⟨b, off + 3, none⟩ := by
      unfold slA; rw [if_neg (by have := HCAP.out; omega), if_neg (by have := HCAP.out; omega)]; simp [addr_add]
    have h1 := BsAt.front (BsAt.sub (HBS.out.below hW (Nat.le_refl _)) HCAP.out 3 h3) (show n - 3 ≤ cap - 3 by have := HCAP.out; omega) N (by omega)
    rw [e1, hnm] at h1
    exact h1.str _
  have HLH := Lib.hid (show ∀ (ef : List Ef) (tr : List Tr), hd9 l A nm ef tr = ⟨nm, byAt l 0, byAt l A, byAt l (A + 1), byAt l (A + 2), byAt l (A + 3), byAt l (A + 4), byAt l (A + 5), byAt l (A + 6), byAt l (A + 7), byAt l (A + 8), ef, tr, byAt l 1⟩ from fun _ _ => rfl)
  have hc0 := fun W (hW : Below w.heap.size w W) => HC.out 0 (by omega) W hW
  have hc1 := fun W (hW : Below w.heap.size w W) => HC.out 1 (by omega) W hW
  rw [Nat.add_zero] at hc0
  have hd0 : ∀ W, Below w.heap.size w W → W.cell? ⟨b, off + A, none⟩ = some (.int .u8 (byAt l (A))) := fun W hW => by have := HC.out (A + 0) (by omega) W hW; exact this
  have hd1 : ∀ W, Below w.heap.size w W → W.cell? ⟨b, off + A + 1, none⟩ = some (.int .u8 (byAt l (A + 1))) := fun W hW => by have := HC.out (A + 1) (by omega) W hW; rwa [← Nat.add_assoc] at this
  have hd2 : ∀ W, Below w.heap.size w W → W.cell? ⟨b, off + A + 2, none⟩ = some (.int .u8 (byAt l (A + 2))) := fun W hW => by have := HC.out (A + 2) (by omega) W hW; rwa [← Nat.add_assoc] at this
  have hd3 : ∀ W, Below w.heap.size w W → W.cell? ⟨b, off + A + 3, none⟩ = some (.int .u8 (byAt l (A + 3))) := fun W hW => by have := HC.out (A + 3) (by omega) W hW; rwa [← Nat.add_assoc] at this
  have hd4 : ∀ W, Below w.heap.size w W → W.cell? ⟨b, off + A + 4, none⟩ = some (.int .u8 (byAt l (A + 4))) := fun W hW => by have := HC.out (A + 4) (by omega) W hW; rwa [← Nat.add_assoc] at this
  have hd5 : ∀ W, Below w.heap.size w W → W.cell? ⟨b, off + A + 5, none⟩ = some (.int .u8 (byAt l (A + 5))) := fun W hW => by have := HC.out (A + 5) (by omega) W hW; rwa [← Nat.add_assoc] at this
  have hd6 : ∀ W, Below w.heap.size w W → W.cell? ⟨b, off + A + 6, none⟩ = some (.int .u8 (byAt l (A + 6))) := fun W hW => by have := HC.out (A + 6) (by omega) W hW; rwa [← Nat.add_assoc] at this
  have hd7 : ∀ W, Below w.heap.size w W → W.cell? ⟨b, off + A + 7, none⟩ = some (.int .u8 (byAt l (A + 7))) := fun W hW => by have := HC.out (A + 7) (by omega) W hW; rwa [← Nat.add_assoc] at this
  have hd8 : ∀ W, Below w.heap.size w W → W.cell? ⟨b, off + A + 8, none⟩ = some (.int .u8 (byAt l (A + 8))) := fun W hW => by have := HC.out (A + 8) (by omega) W hW; rwa [← Nat.add_assoc] at this
  obtain ⟨gkd, Gkd⟩ := byAt_bd l 0
  have vkd : IntKind.i64.wrap (byAt l 0) = byAt l 0 := IntWalk.i64_in _ (by omega)
  generalize byAt l 0 = kd at *
  obtain ⟨gra, Gra⟩ := byAt_bd l 1
  have vra : IntKind.i64.wrap (byAt l 1) = byAt l 1 := IntWalk.i64_in _ (by omega)
  generalize byAt l 1 = ra at *
  obtain ⟨gya, Gya⟩ := byAt_bd l A
  have vya : IntKind.i64.wrap (byAt l A) = byAt l A := IntWalk.i64_in _ (by omega)
  generalize byAt l A = ya at *
  obtain ⟨gyb, Gyb⟩ := byAt_bd l (A + 1)
  have vyb : IntKind.i64.wrap (byAt l (A + 1)) = byAt l (A + 1) := IntWalk.i64_in _ (by omega)
  generalize byAt l (A + 1) = yb at *
  obtain ⟨gyc, Gyc⟩ := byAt_bd l (A + 2)
  have vyc : IntKind.i64.wrap (byAt l (A + 2)) = byAt l (A + 2) := IntWalk.i64_in _ (by omega)
  generalize byAt l (A + 2) = yc at *
  obtain ⟨gyd, Gyd⟩ := byAt_bd l (A + 3)
  have vyd : IntKind.i64.wrap (byAt l (A + 3)) = byAt l (A + 3) := IntWalk.i64_in _ (by omega)
  generalize byAt l (A + 3) = yd at *
  obtain ⟨gyx, Gyx⟩ := byAt_bd l (A + 4)
  have vyx : IntKind.i64.wrap (byAt l (A + 4)) = byAt l (A + 4) := IntWalk.i64_in _ (by omega)
  generalize byAt l (A + 4) = yx at *
  obtain ⟨gyml, Gyml⟩ := byAt_bd l (A + 5)
  have vyml : IntKind.i64.wrap (byAt l (A + 5)) = byAt l (A + 5) := IntWalk.i64_in _ (by omega)
  generalize byAt l (A + 5) = yml at *
  obtain ⟨gypw, Gypw⟩ := byAt_bd l (A + 6)
  have vypw : IntKind.i64.wrap (byAt l (A + 6)) = byAt l (A + 6) := IntWalk.i64_in _ (by omega)
  generalize byAt l (A + 6) = ypw at *
  obtain ⟨gytg, Gytg⟩ := byAt_bd l (A + 7)
  have vytg : IntKind.i64.wrap (byAt l (A + 7)) = byAt l (A + 7) := IntWalk.i64_in _ (by omega)
  generalize byAt l (A + 7) = ytg at *
  obtain ⟨gykw, Gykw⟩ := byAt_bd l (A + 8)
  have vykw : IntKind.i64.wrap (byAt l (A + 8)) = byAt l (A + 8) := IntWalk.i64_in _ (by omega)
  generalize byAt l (A + 8) = ykw at *
  have HQ0 := Lib.hid (cdE (e := (decR (l.drop C)).1) (sz := (decR (l.drop C)).2.1) (er := (decR (l.drop C)).2.2) HA.out HCC.out rfl HLG.out)
  rw [hnm] at HQ0
  have hCn : C ≤ n := by have := HSN.out; omega
  have HCn := Lib.hid hCn
  clear HLG hnm
  generalize off + A = oA at *
  generalize n - A = mA at *
  generalize cap - A = cA at *
  have hm0 : 0 < mA := by omega
  have hi0 : (0 : Int) < (mA : Int) := by omega
  have hm1 : 1 < mA := by omega
  have hi1 : (1 : Int) < (mA : Int) := by omega
  have hm2 : 2 < mA := by omega
  have hi2 : (2 : Int) < (mA : Int) := by omega
  have hm3 : 3 < mA := by omega
  have hi3 : (3 : Int) < (mA : Int) := by omega
  have hm4 : 4 < mA := by omega
  have hi4 : (4 : Int) < (mA : Int) := by omega
  have hm5 : 5 < mA := by omega
  have hi5 : (5 : Int) < (mA : Int) := by omega
  have hm6 : 6 < mA := by omega
  have hi6 : (6 : Int) < (mA : Int) := by omega
  have hm7 : 7 < mA := by omega
  have hi7 : (7 : Int) < (mA : Int) := by omega
  have hm8 : 8 < mA := by omega
  have hi8 : (8 : Int) < (mA : Int) := by omega
  have n0 : 0 < n := by omega
  have n1 : 1 < n := by omega
  have i0 : (0 : Int) < (n : Int) := by omega
  have i1 : (1 : Int) < (n : Int) := by omega
  go_upto_region 11 with fail
  have HBd : Hid (Below w.heap.size w w0.drew) := Lib.hid HB.out.drew
  have HCd : Hid (has w0.drew (w.heap.size + 1 + 1) 32 zeroL) := Lib.hid HCB.out
  refine wp_region_held_drew (S := (fun w' => Below w.heap.size w w')) (by kernel_rfl) ?_ (fun hH0 => ?_)
  · first | exact HB.out | exact HBd.out
  have HRd : Hid (has w0.drew w.heap.size 32 zeroL) := Lib.hid HR.out
  have HNd : Hid (has w0.drew (w.heap.size + 1) 32 zeroL) := Lib.hid HNO.out
  generalize w0.drew = wd at *
  refine wpAnyH_take (i := 0) (oi := _) (v := ?_) rfl (by kernel_rfl) (by kernel_rfl) (by kernel_rfl) (fun _ _ _ h => h) (Or.inl ⟨by rfl, ?_⟩) (by assumption) ?_
  rotate_left
  · intro w hSw; (try dsimp only at hSw); first | (go_simp; done) | (go_simp; with_reducible rfl)
  try simp only [go_sem, Act.put, List.getElem_toArray, List.getElem_cons_zero, List.setIfInBounds_toArray, List.set_cons_succ, List.set_cons_zero]
  refine wpAnyH_take (i := 1) (oi := _) (v := ?_) rfl (by kernel_rfl) (by kernel_rfl) (by kernel_rfl) (fun _ _ _ h => h) (Or.inl ⟨by rfl, ?_⟩) (by assumption) ?_
  rotate_left
  · intro w hSw; (try dsimp only at hSw); first | (go_simp; done) | (go_simp; with_reducible rfl)
  try simp only [go_sem, Act.put, List.getElem_toArray, List.getElem_cons_succ, List.getElem_cons_zero, List.setIfInBounds_toArray, List.set_cons_succ, List.set_cons_zero]
  refine wpAnyH_take (i := 2) (oi := _) (v := ?_) rfl (by kernel_rfl) (by kernel_rfl) (by kernel_rfl) (fun _ _ _ h => h) (Or.inl ⟨by rfl, ?_⟩) (by assumption) ?_
  rotate_left
  · intro w hSw; (try dsimp only at hSw); first | (go_simp; done) | (go_simp; with_reducible rfl)
  try simp only [go_sem, Act.put, List.getElem_toArray, List.getElem_cons_succ, List.getElem_cons_zero, List.setIfInBounds_toArray, List.set_cons_succ, List.set_cons_zero]
  refine wpAnyH_take (i := 3) (oi := _) (v := ?_) rfl (by kernel_rfl) (by kernel_rfl) (by kernel_rfl) (fun _ _ _ h => h) (Or.inl ⟨by rfl, ?_⟩) (by assumption) ?_
  rotate_left
  · intro w hSw; (try dsimp only at hSw); have cx := hstr _ hSw; first | (go_simp; done) | (go_simp; with_reducible rfl)
  try simp only [go_sem, Act.put, List.getElem_toArray, List.getElem_cons_succ, List.getElem_cons_zero, List.setIfInBounds_toArray, List.set_cons_succ, List.set_cons_zero]
  refine wpAnyH_take (i := 4) (oi := _) (v := ?_) rfl (by kernel_rfl) (by kernel_rfl) (by kernel_rfl) (fun _ _ _ h => h) (Or.inl ⟨by rfl, ?_⟩) (by assumption) ?_
  rotate_left
  · intro w hSw; (try dsimp only at hSw); first | (go_simp; done) | (go_simp; with_reducible rfl)
  try simp only [go_sem, Act.put, List.getElem_toArray, List.getElem_cons_succ, List.getElem_cons_zero, List.setIfInBounds_toArray, List.set_cons_succ, List.set_cons_zero]
  refine wpAnyH_take (i := 5) (oi := _) (v := ?_) rfl (by kernel_rfl) (by kernel_rfl) (by kernel_rfl) (fun _ _ _ h => h) (Or.inl ⟨by rfl, ?_⟩) (by assumption) ?_
  rotate_left
  · intro w hSw; (try dsimp only at hSw); first | (go_simp; done) | (go_simp; with_reducible rfl)
  try simp only [go_sem, Act.put, List.getElem_toArray, List.getElem_cons_succ, List.getElem_cons_zero, List.setIfInBounds_toArray, List.set_cons_succ, List.set_cons_zero]
  refine wpAnyH_take (i := 6) (oi := _) (v := ?_) rfl (by kernel_rfl) (by kernel_rfl) (by kernel_rfl) (fun _ _ _ h => h) (Or.inl ⟨by rfl, ?_⟩) (by assumption) ?_
  rotate_left
  · intro w hSw; (try dsimp only at hSw); have cx := hc0 _ hSw; first | (go_simp; done) | (go_simp; with_reducible rfl)
  try simp only [go_sem, Act.put, List.getElem_toArray, List.getElem_cons_succ, List.getElem_cons_zero, List.setIfInBounds_toArray, List.set_cons_succ, List.set_cons_zero]
  refine wpAnyH_take (i := 7) (oi := _) (v := ?_) rfl (by kernel_rfl) (by kernel_rfl) (by kernel_rfl) (fun _ _ _ h => h) (Or.inl ⟨by rfl, ?_⟩) (by assumption) ?_
  rotate_left
  · intro w hSw; (try dsimp only at hSw); first | (go_simp; done) | (go_simp; with_reducible rfl)
  try simp only [go_sem, Act.put, List.getElem_toArray, List.getElem_cons_succ, List.getElem_cons_zero, List.setIfInBounds_toArray, List.set_cons_succ, List.set_cons_zero]
  refine wpAnyH_take (i := 8) (oi := _) (v := ?_) rfl (by kernel_rfl) (by kernel_rfl) (by kernel_rfl) (fun _ _ _ h => h) (Or.inl ⟨by rfl, ?_⟩) (by assumption) ?_
  rotate_left
  · intro w hSw; (try dsimp only at hSw); first | (go_simp; done) | (go_simp; with_reducible rfl)
  try simp only [go_sem, Act.put, List.getElem_toArray, List.getElem_cons_succ, List.getElem_cons_zero, List.setIfInBounds_toArray, List.set_cons_succ, List.set_cons_zero]
  refine wpAnyH_take (i := 9) (oi := _) (v := ?_) rfl (by kernel_rfl) (by kernel_rfl) (by kernel_rfl) (fun _ _ _ h => h) (Or.inl ⟨by rfl, ?_⟩) (by assumption) ?_
  rotate_left
  · intro w hSw; (try dsimp only at hSw); first | (go_simp; done) | (go_simp; with_reducible rfl)
  try simp only [go_sem, Act.put, List.getElem_toArray, List.getElem_cons_succ, List.getElem_cons_zero, List.setIfInBounds_toArray, List.set_cons_succ, List.set_cons_zero]
  refine wpAnyH_take (i := 10) (oi := _) (v := ?_) rfl (by kernel_rfl) (by kernel_rfl) (by kernel_rfl) (fun _ _ _ h => h) (Or.inl ⟨by rfl, ?_⟩) (by assumption) ?_
  rotate_left
  · intro w hSw; (try dsimp only at hSw); have cx := hd0 _ hSw; first | (go_simp; done) | (go_simp; with_reducible rfl)
  try simp only [go_sem, Act.put, List.getElem_toArray, List.getElem_cons_succ, List.getElem_cons_zero, List.setIfInBounds_toArray, List.set_cons_succ, List.set_cons_zero]
  refine wpAnyH_take (i := 11) (oi := _) (v := ?_) rfl (by kernel_rfl) (by kernel_rfl) (by kernel_rfl) (fun _ _ _ h => h) (Or.inl ⟨by rfl, ?_⟩) (by assumption) ?_
  rotate_left
  · intro w hSw; (try dsimp only at hSw); first | (go_simp; done) | (go_simp; with_reducible rfl)
  try simp only [go_sem, Act.put, List.getElem_toArray, List.getElem_cons_succ, List.getElem_cons_zero, List.setIfInBounds_toArray, List.set_cons_succ, List.set_cons_zero]
  refine wpAnyH_take (i := 12) (oi := _) (v := ?_) rfl (by kernel_rfl) (by kernel_rfl) (by kernel_rfl) (fun _ _ _ h => h) (Or.inl ⟨by rfl, ?_⟩) (by assumption) ?_
  rotate_left
  · intro w hSw; (try dsimp only at hSw); first | (go_simp; done) | (go_simp; with_reducible rfl)
  try simp only [go_sem, Act.put, List.getElem_toArray, List.getElem_cons_succ, List.getElem_cons_zero, List.setIfInBounds_toArray, List.set_cons_succ, List.set_cons_zero]
  refine wpAnyH_take (i := 13) (oi := _) (v := ?_) rfl (by kernel_rfl) (by kernel_rfl) (by kernel_rfl) (fun _ _ _ h => h) (Or.inl ⟨by rfl, ?_⟩) (by assumption) ?_
  rotate_left
  · intro w hSw; (try dsimp only at hSw); first | (go_simp; done) | (go_simp; with_reducible rfl)
  try simp only [go_sem, Act.put, List.getElem_toArray, List.getElem_cons_succ, List.getElem_cons_zero, List.setIfInBounds_toArray, List.set_cons_succ, List.set_cons_zero]
  refine wpAnyH_take (i := 14) (oi := _) (v := ?_) rfl (by kernel_rfl) (by kernel_rfl) (by kernel_rfl) (fun _ _ _ h => h) (Or.inl ⟨by rfl, ?_⟩) (by assumption) ?_
  rotate_left
  · intro w hSw; (try dsimp only at hSw); have cx := hd1 _ hSw; first | (go_simp; done) | (go_simp; with_reducible rfl)
  try simp only [go_sem, Act.put, List.getElem_toArray, List.getElem_cons_succ, List.getElem_cons_zero, List.setIfInBounds_toArray, List.set_cons_succ, List.set_cons_zero]
  refine wpAnyH_take (i := 15) (oi := _) (v := ?_) rfl (by kernel_rfl) (by kernel_rfl) (by kernel_rfl) (fun _ _ _ h => h) (Or.inl ⟨by rfl, ?_⟩) (by assumption) ?_
  rotate_left
  · intro w hSw; (try dsimp only at hSw); first | (go_simp; done) | (go_simp; with_reducible rfl)
  try simp only [go_sem, Act.put, List.getElem_toArray, List.getElem_cons_succ, List.getElem_cons_zero, List.setIfInBounds_toArray, List.set_cons_succ, List.set_cons_zero]
  refine wpAnyH_take (i := 16) (oi := _) (v := ?_) rfl (by kernel_rfl) (by kernel_rfl) (by kernel_rfl) (fun _ _ _ h => h) (Or.inl ⟨by rfl, ?_⟩) (by assumption) ?_
  rotate_left
  · intro w hSw; (try dsimp only at hSw); first | (go_simp; done) | (go_simp; with_reducible rfl)
  try simp only [go_sem, Act.put, List.getElem_toArray, List.getElem_cons_succ, List.getElem_cons_zero, List.setIfInBounds_toArray, List.set_cons_succ, List.set_cons_zero]
  refine wpAnyH_take (i := 17) (oi := _) (v := ?_) rfl (by kernel_rfl) (by kernel_rfl) (by kernel_rfl) (fun _ _ _ h => h) (Or.inl ⟨by rfl, ?_⟩) (by assumption) ?_
  rotate_left
  · intro w hSw; (try dsimp only at hSw); first | (go_simp; done) | (go_simp; with_reducible rfl)
  try simp only [go_sem, Act.put, List.getElem_toArray, List.getElem_cons_succ, List.getElem_cons_zero, List.setIfInBounds_toArray, List.set_cons_succ, List.set_cons_zero]
  refine wpAnyH_take (i := 18) (oi := _) (v := ?_) rfl (by kernel_rfl) (by kernel_rfl) (by kernel_rfl) (fun _ _ _ h => h) (Or.inl ⟨by rfl, ?_⟩) (by assumption) ?_
  rotate_left
  · intro w hSw; (try dsimp only at hSw); have cx := hd2 _ hSw; first | (go_simp; done) | (go_simp; with_reducible rfl)
  try simp only [go_sem, Act.put, List.getElem_toArray, List.getElem_cons_succ, List.getElem_cons_zero, List.setIfInBounds_toArray, List.set_cons_succ, List.set_cons_zero]
  refine wpAnyH_take (i := 19) (oi := _) (v := ?_) rfl (by kernel_rfl) (by kernel_rfl) (by kernel_rfl) (fun _ _ _ h => h) (Or.inl ⟨by rfl, ?_⟩) (by assumption) ?_
  rotate_left
  · intro w hSw; (try dsimp only at hSw); first | (go_simp; done) | (go_simp; with_reducible rfl)
  try simp only [go_sem, Act.put, List.getElem_toArray, List.getElem_cons_succ, List.getElem_cons_zero, List.setIfInBounds_toArray, List.set_cons_succ, List.set_cons_zero]
  refine wpAnyH_take (i := 20) (oi := _) (v := ?_) rfl (by kernel_rfl) (by kernel_rfl) (by kernel_rfl) (fun _ _ _ h => h) (Or.inl ⟨by rfl, ?_⟩) (by assumption) ?_
  rotate_left
  · intro w hSw; (try dsimp only at hSw); first | (go_simp; done) | (go_simp; with_reducible rfl)
  try simp only [go_sem, Act.put, List.getElem_toArray, List.getElem_cons_succ, List.getElem_cons_zero, List.setIfInBounds_toArray, List.set_cons_succ, List.set_cons_zero]
  refine wpAnyH_take (i := 21) (oi := _) (v := ?_) rfl (by kernel_rfl) (by kernel_rfl) (by kernel_rfl) (fun _ _ _ h => h) (Or.inl ⟨by rfl, ?_⟩) (by assumption) ?_
  rotate_left
  · intro w hSw; (try dsimp only at hSw); first | (go_simp; done) | (go_simp; with_reducible rfl)
  try simp only [go_sem, Act.put, List.getElem_toArray, List.getElem_cons_succ, List.getElem_cons_zero, List.setIfInBounds_toArray, List.set_cons_succ, List.set_cons_zero]
  refine wpAnyH_take (i := 22) (oi := _) (v := ?_) rfl (by kernel_rfl) (by kernel_rfl) (by kernel_rfl) (fun _ _ _ h => h) (Or.inl ⟨by rfl, ?_⟩) (by assumption) ?_
  rotate_left
  · intro w hSw; (try dsimp only at hSw); have cx := hd3 _ hSw; first | (go_simp; done) | (go_simp; with_reducible rfl)
  try simp only [go_sem, Act.put, List.getElem_toArray, List.getElem_cons_succ, List.getElem_cons_zero, List.setIfInBounds_toArray, List.set_cons_succ, List.set_cons_zero]
  refine wpAnyH_take (i := 23) (oi := _) (v := ?_) rfl (by kernel_rfl) (by kernel_rfl) (by kernel_rfl) (fun _ _ _ h => h) (Or.inl ⟨by rfl, ?_⟩) (by assumption) ?_
  rotate_left
  · intro w hSw; (try dsimp only at hSw); first | (go_simp; done) | (go_simp; with_reducible rfl)
  try simp only [go_sem, Act.put, List.getElem_toArray, List.getElem_cons_succ, List.getElem_cons_zero, List.setIfInBounds_toArray, List.set_cons_succ, List.set_cons_zero]
  refine wpAnyH_take (i := 24) (oi := _) (v := ?_) rfl (by kernel_rfl) (by kernel_rfl) (by kernel_rfl) (fun _ _ _ h => h) (Or.inl ⟨by rfl, ?_⟩) (by assumption) ?_
  rotate_left
  · intro w hSw; (try dsimp only at hSw); first | (go_simp; done) | (go_simp; with_reducible rfl)
  try simp only [go_sem, Act.put, List.getElem_toArray, List.getElem_cons_succ, List.getElem_cons_zero, List.setIfInBounds_toArray, List.set_cons_succ, List.set_cons_zero]
  refine wpAnyH_take (i := 25) (oi := _) (v := ?_) rfl (by kernel_rfl) (by kernel_rfl) (by kernel_rfl) (fun _ _ _ h => h) (Or.inl ⟨by rfl, ?_⟩) (by assumption) ?_
  rotate_left
  · intro w hSw; (try dsimp only at hSw); first | (go_simp; done) | (go_simp; with_reducible rfl)
  try simp only [go_sem, Act.put, List.getElem_toArray, List.getElem_cons_succ, List.getElem_cons_zero, List.setIfInBounds_toArray, List.set_cons_succ, List.set_cons_zero]
  refine wpAnyH_take (i := 26) (oi := _) (v := ?_) rfl (by kernel_rfl) (by kernel_rfl) (by kernel_rfl) (fun _ _ _ h => h) (Or.inl ⟨by rfl, ?_⟩) (by assumption) ?_
  rotate_left
  · intro w hSw; (try dsimp only at hSw); first | (go_simp; done) | (go_simp; with_reducible rfl)
  try simp only [go_sem, Act.put, List.getElem_toArray, List.getElem_cons_succ, List.getElem_cons_zero, List.setIfInBounds_toArray, List.set_cons_succ, List.set_cons_zero]
  refine wpAnyH_take (i := 27) (oi := _) (v := ?_) rfl (by kernel_rfl) (by kernel_rfl) (by kernel_rfl) (fun _ _ _ h => h) (Or.inl ⟨by rfl, ?_⟩) (by assumption) ?_
  rotate_left
  · intro w hSw; (try dsimp only at hSw); have cx := hd4 _ hSw; first | (go_simp; done) | (go_simp; with_reducible rfl)
  try simp only [go_sem, Act.put, List.getElem_toArray, List.getElem_cons_succ, List.getElem_cons_zero, List.setIfInBounds_toArray, List.set_cons_succ, List.set_cons_zero]
  refine wpAnyH_take (i := 28) (oi := _) (v := ?_) rfl (by kernel_rfl) (by kernel_rfl) (by kernel_rfl) (fun _ _ _ h => h) (Or.inl ⟨by rfl, ?_⟩) (by assumption) ?_
  rotate_left
  · intro w hSw; (try dsimp only at hSw); first | (go_simp; done) | (go_simp; with_reducible rfl)
  try simp only [go_sem, Act.put, List.getElem_toArray, List.getElem_cons_succ, List.getElem_cons_zero, List.setIfInBounds_toArray, List.set_cons_succ, List.set_cons_zero]
  refine wpAnyH_take (i := 29) (oi := _) (v := ?_) rfl (by kernel_rfl) (by kernel_rfl) (by kernel_rfl) (fun _ _ _ h => h) (Or.inl ⟨by rfl, ?_⟩) (by assumption) ?_
  rotate_left
  · intro w hSw; (try dsimp only at hSw); first | (go_simp; done) | (go_simp; with_reducible rfl)
  try simp only [go_sem, Act.put, List.getElem_toArray, List.getElem_cons_succ, List.getElem_cons_zero, List.setIfInBounds_toArray, List.set_cons_succ, List.set_cons_zero]
  refine wpAnyH_take (i := 30) (oi := _) (v := ?_) rfl (by kernel_rfl) (by kernel_rfl) (by kernel_rfl) (fun _ _ _ h => h) (Or.inl ⟨by rfl, ?_⟩) (by assumption) ?_
  rotate_left
  · intro w hSw; (try dsimp only at hSw); first | (go_simp; done) | (go_simp; with_reducible rfl)
  try simp only [go_sem, Act.put, List.getElem_toArray, List.getElem_cons_succ, List.getElem_cons_zero, List.setIfInBounds_toArray, List.set_cons_succ, List.set_cons_zero]
  refine wpAnyH_take (i := 31) (oi := _) (v := ?_) rfl (by kernel_rfl) (by kernel_rfl) (by kernel_rfl) (fun _ _ _ h => h) (Or.inl ⟨by rfl, ?_⟩) (by assumption) ?_
  rotate_left
  · intro w hSw; (try dsimp only at hSw); first | (go_simp; done) | (go_simp; with_reducible rfl)
  try simp only [go_sem, Act.put, List.getElem_toArray, List.getElem_cons_succ, List.getElem_cons_zero, List.setIfInBounds_toArray, List.set_cons_succ, List.set_cons_zero]
  refine wpAnyH_take (i := 32) (oi := _) (v := ?_) rfl (by kernel_rfl) (by kernel_rfl) (by kernel_rfl) (fun _ _ _ h => h) (Or.inl ⟨by rfl, ?_⟩) (by assumption) ?_
  rotate_left
  · intro w hSw; (try dsimp only at hSw); have cx := hd5 _ hSw; first | (go_simp; done) | (go_simp; with_reducible rfl)
  try simp only [go_sem, Act.put, List.getElem_toArray, List.getElem_cons_succ, List.getElem_cons_zero, List.setIfInBounds_toArray, List.set_cons_succ, List.set_cons_zero]
  refine wpAnyH_take (i := 33) (oi := _) (v := ?_) rfl (by kernel_rfl) (by kernel_rfl) (by kernel_rfl) (fun _ _ _ h => h) (Or.inl ⟨by rfl, ?_⟩) (by assumption) ?_
  rotate_left
  · intro w hSw; (try dsimp only at hSw); first | (go_simp; done) | (go_simp; with_reducible rfl)
  try simp only [go_sem, Act.put, List.getElem_toArray, List.getElem_cons_succ, List.getElem_cons_zero, List.setIfInBounds_toArray, List.set_cons_succ, List.set_cons_zero]
  refine wpAnyH_take (i := 34) (oi := _) (v := ?_) rfl (by kernel_rfl) (by kernel_rfl) (by kernel_rfl) (fun _ _ _ h => h) (Or.inl ⟨by rfl, ?_⟩) (by assumption) ?_
  rotate_left
  · intro w hSw; (try dsimp only at hSw); first | (go_simp; done) | (go_simp; with_reducible rfl)
  try simp only [go_sem, Act.put, List.getElem_toArray, List.getElem_cons_succ, List.getElem_cons_zero, List.setIfInBounds_toArray, List.set_cons_succ, List.set_cons_zero]
  refine wpAnyH_take (i := 35) (oi := _) (v := ?_) rfl (by kernel_rfl) (by kernel_rfl) (by kernel_rfl) (fun _ _ _ h => h) (Or.inl ⟨by rfl, ?_⟩) (by assumption) ?_
  rotate_left
  · intro w hSw; (try dsimp only at hSw); first | (go_simp; done) | (go_simp; with_reducible rfl)
  try simp only [go_sem, Act.put, List.getElem_toArray, List.getElem_cons_succ, List.getElem_cons_zero, List.setIfInBounds_toArray, List.set_cons_succ, List.set_cons_zero]
  refine wpAnyH_take (i := 36) (oi := _) (v := ?_) rfl (by kernel_rfl) (by kernel_rfl) (by kernel_rfl) (fun _ _ _ h => h) (Or.inl ⟨by rfl, ?_⟩) (by assumption) ?_
  rotate_left
  · intro w hSw; (try dsimp only at hSw); have cx := hd6 _ hSw; first | (go_simp; done) | (go_simp; with_reducible rfl)
  try simp only [go_sem, Act.put, List.getElem_toArray, List.getElem_cons_succ, List.getElem_cons_zero, List.setIfInBounds_toArray, List.set_cons_succ, List.set_cons_zero]
  refine wpAnyH_take (i := 37) (oi := _) (v := ?_) rfl (by kernel_rfl) (by kernel_rfl) (by kernel_rfl) (fun _ _ _ h => h) (Or.inl ⟨by rfl, ?_⟩) (by assumption) ?_
  rotate_left
  · intro w hSw; (try dsimp only at hSw); first | (go_simp; done) | (go_simp; with_reducible rfl)
  try simp only [go_sem, Act.put, List.getElem_toArray, List.getElem_cons_succ, List.getElem_cons_zero, List.setIfInBounds_toArray, List.set_cons_succ, List.set_cons_zero]
  refine wpAnyH_take (i := 38) (oi := _) (v := ?_) rfl (by kernel_rfl) (by kernel_rfl) (by kernel_rfl) (fun _ _ _ h => h) (Or.inl ⟨by rfl, ?_⟩) (by assumption) ?_
  rotate_left
  · intro w hSw; (try dsimp only at hSw); first | (go_simp; done) | (go_simp; with_reducible rfl)
  try simp only [go_sem, Act.put, List.getElem_toArray, List.getElem_cons_succ, List.getElem_cons_zero, List.setIfInBounds_toArray, List.set_cons_succ, List.set_cons_zero]
  refine wpAnyH_take (i := 39) (oi := _) (v := ?_) rfl (by kernel_rfl) (by kernel_rfl) (by kernel_rfl) (fun _ _ _ h => h) (Or.inl ⟨by rfl, ?_⟩) (by assumption) ?_
  rotate_left
  · intro w hSw; (try dsimp only at hSw); first | (go_simp; done) | (go_simp; with_reducible rfl)
  try simp only [go_sem, Act.put, List.getElem_toArray, List.getElem_cons_succ, List.getElem_cons_zero, List.setIfInBounds_toArray, List.set_cons_succ, List.set_cons_zero]
  refine wpAnyH_take (i := 40) (oi := _) (v := ?_) rfl (by kernel_rfl) (by kernel_rfl) (by kernel_rfl) (fun _ _ _ h => h) (Or.inl ⟨by rfl, ?_⟩) (by assumption) ?_
  rotate_left
  · intro w hSw; (try dsimp only at hSw); have cx := hd7 _ hSw; first | (go_simp; done) | (go_simp; with_reducible rfl)
  try simp only [go_sem, Act.put, List.getElem_toArray, List.getElem_cons_succ, List.getElem_cons_zero, List.setIfInBounds_toArray, List.set_cons_succ, List.set_cons_zero]
  refine wpAnyH_take (i := 41) (oi := _) (v := ?_) rfl (by kernel_rfl) (by kernel_rfl) (by kernel_rfl) (fun _ _ _ h => h) (Or.inl ⟨by rfl, ?_⟩) (by assumption) ?_
  rotate_left
  · intro w hSw; (try dsimp only at hSw); first | (go_simp; done) | (go_simp; with_reducible rfl)
  try simp only [go_sem, Act.put, List.getElem_toArray, List.getElem_cons_succ, List.getElem_cons_zero, List.setIfInBounds_toArray, List.set_cons_succ, List.set_cons_zero]
  refine wpAnyH_take (i := 42) (oi := _) (v := ?_) rfl (by kernel_rfl) (by kernel_rfl) (by kernel_rfl) (fun _ _ _ h => h) (Or.inl ⟨by rfl, ?_⟩) (by assumption) ?_
  rotate_left
  · intro w hSw; (try dsimp only at hSw); first | (go_simp; done) | (go_simp; with_reducible rfl)
  try simp only [go_sem, Act.put, List.getElem_toArray, List.getElem_cons_succ, List.getElem_cons_zero, List.setIfInBounds_toArray, List.set_cons_succ, List.set_cons_zero]
  refine wpAnyH_take (i := 43) (oi := _) (v := ?_) rfl (by kernel_rfl) (by kernel_rfl) (by kernel_rfl) (fun _ _ _ h => h) (Or.inl ⟨by rfl, ?_⟩) (by assumption) ?_
  rotate_left
  · intro w hSw; (try dsimp only at hSw); first | (go_simp; done) | (go_simp; with_reducible rfl)
  try simp only [go_sem, Act.put, List.getElem_toArray, List.getElem_cons_succ, List.getElem_cons_zero, List.setIfInBounds_toArray, List.set_cons_succ, List.set_cons_zero]
  refine wpAnyH_take (i := 44) (oi := _) (v := ?_) rfl (by kernel_rfl) (by kernel_rfl) (by kernel_rfl) (fun _ _ _ h => h) (Or.inl ⟨by rfl, ?_⟩) (by assumption) ?_
  rotate_left
  · intro w hSw; (try dsimp only at hSw); have cx := hd8 _ hSw; first | (go_simp; done) | (go_simp; with_reducible rfl)
  try simp only [go_sem, Act.put, List.getElem_toArray, List.getElem_cons_succ, List.getElem_cons_zero, List.setIfInBounds_toArray, List.set_cons_succ, List.set_cons_zero]
  refine wpAnyH_take (i := 45) (oi := _) (v := ?_) rfl (by kernel_rfl) (by kernel_rfl) (by kernel_rfl) (fun _ _ _ h => h) (Or.inl ⟨by rfl, ?_⟩) (by assumption) ?_
  rotate_left
  · intro w hSw; (try dsimp only at hSw); first | (go_simp; done) | (go_simp; with_reducible rfl)
  try simp only [go_sem, Act.put, List.getElem_toArray, List.getElem_cons_succ, List.getElem_cons_zero, List.setIfInBounds_toArray, List.set_cons_succ, List.set_cons_zero]
  refine wpAnyH_take (i := 46) (oi := _) (v := ?_) rfl (by kernel_rfl) (by kernel_rfl) (by kernel_rfl) (fun _ _ _ h => h) (Or.inl ⟨by rfl, ?_⟩) (by assumption) ?_
  rotate_left
  · intro w hSw; (try dsimp only at hSw); first | (go_simp; done) | (go_simp; with_reducible rfl)
  try simp only [go_sem, Act.put, List.getElem_toArray, List.getElem_cons_succ, List.getElem_cons_zero, List.setIfInBounds_toArray, List.set_cons_succ, List.set_cons_zero]
  refine wpAnyH_take (i := 47) (oi := _) (v := ?_) rfl (by kernel_rfl) (by kernel_rfl) (by kernel_rfl) (fun _ _ _ h => h) (Or.inl ⟨by rfl, ?_⟩) (by assumption) ?_
  rotate_left
  · intro w hSw; (try dsimp only at hSw); first | (go_simp; done) | (go_simp; with_reducible rfl)
  try simp only [go_sem, Act.put, List.getElem_toArray, List.getElem_cons_succ, List.getElem_cons_zero, List.setIfInBounds_toArray, List.set_cons_succ, List.set_cons_zero]
  refine wpAnyH_take (i := 48) (oi := _) (v := ?_) rfl (by kernel_rfl) (by kernel_rfl) (by kernel_rfl) (fun _ _ _ h => h) (Or.inl ⟨by rfl, ?_⟩) (by assumption) ?_
  rotate_left
  · intro w hSw; (try dsimp only at hSw); have cx := hc1 _ hSw; first | (go_simp; done) | (go_simp; with_reducible rfl)
  try simp only [go_sem, Act.put, List.getElem_toArray, List.getElem_cons_succ, List.getElem_cons_zero, List.setIfInBounds_toArray, List.set_cons_succ, List.set_cons_zero]
  refine wpAnyH_take (i := 49) (oi := _) (v := ?_) rfl (by kernel_rfl) (by kernel_rfl) (by kernel_rfl) (fun _ _ _ h => h) (Or.inl ⟨by rfl, ?_⟩) (by assumption) ?_
  rotate_left
  · intro w hSw; (try dsimp only at hSw); first | (go_simp; done) | (go_simp; with_reducible rfl)
  try simp only [go_sem, Act.put, List.getElem_toArray, List.getElem_cons_succ, List.getElem_cons_zero, List.setIfInBounds_toArray, List.set_cons_succ, List.set_cons_zero]
  refine wpAnyH_take (i := 50) (oi := _) (v := ?_) rfl (by kernel_rfl) (by kernel_rfl) (by kernel_rfl) (fun _ _ _ h => h) (Or.inl ⟨by rfl, ?_⟩) (by assumption) ?_
  rotate_left
  · intro w hSw; (try dsimp only at hSw); first | (go_simp; done) | (go_simp; with_reducible rfl)
  try simp only [go_sem, Act.put, List.getElem_toArray, List.getElem_cons_succ, List.getElem_cons_zero, List.setIfInBounds_toArray, List.set_cons_succ, List.set_cons_zero]
  refine wpAnyH_ready (rs := [51]) (by kernel_rfl) (by simp) ?_
  refine AllReadyH.cons (o := _) rfl (fun K hK => ?_) AllReadyH.nil
  obtain ⟨x0, x1, x2, x3, x4, x5, x6, x7, x8, x9, x10, x11, x12, x13, x14⟩ := card14 HCd.out; go_simp; obtain ⟨F, hF, RR, RG⟩ := store14 (.string (bs nm)) (.int .i64 kd) (.int .i64 ya) (.int .i64 yb) (.int .i64 yc) (.int .i64 yd) (.int .i64 yx) (.int .i64 yml) (.int .i64 ypw) (.int .i64 ytg) (.int .i64 ykw) (.slice none 0 0) (.slice none 0 0) (.int .i64 ra) (show has wd ((w.heap.size + 1 + 1)) 32 zeroL from HCd.out); rw [hF]; clear hF; have HB1 : Hid (Below w.heap.size w F) := Lib.hid (below_grown HBd.out RG HBd.out.size (by omega)); have HC1 := Lib.hid RR; have HR1 : Hid (has F w.heap.size 32 zeroL) := Lib.hid (has.grown (show has wd w.heap.size 32 zeroL from HRd.out) RG (by intro e; have := Option.some.inj e; omega)); have HN1 : Hid (has F (w.heap.size + 1) 32 zeroL) := Lib.hid (has.grown (show has wd (w.heap.size + 1) 32 zeroL from HNd.out) RG (by intro e; have := Option.some.inj e; omega)); clear RR RG; clear x0 x1 x2 x3 x4 x5 x6 x7 x8 x9 x10 x11 x12 x13 x14
  refine hK.out _ _ ?_ (fun hH1 => ?_)
  · exact HB1.out
  clear hK K hH0
  try simp only [go_sem, Act.put, List.getElem_toArray, List.getElem_cons_succ, List.getElem_cons_zero, List.setIfInBounds_toArray, List.set_cons_succ, List.set_cons_zero]
  refine wpAnyH_done (by kernel_rfl) ?_ _
  clear hH1
  clear hc0 hc1 hstr hsl hsl3 n0 n1 i0 i1 a1 v2 HCB HBd HCd hsi HSN h32i h2i h3i hd0 hm0 hi0 hd1 hm1 hi1 hd2 hm2 hi2 hd3 hm3 hi3 hd4 hm4 hi4 hd5 hm5 hi5 hd6 hm6 hi6 hd7 hm7 hi7 hd8 hm8 hi8 gkd Gkd vkd gra Gra vra gya Gya vya gyb Gyb vyb gyc Gyc vyc gyd Gyd vyd gyx Gyx vyx gyml Gyml vyml gypw Gypw vypw gytg Gytg vytg gykw Gykw vykw
  have hslC : ∀ W, (Instr.slice 38 (.slice (some ⟨b, off, none⟩) n cap) (some (.int .i64 (C : Int))) none none).run Tryz.prog W = .ok (.slice (slA (some ⟨b, off, none⟩) C cap) (n - C) (cap - C)) W := sl_l (some ⟨b, off, none⟩) n cap C hCn
  obtain ⟨⟨e, sz, er⟩, hR⟩ : ∃ r, decR (l.drop C) = r := ⟨_, rfl⟩
  have HD := rDecode_any (slA (some ⟨b, off, none⟩) C cap) (n - C) (cap - C) (l.drop C) F (BsAt.sub (HBS.out.below HB1.out (Nat.le_refl _)) HCAP.out C hCn) (by have := HCAP.out; omega)
  have hsz : er = 0 → C + sz ≤ n := fun h => by
    have := decR_sz (l := l.drop C) (by rw [hR]; exact h)
    rw [hR, List.length_drop, HLN.out] at this
    dsimp only at this
    omega
  rw [hR] at HD HQ0
  dsimp only at HQ0
  have HG2 : Hid (er = 0 ∧ C + sz < n ∧ byAt l (C + sz) ≤ 2) := Lib.hid (by have q := HGA.out; rw [HA.out, HCC.out, hR] at q; exact q)
  clear hR
  go_wp2_with fail
  refine HD.mono ?_; rintro v w1 ⟨es, ec, rfl, he, hb, hfr⟩
  dsimp only at he
  obtain ⟨en, hen⟩ : ∃ k, e.length = k := ⟨_, rfl⟩
  rw [hen] at he
  dsimp only
  rw [hen]
  have HE1 := Lib.hid he
  have HFR := Lib.hid hfr
  have HB2 := Lib.hid (next HB1.out hb)
  have HC2 := Lib.hid (HC1.out.below hb HC1.out.lt)
  have HR2 := Lib.hid (HR1.out.below hb HR1.out.lt)
  have HN2 := Lib.hid (HN1.out.below hb HN1.out.lt)
  have hF1 := HC1.out.lt
  clear he hfr hb HB1 HC1 HR1 HN1 hen
  try (rename_i K2 A2; clear A2 K2)
  by_cases hz : er = 0
  case neg =>
    have hz1 : ((er : Int) != 0) = true := by rw [bne_iff_ne]; omega
    have HF := Lib.hid (cdE_er HQ0.out hz)
    clear hz
    have q := HG2.out.1; rw [q] at hz1; exact absurd hz1 (by decide)
  subst hz
  have hz1 : (((0 : Nat) : Int) != 0) = false := rfl
  have hD := hsz rfl
  have aD : IntKind.i64.wrap ((C : Int) + (sz : Int)) = ((C + sz : Nat) : Int) := by rw [IntWalk.i64_in _ (by omega)]; omega
  obtain ⟨D, hDD⟩ : ∃ q, C + sz = q := ⟨_, rfl⟩
  rw [hDD] at aD HQ0 hD
  have HDD := Lib.hid hDD
  clear hsz hDD
  obtain ⟨-, -, -, -, -, -, -, -, -, -, -, k11, -, -, kf⟩ := card14 (show has w1 (w.heap.size + 1 + 1) 32 _ from HC2.out)
  have HE3 : Hid (EfsAt (w1.setCell ⟨w.heap.size + 1 + 1, 11, none⟩ (.slice es en ec)) es en e) := Lib.hid (EfsAt.put HE1.out _ _ _ k11 (by intro x; simp))
  have HC3 : Hid (has (w1.setCell ⟨w.heap.size + 1 + 1, 11, none⟩ (.slice es en ec)) (w.heap.size + 1 + 1) 32 [.string (bs nm), .int .i64 kd, .int .i64 ya, .int .i64 yb, .int .i64 yc, .int .i64 yd, .int .i64 yx, .int .i64 yml, .int .i64 ypw, .int .i64 ytg, .int .i64 ykw, .slice es en ec, .slice none 0 0, .int .i64 ra]) := Lib.hid (has.put HC2.out 11 (.slice es en ec))
  have HR3 : Hid (has (w1.setCell ⟨w.heap.size + 1 + 1, 11, none⟩ (.slice es en ec)) w.heap.size 32 zeroL) := Lib.hid (HR2.out.far (by dsimp only; omega) _)
  have HN3 : Hid (has (w1.setCell ⟨w.heap.size + 1 + 1, 11, none⟩ (.slice es en ec)) (w.heap.size + 1) 32 zeroL) := Lib.hid (HN2.out.far (by dsimp only; omega) _)
  have HB3 : Hid (Below w.heap.size w (w1.setCell ⟨w.heap.size + 1 + 1, 11, none⟩ (.slice es en ec))) := Lib.hid (below_new HB2.out (grown_set w1 ⟨w.heap.size + 1 + 1, 11, none⟩ (.slice es en ec)) (show w.heap.size ≤ w.heap.size + 1 + 1 by omega))
  go_upto_region 17 with fail
  obtain ⟨w2, hw2⟩ : ∃ W, w1.setCell ⟨w.heap.size + 1 + 1, 11, none⟩ (.slice es en ec) = W := ⟨_, rfl⟩
  rw [hw2] at HE3 HC3 HR3 HN3 HB3 ⊢
  clear hw2 k11 kf HE1 HC2 HR2 HN2 HB2
  have HL0 : Hid (DP w es en e [.string (bs nm), .int .i64 kd, .int .i64 ya, .int .i64 yb, .int .i64 yc, .int .i64 yd, .int .i64 yx, .int .i64 yml, .int .i64 ypw, .int .i64 ytg, .int .i64 ykw, .slice es en ec, .slice none 0 0, .int .i64 ra] [] w2 (.slice none 0 0) []) := Lib.hid ⟨HR3.out, HN3.out, HC3.out, HB3.out, World.ownsRow_nil _ _ _ _, ⟨HE3.out, by simp [Value.ownBlock], fun a ha _ => by have := HFR.out a ha; omega⟩, rfl, fun j hj => absurd hj (by simp)⟩
  clear HE3 HC3 HFR
  by_cases hDn : n ≤ D
  case pos =>
    have hDi : (n : Int) ≤ (D : Int) := by omega
    have HF := Lib.hid (cdE_end HQ0.out (by rw [HLN.out]; exact hDn))
    clear hDn
    have := HG2.out.2.1; have := HDD.out; omega
  have hDi : ¬ (n : Int) ≤ (D : Int) := by omega
  have hDl : (D : Int) < (n : Int) := by omega
  have hDm : D < n := by omega
  clear hDn
  obtain ⟨M, hM⟩ : ∃ M : Nat, byAt l D = M := ⟨(byAt l D).toNat, by have := (byAt_bd l D).1; omega⟩
  have hM8 : M < 256 := by have := (byAt_bd l D).2; omega
  have vM : IntKind.i64.wrap (M : Int) = M := IntWalk.i64_in _ (by omega)
  have cbD := HC.out D hDm w2 HB3.out
  rw [hM] at cbD
  have HM := Lib.hid hM
  clear hM
  have aT0 : IntKind.i64.wrap ((D : Int) + 1) = ((D + 1 : Nat) : Int) := by rw [IntWalk.i64_in _ (by omega)]; omega
  by_cases h2 : M ≤ 2
  case neg =>
    have h2j : (2 : Int) < (M : Int) := by omega
    have HF := Lib.hid (cdE_bad HQ0.out (by rw [HLN.out]; exact hDm) (by rw [HM.out]; exact h2j))
    clear h2
    have q := HG2.out.2.2; rw [HDD.out, HM.out] at q; omega
  have h2j : ¬ (2 : Int) < (M : Int) := by omega
  have HQ1 := Lib.hid (cdE_go HQ0.out (by rw [HLN.out]; exact hDm) HM.out h2)
  obtain ⟨T0, hT0⟩ : ∃ q, D + 1 = q := ⟨_, rfl⟩
  have hT0n : T0 ≤ n := by omega
  rw [hT0] at HQ1 aT0
  obtain ⟨s, hs⟩ : ∃ s : Rd, (l.drop T0, 0) = s := ⟨_, rfl⟩
  rw [hs] at HQ1
  have HS0 : Hid (trS s 0 = (l.drop T0, 0)) := Lib.hid hs.symm
  clear hT0 hs HQ0 HR3 HN3
  go_wp2_with fail
  go_loopw [8, 14] (fun tt i wr => ∃ (k T : Nat) (st : Option Addr) (sc : Nat) (xs : List Tx), k ≤ M ∧ T ≤ n ∧ tt = .int .i64 T ∧ i = .int .i64 k ∧ Hid (DP w es en e [.string (bs nm), .int .i64 kd, .int .i64 ya, .int .i64 yb, .int .i64 yc, .int .i64 yd, .int .i64 yx, .int .i64 yml, .int .i64 ypw, .int .i64 ytg, .int .i64 ykw, .slice es en ec, .slice st k sc, .int .i64 ra] (trL s k) wr (.slice st k sc) xs ∧ trS s k = (l.drop T, 0))) (fun _ i _ => M - (intOf i).toNat)
  case atStart => exact ⟨0, T0, none, 0, [], Nat.zero_le _, hT0n, rfl, rfl, Lib.hid ⟨HL0.out, HS0.out⟩⟩
  case round =>
    obtain ⟨k, T, st, sc, xs, hk, hT, rfl, rfl, HX⟩ := hrel
    have HL := Lib.hid HX.out.1
    have HTS := Lib.hid HX.out.2
    clear HX HL0 HS0 cbD
    by_cases hlt : k < M
    · by_cases hTn : n ≤ T
      · have hTi : (n : Int) ≤ (T : Int) := by omega
        have HF := Lib.hid (show decC l = (zeroCd, 0, 4) from decC_er (by rw [HQ1.out]; exact tr_end HTS.out (by rw [HLN.out]; exact hTn) hlt) (by decide))
        clear hTn
        obtain ⟨jx0, jx1, jx2, jx3, jx4, jx5, jx6, jx7, jx8, jx9, jx10, jx11, jx12, jx13, jx14⟩ := card14 HL.out.r
        obtain ⟨jy0, jy1, jy2, jy3, jy4, jy5, jy6, jy7, jy8, jy9, jy10, jy11, jy12, jy13, jy14⟩ := card14 HL.out.z
        go_wp2_with fail
        obtain ⟨F, hF, RR, RG⟩ := store14 (.string ⟨#[]⟩) (.int .i64 0) (.int .i64 0) (.int .i64 0) (.int .i64 0) (.int .i64 0) (.int .i64 0) (.int .i64 0) (.int .i64 0) (.int .i64 0) (.int .i64 0) (.slice none 0 0) (.slice none 0 0) (.int .i64 0) (show has wr w.heap.size 32 zeroL from HL.out.r)
        rw [hF]
        clear hF
        obtain ⟨k0, k1, k2, k3, k4, k5, k6, k7, k8, k9, k10, k11, k12, k13, k14⟩ := card14 RR
        refine bodyPost_ret (v := .tuple #[cV ⟨#[]⟩ 0 0 0 0 0 0 0 0 0 0 none 0 0 none 0 0 0, .int .i64 0, .int .i64 4]) (by simp [results, Tryz.results12, go_sem, k0, k1, k2, k3, k4, k5, k6, k7, k8, k9, k10, k11, k12, k13]) rfl ?_
        exact ⟨zeroCd, 0, 4, none, 0, 0, none, 0, 0, HF.out, rfl, ⟨EfsAt.nil _ _, TrsAt.nil _ _⟩, below_grown HL.out.b RG HL.out.b.size (Nat.le_refl _)⟩
      have hTi : ¬ (n : Int) ≤ (T : Int) := by omega
      have hTm : T < n := by omega
      have hTl : (T : Int) < (n : Int) := by omega
      clear hTn
      have aT : IntKind.i64.wrap ((T : Int) + 1) = ((T + 1 : Nat) : Int) := by rw [IntWalk.i64_in _ (by omega)]; omega
      obtain ⟨T1, hT1⟩ : ∃ q, T + 1 = q := ⟨_, rfl⟩
      rw [hT1] at aT
      have HT1 := Lib.hid hT1
      have hT1n : T1 ≤ n := by omega
      clear hT1
      have hslT : ∀ W, (Instr.slice 38 (.slice (some ⟨b, off, none⟩) n cap) (some (.int .i64 (T1 : Int))) none none).run Tryz.prog W = .ok (.slice (slA (some ⟨b, off, none⟩) T1 cap) (n - T1) (cap - T1)) W := sl_l (some ⟨b, off, none⟩) n cap T1 hT1n
      obtain ⟨⟨e2, sz2, er2⟩, hR⟩ : ∃ r, decR (l.drop T1) = r := ⟨_, rfl⟩
      have HRR := Lib.hid (show decR (l.drop (T + 1)) = (e2, sz2, er2) by rw [HT1.out]; exact hR)
      have HD := rDecode_any (slA (some ⟨b, off, none⟩) T1 cap) (n - T1) (cap - T1) (l.drop T1) wr (BsAt.sub (HBS.out.below HL.out.b (Nat.le_refl _)) HCAP.out T1 hT1n) (by have := HCAP.out; omega)
      have hsz : er2 = 0 → T1 + sz2 ≤ n := fun h => by
        have := decR_sz (l := l.drop T1) (by rw [hR]; exact h)
        rw [hR, List.length_drop, HLN.out] at this
        dsimp only at this
        omega
      rw [hR] at HD
      clear hR
      go_wp2_with fail
      refine HD.mono ?_; rintro v w3 ⟨es2, ec2, rfl, he, hb, hfr⟩
      dsimp only at he
      obtain ⟨en2, hen⟩ : ∃ q, e2.length = q := ⟨_, rfl⟩
      rw [hen] at he
      dsimp only
      rw [hen]
      have HL3 := Lib.hid (HL.out.below hb)
      have HE3 : Hid (EfsX w3 (w.heap.size + 3) (Value.slice st k sc).ownBlock es2 en2 e2) := Lib.hid ⟨he, (fun a ha _ q => by have h1 := hfr a ha; have h2 := (HL.out.own.lt _ q).2; omega), fun a ha _ => by have h1 := hfr a ha; have h2 := HL.out.c.lt; omega⟩
      clear he hb hfr HL hen
      by_cases hz : er2 = 0
      case neg =>
        have hz1 : ((er2 : Int) != 0) = true := by rw [bne_iff_ne]; omega
        have HF := Lib.hid (show decC l = (zeroCd, 0, (er2 : Int)) from decC_er (by rw [HQ1.out]; exact tr_er HTS.out (by rw [HLN.out]; exact hTm) HRR.out hz hlt) (by omega))
        clear hz
        obtain ⟨jx0, jx1, jx2, jx3, jx4, jx5, jx6, jx7, jx8, jx9, jx10, jx11, jx12, jx13, jx14⟩ := card14 HL3.out.r
        obtain ⟨jy0, jy1, jy2, jy3, jy4, jy5, jy6, jy7, jy8, jy9, jy10, jy11, jy12, jy13, jy14⟩ := card14 HL3.out.z
        go_wp2_with fail
        obtain ⟨F, hF, RR, RG⟩ := store14 (.string ⟨#[]⟩) (.int .i64 0) (.int .i64 0) (.int .i64 0) (.int .i64 0) (.int .i64 0) (.int .i64 0) (.int .i64 0) (.int .i64 0) (.int .i64 0) (.int .i64 0) (.slice none 0 0) (.slice none 0 0) (.int .i64 0) (show has w3 w.heap.size 32 zeroL from HL3.out.r)
        rw [hF]
        clear hF
        obtain ⟨k0, k1, k2, k3, k4, k5, k6, k7, k8, k9, k10, k11, k12, k13, k14⟩ := card14 RR
        refine bodyPost_ret (v := .tuple #[cV ⟨#[]⟩ 0 0 0 0 0 0 0 0 0 0 none 0 0 none 0 0 0, .int .i64 0, .int .i64 (er2 : Int)]) (by simp [results, Tryz.results12, go_sem, k0, k1, k2, k3, k4, k5, k6, k7, k8, k9, k10, k11, k12, k13]) rfl ?_
        exact ⟨zeroCd, 0, (er2 : Int), none, 0, 0, none, 0, 0, HF.out, rfl, ⟨EfsAt.nil _ _, TrsAt.nil _ _⟩, below_grown HL3.out.b RG HL3.out.b.size (Nat.le_refl _)⟩
      subst hz
      have hz1 : (((0 : Nat) : Int) != 0) = false := rfl
      have hT2 := hsz rfl
      have aT2 : IntKind.i64.wrap ((T1 : Int) + (sz2 : Int)) = ((T1 + sz2 : Nat) : Int) := by rw [IntWalk.i64_in _ (by omega)]; omega
      have HST := Lib.hid (tr_step HTS.out (by rw [HLN.out]; exact hTm) HRR.out)
      have hTT : T + 1 + sz2 = T1 + sz2 := by have := HT1.out; omega
      rw [hTT] at HST
      obtain ⟨T2, hT2'⟩ : ∃ q, T1 + sz2 = q := ⟨_, rfl⟩
      rw [hT2'] at HST aT2 hT2
      have hct := fun W (hW : Below w.heap.size w W) => HC.out T hTm W hW
      obtain ⟨gw, Gw⟩ := byAt_bd l T
      have vw : IntKind.i64.wrap (byAt l T) = byAt l T := IntWalk.i64_in _ (by omega)
      generalize byAt l T = wv at *
      have HLen := Lib.hid (trL_len s k)
      generalize trL s k = tl at *
      clear hsz hTT hT2' HRR HTS
      obtain ⟨it, hti, htz0, htz1, htz2⟩ := info_parts infoT
      go_upto_region 32 with fail
      refine wp_region_held_drew (S := (fun w' => Below w.heap.size w w')) (by kernel_rfl) ?_ (fun hH0 => ?_)
      · exact HL3.out.drew.b
      have HL3d := Lib.hid HL3.out.drew
      have HE3d := Lib.hid HE3.out.drew
      clear HL3 HE3
      generalize w3.drew = wd at *
      refine wpAnyH_take (i := 0) (oi := _) (v := ?_) rfl (by kernel_rfl) (by kernel_rfl) (by kernel_rfl) (fun _ _ _ h => h) (Or.inl ⟨by rfl, ?_⟩) (by assumption) ?_
      rotate_left
      · intro w hSw; (try dsimp only at hSw); first | (go_simp; done) | (go_simp; with_reducible rfl)
      try simp only [go_sem, Act.put, List.getElem_toArray, List.getElem_cons_zero, List.setIfInBounds_toArray, List.set_cons_succ, List.set_cons_zero]
      refine wpAnyH_take (i := 2) (oi := _) (v := ?_) rfl (by kernel_rfl) (by kernel_rfl) (by kernel_rfl) (fun _ _ _ h => h) (Or.inl ⟨by rfl, ?_⟩) (by assumption) ?_
      rotate_left
      · intro w hSw; (try dsimp only at hSw); first | (go_simp; done) | (go_simp; with_reducible rfl)
      try simp only [go_sem, Act.put, List.getElem_toArray, List.getElem_cons_succ, List.getElem_cons_zero, List.setIfInBounds_toArray, List.set_cons_succ, List.set_cons_zero]
      refine wpAnyH_take (i := 3) (oi := _) (v := ?_) rfl (by kernel_rfl) (by kernel_rfl) (by kernel_rfl) (fun _ _ _ h => h) (Or.inl ⟨by rfl, ?_⟩) (by assumption) ?_
      rotate_left
      · intro w hSw; (try dsimp only at hSw); first | (go_simp; done) | (go_simp; with_reducible rfl)
      try simp only [go_sem, Act.put, List.getElem_toArray, List.getElem_cons_succ, List.getElem_cons_zero, List.setIfInBounds_toArray, List.set_cons_succ, List.set_cons_zero]
      refine wpAnyH_take (i := 4) (oi := _) (v := ?_) rfl (by kernel_rfl) (by kernel_rfl) (by kernel_rfl) (fun _ _ _ h => h) (Or.inl ⟨by rfl, ?_⟩) (by assumption) ?_
      rotate_left
      · intro w hSw; (try dsimp only at hSw); first | (go_simp; done) | (go_simp; with_reducible rfl)
      try simp only [go_sem, Act.put, List.getElem_toArray, List.getElem_cons_succ, List.getElem_cons_zero, List.setIfInBounds_toArray, List.set_cons_succ, List.set_cons_zero]
      refine wpAnyH_take (i := 5) (oi := _) (v := ?_) rfl (by kernel_rfl) (by kernel_rfl) (by kernel_rfl) (fun _ _ _ h => h) (Or.inl ⟨by rfl, ?_⟩) (by assumption) ?_
      rotate_left
      · intro w hSw; (try dsimp only at hSw); have cx := hct _ hSw; first | (go_simp; done) | (go_simp; with_reducible rfl)
      try simp only [go_sem, Act.put, List.getElem_toArray, List.getElem_cons_succ, List.getElem_cons_zero, List.setIfInBounds_toArray, List.set_cons_succ, List.set_cons_zero]
      refine wpAnyH_take (i := 6) (oi := _) (v := ?_) rfl (by kernel_rfl) (by kernel_rfl) (by kernel_rfl) (fun _ _ _ h => h) (Or.inl ⟨by rfl, ?_⟩) (by assumption) ?_
      rotate_left
      · intro w hSw; (try dsimp only at hSw); first | (go_simp; done) | (go_simp; with_reducible rfl)
      try simp only [go_sem, Act.put, List.getElem_toArray, List.getElem_cons_succ, List.getElem_cons_zero, List.setIfInBounds_toArray, List.set_cons_succ, List.set_cons_zero]
      refine wpAnyH_take (i := 7) (oi := _) (v := ?_) rfl (by kernel_rfl) (by kernel_rfl) (by kernel_rfl) (fun _ _ _ h => h) (Or.inl ⟨by rfl, ?_⟩) (by assumption) ?_
      rotate_left
      · intro w hSw; (try dsimp only at hSw); first | (go_simp; done) | (go_simp; with_reducible rfl)
      try simp only [go_sem, Act.put, List.getElem_toArray, List.getElem_cons_succ, List.getElem_cons_zero, List.setIfInBounds_toArray, List.set_cons_succ, List.set_cons_zero]
      refine wpAnyH_take (i := 8) (oi := _) (v := ?_) rfl (by kernel_rfl) (by kernel_rfl) (by kernel_rfl) (fun _ _ _ h => h) (Or.inl ⟨by rfl, ?_⟩) (by assumption) ?_
      rotate_left
      · intro w hSw; (try dsimp only at hSw); first | (go_simp; done) | (go_simp; with_reducible rfl)
      try simp only [go_sem, Act.put, List.getElem_toArray, List.getElem_cons_succ, List.getElem_cons_zero, List.setIfInBounds_toArray, List.set_cons_succ, List.set_cons_zero]
      refine wpAnyH_ready (rs := [1, 9]) (by kernel_rfl) (by simp) ?_
      refine AllReadyH.cons (o := _) rfl (fun K hK => ?_) (AllReadyH.cons (o := _) rfl (fun K hK => ?_) AllReadyH.nil)
      · have cu : wd.cell? ⟨w.heap.size + 1 + 1, 12, none⟩ = some (.slice st k sc) := HL3d.out.c.cell 12; go_simp
        refine hK.out _ _ ?_ (fun hH1 => ?_)
        · exact HL3d.out.b
        clear hK K hH0
        try simp only [go_sem, Act.put, List.getElem_toArray, List.getElem_cons_succ, List.getElem_cons_zero, List.setIfInBounds_toArray, List.set_cons_succ, List.set_cons_zero]
        refine wpAnyH_ready (rs := [9]) (by kernel_rfl) (by simp) ?_
        refine AllReadyH.cons (o := _) rfl (fun K hK => ?_) AllReadyH.nil
        go_simp; have HA := Lib.hid (DP.alloc HL3d.out (.cells #[.int .i64 wv, .slice es2 en2 ec2] 47)); have cu2 : (wd.alloc (.cells #[.int .i64 wv, .slice es2 en2 ec2] 47)).cell? ⟨w.heap.size + 1 + 1, 12, none⟩ = some (.slice st k sc) := HA.out.c.cell 12
        refine hK.out _ _ ?_ (fun hH2 => ?_)
        · exact HA.out.b
        clear hK K hH1
        try simp only [go_sem, Act.put, List.getElem_toArray, List.getElem_cons_succ, List.getElem_cons_zero, List.setIfInBounds_toArray, List.set_cons_succ, List.set_cons_zero]
        refine wpAnyH_ready (rs := [10]) (by kernel_rfl) (by simp) ?_
        refine AllReadyH.cons (o := _) rfl (fun K hK => ?_) AllReadyH.nil
        refine step_append_lies _ (by rfl) _ _ _ (by rfl) (w.heap.size + 3) 47 it (.agg #[.int .i64 0, .slice none 0 0]) 2 32 Tryz.underlying30 hti htz0 htz1 htz2 rfl (by omega) (.slice st k sc) k (txC xs) (by rfl) (by have := HA.out.own; rw [HLen.out] at this; exact this) ⟨wd.heap.size, 0, none⟩ 1 1 [.int .i64 wv, .slice es2 en2 ec2] (by rfl) (by rfl) (World.news_of_block (cs := #[.int .i64 wv, .slice es2 en2 ec2]) (t := 47) (fr := (0, 0)) (heap_alloc_new wd _)) (by simp [Value.oneCell']) (by omega) (by unfold maxLen; omega) (by omega) (by have := HL3d.out.c.lt; simp; omega) (wd.heap.size + 1) (by simp) ?_; intro g5 cap5 w5 hown hgrow hat _; have hc5 := own_has' hgrow HA.out.own HA.out.c (by decide); have u15 : w5.cell? ⟨w.heap.size + 1 + 1, 12, none⟩ = some (.slice st k sc) := hc5.cell 12; have f15 : w5.frozen? ⟨w.heap.size + 1 + 1, 12, none⟩ = false := hc5.free 12; have HP5 := Lib.hid (DP.app (t := ⟨wv, e2⟩) (x := ⟨wv, es2, en2, ec2⟩) HA.out rfl (HE3d.out.alloc _) (by rw [HLen.out]; exact hown) hgrow (by simpa using hat) ⟨.slice st k sc, rfl, by intro y; simp⟩); have HB5 := Lib.hid (HA.out.b.grown hgrow HA.out.b.size (fun q hq => by have := (HA.out.own.lt q hq).1; omega)); clear hown hgrow hat hc5
        refine hK.out _ _ ?_ (fun hH3 => ?_)
        · exact HB5.out
        clear hK K hH2
        try simp only [go_sem, Act.put, List.getElem_toArray, List.getElem_cons_succ, List.getElem_cons_zero, List.setIfInBounds_toArray, List.set_cons_succ, List.set_cons_zero]
        refine wpAnyH_take (i := 11) (oi := _) (v := ?_) rfl (by kernel_rfl) (by kernel_rfl) (by kernel_rfl) (fun _ _ _ h => h) (Or.inl ⟨by rfl, ?_⟩) (by assumption) ?_
        rotate_left
        · intro w hSw; (try dsimp only at hSw); first | (go_simp; done) | (go_simp; with_reducible rfl)
        try simp only [go_sem, Act.put, List.getElem_toArray, List.getElem_cons_succ, List.getElem_cons_zero, List.setIfInBounds_toArray, List.set_cons_succ, List.set_cons_zero]
        refine wpAnyH_ready (rs := [12]) (by kernel_rfl) (by simp) ?_
        refine AllReadyH.cons (o := _) rfl (fun K hK => ?_) AllReadyH.nil
        go_simp
        refine hK.out _ _ ?_ (fun hH4 => ?_)
        · have := HP5.out.b; rw [HLen.out] at this; exact this
        clear hK K hH3
        try simp only [go_sem, Act.put, List.getElem_toArray, List.getElem_cons_succ, List.getElem_cons_zero, List.setIfInBounds_toArray, List.set_cons_succ, List.set_cons_zero]
        refine wpAnyH_done (by kernel_rfl) ?_ _
        have HP6 := HP5.out
        rw [HLen.out] at HP6
        have HP7 := Lib.hid HP6
        clear HP6 u15 f15
        go_wp2_with fail
        exact ⟨⟨k + 1, T2, _, _, _, by omega, hT2, by first | rfl | go_num, by go_num, Lib.hid ⟨by rw [HST.out.2]; exact HP7.out, by rw [HST.out.1]; rfl⟩⟩, by simp [intOf]; omega⟩
      · go_simp; have HA := Lib.hid (DP.alloc HL3d.out (.cells #[.int .i64 wv, .slice es2 en2 ec2] 47)); have cu2 : (wd.alloc (.cells #[.int .i64 wv, .slice es2 en2 ec2] 47)).cell? ⟨w.heap.size + 1 + 1, 12, none⟩ = some (.slice st k sc) := HA.out.c.cell 12
        refine hK.out _ _ ?_ (fun hH1 => ?_)
        · exact HA.out.b
        clear hK K hH0
        try simp only [go_sem, Act.put, List.getElem_toArray, List.getElem_cons_succ, List.getElem_cons_zero, List.setIfInBounds_toArray, List.set_cons_succ, List.set_cons_zero]
        refine wpAnyH_ready (rs := [1]) (by kernel_rfl) (by simp) ?_
        refine AllReadyH.cons (o := _) rfl (fun K hK => ?_) AllReadyH.nil
        go_simp
        refine hK.out _ _ ?_ (fun hH2 => ?_)
        · exact HA.out.b
        clear hK K hH1
        try simp only [go_sem, Act.put, List.getElem_toArray, List.getElem_cons_succ, List.getElem_cons_zero, List.setIfInBounds_toArray, List.set_cons_succ, List.set_cons_zero]
        refine wpAnyH_ready (rs := [10]) (by kernel_rfl) (by simp) ?_
        refine AllReadyH.cons (o := _) rfl (fun K hK => ?_) AllReadyH.nil
        refine step_append_lies _ (by rfl) _ _ _ (by rfl) (w.heap.size + 3) 47 it (.agg #[.int .i64 0, .slice none 0 0]) 2 32 Tryz.underlying30 hti htz0 htz1 htz2 rfl (by omega) (.slice st k sc) k (txC xs) (by rfl) (by have := HA.out.own; rw [HLen.out] at this; exact this) ⟨wd.heap.size, 0, none⟩ 1 1 [.int .i64 wv, .slice es2 en2 ec2] (by rfl) (by rfl) (World.news_of_block (cs := #[.int .i64 wv, .slice es2 en2 ec2]) (t := 47) (fr := (0, 0)) (heap_alloc_new wd _)) (by simp [Value.oneCell']) (by omega) (by unfold maxLen; omega) (by omega) (by have := HL3d.out.c.lt; simp; omega) (wd.heap.size + 1) (by simp) ?_; intro g5 cap5 w5 hown hgrow hat _; have hc5 := own_has' hgrow HA.out.own HA.out.c (by decide); have u15 : w5.cell? ⟨w.heap.size + 1 + 1, 12, none⟩ = some (.slice st k sc) := hc5.cell 12; have f15 : w5.frozen? ⟨w.heap.size + 1 + 1, 12, none⟩ = false := hc5.free 12; have HP5 := Lib.hid (DP.app (t := ⟨wv, e2⟩) (x := ⟨wv, es2, en2, ec2⟩) HA.out rfl (HE3d.out.alloc _) (by rw [HLen.out]; exact hown) hgrow (by simpa using hat) ⟨.slice st k sc, rfl, by intro y; simp⟩); have HB5 := Lib.hid (HA.out.b.grown hgrow HA.out.b.size (fun q hq => by have := (HA.out.own.lt q hq).1; omega)); clear hown hgrow hat hc5
        refine hK.out _ _ ?_ (fun hH3 => ?_)
        · exact HB5.out
        clear hK K hH2
        try simp only [go_sem, Act.put, List.getElem_toArray, List.getElem_cons_succ, List.getElem_cons_zero, List.setIfInBounds_toArray, List.set_cons_succ, List.set_cons_zero]
        refine wpAnyH_take (i := 11) (oi := _) (v := ?_) rfl (by kernel_rfl) (by kernel_rfl) (by kernel_rfl) (fun _ _ _ h => h) (Or.inl ⟨by rfl, ?_⟩) (by assumption) ?_
        rotate_left
        · intro w hSw; (try dsimp only at hSw); first | (go_simp; done) | (go_simp; with_reducible rfl)
        try simp only [go_sem, Act.put, List.getElem_toArray, List.getElem_cons_succ, List.getElem_cons_zero, List.setIfInBounds_toArray, List.set_cons_succ, List.set_cons_zero]
        refine wpAnyH_ready (rs := [12]) (by kernel_rfl) (by simp) ?_
        refine AllReadyH.cons (o := _) rfl (fun K hK => ?_) AllReadyH.nil
        go_simp
        refine hK.out _ _ ?_ (fun hH4 => ?_)
        · have := HP5.out.b; rw [HLen.out] at this; exact this
        clear hK K hH3
        try simp only [go_sem, Act.put, List.getElem_toArray, List.getElem_cons_succ, List.getElem_cons_zero, List.setIfInBounds_toArray, List.set_cons_succ, List.set_cons_zero]
        refine wpAnyH_done (by kernel_rfl) ?_ _
        have HP6 := HP5.out
        rw [HLen.out] at HP6
        have HP7 := Lib.hid HP6
        clear HP6 u15 f15
        go_wp2_with fail
        exact ⟨⟨k + 1, T2, _, _, _, by omega, hT2, by first | rfl | go_num, by go_num, Lib.hid ⟨by rw [HST.out.2]; exact HP7.out, by rw [HST.out.1]; rfl⟩⟩, by simp [intOf]; omega⟩
    · obtain rfl : k = M := by omega
      exact absurd (show (cdR (l, 0)).2.2 = 0 by rw [HQ1.out]; dsimp only; rw [HTS.out]) H4.out
end Go.Proofs.YtlhnnjllbcglcaaGreatDoor.caFn
