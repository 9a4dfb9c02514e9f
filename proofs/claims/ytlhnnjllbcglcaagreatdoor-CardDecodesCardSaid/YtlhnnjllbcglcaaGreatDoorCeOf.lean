/- What effectOf and slices.Chunk return. -/
import Derived.Test.YtlhnnjllbcglcaaGreatDoorCeRDec
import Derived.BigRegion
namespace Go.Proofs.YtlhnnjllbcglcaaGreatDoor.efFn
open Go.ChangeShapes Go.WideShapes Go.ChangeAt Go.RowKit drMem
set_option linter.unusedVariables false

set_option maxRecDepth 100000 in
set_option maxHeartbeats 4000000 in
theorem effectOf_any (b o c : Nat) (y0 y1 y2 y3 y4 : Int) (w : World) (c0 : w.cell? ⟨b, o, none⟩ = some (.int .u8 y0)) (c1 : w.cell? ⟨b, o + 1, none⟩ = some (.int .u8 y1)) (c2 : w.cell? ⟨b, o + 2, none⟩ = some (.int .u8 y2)) (c3 : w.cell? ⟨b, o + 3, none⟩ = some (.int .u8 y3)) (c4 : w.cell? ⟨b, o + 4, none⟩ = some (.int .u8 y4))
    (hb : b < w.heap.size) (g0 : 0 ≤ y0 ∧ y0 < 256) (g1 : 0 ≤ y1 ∧ y1 < 256) (g2 : 0 ≤ y2 ∧ y2 < 256) (g3 : 0 ≤ y3 ∧ y3 < 256) (g4 : 0 ≤ y4 ∧ y4 < 256) :
    Calls Tryz.prog 97 #[.slice (some ⟨b, o, none⟩) 5 c] w fun e w' => e = .returned (eV y0 y1 y2 y3 y4) ∧ Below w.heap.size w w' := by
  have v0 : IntKind.i64.wrap y0 = y0 := IntWalk.i64_in _ (by omega)
  have v1 : IntKind.i64.wrap y1 = y1 := IntWalk.i64_in _ (by omega)
  have v2 : IntKind.i64.wrap y2 = y2 := IntWalk.i64_in _ (by omega)
  have v3 : IntKind.i64.wrap y3 = y3 := IntWalk.i64_in _ (by omega)
  have v4 : IntKind.i64.wrap y4 = y4 := IntWalk.i64_in _ (by omega)
  clear g0 g1 g2 g3 g4
  go_enter Tryz.func97, Tryz.ntmps97
  go_wp2_with fail
  have hbl : Below w.heap.size w (w.alloc (.cells #[.int .i64 0, .int .i64 0, .int .i64 0, .int .i64 0, .int .i64 0] 51)) := (Below.refl _ _).alloc (Nat.le_refl _) _
  have d0 := (hbl.cell (p := ⟨b, o, none⟩) hb).trans c0
  have d1 := (hbl.cell (p := ⟨b, o + 1, none⟩) hb).trans c1
  have d2 := (hbl.cell (p := ⟨b, o + 2, none⟩) hb).trans c2
  have d3 := (hbl.cell (p := ⟨b, o + 3, none⟩) hb).trans c3
  have d4 := (hbl.cell (p := ⟨b, o + 4, none⟩) hb).trans c4
  have R := has.new w 51 [.int .i64 0, .int .i64 0, .int .i64 0, .int .i64 0, .int .i64 0]
  clear c0 c1 c2 c3 c4
  obtain ⟨W, hW⟩ : ∃ W, w.alloc (.cells #[.int .i64 0, .int .i64 0, .int .i64 0, .int .i64 0, .int .i64 0] 51) = W := ⟨_, rfl⟩
  have R' : has W w.heap.size 51 [.int .i64 0, .int .i64 0, .int .i64 0, .int .i64 0, .int .i64 0] := hW ▸ R
  rw [hW] at hbl d0 d1 d2 d3 d4 ⊢
  clear hW R
  obtain ⟨r0, r1, r2, r3, r4, r5⟩ := five R'
  have hz := R'.lt
  have hne : b ≠ w.heap.size := by omega
  have hne' : w.heap.size ≠ b := by omega
  go_region
  go_wp2
  have RR : has (((((W.setCell ⟨w.heap.size, 0, none⟩ (.int .i64 y0)).setCell ⟨w.heap.size, 1, none⟩ (.int .i64 y1)).setCell ⟨w.heap.size, 2, none⟩ (.int .i64 y2)).setCell ⟨w.heap.size, 3, none⟩ (.int .i64 y3)).setCell ⟨w.heap.size, 4, none⟩ (.int .i64 y4)).drew w.heap.size 51 (eL y0 y1 y2 y3 y4) := ((((R'.put 0 (.int .i64 y0)).put 1 (.int .i64 y1)).put 2 (.int .i64 y2)).put 3 (.int .i64 y3)).put 4 (.int .i64 y4)
  have BB : Below w.heap.size w (((((W.setCell ⟨w.heap.size, 0, none⟩ (.int .i64 y0)).setCell ⟨w.heap.size, 1, none⟩ (.int .i64 y1)).setCell ⟨w.heap.size, 2, none⟩ (.int .i64 y2)).setCell ⟨w.heap.size, 3, none⟩ (.int .i64 y3)).setCell ⟨w.heap.size, 4, none⟩ (.int .i64 y4)).drew := (((((hbl.setCell (p := ⟨w.heap.size, 0, none⟩) (Nat.le_refl _) _).setCell (p := ⟨w.heap.size, 1, none⟩) (Nat.le_refl _) _).setCell (p := ⟨w.heap.size, 2, none⟩) (Nat.le_refl _) _).setCell (p := ⟨w.heap.size, 3, none⟩) (Nat.le_refl _) _).setCell (p := ⟨w.heap.size, 4, none⟩) (Nat.le_refl _) _).drew
  obtain ⟨F, hF⟩ : ∃ F, (((((W.setCell ⟨w.heap.size, 0, none⟩ (.int .i64 y0)).setCell ⟨w.heap.size, 1, none⟩ (.int .i64 y1)).setCell ⟨w.heap.size, 2, none⟩ (.int .i64 y2)).setCell ⟨w.heap.size, 3, none⟩ (.int .i64 y3)).setCell ⟨w.heap.size, 4, none⟩ (.int .i64 y4)).drew = F := ⟨_, rfl⟩
  rw [hF] at RR BB ⊢
  obtain ⟨k0, k1, k2, k3, k4, k5⟩ := five RR
  exact bodyPost_ret (v := eV y0 y1 y2 y3 y4) (by simp [results, Tryz.results97, go_sem, k0, k1, k2, k3, k4]) rfl ⟨rfl, BB⟩

/- the places of a list of bytes that is cut into pieces of five -/
abbrev Ix (N : Nat) := { x : Nat // x < N }
def ixs (N k : Nat) : List (Ix N) := (List.range k).filterMap fun j => if h : j < N then some ⟨j, h⟩ else none
theorem ixs_succ (N k : Nat) (h : k < N) : ixs N (k + 1) = ixs N k ++ [⟨k, h⟩] := by
  unfold ixs
  rw [List.range_succ, List.filterMap_append]
  simp [h]
theorem ixs_map (N k : Nat) (h : k ≤ N) : (ixs N k).map (·.1) = List.range k := by
  induction k with
  | zero => rfl
  | succ k ih => rw [ixs_succ N k (by omega), List.map_append, ih (by omega), List.range_succ]; rfl
theorem ixs_len (N k : Nat) (h : k ≤ N) : (ixs N k).length = k := by
  have := congrArg List.length (ixs_map N k h)
  simpa using this
theorem Chunk_any (sp : Option Addr) (n cap : Nat) (w : World) :
    Calls Tryz.prog 96 #[.slice sp n cap, .int .i64 5] w fun e w' => e = .returned (.func (.func 108) #[] #[.pointer (some ⟨w.heap.size, 0, none⟩), .pointer (some ⟨w.heap.size + 1, 0, none⟩)])
      ∧ w' = (w.alloc (.cells #[.slice sp n cap] 38)).alloc (.cells #[.int .i64 5] 3) := by
  go_enter Tryz.func96, Tryz.ntmps96
  go_wp2
  go_ret
  exact ⟨rfl, rfl⟩
end Go.Proofs.YtlhnnjllbcglcaaGreatDoor.efFn
