/- What copied, zero, New, Used and Left return. -/
import Derived.Test.YtefncefmolphfaaDrMem
import Derived.WalkLawsBesides
import Derived.WalkSpells
import Derived.Deep.QuietTactic
import Derived.BigQuiet
import Derived.Outline
namespace Go.Proofs.Ytefncefmolphfaa.drFn
open Go.ChangeShapes Go.WideShapes Go.ChangeAt Go.RowKit drMem
set_option linter.unusedVariables false

theorem infoU : (Try.prog.info? 30).map (fun i => (i.zero, i.size, i.bytes)) = some (some (.int .u64 0), 1, 8) := by kernel_rfl
theorem infoI : (Try.prog.info? 3).map (fun i => (i.zero, i.size, i.bytes)) = some (some (.int .i64 0), 1, 8) := by kernel_rfl
theorem sizeU : (Try.prog.info? 30).map (fun i => i.size) = some 1 := by kernel_rfl
theorem sizeI : (Try.prog.info? 3).map (fun i => i.size) = some 1 := by kernel_rfl

theorem made_list (z : Value) (n : Nat) : madeCells #[z] n = (List.replicate n z).toArray := by
  apply Array.ext
  · simp [size_madeCells]
  · intro i h1 h2; simp [madeCells, Nat.mod_one]
theorem src_alloc {w : World} {sp : Option Addr} {cs : List Value} (h : src w sp cs) (o : Obj) (h0 : 0 < cs.length) : ∃ ad, sp = some ad ∧ ∀ (j : Nat) (v : Value), cs[j]? = some v → (w.alloc o).cell? (ad.add j) = some v := by
  obtain ⟨b, off, e, hl, hc⟩ := h h0
  exact ⟨_, e, fun j v hv => by rw [addr_add, World.cell?_alloc_lt w o ⟨b, off + j, none⟩ hl]; exact hc j v hv⟩

set_option maxHeartbeats 400000 in
theorem copied_u (sp : Option Addr) (len cap : Nat) (l : List Nat) (w : World) (hl : l.length = len) (hb : len ≤ 17592186044416) (hs : src w sp (us l)) :
    Calls Try.prog 26 #[.slice sp len cap] w fun e w' => e = .returned (.slice (some ⟨w.heap.size, 0, none⟩) len len) ∧ has w' w.heap.size 30 (us l) ∧ Below w.heap.size w w' := by
  have hmk := fun W => run_make_row' (P := Try.prog) 22 30 (.int .u64 0) 8 Try.underlying22 infoU rfl .i64 .i64 len (by omega) (by omega) W
  have HL := Lib.hid hl
  have HS := Lib.hid hs
  clear hl hs
  go_enter Try.func26, Try.ntmps26
  go_wp2_with (with_reducible refine wpList_copy_splice rfl (.tmp 7) (.tmp 8) 22 22 rfl 30 Try.underlying22 sizeU (some ⟨w.heap.size, 0, none⟩) sp len len len cap rfl rfl w.heap.size 0 (List.replicate len (.int .u64 0)) 30 ?c1 (us l) ?c2 ?c3 ?c4 ?c5 w.heap.size w ?c6 ?c7 ?_)
  case c1 => rw [made_list]; exact heap_alloc_new w _
  case c2 => simp [us_len, HL.out]
  case c3 => exact fun h0 => src_alloc HS.out _ h0
  case c4 => simp [us_len, HL.out]
  case c5 => exact us_one l
  case c6 => exact (Below.refl _ _).alloc (Nat.le_refl _) _
  case c7 => exact Nat.le_refl _
  intro w1 hg1 hb1
  go_wp2
  go_ret
  refine ⟨rfl, ?_, hb1⟩
  have := hg1.out
  rw [splice_all _ _ (by simp [us_len, HL.out])] at this
  exact this

set_option maxHeartbeats 400000 in
theorem copied_i (sp : Option Addr) (len cap : Nat) (l : List Int) (w : World) (hl : l.length = len) (hb : len ≤ 17592186044416) (hs : src w sp (is l)) :
    Calls Try.prog 31 #[.slice sp len cap] w fun e w' => e = .returned (.slice (some ⟨w.heap.size, 0, none⟩) len len) ∧ has w' w.heap.size 3 (is l) ∧ Below w.heap.size w w' := by
  have hmk := fun W => run_make_row' (P := Try.prog) 33 3 (.int .i64 0) 8 Try.underlying33 infoI rfl .i64 .i64 len (by omega) (by omega) W
  have HL := Lib.hid hl
  have HS := Lib.hid hs
  clear hl hs
  go_enter Try.func31, Try.ntmps31
  go_wp2_with (with_reducible refine wpList_copy_splice rfl (.tmp 7) (.tmp 8) 33 33 rfl 3 Try.underlying33 sizeI (some ⟨w.heap.size, 0, none⟩) sp len len len cap rfl rfl w.heap.size 0 (List.replicate len (.int .i64 0)) 3 ?c1 (is l) ?c2 ?c3 ?c4 ?c5 w.heap.size w ?c6 ?c7 ?_)
  case c1 => rw [made_list]; exact heap_alloc_new w _
  case c2 => simp [is_len, HL.out]
  case c3 => exact fun h0 => src_alloc HS.out _ h0
  case c4 => simp [is_len, HL.out]
  case c5 => exact is_one l
  case c6 => exact (Below.refl _ _).alloc (Nat.le_refl _) _
  case c7 => exact Nat.le_refl _
  intro w1 hg1 hb1
  go_wp2
  go_ret
  refine ⟨rfl, ?_, hb1⟩
  have := hg1.out
  rw [splice_all _ _ (by simp [is_len, HL.out])] at this
  exact this

/- draws: a block with the list and how many were used, and the block of the numbers -/
structure isD (w : World) (b g : Nat) (l : List Nat) (u : Nat) : Prop where
  d : has w b 58 [.slice (some ⟨g, 0, none⟩) l.length l.length, .int .i64 (u : Int)]
  n : has w g 30 (us l)
  le : u ≤ l.length
  len : l.length ≤ 65536
  val : ∀ x ∈ l, x < 18446744073709551616
end Go.Proofs.Ytefncefmolphfaa.drFn
