/- Words for memory: a block that is known whole, and a slice that reads as a list. -/
import Derived.Test.YtlhnnjllbcglcaaGreatDoorRows
import Derived.WalkKit
import Derived.ProofKit
import Derived.OpenShut
import Derived.IntWalk
import Derived.Lib.Hide
import Derived.Below
import Derived.Laws.OwnMore
import Derived.Laws.Rows
import Derived.Laws.CopyOwn
import Derived.Deep.OwnRows
import Derived.Deep.Draws
namespace Go.Proofs.YtlhnnjllbcglcaaGreatDoor.drMem
open Go.ChangeShapes Go.WideShapes Go.ChangeAt Go.RowKit
set_option linter.unusedVariables false

/- block g holds just the cells cs, none of them frozen -/
def has (w : World) (g : Nat) (t : TypeId) (cs : List Value) : Prop := w.heap[g]? = some (.cells cs.toArray t (0, 0))

variable {w w' : World} {g : Nat} {t : TypeId} {cs : List Value}
theorem has.lt (h : has w g t cs) : g < w.heap.size := by
  rcases Nat.lt_or_ge g w.heap.size with h1 | h1
  · exact h1
  · unfold has at h; rw [Array.getElem?_eq_none h1] at h; cases h
theorem has.cell (h : has w g t cs) (i : Nat) : w.cell? ⟨g, i, none⟩ = cs[i]? := by
  have := cell_of_row w g i cs.toArray t (0, 0) h
  simpa using this
theorem has.free (h : has w g t cs) (i : Nat) : w.frozen? ⟨g, i, none⟩ = false := by
  unfold has at h
  simp [World.frozen?, h]
theorem has.below {B : Nat} (h : has w g t cs) (hb : Below B w w') (hg : g < B) : has w' g t cs := (hb.block g hg).trans h
theorem has.grown {row : Option Nat} (h : has w g t cs) (hb : w.grownBy w' row) (hg : some g ≠ row) : has w' g t cs := (hb.block g h.lt hg).trans h
theorem has.alloc (h : has w g t cs) (o : Obj) : has (w.alloc o) g t cs := (Below.heap_alloc w o g h.lt).trans h
theorem has.new (w : World) (t : TypeId) (cs : List Value) : has (w.alloc (.cells cs.toArray t)) w.heap.size t cs := heap_alloc_new w _
theorem has.far (h : has w g t cs) {p : Addr} (hp : g ≠ p.block) (u : Value) : has (w.setCell p u) g t cs := (Below.heap_setCell w p u g hp).trans h
theorem has.put (h : has w g t cs) (i : Nat) (u : Value) : has (w.setCell ⟨g, i, none⟩ u) g t (cs.set i u) := by
  unfold has at h ⊢
  simp [World.setCell, Array.getElem?_modify, h]
theorem has.drewN (h : has w g t cs) (n : Nat) : has (w.drewN n) g t cs := h
theorem has.type {t' : TypeId} {cs' : List Value} (h : has w g t cs) (h' : has w g t' cs') : t = t' := by
  unfold has at h h'
  rw [h] at h'
  simp at h'
  exact h'.2
theorem has.ne {g' : Nat} {t' : TypeId} {cs' : List Value} (h : has w g t cs) (h' : has w g' t' cs') (hne : t ≠ t') : g ≠ g' := by
  rintro rfl
  exact hne (h.type h')

theorem grown_trans {a b c : World} {row : Option Nat} (h : a.grownBy b row) (k : b.grownBy c row) : a.grownBy c row :=
  ⟨k.os.trans h.os, k.tape.trans h.tape, k.output.trans h.output, Nat.le_trans h.size k.size, fun i hi hr => (k.block i (Nat.lt_of_lt_of_le hi h.size) hr).trans (h.block i hi hr)⟩
theorem grown_refl (a : World) (row : Option Nat) : a.grownBy a row := ⟨rfl, rfl, rfl, Nat.le_refl _, fun _ _ _ => rfl⟩
theorem grown_of_below {a b : World} (h : Below a.heap.size a b) (row : Option Nat) : a.grownBy b row := ⟨h.os, h.tape, h.output, h.size, fun i hi _ => h.block i hi⟩
theorem grown_set (a : World) (p : Addr) (u : Value) : a.grownBy (a.setCell p u) (some p.block) :=
  ⟨rfl, rfl, rfl, by simp [World.setCell], fun i hi hr => Below.heap_setCell _ _ _ _ (fun e => hr (by rw [e]))⟩
/- what is written is a block that came later -/
theorem below_grown {B k : Nat} {a b c : World} (h : Below B a b) (k' : b.grownBy c (some k)) (hB : B ≤ b.heap.size) (hk : B ≤ k) : Below B a c :=
  h.grown k' hB (by intro q hq; cases hq; exact hk)
theorem grown_new {k : Nat} {a b c : World} {row : Option Nat} (h : a.grownBy b row) (k' : b.grownBy c (some k)) (hk : a.heap.size ≤ k) : a.grownBy c row :=
  ⟨k'.os.trans h.os, k'.tape.trans h.tape, k'.output.trans h.output, Nat.le_trans h.size k'.size, fun i hi hr => (k'.block i (Nat.lt_of_lt_of_le hi h.size) (by intro e; cases e; omega)).trans (h.block i hi hr)⟩

/- what a slice's address holds: nothing is asked where there are no cells -/
def src (w : World) (sp : Option Addr) (cs : List Value) : Prop :=
  0 < cs.length → ∃ b off, sp = some ⟨b, off, none⟩ ∧ b < w.heap.size ∧ ∀ j u, cs[j]? = some u → w.cell? ⟨b, off + j, none⟩ = some u
theorem addr_add (b off j : Nat) : (⟨b, off, none⟩ : Addr).add j = ⟨b, off + j, none⟩ := by
  unfold Addr.add; split <;> simp_all
theorem src.nil (w : World) (sp : Option Addr) : src w sp [] := by intro h; simp at h
theorem src.of (h : has w g t cs) : src w (some ⟨g, 0, none⟩) cs := fun _ => ⟨g, 0, rfl, h.lt, fun j u hu => by rw [Nat.zero_add, h.cell]; exact hu⟩
theorem src.of_drop (h : has w g t cs) (k : Nat) : src w (some ⟨g, k, none⟩) (cs.drop k) := fun _ => ⟨g, k, rfl, h.lt, fun j u hu => by rw [h.cell]; simpa using hu⟩
theorem src.of_take (h : has w g t cs) (k : Nat) : src w (some ⟨g, 0, none⟩) (cs.take k) := fun _ => ⟨g, 0, rfl, h.lt, fun j u hu => by
  rw [Nat.zero_add, h.cell]
  rw [List.getElem?_take] at hu
  split at hu
  · exact hu
  · cases hu⟩
theorem src.below {B : Nat} {sp : Option Addr} (h : src w sp cs) (hb : Below B w w') (hs : w.heap.size ≤ B) : src w' sp cs := fun h0 => by
  obtain ⟨b, off, e, hl, hc⟩ := h h0
  exact ⟨b, off, e, by have := hb.size; omega, fun j u hu => (hb.cell (p := ⟨b, off + j, none⟩) (by show b < B; omega)).trans (hc j u hu)⟩
theorem src.grown {sp : Option Addr} {row : Nat} (h : src w sp cs) (hb : w.grownBy w' (some row)) (hs : ∀ a, sp = some a → a.block ≠ row) : src w' sp cs := fun h0 => by
  obtain ⟨b, off, e, hl, hc⟩ := h h0
  exact ⟨b, off, e, by have := hb.size; omega, fun j u hu => (World.cell?_of_block (hb.block b hl (by have := hs _ e; simpa using this))).trans (hc j u hu)⟩

/- numbers as cells -/
def us (l : List Nat) : List Value := l.map fun (n : Nat) => .int .u64 (n : Int)
def is (l : List Int) : List Value := l.map (Value.int .i64)
theorem us_len (l : List Nat) : (us l).length = l.length := by simp [us]
theorem is_len (l : List Int) : (is l).length = l.length := by simp [is]
theorem us_one (l : List Nat) : ∀ u ∈ us l, u.oneCell' = true := by intro u hu; obtain ⟨x, _, rfl⟩ := List.mem_map.1 hu; rfl
theorem is_one (l : List Int) : ∀ u ∈ is l, u.oneCell' = true := by intro u hu; obtain ⟨x, _, rfl⟩ := List.mem_map.1 hu; rfl
theorem us_get (l : List Nat) (j : Nat) (h : j < l.length) : (us l)[j]? = some (.int .u64 (l.getD j 0 : Nat)) := by simp [us, h]
theorem is_get (l : List Int) (j : Nat) (h : j < l.length) : (is l)[j]? = some (.int .i64 (l.getD j 0)) := by simp [is, h]

theorem splice_all {α : Type} (L cs : List α) (h : L.length = cs.length) : splice L 0 cs = cs := by
  simp [splice, ← h]
end Go.Proofs.YtlhnnjllbcglcaaGreatDoor.drMem
