/- What comes in: a slice of numbers, a slice of calls. -/
import Derived.Test.YtefncefmolphfaaDoorIdMap
import Derived.Deep.Slices
import Derived.Deep.Fields
import Derived.ChangeSlices
namespace Go.Proofs.YtefncefmolphfaaDoor.idFn
open Go.ChangeShapes Go.WideShapes Go.ChangeAt Go.RowKit drMem
set_option linter.unusedVariables false

def i64ok (x : Int) : Prop := -9223372036854775808 ≤ x ∧ x ≤ 9223372036854775807
structure IsAt (w : World) (sp : Option Addr) (len : Nat) (l : List Int) : Prop where
  n : l.length = len
  m : len ≤ 9223372036854775807
  c : src w sp (is l)
  v : ∀ x ∈ l, i64ok x
structure ActR where
  what : Int
  id : Int
structure ActAt (w : World) (b o : Nat) (r : ActR) : Prop where
  c0 : w.cell? ⟨b, o, none⟩ = some (.int .i64 r.what)
  c1 : w.cell? ⟨b, o + 1, none⟩ = some (.int .i64 r.id)
  h0 : i64ok r.what
  h1 : i64ok r.id
  lt : b < w.heap.size
structure ActsAt (w : World) (sp : Option Addr) (len : Nat) (acts : List ActR) : Prop where
  n : acts.length = len
  m : len ≤ 9223372036854775807
  c : 0 < len → ∃ b off, sp = some ⟨b, off, none⟩ ∧ b < w.heap.size ∧ ∀ i r, acts[i]? = some r → ActAt w b (off + i * 2) r
theorem ok_i64 {x : Int} (h : (Lit.int .i64 x).wf = true) : i64ok x := by
  have := bounds_i64 h
  exact this
section
variable {H : Type} {enc : TypeId × Value → H} {w : World}
theorem cI : Tryd.prog.cellsOf 3 = 1 := by kernel_rfl
theorem cA : Tryd.prog.cellsOf 33 = 2 := by kernel_rfl
theorem src_of_cells {a : Addr} {xs : List Value} (h : ∀ j, j < xs.length → w.cell? (a.add j) = xs[j]?) : src w (some a) xs := fun h0 => by
  obtain ⟨b, off, spot⟩ := a
  have h1 := h 0 h0
  rw [List.getElem?_eq_getElem h0] at h1
  have hspot : spot = none := by simpa [Addr.add] using World.cell?_spot h1
  subst hspot
  refine ⟨b, off, rfl, ?_, fun j u hu => ?_⟩
  · rw [addr_add] at h1; exact World.block_lt_of_cell? _ _ h1
  · have hj := (List.getElem?_eq_some_iff.1 hu).1
    rw [← addr_add, h j hj]; exact hu
theorem open_is {fuel : Nat} {v : Value} {x : DataW H × List MemPlace} (h : DataW.trod enc Tryd.prog w 0 (fun _ => true) true fuel 38 [v] = some x) :
    ∃ (sp : Option Addr) (len cap : Nat) (l : List Int), v = .slice sp len cap ∧ IsAt w sp len l := by
  rcases open_ints Tryd.underlying38 Tryd.underlying3 cI h with ⟨hv, _⟩ | ⟨a, len, cap, zs, hv, _, hl, hm, hz, _, hc, hw⟩
  · cases hv
    exact ⟨none, 0, 0, [], rfl, rfl, by omega, src.nil _ _, by simp⟩
  · cases hv
    have hz' : zs.length = cap := by simpa using hz
    refine ⟨some a, len, cap, zs.take len, rfl, by simp [hz', hl], by unfold maxLen at hm; omega, src_of_cells fun j hj => ?_, fun x hx => ok_i64 (hw x (List.mem_of_mem_take hx))⟩
    have hj' : j < len := by simp [is] at hj; omega
    rw [hc j (by omega), is_get _ j (by simp; omega)]
    simp [List.getD_eq_getElem?_getD, hj']
theorem open_acts {fuel : Nat} {v : Value} {x : DataW H × List MemPlace} (h : DataW.trod enc Tryd.prog w 0 (fun _ => true) true fuel 22 [v] = some x) :
    ∃ (sp : Option Addr) (len cap : Nat) (acts : List ActR), v = .slice sp len cap ∧ ActsAt w sp len acts := by
  rcases Go.Deep.open_slice Tryd.underlying22 h with ⟨hv, _⟩ | ⟨a, len, cap, m, n, D, Pl, hv, _, hl, hm, hmm, _, hi⟩
  · cases hv
    exact ⟨none, 0, 0, [], rfl, rfl, by omega, fun h => absurd h (by omega)⟩
  · cases hv
    have hmc : m = cap := by simpa using hmm
    have key : ∀ i, i < len → ∃ r : ActR, (∀ j, j < 2 → w.cell? ((a.add (i * 2)).add j) = [Value.int .i64 r.what, .int .i64 r.id][j]?) ∧ i64ok r.what ∧ i64ok r.id := by
      intro i hil
      obtain ⟨cs', hcs, ht⟩ := hi i (by omega)
      rw [cA] at hcs
      obtain ⟨_, hlen, hcell⟩ := World.cells?_some hcs
      obtain ⟨xs, n', _, _, _, hxl, hf⟩ := DataW.trod_struct Tryd.underlying33 ht
      match cs', hlen with
      | [v0, v1], _ =>
        have hx2 : xs.length = 2 := hxl
        match xs, hx2 with
        | [y0, y1], _ =>
          have f0 := hf 0 _ rfl
          have f1 := hf 1 _ rfl
          change DataW.trod enc Tryd.prog w 0 (fun _ => true) true n' 3 (List.take (Tryd.prog.cellsOf 3) [v0, v1]) = some y0 at f0
          change DataW.trod enc Tryd.prog w 0 (fun _ => true) true n' 3 (List.take (Tryd.prog.cellsOf 3) [v1]) = some y1 at f1
          rw [cI] at f0 f1
          obtain ⟨a0, e0, _, w0⟩ := DataW.trod_int Tryd.underlying3 f0
          obtain ⟨a1, e1, _, w1⟩ := DataW.trod_int Tryd.underlying3 f1
          have e0' : v0 = .int .i64 a0 := (List.cons.inj (show [v0] = [Value.int .i64 a0] from e0)).1
          have e1' : v1 = .int .i64 a1 := (List.cons.inj (show [v1] = [Value.int .i64 a1] from e1)).1
          subst e0' e1'
          exact ⟨⟨a0, a1⟩, hcell, ok_i64 w0, ok_i64 w1⟩
    have : Inhabited ActR := ⟨⟨0, 0⟩⟩
    obtain ⟨R, hR⟩ := Go.Deep.choose_lt key
    refine ⟨some a, len, cap, (List.range len).map R, rfl, by simp, by unfold maxLen at hm; omega, fun h0 => ?_⟩
    obtain ⟨b, off, spot⟩ := a
    have h00 := (hR 0 h0).1 0 (by omega)
    rw [Go.Deep.add_add] at h00
    have hspot : spot = none := by simpa [Addr.add] using World.cell?_spot h00
    subst hspot
    rw [addr_add] at h00
    have hbl : b < w.heap.size := World.block_lt_of_cell? _ _ h00
    refine ⟨b, off, rfl, hbl, fun i r hr => ?_⟩
    have hil : i < len := by have := (List.getElem?_eq_some_iff.1 hr).1; simpa using this
    have hr' : R i = r := by simpa [hil] using hr
    subst hr'
    obtain ⟨hc, h0', h1'⟩ := hR i hil
    have ea : ∀ j, ((⟨b, off, none⟩ : Addr).add (i * 2)).add j = ⟨b, off + i * 2 + j, none⟩ := fun j => by rw [Go.Deep.add_add, addr_add]; congr 1; omega
    refine ⟨?_, ?_, h0', h1', hbl⟩
    · have := hc 0 (by omega); rw [ea] at this; exact this
    · have := hc 1 (by omega); rw [ea] at this; exact this
end
end Go.Proofs.YtefncefmolphfaaDoor.idFn
