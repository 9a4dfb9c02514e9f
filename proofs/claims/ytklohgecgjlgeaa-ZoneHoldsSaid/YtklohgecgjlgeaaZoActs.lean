/- The calls that come in: what a slice of acts holds. -/
import Derived.Test.YtklohgecgjlgeaaZoOps
import Derived.Deep.Slices
import Derived.Deep.Fields
import Derived.ChangeSlices
namespace Go.Proofs.Ytklohgecgjlgeaa.zoFn
open Go.ChangeShapes Go.WideShapes Go.ChangeAt Go.RowKit drMem
set_option linter.unusedVariables false

structure ActR where
  what : Int
  n : Int
  many : Int
  list : List Int
  sp : Option Addr
  cap : Nat
structure ActAt (w : World) (b o : Nat) (r : ActR) : Prop where
  c0 : w.cell? ⟨b, o, none⟩ = some (.int .i64 r.what)
  c1 : w.cell? ⟨b, o + 1, none⟩ = some (.int .i64 r.n)
  c2 : w.cell? ⟨b, o + 2, none⟩ = some (.int .i64 r.many)
  c3 : w.cell? ⟨b, o + 3, none⟩ = some (.slice r.sp r.list.length r.cap)
  s : src w r.sp (is r.list)
  h0 : i64ok r.what
  h1 : i64ok r.n
  h2 : i64ok r.many
  hl : r.list.length ≤ 9223372036854775807
  lw : ∀ x ∈ r.list, i64ok x
  lt : b < w.heap.size
  nc : r.sp = none → r.cap = 0
structure ActsAt (w : World) (sp : Option Addr) (len : Nat) (acts : List ActR) : Prop where
  n : acts.length = len
  m : len ≤ 9223372036854775807
  c : 0 < len → ∃ b off, sp = some ⟨b, off, none⟩ ∧ b < w.heap.size ∧ ∀ i r, acts[i]? = some r → ActAt w b (off + i * 4) r
theorem ok_i64 {x : Int} (h : (Lit.int .i64 x).wf = true) : i64ok x := by
  have := bounds_i64 h
  exact this
section
variable {H : Type} {enc : TypeId × Value → H} {w : World}
theorem cI : Try.prog.cellsOf 3 = 1 := by kernel_rfl
theorem cS : Try.prog.cellsOf 35 = 1 := by kernel_rfl
theorem cA : Try.prog.cellsOf 51 = 4 := by kernel_rfl

theorem src_of_cells {a : Addr} {xs : List Value} (h : ∀ j, j < xs.length → w.cell? (a.add j) = xs[j]?) : src w (some a) xs := fun h0 => by
  obtain ⟨b, off, spot⟩ := a
  have h1 := h 0 h0
  rw [List.getElem?_eq_getElem h0] at h1
  have hspot : spot = none := by simpa [Addr.add] using World.cell?_spot h1
  subst hspot
  refine ⟨b, off, rfl, ?_, fun j u hu => ?_⟩
  · rw [addr_add] at h1; exact World.block_lt_of_cell? _ _ h1
  · have hj := (List.getElem?_eq_some_iff.1 hu).1
    rw [← addr_add, h j hj]; exact hu

theorem open_list {fuel : Nat} {v : Value} {x : DataW H × List MemPlace} (h : DataW.trod enc Try.prog w 0 (fun _ => true) true fuel 35 [v] = some x) :
    ∃ (sp : Option Addr) (cap : Nat) (zs : List Int), v = .slice sp zs.length cap ∧ src w sp (is zs) ∧ zs.length ≤ 9223372036854775807 ∧ (∀ x ∈ zs, i64ok x) ∧ (sp = none → cap = 0) := by
  rcases open_ints Try.underlying35 Try.underlying3 cI h with ⟨hv, _⟩ | ⟨a, len, cap, zs, hv, _, hl, hm, hz, _, hc, hw⟩
  · cases hv
    exact ⟨none, 0, [], rfl, src.nil _ _, by simp, by simp, fun _ => rfl⟩
  · cases hv
    have hz' : zs.length = cap := by simpa using hz
    refine ⟨some a, cap, zs.take len, by simp [hz', hl], src_of_cells fun j hj => ?_, by unfold maxLen at hm; simp; omega, fun x hx => ok_i64 (hw x (List.mem_of_mem_take hx)), by simp⟩
    have hj' : j < len := by simp [is] at hj; omega
    rw [hc j (by omega), is_get _ j (by simp; omega)]
    simp [List.getD_eq_getElem?_getD, hj']

theorem open_acts {fuel : Nat} {v : Value} {x : DataW H × List MemPlace} (h : DataW.trod enc Try.prog w 0 (fun _ => true) true fuel 48 [v] = some x) :
    ∃ (sp : Option Addr) (len cap : Nat) (acts : List ActR), v = .slice sp len cap ∧ ActsAt w sp len acts := by
  rcases Go.Deep.open_slice Try.underlying48 h with ⟨hv, _⟩ | ⟨a, len, cap, m, n, D, Pl, hv, _, hl, hm, hmm, _, hi⟩
  · cases hv
    exact ⟨none, 0, 0, [], rfl, rfl, by omega, fun h => absurd h (by omega)⟩
  · cases hv
    have hmc : m = cap := by simpa using hmm
    have key : ∀ i, i < len → ∃ r : ActR, (∀ j, j < 4 → w.cell? ((a.add (i * 4)).add j) = [Value.int .i64 r.what, .int .i64 r.n, .int .i64 r.many, .slice r.sp r.list.length r.cap][j]?) ∧ src w r.sp (is r.list) ∧ i64ok r.what ∧ i64ok r.n ∧ i64ok r.many ∧ r.list.length ≤ 9223372036854775807 ∧ (∀ x ∈ r.list, i64ok x) ∧ (r.sp = none → r.cap = 0) := by
      intro i hil
      obtain ⟨cs', hcs, ht⟩ := hi i (by omega)
      rw [cA] at hcs
      obtain ⟨_, hlen, hcell⟩ := World.cells?_some hcs
      obtain ⟨xs, n', _, _, _, hxl, hf⟩ := DataW.trod_struct Try.underlying51 ht
      match cs', hlen with
      | [v0, v1, v2, v3], _ =>
        have hx4 : xs.length = 4 := hxl
        match xs, hx4 with
        | [y0, y1, y2, y3], _ =>
          have f0 := hf 0 _ rfl
          have f1 := hf 1 _ rfl
          have f2 := hf 2 _ rfl
          have f3 := hf 3 _ rfl
          change DataW.trod enc Try.prog w 0 (fun _ => true) true n' 3 (List.take (Try.prog.cellsOf 3) [v0, v1, v2, v3]) = some y0 at f0
          change DataW.trod enc Try.prog w 0 (fun _ => true) true n' 3 (List.take (Try.prog.cellsOf 3) [v1, v2, v3]) = some y1 at f1
          change DataW.trod enc Try.prog w 0 (fun _ => true) true n' 3 (List.take (Try.prog.cellsOf 3) [v2, v3]) = some y2 at f2
          change DataW.trod enc Try.prog w 0 (fun _ => true) true n' 35 (List.take (Try.prog.cellsOf 35) [v3]) = some y3 at f3
          rw [cI] at f0 f1 f2
          rw [cS] at f3
          obtain ⟨a0, e0, _, w0⟩ := DataW.trod_int Try.underlying3 f0
          obtain ⟨a1, e1, _, w1⟩ := DataW.trod_int Try.underlying3 f1
          obtain ⟨a2, e2, _, w2⟩ := DataW.trod_int Try.underlying3 f2
          obtain ⟨sp, c3, zs, e3, hs, hz, hzw, hzn⟩ := open_list f3
          have e0' : v0 = .int .i64 a0 := (List.cons.inj (show [v0] = [Value.int .i64 a0] from e0)).1
          have e1' : v1 = .int .i64 a1 := (List.cons.inj (show [v1] = [Value.int .i64 a1] from e1)).1
          have e2' : v2 = .int .i64 a2 := (List.cons.inj (show [v2] = [Value.int .i64 a2] from e2)).1
          subst e0' e1' e2' e3
          exact ⟨⟨a0, a1, a2, zs, sp, c3⟩, hcell, hs, ok_i64 w0, ok_i64 w1, ok_i64 w2, hz, hzw, hzn⟩
    have : Inhabited ActR := ⟨⟨0, 0, 0, [], none, 0⟩⟩
    obtain ⟨R, hR⟩ := Go.Deep.choose_lt key
    refine ⟨some a, len, cap, (List.range len).map R, rfl, by simp, by unfold maxLen at hm; omega, fun h0 => ?_⟩
    obtain ⟨b, off, spot⟩ := a
    have h00 := (hR 0 h0).1 0 (by omega)
    rw [Go.Deep.add_add] at h00
    have hspot : spot = none := by simpa [Addr.add] using World.cell?_spot h00
    subst hspot
    rw [addr_add] at h00
    have hbl : b < w.heap.size := World.block_lt_of_cell? _ _ h00
    refine ⟨b, off, rfl, hbl, fun i r hr => ?_⟩
    have hil : i < len := by have := (List.getElem?_eq_some_iff.1 hr).1; simpa using this
    have hr' : R i = r := by simpa [hil] using hr
    subst hr'
    obtain ⟨hc, hs, h0', h1', h2', hl', hw', hn'⟩ := hR i hil
    have ea : ∀ j, ((⟨b, off, none⟩ : Addr).add (i * 4)).add j = ⟨b, off + i * 4 + j, none⟩ := fun j => by rw [Go.Deep.add_add, addr_add]; congr 1; omega
    refine ⟨?_, ?_, ?_, ?_, hs, h0', h1', h2', hl', hw', hbl, hn'⟩
    · have := hc 0 (by omega); rw [ea] at this; exact this
    · have := hc 1 (by omega); rw [ea] at this; exact this
    · have := hc 2 (by omega); rw [ea] at this; exact this
    · have := hc 3 (by omega); rw [ea] at this; exact this
end
end Go.Proofs.Ytklohgecgjlgeaa.zoFn
