/- Lists of effects in memory: what a slice of effects holds. -/
import Derived.Test.YtlhnnjllbcglcaaGreatDoorEfValid
import Derived.Deep.Slices
import Derived.Deep.Fields
import Derived.ChangeSlices
namespace Go.Proofs.YtlhnnjllbcglcaaGreatDoor.efFn
open Go.ChangeShapes Go.WideShapes Go.ChangeAt Go.RowKit drMem
set_option linter.unusedVariables false

/- an effect as data -/
structure Ef where
  c : Int
  t : Int
  n : Int
  m : Int
  k : Int
deriving DecidableEq
abbrev Ef.v (e : Ef) : Value := eV e.c e.t e.n e.m e.k
abbrev Ef.l (e : Ef) : List Value := eL e.c e.t e.n e.m e.k
abbrev Ef.ok (e : Ef) : Bool := okE e.c e.t e.n e.m e.k
instance : Inhabited Ef := ⟨⟨0, 0, 0, 0, 0⟩⟩
/- all effects of a list, one behind another -/
def efC (l : List Ef) : List Value := l.flatMap Ef.l
theorem efC_len (l : List Ef) : (efC l).length = 5 * l.length := by
  induction l with
  | nil => rfl
  | cons a r ih => simp only [efC, List.flatMap_cons, List.length_append, List.length_cons] at *; simp at *; omega
theorem efC_app (a b : List Ef) : efC (a ++ b) = efC a ++ efC b := by simp [efC]
theorem efC_get (l : List Ef) (i j : Nat) (e : Ef) (h : l[i]? = some e) (hj : j < 5) : (efC l)[i * 5 + j]? = e.l[j]? := by
  induction l generalizing i with
  | nil => simp at h
  | cons a r ih =>
    have ea : efC (a :: r) = a.l ++ efC r := by simp [efC]
    have hl : a.l.length = 5 := rfl
    rw [ea]
    cases i with
    | zero =>
      simp at h
      subst h
      rw [List.getElem?_append_left (by omega)]
      simp
    | succ i =>
      rw [List.getElem?_append_right (by omega), hl]
      rw [show (i + 1) * 5 + j - 5 = i * 5 + j by omega]
      exact ih i (by simpa using h)
structure EfAt (w : World) (b o : Nat) (e : Ef) : Prop where
  c0 : w.cell? ⟨b, o, none⟩ = some (.int .i64 e.c)
  c1 : w.cell? ⟨b, o + 1, none⟩ = some (.int .i64 e.t)
  c2 : w.cell? ⟨b, o + 2, none⟩ = some (.int .i64 e.n)
  c3 : w.cell? ⟨b, o + 3, none⟩ = some (.int .i64 e.m)
  c4 : w.cell? ⟨b, o + 4, none⟩ = some (.int .i64 e.k)
def i64ok (x : Int) : Prop := -9223372036854775808 ≤ x ∧ x ≤ 9223372036854775807
structure Ef.wf (e : Ef) : Prop where
  h0 : i64ok e.c
  h1 : i64ok e.t
  h2 : i64ok e.n
  h3 : i64ok e.m
  h4 : i64ok e.k
structure EfsAt (w : World) (sp : Option Addr) (len : Nat) (l : List Ef) : Prop where
  n : l.length = len
  m : len ≤ 9223372036854775807
  c : 0 < len → ∃ b off, sp = some ⟨b, off, none⟩ ∧ b < w.heap.size ∧ ∀ i e, l[i]? = some e → EfAt w b (off + i * 5) e
  v : ∀ e ∈ l, e.wf
section
variable {w w' : World} {b o : Nat} {e : Ef} {sp : Option Addr} {len : Nat} {l : List Ef}
theorem EfAt.below {B : Nat} (h : EfAt w b o e) (hb : Below B w w') (hg : b < B) : EfAt w' b o e :=
  ⟨(hb.cell (p := ⟨b, _, none⟩) hg).trans h.c0, (hb.cell (p := ⟨b, _, none⟩) hg).trans h.c1, (hb.cell (p := ⟨b, _, none⟩) hg).trans h.c2, (hb.cell (p := ⟨b, _, none⟩) hg).trans h.c3, (hb.cell (p := ⟨b, _, none⟩) hg).trans h.c4⟩
theorem EfsAt.below {B : Nat} (h : EfsAt w sp len l) (hb : Below B w w') (hs : w.heap.size ≤ B) : EfsAt w' sp len l :=
  ⟨h.n, h.m, fun h0 => by
    obtain ⟨b, off, e, hl, hc⟩ := h.c h0
    exact ⟨b, off, e, by have := hb.size; omega, fun i x hx => (hc i x hx).below hb (by omega)⟩, h.v⟩
theorem EfsAt.nil (w : World) (sp : Option Addr) : EfsAt w sp 0 [] := ⟨rfl, by omega, fun h => absurd h (by omega), by simp⟩
theorem EfsAt.of_src (h : src w sp (efC l)) (hv : ∀ e ∈ l, e.wf) (hm : l.length ≤ 9223372036854775807) : EfsAt w sp l.length l :=
  ⟨rfl, hm, fun h0 => by
    obtain ⟨b, off, e, hl, hc⟩ := h (by rw [efC_len]; omega)
    refine ⟨b, off, e, hl, fun i x hx => ?_⟩
    have g := fun j hj => efC_get l i j x hx hj
    have k := fun j u (h1 : j < 5) (h2 : x.l[j]? = some u) => hc (i * 5 + j) u ((g j h1).trans h2)
    exact ⟨by simpa using k 0 _ (by omega) rfl, by simpa [Nat.add_assoc] using k 1 _ (by omega) rfl, by simpa [Nat.add_assoc] using k 2 _ (by omega) rfl, by simpa [Nat.add_assoc] using k 3 _ (by omega) rfl, by simpa [Nat.add_assoc] using k 4 _ (by omega) rfl⟩, hv⟩
end
theorem ok_i64 {x : Int} (h : (Lit.int .i64 x).wf = true) : i64ok x := by
  have := bounds_i64 h
  exact this
section
variable {H : Type} {enc : TypeId × Value → H} {w : World}
theorem cI : Tryz.prog.cellsOf 3 = 1 := by kernel_rfl
theorem cC : Tryz.prog.cellsOf 48 = 1 := by kernel_rfl
theorem cT : Tryz.prog.cellsOf 49 = 1 := by kernel_rfl
theorem cK : Tryz.prog.cellsOf 27 = 1 := by kernel_rfl
theorem cE : Tryz.prog.cellsOf 51 = 5 := by kernel_rfl
theorem ef_cells {fuel : Nat} {v0 v1 v2 v3 v4 : Value} {x : DataW H × List MemPlace} (h : DataW.trod enc Tryz.prog w 0 (fun _ => true) true fuel 51 [v0, v1, v2, v3, v4] = some x) :
    ∃ e : Ef, [v0, v1, v2, v3, v4] = e.l ∧ e.wf := by
  obtain ⟨xs, n', _, _, _, hxl, hf⟩ := DataW.trod_struct Tryz.underlying51 h
  have hx5 : xs.length = 5 := hxl
  match xs, hx5 with
  | [y0, y1, y2, y3, y4], _ =>
    have f0 := hf 0 _ rfl
    have f1 := hf 1 _ rfl
    have f2 := hf 2 _ rfl
    have f3 := hf 3 _ rfl
    have f4 := hf 4 _ rfl
    change DataW.trod enc Tryz.prog w 0 (fun _ => true) true n' 48 (List.take (Tryz.prog.cellsOf 48) [v0, v1, v2, v3, v4]) = some y0 at f0
    change DataW.trod enc Tryz.prog w 0 (fun _ => true) true n' 49 (List.take (Tryz.prog.cellsOf 49) [v1, v2, v3, v4]) = some y1 at f1
    change DataW.trod enc Tryz.prog w 0 (fun _ => true) true n' 3 (List.take (Tryz.prog.cellsOf 3) [v2, v3, v4]) = some y2 at f2
    change DataW.trod enc Tryz.prog w 0 (fun _ => true) true n' 3 (List.take (Tryz.prog.cellsOf 3) [v3, v4]) = some y3 at f3
    change DataW.trod enc Tryz.prog w 0 (fun _ => true) true n' 27 (List.take (Tryz.prog.cellsOf 27) [v4]) = some y4 at f4
    rw [cI] at f2 f3
    rw [cC] at f0
    rw [cT] at f1
    rw [cK] at f4
    obtain ⟨a0, e0, _, w0⟩ := DataW.trod_int Tryz.underlying48 f0
    obtain ⟨a1, e1, _, w1⟩ := DataW.trod_int Tryz.underlying49 f1
    obtain ⟨a2, e2, _, w2⟩ := DataW.trod_int Tryz.underlying3 f2
    obtain ⟨a3, e3, _, w3⟩ := DataW.trod_int Tryz.underlying3 f3
    obtain ⟨a4, e4, _, w4⟩ := DataW.trod_int Tryz.underlying27 f4
    have e0' : v0 = .int .i64 a0 := (List.cons.inj (show [v0] = [Value.int .i64 a0] from e0)).1
    have e1' : v1 = .int .i64 a1 := (List.cons.inj (show [v1] = [Value.int .i64 a1] from e1)).1
    have e2' : v2 = .int .i64 a2 := (List.cons.inj (show [v2] = [Value.int .i64 a2] from e2)).1
    have e3' : v3 = .int .i64 a3 := (List.cons.inj (show [v3] = [Value.int .i64 a3] from e3)).1
    have e4' : v4 = .int .i64 a4 := (List.cons.inj (show [v4] = [Value.int .i64 a4] from e4)).1
    subst e0' e1' e2' e3' e4'
    exact ⟨⟨a0, a1, a2, a3, a4⟩, rfl, ok_i64 w0, ok_i64 w1, ok_i64 w2, ok_i64 w3, ok_i64 w4⟩
theorem open_efs {fuel : Nat} {v : Value} {x : DataW H × List MemPlace} (h : DataW.trod enc Tryz.prog w 0 (fun _ => true) true fuel 29 [v] = some x) :
    ∃ (sp : Option Addr) (len cap : Nat) (l : List Ef), v = .slice sp len cap ∧ EfsAt w sp len l := by
  rcases Go.Deep.open_slice Tryz.underlying29 h with ⟨hv, _⟩ | ⟨a, len, cap, m, n, D, Pl, hv, _, hl, hm, hmm, _, hi⟩
  · cases hv
    exact ⟨none, 0, 0, [], rfl, EfsAt.nil _ _⟩
  · cases hv
    have hmc : m = cap := by simpa using hmm
    have key : ∀ i, i < len → ∃ r : Ef, (∀ j, j < 5 → w.cell? ((a.add (i * 5)).add j) = r.l[j]?) ∧ r.wf := by
      intro i hil
      obtain ⟨cs', hcs, ht⟩ := hi i (by omega)
      rw [cE] at hcs
      obtain ⟨_, hlen, hcell⟩ := World.cells?_some hcs
      match cs', hlen with
      | [v0, v1, v2, v3, v4], _ =>
        obtain ⟨e, he, hw⟩ := ef_cells ht
        rw [he] at hcell
        exact ⟨e, hcell, hw⟩
    obtain ⟨R, hR⟩ := Go.Deep.choose_lt key
    refine ⟨some a, len, cap, (List.range len).map R, rfl, by simp, by unfold maxLen at hm; omega, fun h0 => ?_, fun e he => ?_⟩
    · obtain ⟨b, off, spot⟩ := a
      have h00 := (hR 0 h0).1 0 (by omega)
      rw [Go.Deep.add_add] at h00
      have hspot : spot = none := by simpa [Addr.add] using World.cell?_spot h00
      subst hspot
      rw [addr_add] at h00
      have hbl : b < w.heap.size := World.block_lt_of_cell? _ _ h00
      refine ⟨b, off, rfl, hbl, fun i r hr => ?_⟩
      have hil : i < len := by have := (List.getElem?_eq_some_iff.1 hr).1; simpa using this
      have hr' : R i = r := by simpa [hil] using hr
      subst hr'
      obtain ⟨hc, hw⟩ := hR i hil
      have ea : ∀ j, ((⟨b, off, none⟩ : Addr).add (i * 5)).add j = ⟨b, off + i * 5 + j, none⟩ := fun j => by rw [Go.Deep.add_add, addr_add]; congr 1; omega
      refine ⟨?_, ?_, ?_, ?_, ?_⟩
      · have := hc 0 (by omega); rw [ea] at this; exact this
      · have := hc 1 (by omega); rw [ea] at this; exact this
      · have := hc 2 (by omega); rw [ea] at this; exact this
      · have := hc 3 (by omega); rw [ea] at this; exact this
      · have := hc 4 (by omega); rw [ea] at this; exact this
    · obtain ⟨i, hi', rfl⟩ := List.mem_map.1 he
      exact (hR i (by simpa using hi')).2
end
end Go.Proofs.YtlhnnjllbcglcaaGreatDoor.efFn
