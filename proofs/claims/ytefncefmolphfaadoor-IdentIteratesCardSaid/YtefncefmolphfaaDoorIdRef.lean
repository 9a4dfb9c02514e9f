/- What the reference's functions return. -/
import Derived.Test.YtefncefmolphfaaDoorIdHRound
import Derived.Laws.AppendOwnNone
import Derived.Maps.AppendAt
import Derived.Deep.LoopGhost
import Derived.Deep.Light
namespace Go.Proofs.YtefncefmolphfaaDoor.idFn
open Go.ChangeShapes Go.WideShapes Go.ChangeAt Go.RowKit drMem idBits
set_option linter.unusedVariables false

theorem infoB : (Tryd.prog.info? 4).map (fun i => (i.zero, i.size, i.bytes)) = some (some (.bool false), 1, 1) := by kernel_rfl
def bs (fl : List Bool) : List Value := fl.map Value.bool
theorem bs_len (fl : List Bool) : (bs fl).length = fl.length := by simp [bs]
theorem bs_one (fl : List Bool) : ∀ u ∈ bs fl, u.oneCell' = true := by intro u hu; obtain ⟨x, _, rfl⟩ := List.mem_map.1 hu; rfl
theorem bs_get (fl : List Bool) (j : Nat) (h : j < fl.length) : (bs fl)[j]? = some (.bool (fl.getD j false)) := by simp [bs, h, List.getD_eq_getElem?_getD]
theorem bs_set (fl : List Bool) (i : Nat) (x : Bool) : (bs fl).set i (.bool x) = bs (fl.set i x) := by simp [bs, List.map_set]
/- the reference's ids lie in block q, with room behind them -/
structure Rf (w : World) (q c : Nat) (fl : List Bool) : Prop where
  h : ∃ more, has w q 4 (bs fl ++ more)
  l1 : 1 ≤ fl.length
  l2 : fl.length ≤ 4096
section
variable {w w' W W' : World} {q c : Nat} {fl : List Bool}
theorem Rf.lt (h : Rf w q c fl) : q < w.heap.size := by obtain ⟨_, r⟩ := h.h; exact r.lt
theorem Rf.belowW (h : Rf w q c fl) (hb : Below w.heap.size w w') : Rf w' q c fl := ⟨h.h.imp fun _ x => x.below hb x.lt, h.l1, h.l2⟩
theorem Rf.drewN (h : Rf w q c fl) (n : Nat) : Rf (w.drewN n) q c fl := ⟨h.h.imp fun _ x => x.drewN n, h.l1, h.l2⟩
theorem Rf.grown {k : Nat} {t : TypeId} {cs : List Value} (h : Rf w q c fl) (hk : has w k t cs) (ht : t ≠ 4) (hg : w.grownBy w' (some k)) : Rf w' q c fl :=
  ⟨h.h.imp fun _ x => x.grown hg (by simpa using Ne.symm (hk.ne x ht)), h.l1, h.l2⟩
theorem Rf.cell (h : Rf w q c fl) (j : Nat) (hj : j < fl.length) : w.cell? ⟨q, j, none⟩ = some (.bool (fl.getD j false)) := by
  obtain ⟨_, r⟩ := h.h
  rw [r.cell, List.getElem?_append_left (by rw [bs_len]; exact hj), bs_get _ _ hj]
theorem Rf.src (h : Rf w q c fl) : src w (some ⟨q, 0, none⟩) (bs fl) := fun _ => by
  obtain ⟨_, r⟩ := h.h
  exact ⟨q, 0, rfl, r.lt, fun j u hu => by rw [Nat.zero_add, r.cell, List.getElem?_append_left (List.getElem?_eq_some_iff.1 hu).1]; exact hu⟩
end
def rnPost (m : Nat) (w : World) (e : Ending) (w' : World) : Prop := ∃ q c, e = .returned (.tuple #[.slice (some ⟨q, 0, none⟩) m c, .int .i64 0]) ∧ Rf w' q c (List.replicate m false) ∧ w.heap.size ≤ q ∧ Below w.heap.size w w'
theorem rNew_bad (m : Int) (w : World) (hm : m < 1 ∨ 4096 < m) : Calls Tryd.prog 10 #[.int .i64 m] w fun e w' => e = .returned (.tuple #[.slice none 0 0, .int .i64 2]) ∧ w = w' := by
  by_cases h1 : m < 1
  · clear hm
    go_enter Tryd.func10, Tryd.ntmps10
    go_wp2
    go_ret2
    exact ⟨rfl, rfl⟩
  · have h2 : 4096 < m := by omega
    clear hm
    go_enter Tryd.func10, Tryd.ntmps10
    go_wp2
    go_ret2
    exact ⟨rfl, rfl⟩
theorem rNew_ok (m : Nat) (w : World) (h1 : 1 ≤ m) (h2 : m ≤ 4096) : Calls Tryd.prog 10 #[.int .i64 (m : Int)] w (rnPost m w) := by
  have hmk := fun W => run_make_row' (P := Tryd.prog) 29 4 (.bool false) 1 Tryd.underlying29 infoB rfl .i64 .i64 m (by omega) (by omega) W
  have d1 : decide ((m : Int) < 1) = false := by simp; omega
  have d2 : decide (4096 < (m : Int)) = false := by simp; omega
  go_enter Tryd.func10, Tryd.ntmps10
  go_wp2
  go_ret2
  refine ⟨w.heap.size, m, rfl, ⟨⟨[], ?_⟩, by simpa using h1, by simpa using h2⟩, Nat.le_refl _, (Below.refl _ _).alloc (Nat.le_refl _) _⟩
  have h := has.new w 4 (bs (List.replicate m false))
  have e : bs (List.replicate m false) = List.replicate m (.bool false) := by simp [bs]
  rw [List.append_nil, made_list]
  rw [e] at h ⊢
  exact h
def rwPost (n : Nat) (fl' : List Bool) (w : World) (e : Ending) (w' : World) : Prop := ∃ q c, e = .returned (.slice (some ⟨q, 0, none⟩) n c) ∧ Rf w' q c fl' ∧ w.heap.size ≤ q ∧ Below w.heap.size w w'
set_option maxHeartbeats 1000000 in
theorem rWith (q c n : Nat) (fl : List Bool) (k : Nat) (v : Bool) (w : World) (h : Rf w q c fl) (hn : fl.length = n) (hk : k < n) :
    Calls Tryd.prog 38 #[.slice (some ⟨q, 0, none⟩) n c, .int .i64 ((k : Int) + 1), .bool v] w (rwPost n (fl.set k v) w) := by
  obtain ⟨i0, hi, hz0, hz1, hz2⟩ := info_parts infoB
  have hl1 := h.l1
  have hl2 := h.l2
  have H := Lib.hid h
  have HN := Lib.hid hn
  rw [hn] at hl1 hl2
  clear h hn
  go_enter Tryd.func38, Tryd.ntmps38
  go_wp2_with (at_builtin; refine wpList_append_own _ rfl _ _ 29 rfl w.heap.size 4 i0 (.bool false) 1 1 Tryd.underlying29 hi hz0 hz1 hz2 rfl (by decide) _ 0 [] rfl (World.ownsRow_nil _ _ _ _) ⟨q, 0, none⟩ n c (bs fl) rfl ?qc1 ?qc2 (bs_one fl) ?qc4 ?qc5 ?qc6 ?_)
  case qc1 => rw [bs_len, HN.out, Nat.mul_one]
  case qc2 =>
    intro j u hj
    have hjn := (List.getElem?_eq_some_iff.1 hj).1
    rw [addr_add, Nat.zero_add]
    rw [bs_len] at hjn
    rw [H.out.cell j hjn]
    rw [bs_get _ _ hjn] at hj
    exact hj
  case qc4 => unfold maxLen; omega
  case qc5 => omega
  case qc6 => exact Nat.le_refl _
  intro v' w1 hown hgrow hnil
  have hown2 : w1.ownsRow w.heap.size 4 1 v' n (bs fl) := by simpa using hown
  obtain ⟨g', cap', more', rfl, hh, hbg⟩ := own_has hown2 (by omega)
  have hb : Below w.heap.size w w1 := (Below.refl _ w).grown hgrow (Nat.le_refl _) (by intro k hk; simp [Value.ownBlock] at hk)
  have x1 := hh.free k
  have x0 : w1.cell? ⟨g', k, none⟩ = some (.bool (fl.getD k false)) := by rw [hh.cell, List.getElem?_append_left (by rw [bs_len, HN.out]; exact hk), bs_get _ _ (by rw [HN.out]; exact hk)]
  have hp := hh.put k (.bool v)
  rw [List.set_append_left _ _ (by rw [bs_len, HN.out]; exact hk), bs_set] at hp
  have HP := Lib.hid hp
  have B := Lib.hid (hb.setCell (p := ⟨g', k, none⟩) hbg (.bool v))
  have e1 : IntKind.i64.wrap ((k : Int) + 1 - 1) = (k : Int) := IntWalk.i64_in _ (by omega) |>.trans (by omega)
  clear hown hown2 hgrow hnil hh hb hp
  go_wp2
  go_ret
  exact ⟨g', cap', rfl, ⟨⟨more', HP.out⟩, by rw [List.length_set, HN.out]; exact hl1, by rw [List.length_set, HN.out]; exact hl2⟩, hbg, B.out⟩
end Go.Proofs.YtefncefmolphfaaDoor.idFn
