/- What the law's helper all returns. -/
import Derived.Test.YtefncefmolphfaaDoorIdIter
import Derived.Test.YtefncefmolphfaaDoorIdSame
namespace Go.Proofs.YtefncefmolphfaaDoor.idFn
open Go.ChangeShapes Go.WideShapes Go.ChangeAt Go.RowKit Go.Shelf drMem idBits
set_option linter.unusedVariables false
attribute [local go_sem] Oper.semAt_some
variable {w w' : World} {b g : Nat} {fl : List Bool}

theorem seq_stops (n : Nat) (hn : 1 ≤ n) (q b g n₀ : Nat) (fl : List Bool) (w : World) (hq : q < n₀) (hb : b < n₀) (hg : g < n₀) (hn₀ : n₀ ≤ w.heap.size) (hc : w.cell? ⟨q, 0, none⟩ = some (.pointer (some ⟨b, 0, none⟩))) (hI : isI w b g fl) :
    SeqStopsK Fence.wide n Tryd.prog 33 #[.pointer (some ⟨q, 0, none⟩)] (fun x : Int => #[Value.int .i64 x]) (Below n₀) (fun ys => ys = ids fl fl.length) (fun pre => pre <+: ids fl fl.length) fl.length w := fun l J Jx W hW hJ _ hY h0 => by
  refine seq_in n hn l q b g n₀ fl hq hb hg J Jx (fun pre A m hA => hJ pre A _ none hA ⟨rfl, rfl, rfl, Nat.le_refl _, fun _ _ _ => rfl⟩ (by simp)) hY W ((hW.cell (p := ⟨q, 0, none⟩) (by show q < _; omega)).trans hc) (hI.below hW (by omega) (by omega)) h0
/- an own row, as a slice whose cells are known -/
theorem own_form {w : World} {base n : Nat} {t : TypeId} {v : Value} {xs : List Value} (h : w.ownsRow base t 1 v n xs) :
    ∃ sv cv, v = .slice sv n cv ∧ src w sv xs ∧ (sv = none → n = 0 ∧ cv = 0) ∧ ∀ a, sv = some a → base ≤ a.block := by
  have hl := h.1
  rcases h.2 with ⟨h2, h3⟩ | ⟨g, cap, cur, h2, hbg, _⟩
  · refine ⟨none, 0, by rw [h2, h3], ?_, fun _ => ⟨h3, rfl⟩, by simp⟩
    intro h4; omega
  · refine ⟨some ⟨g, 0, none⟩, cap, h2, ?_, by simp, by rintro a ⟨⟩; exact hbg⟩
    intro h4
    subst h2
    refine ⟨g, 0, rfl, h.lt g rfl |>.2, ?_⟩
    intro j u hu
    have hj := (List.getElem?_eq_some_iff.1 hu).1
    rw [Nat.zero_add, h.cellAt j (by omega)]; exact hu
theorem infoI : (Tryd.prog.info? 3).map (fun i => (i.zero, i.size, i.bytes)) = some (some (.int .i64 0), 1, 8) := by kernel_rfl
theorem func_nil (f : Fn) (lb : Array Value) (w : World) : (binOp .eql 46 (.func f #[] lb) .nilFunc).run Tryd.prog w = .ok (.bool false) w := by kernel_rfl
def boolB (x : Bool) (w : World) (e : Ending) (w' : World) : Prop := e = .returned (.bool x) ∧ Below w.heap.size w w'
set_option maxRecDepth 100000 in
set_option maxHeartbeats 2000000 in
theorem all_any (h : isI w b g fl) (s2 : Option Addr) (n2 c2 : Nat) (want : List Int) (h2 : src w s2 (is want)) (l2 : want.length = n2) (m2 : n2 ≤ 9223372036854775807) :
    Calls Tryd.prog 21 #[.pointer (some ⟨b, 0, none⟩), .slice s2 n2 c2] w (boolB (sameB (ids fl fl.length) want) w) := by
  obtain ⟨i0, hi, hz0, hz1, hz2⟩ := info_parts infoI
  have hl2 := h.l2
  have qf := func_nil
  have HA := Lib.hid (All_any h)
  have H2 := Lib.hid h2
  have L2 := Lib.hid l2
  clear h h2 l2
  refine (callsIn_wide (n := 4)).1 ?_
  refine callsIn_of_wp_marks Tryd.func21 rfl trivial ?_ rfl
  simp only [Tryd.ntmps21, List.size_toArray, List.length_cons, List.length_nil, Nat.reduceAdd, Nat.reduceSub, Array.replicate_succ, Array.replicate_zero, List.push_toArray, List.append_toArray, List.nil_append, List.cons_append]
  gi_wp2_with (refine ⟨trivial, ?_⟩; gi_at_call 18; refine (callsIn_wide.2 HA.out).mono ?_; rintro e w1 ⟨q, b', g', rfl, hc, hI, hq1, hb1, hg1, hq2, hB1⟩; have HI := Lib.hid hI; have B1 := Lib.hid hB1; have HC := Lib.hid hc; clear hI hB1 hc)
  have bO := Boxed.new w1 38 (.slice none 0 0)
  have hBA : Below w1.heap.size w1 (w1.alloc (.cells #[.slice none 0 0] 38)) := (Below.refl _ w1).alloc (Nat.le_refl _) _
  have hI2 := HI.out.belowW hBA
  have hc2 : (w1.alloc (.cells #[.slice none 0 0] 38)).cell? ⟨q, 0, none⟩ = some (.pointer (some ⟨b', 0, none⟩)) := (hBA.cell (p := ⟨q, 0, none⟩) hq2).trans HC.out
  refine wpIn_rangeFunc_ownG rfl (by omega) (gf := 33) (lb := #[.pointer (some ⟨q, 0, none⟩)]) rfl trivial (enters_of Tryd.func33 (by kernel_rfl) rfl)
    (seq_stops 3 (by omega) q b' g' w1.heap.size fl _ hq2 HI.out.blt HI.out.glt (by simp) hc2 hI2) belowK_t (belowK_b (by simp)) (Below.refl _ _) (fun _ => rfl)
    (fun pre W => (∃ v, Boxed W w1.heap.size 38 v ∧ W.ownsRow w1.heap.size 3 1 v pre.length (pre.map (Value.int .i64)) ∧ True) ∧ Below w1.heap.size w1 W)
    (fun _ _ _ => False)
    (OwnFrom.and (Own.from (holdsRow_own w1.heap.size w1.heap.size 38 3 1 (fun pre : List Int => pre.length) (fun pre : List Int => pre.map (Value.int .i64)) (fun _ _ => True)) _) (ownFrom_below (Nat.le_refl _) (by simp)))
    (fun _ _ _ _ _ hs _ _ => hs)
    ⟨⟨_, bO, World.ownsRow_nil _ _ _ _, trivial⟩, hBA⟩
    (fun x => { tmps := #[.pointer (some ⟨b, 0, none⟩), .slice s2 n2 c2, undef, undef, .bool false, .func (.func 33) #[] #[.pointer (some ⟨q, 0, none⟩)], .pointer (some ⟨w1.heap.size, 0, none⟩), .int .i64 x, .pointer (some ⟨b, 0, none⟩), .func (.func 33) #[] #[.pointer (some ⟨q, 0, none⟩)], .func (.func 33) #[] #[.pointer (some ⟨q, 0, none⟩)], .bool false, .func (.func 33) #[] #[.pointer (some ⟨q, 0, none⟩)], .int .i64 x, undef, undef, undef, undef, undef, undef, undef], defers := [] }) ?assign ?body ?done ?stop
  case assign =>
    intro l x W K hK
    gi_wp2
    exact hK
  case body =>
    rintro l pre x W ⟨⟨v, hv, hrow, _⟩, hB⟩ hlt
    have hc := hv.cell
    gi_wp2_with (gi_at_builtin; refine wpListIn_append_own _ rfl _ _ 38 rfl w1.heap.size 3 i0 (.int .i64 0) 1 8 Tryd.underlying38 hi hz0 hz1 hz2 rfl (by decide) _ _ _ rfl (hrow.alloc _) ⟨W.heap.size, 0, none⟩ 1 1 [.int .i64 x] rfl rfl (cell_one_new _ _ _) (by simp [Value.oneCell']) (by unfold maxLen; omega) (by omega) (by have := hB.size; simp; omega) ?_; intro v' w2 hown' hgrow _; obtain ⟨gg, cap', rfl⟩ := ownsRow_succ hown'; obtain ⟨hv1, hv2, hr2, hk2, hb2⟩ := hv.appended (by decide) hrow hB.size (Nat.le_refl _) hown' hgrow; have hc1 := hv1.cell; have hf1 := hv1.frozen)
    exact ⟨hk2.from _, hb2, ⟨_, hv2, by rw [List.length_append, List.map_append]; exact hr2, trivial⟩, hB.trans hb2⟩
  case done =>
    rintro D ys W hD rfl ⟨⟨v, hv, hrow, _⟩, hB⟩ hK
    have hc := hv.cell
    have hBW : Below w.heap.size w W := B1.out.trans (hB.mono B1.out.size)
    obtain ⟨sv, cv, rfl, hsv, _, _⟩ := own_form hrow
    have hll : (ids fl fl.length).length ≤ 4096 := by rw [ids_len]; have := List.count_le_length (a := true) (l := fl); omega
    have hS := Same_any sv s2 _ n2 cv c2 (ids fl fl.length) want W hsv (H2.out.below hBW (Nat.le_refl _)) rfl L2.out (by omega) m2
    have HS := Lib.hid hS
    have HK := Lib.hid hK
    have HBW := Lib.hid hBW
    clear hS hK hBW hB hrow hsv hI2 hc2 hBA bO
    gi_wp2_with (refine ⟨trivial, ?_⟩; gi_at_call 35; refine (callsIn_wide.2 HS.out).mono ?_; rintro e w' ⟨rfl, m, rfl⟩)
    have hK2 : (W.drewN m).heap[D]? = some (.deferred (some [])) := HK.out
    refine ⟨by simp, .inl ⟨_, _, rfl, run_takeDeferred hK2, ?_⟩⟩
    have h3 : Below w.heap.size w (W.drewN m) := HBW.out.trans ⟨rfl, rfl, rfl, Nat.le_refl _, fun _ _ => rfl⟩
    exact ⟨_, results_tmp rfl _ _ _, rfl, h3.trans (belowK_b (w := w) (Nat.le_refl _) (W.drewN m) D _ _ (by have := B1.out.size; simp at hD; omega) hK2 rfl rfl)⟩
  case stop =>
    rintro D c pre W _ _ h _
    exact h.elim
end Go.Proofs.YtefncefmolphfaaDoor.idFn
