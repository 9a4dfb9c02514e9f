/- What slices.Insert leaves of a list, at its beginning. -/
import Derived.Test.YtklohgecgjlgeaaZoRow
namespace Go.Proofs.Ytklohgecgjlgeaa.zoFn
open Go.ChangeShapes Go.WideShapes Go.ChangeAt Go.RowKit drMem
set_option linter.unusedVariables false
variable {F G : Nat → Prop} {w w' : World} {b gl mb : Nat} {L : List (List Int)}

theorem has.cellsSet {g : Nat} {t : TypeId} : ∀ (vs : List Value) (o : Nat) (w : World) (cs : List Value), has w g t cs → o + vs.length ≤ cs.length →
    has (w.setCells g o vs) g t (cs.take o ++ (vs ++ cs.drop (o + vs.length))) ∧ w.grownBy (w.setCells g o vs) (some g)
  | [], o, w, cs, h, hl => by
    refine ⟨?_, grown_refl _ _⟩
    simp only [World.setCells, List.length_nil, Nat.add_zero, List.nil_append, List.take_append_drop]
    exact h
  | v :: r, o, w, cs, h, hl => by
    have hl' : o < cs.length := by simp at hl; omega
    have h1 := h.put o v
    have ih := has.cellsSet r (o + 1) (w.setCell ⟨g, o, none⟩ v) (cs.set o v) h1 (by simp at hl ⊢; omega)
    refine ⟨?_, grown_trans (grown_set w ⟨g, o, none⟩ v) ih.2⟩
    have e : cs.take o ++ (v :: r ++ cs.drop (o + (v :: r).length)) = (cs.set o v).take (o + 1) ++ (r ++ (cs.set o v).drop (o + 1 + r.length)) := by
      rw [List.set_eq_take_append_cons_drop, if_pos hl']
      have ht : (cs.take o).length = o := List.length_take_of_le (by omega)
      have e1 : (cs.take o ++ v :: cs.drop (o + 1)).take (o + 1) = cs.take o ++ [v] := by
        rw [show cs.take o ++ v :: cs.drop (o + 1) = (cs.take o ++ [v]) ++ cs.drop (o + 1) by simp]
        exact List.take_left' (by simp [ht])
      have e2 : (cs.take o ++ v :: cs.drop (o + 1)).drop (o + 1 + r.length) = cs.drop (o + (v :: r).length) := by
        rw [show cs.take o ++ v :: cs.drop (o + 1) = (cs.take o ++ [v]) ++ cs.drop (o + 1) by simp, List.drop_append]
        rw [List.drop_of_length_le (by simp [ht])]
        simp only [List.length_append, ht, List.length_cons, List.length_nil, List.nil_append, List.drop_drop]
        congr 1
        try omega
      rw [e1, e2]
      simp
    show has ((w.setCell ⟨g, o, none⟩ v).setCells g (o + 1) r) g t _
    rw [e]; exact ih.1
theorem has.arr {g : Nat} {t : TypeId} {A : Array Value} (h : w.heap[g]? = some (.cells A t (0, 0))) : has w g t A.toList := by unfold has; rw [Array.toArray_toList]; exact h
theorem has.shape {g : Nat} {t : TypeId} {cs : List Value} (h : has w g t cs) : w.shape? g = some (t, cs.length) := by
  unfold has at h; unfold World.shape?; rw [h]; simp
theorem has.some {g : Nat} {t : TypeId} {cs : List Value} (h : has w g t cs) {j : Nat} (hj : j < cs.length) : (w.cell? ⟨g, j, none⟩).isSome = true := by
  rw [h.cell, List.getElem?_eq_getElem hj]; rfl
def insPost (w : World) (v : Value) (l : List Int) (x : Int) (e : Ending) (w' : World) : Prop :=
  ∃ v', e = .returned v' ∧ rowAt w' v' (x :: l) ∧ w.grownBy w' v.ownBlock ∧ (∀ g, v'.ownBlock = some g → v.ownBlock = some g ∨ w.heap.size ≤ g)
theorem drew_grown {row : Option Nat} (h : w.drew.grownBy w' row) : w.grownBy w' row := ⟨h.os, h.tape, h.output, h.size, h.block⟩
set_option maxHeartbeats 2000000 in
theorem Insert_any {v : Value} {l : List Int} (h : rowAt w v l) {x : Int} {q : Nat} (hq : has w q 3 [.int .i64 x]) (hne : v.ownBlock ≠ some q) (hl : l.length ≤ 4096) :
    Calls Try.prog 28 #[v, .int .i64 0, .slice (some ⟨q, 0, none⟩) 1 1] w (insPost w v l x) := by
  have hvs : ∀ j u, ([Value.int .i64 x])[j]? = some u → w.cell? ⟨q, 0 + j, none⟩ = some u := fun j u hu => by rw [Nat.zero_add, hq.cell]; exact hu
  have h1v : ∀ u ∈ [Value.int .i64 x], u.oneCell' = true := by intro u hu; simp at hu; subst hu; rfl
  have m63 : maxLen = 9223372036854775807 := rfl
  -- a new row at the end of an empty list
  have endGrow : ∀ (base : Option Addr) (c : Nat), c < 1 → (base = none → (0 : Nat) = 0) → l = [] → Calls Try.prog 28 #[.slice base 0 c, .int .i64 0, .slice (some ⟨q, 0, none⟩) 1 1] w (insPost w (.slice base 0 c) l x) := by
    intro base c hc hb0 hnil
    subst hnil
    refine (Any2.slices_Insert_int_end_grow Try.laysNm221 base 0 c q 0 1 1 [] [.int .i64 x] w (by omega) (by omega) (by omega) (by omega) rfl rfl hb0 (fun a _ j u hu => by cases hu) hvs h1v).mono ?_
    rintro e w' ⟨rfl, rfl⟩
    have hge := grownCap_ge w 1 c 3
    have hcm : grownCap w 1 c 3 ≤ maxLen := grownCap_le_maxLen w 1 c 3 (by omega)
    refine ⟨_, rfl, .inr ⟨w.heap.size, _, _, rfl, has.arr (heap_alloc_new w.drew _), hge, ?_, hcm, ?_⟩, ⟨rfl, rfl, rfl, by simp, fun k hk _ => Below.heap_alloc w.drew _ k hk⟩, fun g e => by cases e; exact .inr (Nat.le_refl _)⟩
    · simp only [Array.length_toList, Array.size_append, List.size_toArray, size_zeroCells, List.nil_append, List.length_cons, List.length_nil, Nat.zero_add]
      show grownCap w 1 c 3 ≤ 1 + (grownCap w 1 c 3 - 1) * 1
      omega
    · simp [is]
  rcases h with ⟨rfl, rfl⟩ | ⟨g, c, cs, rfl, h1, h2, h3, h4, h5⟩
  · exact endGrow none 0 (by omega) (fun _ => rfl) rfl
  · have gq : g ≠ q := fun e => hne (by rw [← e]; rfl)
    rcases Nat.eq_zero_or_pos l.length with h0 | h0
    · obtain rfl := List.eq_nil_of_length_eq_zero h0
      by_cases hc : c < 1
      · exact endGrow (some ⟨g, 0, none⟩) c hc (fun _ => rfl) rfl
      · refine (Any2.slices_Insert_int_end_room Try.laysNm221 g 0 0 c q 0 1 1 [.int .i64 x] w (by omega) (by omega) (by omega) rfl (fun j hj => ?_) (fun j hj => h1.free _) hvs h1v).mono ?_
        · exact has.some h1 (by omega)
        · rintro e w' ⟨rfl, rfl⟩
          have hs := has.cellsSet [Value.int .i64 x] 0 w cs h1 (by simp; omega)
          refine ⟨_, rfl, .inr ⟨g, c, _, rfl, hs.1, by simp; omega, ?_, h4, ?_⟩, hs.2, fun g' e => .inl e⟩
          · simp; omega
          · simp [is]
    · obtain ⟨n, hn⟩ : ∃ n, l.length = n := ⟨_, rfl⟩
      have hcells : ∀ j u, (is l)[j]? = some u → w.cell? ⟨g, 0 + j, none⟩ = some u := fun j u hu => by
        have := rowAt.cells (w := w) (g := g) (n := l.length) (c := c) (.inr ⟨g, c, cs, rfl, h1, h2, h3, h4, h5⟩) j u hu
        rwa [addr_add] at this
      have hil : (is l).length = n := by rw [is_len, hn]
      rw [hn] at h0 h2 h5 hl
      by_cases hc : n + 1 ≤ c
      · have hr := Any2.slices_Insert_int_shift Try.laysNm221 g 0 n c 0 q 0 1 1 (is l) [.int .i64 x] w h0 (by omega) hc (by omega) (Ne.symm gq) hil rfl hcells (fun j hj => by rw [Nat.zero_add]; exact has.some h1 (by omega)) (fun j _ => h1.free _) hvs (is_one l) h1v
          3 3 1 cs.length (has.shape hq) (has.shape h1) (by omega) (hq.free 0) (hq.free 1)
        rw [show (Value.slice (some ⟨g, 0, none⟩) l.length c) = .slice (some ⟨g, 0, none⟩) n c by rw [hn]]
        refine hr.mono ?_
        rintro e w' ⟨rfl, rfl⟩
        have h1' : has w.drew g 3 cs := h1
        have hs := has.cellsSet (is l) 1 w.drew cs h1' (by rw [hil]; omega)
        have hs2 := has.cellsSet [Value.int .i64 x] 0 _ _ hs.1 (by simp; omega)
        rw [List.drop_zero]
        refine ⟨_, rfl, .inr ⟨g, c, _, by rw [List.length_cons, hn], hs2.1, by rw [List.length_cons, hn]; exact hc, ?_, h4, ?_⟩, drew_grown (grown_trans hs.2 hs2.2), fun g' e => .inl e⟩
        · simp [hil]; omega
        · have ht : (cs.take 1).length = 1 := List.length_take_of_le (by omega)
          have e1 : (cs.take 1 ++ (is l ++ cs.drop (1 + (is l).length))).drop 1 = is l ++ cs.drop (1 + (is l).length) := List.drop_left' ht
          rw [List.length_cons, hn]
          simp only [List.take_zero, List.nil_append, List.length_cons, List.length_nil, Nat.zero_add, List.cons_append, List.take_succ_cons]
          rw [e1, List.take_left' hil]
          rfl
      · have hr := Any2.slices_Insert_int_grow Try.laysNm221 g 0 n c 0 q 0 1 1 (is l) [.int .i64 x] w h0 (by omega) h2 (by omega) (by omega) hil rfl hcells hvs (is_one l) h1v
        rw [show (Value.slice (some ⟨g, 0, none⟩) l.length c) = .slice (some ⟨g, 0, none⟩) n c by rw [hn]]
        refine hr.mono ?_
        rintro e w' ⟨rfl, hw'⟩
        have hge := grownCap_ge w (n + 1) c 3
        have hcm : grownCap w (n + 1) c 3 ≤ maxLen := grownCap_le_maxLen w (n + 1) c 3 (by omega)
        obtain ⟨A, hA⟩ : ∃ A, (((is l).take 0).toArray ++ Builtin.zeroCells (Value.int IntKind.i64 0).cells (n + 1 - 0) ++ Builtin.zeroCells (Value.int IntKind.i64 0).cells (grownCap w (n + 1) c 3 - (n + 1))) = A := ⟨_, rfl⟩
        have hAs : A.size = grownCap w (n + 1) c 3 := by
          rw [← hA]
          simp only [Array.size_append, List.size_toArray, size_zeroCells, List.take_zero, List.length_nil]
          show 0 + (n + 1 - 0) * 1 + (grownCap w (n + 1) c 3 - (n + 1)) * 1 = _
          omega
        have hw2 : w' = ((w.alloc (.cells A 3)).drew.setCells w.heap.size 0 [Value.int .i64 x]).drew.setCells w.heap.size 1 (is l) := by
          rw [hw', List.drop_zero, ← hA]; rfl
        subst hw2
        clear hw'
        have a1 : has (w.alloc (.cells A 3)).drew w.heap.size 3 A.toList := has.arr (heap_alloc_new w _)
        have hs := has.cellsSet [Value.int .i64 x] 0 _ _ a1 (by simp; omega)
        have hs' : has ((w.alloc (.cells A 3)).drew.setCells w.heap.size 0 [Value.int .i64 x]).drew w.heap.size 3 _ := hs.1
        have hs2 := has.cellsSet (is l) 1 _ _ hs' (by simp [hil]; omega)
        have gr : w.grownBy (w.alloc (.cells A 3)).drew none := ⟨rfl, rfl, rfl, by simp, fun k hk _ => Below.heap_alloc w _ k hk⟩
        have g2 := grown_trans (drew_grown (grown_trans hs.2 (drew_grown (w := _) (row := some w.heap.size) (grown_refl _ _)))) hs2.2
        refine ⟨_, rfl, .inr ⟨w.heap.size, _, _, by rw [List.length_cons, hn]; rfl, hs2.1, by rw [List.length_cons, hn]; exact hge, ?_, hcm, ?_⟩, grown_new (row := (Value.slice (some ⟨g, 0, none⟩) n c).ownBlock) ⟨gr.os, gr.tape, gr.output, gr.size, fun k hk _ => gr.block k hk (by simp)⟩ ⟨g2.os, g2.tape, g2.output, g2.size, g2.block⟩ (Nat.le_refl _), fun g' e => by cases e; exact .inr (Nat.le_refl _)⟩
        · simp [hil]; omega
        · have e1 : (List.take 0 A.toList ++ ([Value.int .i64 x] ++ A.toList.drop (0 + [Value.int IntKind.i64 x].length))).take 1 = [.int .i64 x] := by simp
          rw [e1, List.length_cons, hn]
          simp only [List.cons_append, List.nil_append, List.take_succ_cons]
          rw [List.take_left' hil]
          rfl
end Go.Proofs.Ytklohgecgjlgeaa.zoFn
