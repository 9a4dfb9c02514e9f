/- The law's memory while it goes over the zones. -/
import Derived.Test.YtklohgecgjlgeaaZoHBox
namespace Go.Proofs.Ytklohgecgjlgeaa.zoFn
open Go.ChangeShapes Go.WideShapes Go.ChangeAt Go.RowKit drMem
set_option linter.unusedVariables false
variable {F G : Nat → Prop} {w w' W W' : World} {b gl mb : Nat} {L M : List (List Int)}
variable {n1 n2 aB bB q n : Nat} {r : ActR} {az fz : Int} {vs : List Value}

theorem map_kept {P : Program} {kt : TypeId} {R : Value → Option (DataW Unit × List MemPlace)} {s N : Nat} {D : DataW Unit} (h : W.ownsMap P kt R s N D) (hb : W'.heap[s]? = W.heap[s]?) : W'.ownsMap P kt R s N D := by
  obtain ⟨es, clock, hm, Ft, hs, hD⟩ := h
  exact ⟨es, clock, hb.trans hm, Ft, hs, hD⟩
def SeenAt (s : Nat) (M : List (List Int)) (t k : Nat) (W : World) : Prop := ∃ D N, N ≤ 5000 * t + k ∧ W.ownsMap Try.prog 3 (plainElem Try.prog 4) s N D ∧ SM D (seenF M t k)
theorem SeenAt.keep {s t k : Nat} (h : SeenAt s M t k W) (hb : W'.heap[s]? = W.heap[s]?) : SeenAt s M t k W' := by
  obtain ⟨D, N, h1, h2, h3⟩ := h
  exact ⟨D, N, h1, map_kept h2 hb, h3⟩
theorem SeenAt.lt {s t k : Nat} (h : SeenAt s M t k W) : s < W.heap.size := by obtain ⟨D, N, h1, h2, h3⟩ := h; exact h2.lt
theorem SeenAt.next {s t k : Nat} (h : SeenAt s M t k W) (hk : (row M t).length = k) (h5 : k ≤ 4096) : SeenAt s M (t + 1) 0 W := by
  obtain ⟨D, N, h1, h2, h3⟩ := h
  subst hk
  rw [seen_next] at h3
  exact ⟨D, N, by omega, h2, h3⟩
theorem SeenAt.ne {s t k : Nat} (h : SeenAt s M t k W) {v : Value} {l : List Int} (hr : rowAt W v l) {g : Nat} (hg : v.ownBlock = some g) : g ≠ s := by
  obtain ⟨D, N, h1, h2, h3⟩ := h
  exact hr.ne_map hg h2
structure PS (w : World) (n1 n2 s q : Nat) (b gl mb : Nat) (r : ActR) (az fz : Int) (L : List (List Int)) (n : Nat) (vs : List Value) (M : List (List Int)) (t : Nat) (W : World) : Prop where
  x : BX n1 n2 n1 (n1 + 1) q r az fz L n vs W
  z : ZF (gF w n1 n2 s) w b gl mb M W
  se : SeenAt s M t 0 W
  sn : n2 ≤ s
variable {s t k km : Nat}
theorem PS.start (hx : BX n1 n2 n1 (n1 + 1) q r az fz L n vs W) (hz : ZF (fF w n1 n2) w b gl mb M W) (hs : n2 ≤ W.heap.size) : PS w n1 n2 W.heap.size q b gl mb r az fz L n vs M 0 (W.alloc (.map #[] 0)) := by
  have hb : Below W.heap.size W (W.alloc (.map #[] 0)) := (Below.refl _ _).alloc (Nat.le_refl _) _
  refine ⟨hx.below hb hs, hz.keepB hb (fun k hk => ?_) (fun k hk hl => ?_) (fun k hk => .inl (hz.hF k hk)), ⟨.map [], 0, Nat.zero_le _, World.ownsMap_made W _ _ _, by rw [seen_zero]; exact SM.none⟩, hs⟩
  · simp
    rcases hk with hk | hk
    · have := hz.z.ft k hk; omega
    · omega
  · rcases hk with hk | hk
    · exact hk
    · omega
theorem PS.below (h : PS w n1 n2 s q b gl mb r az fz L n vs M t W) (hb : Below W.heap.size W W') : PS w n1 n2 s q b gl mb r az fz L n vs M t W' :=
  ⟨h.x.below hb (by have := h.se.lt; have := h.sn; omega), h.z.below hb, h.se.keep (hb.block s h.se.lt), h.sn⟩
/- the zones, beside the list that was read last -/
theorem PS.zv (h : PS w n1 n2 s q b gl mb r az fz L n vs M t W) (hb : Below W.heap.size W W') {v : Value} {l : List Int} (hr : rowAt W' v l) (hv : ∀ g, v.ownBlock = some g → W.heap.size ≤ g) : ZF (kF w n1 n2 s v) w b gl mb M W' :=
  h.z.keepB hb (fun k hk => by rcases hk with hk | hk; exact Nat.lt_of_lt_of_le (h.z.z.ft k hk) hb.size; exact hr.lt hk) (fun k hk hl => by rcases hk with hk | hk; exact hk; have := hv k hk; omega) (fun k hk => .inl (h.z.hF k hk))
theorem ZF.less {v : Value} (h : ZF (kF w n1 n2 s v) w b gl mb M W) : ZF (gF w n1 n2 s) w b gl mb M W := ⟨h.z.weaken fun k hk => .inl hk, h.f, fun k hk => .inl (.inl hk)⟩
theorem ZF.seen {v : Value} (h : ZF (kF w n1 n2 s v) w b gl mb M W) (hg : W.grownBy W' (some s)) (hw : w.heap.size ≤ s) : ZF (kF w n1 n2 s v) w b gl mb M W' :=
  h.keepG hg (fun g e => by cases e; exact ⟨hw, fun _ => .inl (.inr rfl)⟩) (fun k hk => Nat.lt_of_lt_of_le (h.z.ft k hk) hg.size) (fun k hk _ => hk) h.hF
theorem PS.of {s t q : Nat} (hx : BX n1 n2 n1 (n1 + 1) q r az fz L n vs W) {v : Value} (hz : ZF (kF w n1 n2 s v) w b gl mb M W) (hs : SeenAt s M t 0 W) (hn : n2 ≤ s) : PS w n1 n2 s q b gl mb r az fz L n vs M t W := ⟨hx, hz.less, hs, hn⟩
theorem noID_take {x : Int} {l : List Int} {k : Nat} (hk : k < l.length) : (l.getD k 0 = x → noID x (l.take (k + 1)) = noID x (l.take k)) ∧ (l.getD k 0 ≠ x → noID x (l.take (k + 1)) = noID x (l.take k) ++ [l.getD k 0]) := by
  have e : l.getD k 0 = l[k] := by rw [List.getD_eq_getElem?_getD, List.getElem?_eq_getElem hk]; rfl
  rw [List.take_succ_eq_append_getElem hk, ← e]
  exact ⟨fun h => by rw [h, noID_snoc_eq], fun h => noID_snoc_ne _ h⟩
/- while the ids of a zone are looked at -/
theorem noID_len (x : Int) (l : List Int) : (noID x l).length ≤ l.length := List.length_filter_le _ _
structure PT (w2 : World) (s : Nat) (M : List (List Int)) (t km : Nat) (u : Value) (l : List Int) (W : World) : Prop where
  r : rowAt W u l
  o : ∀ g, u.ownBlock = some g → w2.heap.size ≤ g
  gr : w2.grownBy W (some s)
  S : SeenAt s M t km W
  sl : s < w2.heap.size
variable {w2 : World} {u v' : Value} {l l' : List Int}
theorem PT.app {ob : Obj} (h : PT w2 s M t km u l W) (hr : rowAt W' v' l') (hg : (W.alloc ob).grownBy W' u.ownBlock) (hv : ∀ g, v'.ownBlock = some g → u.ownBlock = some g ∨ (W.alloc ob).heap.size ≤ g) : PT w2 s M t km v' l' W' := by
  have hsz := h.gr.size
  have hW : W.heap.size ≤ (W.alloc ob).heap.size := by simp
  have blk : ∀ i, i < w2.heap.size → W'.heap[i]? = W.heap[i]? := fun i hi => (hg.block i (by omega) (fun e => by have := h.o i e.symm; omega)).trans (Below.heap_alloc W ob i (by omega))
  refine ⟨hr, fun g e => ?_, ⟨hg.os.trans h.gr.os, hg.tape.trans h.gr.tape, hg.output.trans h.gr.output, by have := hg.size; omega, fun i hi hne => (blk i hi).trans (h.gr.block i hi hne)⟩, h.S.keep (blk s h.sl), h.sl⟩
  rcases hv g e with h2 | h2
  · exact h.o g h2
  · omega
theorem PT.below (h : PT w2 s M t km u l W) (hb : Below W.heap.size W W') : PT w2 s M t km u l W' :=
  ⟨h.r.belowW hb, h.o, ⟨hb.os.trans h.gr.os, hb.tape.trans h.gr.tape, hb.output.trans h.gr.output, Nat.le_trans h.gr.size hb.size, fun i hi hne => (hb.block i (by have := h.gr.size; omega)).trans (h.gr.block i hi hne)⟩, h.S.keep (hb.block s h.S.lt), h.sl⟩
theorem PT.mapped (h : PT w2 s M t km u l W) (hg : W.grownBy W' (some s)) (hS : SeenAt s M t (km + 1) W') : PT w2 s M t (km + 1) u l W' :=
  ⟨h.r.keep fun g e => hg.block g (h.r.lt e) (fun ee => by have e3 := Option.some.inj ee; have := h.o g e; have := h.sl; omega), h.o, grown_trans h.gr hg, hS, h.sl⟩
theorem PT.drewN (h : PT w2 s M t km u l W) (m : Nat) : PT w2 s M t km u l (W.drewN m) := h.below ⟨rfl, rfl, rfl, Nat.le_refl _, fun _ _ => rfl⟩
end Go.Proofs.Ytklohgecgjlgeaa.zoFn
