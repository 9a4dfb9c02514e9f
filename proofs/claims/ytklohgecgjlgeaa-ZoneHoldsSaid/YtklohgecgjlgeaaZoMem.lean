/- Zones in memory: a list's cells, the lists' values, the map; what is kept. -/
import Derived.Test.YtklohgecgjlgeaaZoList
import Derived.Deep.AppendSrc
namespace Go.Proofs.Ytklohgecgjlgeaa.zoFn
open Go.ChangeShapes Go.WideShapes Go.ChangeAt Go.RowKit drMem
set_option linter.unusedVariables false

/- what lies in the blocks of F stays -/
structure KeepF (F : Nat → Prop) (w w' : World) : Prop where
  os : w'.os = w.os
  tape : w'.tape = w.tape
  output : w'.output = w.output
  size : w.heap.size ≤ w'.heap.size
  block : ∀ k, F k → w'.heap[k]? = w.heap[k]?
variable {F G : Nat → Prop} {w w' w'' : World}
theorem KeepF.refl (F : Nat → Prop) (w : World) : KeepF F w w := ⟨rfl, rfl, rfl, Nat.le_refl _, fun _ _ => rfl⟩
theorem KeepF.trans (h : KeepF F w w') (k : KeepF F w' w'') : KeepF F w w'' :=
  ⟨k.os.trans h.os, k.tape.trans h.tape, k.output.trans h.output, Nat.le_trans h.size k.size, fun i hi => (k.block i hi).trans (h.block i hi)⟩
theorem KeepF.mono (h : KeepF F w w') (hg : ∀ k, G k → F k) : KeepF G w w' := ⟨h.os, h.tape, h.output, h.size, fun k hk => h.block k (hg k hk)⟩
theorem KeepF.of_below {B : Nat} (h : Below B w w') (hF : ∀ k, F k → k < B) : KeepF F w w' := ⟨h.os, h.tape, h.output, h.size, fun k hk => h.block k (hF k hk)⟩
theorem KeepF.of_grown {row : Option Nat} (h : w.grownBy w' row) (hF : ∀ k, F k → k < w.heap.size) (hr : ∀ g, row = some g → ¬ F g) : KeepF F w w' :=
  ⟨h.os, h.tape, h.output, h.size, fun k hk => h.block k (hF k hk) (fun e => hr k e.symm hk)⟩
theorem KeepF.below {B : Nat} (h : KeepF F w w') (hF : ∀ k, k < B → F k) : Below B w w' := ⟨h.os, h.tape, h.output, h.size, fun k hk => h.block k (hF k hk)⟩
theorem KeepF.set (w : World) {g : Nat} (i : Nat) (v : Value) (hg : ¬ F g) : KeepF F w (w.setCell ⟨g, i, none⟩ v) :=
  ⟨rfl, rfl, rfl, by simp [World.setCell], fun k hk => Below.heap_setCell w ⟨g, i, none⟩ v k (fun e => by subst e; exact hg hk)⟩
theorem KeepF.drewN (h : KeepF F w w') (n : Nat) : KeepF F w (w'.drewN n) := ⟨h.os, h.tape, h.output, h.size, h.block⟩
theorem has.kept {g : Nat} {t : TypeId} {cs : List Value} (h : has w g t cs) (k : KeepF F w w') (hg : F g) : has w' g t cs := (k.block g hg).trans h
theorem has.box {g g' : Nat} {t t' : TypeId} {cs cs' : List Value} (h : has w g t cs) (h' : has w g' t' cs') (hne : t ≠ t') : g ≠ g' := h.ne h' hne

/- a list's value: nil, or the first cells of a block -/
def rowAt (w : World) (v : Value) (l : List Int) : Prop :=
  (v = .slice none 0 0 ∧ l = []) ∨
  ∃ (g c : Nat) (cs : List Value), v = .slice (some ⟨g, 0, none⟩) l.length c ∧ has w g 3 cs ∧ l.length ≤ c ∧ c ≤ cs.length ∧ c ≤ maxLen ∧ cs.take l.length = is l
theorem rowAt.nil (w : World) : rowAt w (.slice none 0 0) [] := .inl ⟨rfl, rfl⟩
theorem rowAt.keep {v : Value} {l : List Int} (h : rowAt w v l) (hb : ∀ g, v.ownBlock = some g → w'.heap[g]? = w.heap[g]?) : rowAt w' v l := by
  rcases h with h | ⟨g, c, cs, rfl, h1, h2, h3, h4, h5⟩
  · exact .inl h
  · exact .inr ⟨g, c, cs, rfl, (hb g rfl).trans h1, h2, h3, h4, h5⟩
theorem rowAt.lt {v : Value} {l : List Int} (h : rowAt w v l) {g : Nat} (hg : v.ownBlock = some g) : g < w.heap.size := by
  rcases h with ⟨rfl, _⟩ | ⟨g', c, cs, rfl, h1, _⟩
  · cases hg
  · cases hg; exact h1.lt
theorem rowAt.box {v : Value} {l : List Int} (h : rowAt w v l) {g k : Nat} {t : TypeId} {cs : List Value} (hg : v.ownBlock = some g) (hk : has w k t cs) (ht : t ≠ 3) : g ≠ k := by
  rcases h with ⟨rfl, _⟩ | ⟨g', c, cs', rfl, h1, _⟩
  · cases hg
  · cases hg; exact h1.ne hk (Ne.symm ht)
theorem rowAt.form {v : Value} {l : List Int} (h : rowAt w v l) : ∃ sp c, v = .slice sp l.length c ∧ src w sp (is l) ∧ (sp = none → l = []) := by
  rcases h with ⟨rfl, rfl⟩ | ⟨g, c, cs, rfl, h1, h2, h3, h4, h5⟩
  · exact ⟨none, 0, rfl, src.nil _ _, fun _ => rfl⟩
  · refine ⟨_, c, rfl, ?_, fun e => by cases e⟩
    intro hp
    refine ⟨g, 0, rfl, h1.lt, fun j u hu => ?_⟩
    have hj : j < l.length := by have := (List.getElem?_eq_some_iff.1 hu).1; rwa [is_len] at this
    rw [Nat.zero_add, h1.cell]
    rw [← h5, List.getElem?_take] at hu
    simpa [hj] using hu
/- a row of the call's own is a list's value -/
theorem rowAt.own {base n : Nat} {v : Value} {l : List Int} (h : w.ownsRow base 3 1 v n (is l)) : rowAt w v l ∧ (∀ g, v.ownBlock = some g → base ≤ g) ∧ l.length = n := by
  have hl := h.1
  rw [is_len, Nat.mul_one] at hl
  rcases h.2 with ⟨rfl, h3⟩ | ⟨g, cap, cur, rfl, hbg, h1, h2, h3, h4, h5⟩
  · refine ⟨.inl ⟨rfl, List.eq_nil_of_length_eq_zero (by omega)⟩, fun g e => (by cases e), hl⟩
  · refine ⟨.inr ⟨g, cap, cur.toList, by rw [hl], by unfold has; simpa using h1, by omega, by simp; omega, h3, by rw [hl]; simpa using h5⟩, fun g' e => (by cases e; exact hbg), hl⟩
theorem rowAt.nodup {v : Value} {l : List Int} (h : rowAt w v l) : l.length ≤ maxLen := by
  rcases h with ⟨_, rfl⟩ | ⟨g, c, cs, _, h1, h2, h3, h4, h5⟩
  · exact Nat.zero_le _
  · omega

def d0 : Value := .slice none 0 0
structure ZM (F : Nat → Prop) (w : World) (b gl mb : Nat) (vs : List Value) (L : List (List Int)) (D : DataW Unit) : Prop where
  z : has w b 43 [.slice (some ⟨gl, 0, none⟩) L.length L.length, .map (some mb)]
  l : has w gl 35 vs
  vl : vs.length = L.length
  r : ∀ i, i < L.length → rowAt w (vs.getD i d0) (row L i)
  ne : ∀ i j g, i < L.length → j < L.length → (vs.getD i d0).ownBlock = some g → (vs.getD j d0).ownBlock = some g → i = j
  nf : ∀ i g, i < L.length → (vs.getD i d0).ownBlock = some g → ¬ F g
  fb : ¬ F b
  fl : ¬ F gl
  fm : ¬ F mb
  ft : ∀ k, F k → k < w.heap.size
  m : w.ownsMap Try.prog 3 (plainElem Try.prog 3) mb (Maps.size D) D
variable {b gl mb : Nat} {vs : List Value} {L : List (List Int)} {D : DataW Unit}
theorem map_ne {g k n : Nat} {t : TypeId} {cs : List Value} {P : Program} {kt : TypeId} {R : Value → Option (DataW Unit × List MemPlace)} (h : w.ownsMap P kt R g n D) (hk : has w k t cs) : g ≠ k := by
  rintro rfl
  obtain ⟨es, clock, hb, _⟩ := h
  unfold has at hk
  rw [hb] at hk
  cases hk
theorem rowAt.ne_map {v : Value} {l : List Int} (h : rowAt w v l) {g k n : Nat} {P : Program} {kt : TypeId} {R : Value → Option (DataW Unit × List MemPlace)} (hg : v.ownBlock = some g) (hm : w.ownsMap P kt R k n D) : g ≠ k := by
  rcases h with ⟨rfl, _⟩ | ⟨g', c, cs', rfl, h1, _⟩
  · cases hg
  · cases hg; exact (map_ne hm h1).symm
theorem tight {k : Nat} {P : Program} {kt : TypeId} {R : Value → Option (DataW Unit × List MemPlace)} {n : Nat} (h : w.ownsMap P kt R k n D) : w.ownsMap P kt R k (Maps.size D) D := by
  obtain ⟨es, clock, hb, Ft, hs, rfl⟩ := h
  refine ⟨es, clock, hb, Ft, ?_, rfl⟩
  rw [Maps.size_eq, length_sorted]
  simp
/- the zones' own blocks -/
def ZM.mine (b gl mb : Nat) (vs : List Value) (n k : Nat) : Prop := k = b ∨ k = gl ∨ k = mb ∨ ∃ i, i < n ∧ (vs.getD i d0).ownBlock = some k
theorem ZM.keep (h : ZM F w b gl mb vs L D) (hs : w.heap.size ≤ w'.heap.size) (hb : ∀ k, ZM.mine b gl mb vs L.length k → w'.heap[k]? = w.heap[k]?) (hG : ∀ k, G k → k < w'.heap.size) (hg : ∀ k, G k → k < w.heap.size → F k) : ZM G w' b gl mb vs L D := by
  refine ⟨(hb b (.inl rfl)).trans h.z, (hb gl (.inr (.inl rfl))).trans h.l, h.vl, fun i hi => (h.r i hi).keep fun g hg => hb g (.inr (.inr (.inr ⟨i, hi, hg⟩))), h.ne, fun i g hi e hk => h.nf i g hi e (hg g hk ((h.r i hi).lt e)), fun hk => h.fb (hg _ hk h.z.lt), fun hk => h.fl (hg _ hk h.l.lt), fun hk => h.fm (hg _ hk h.m.lt), hG, ?_⟩
  obtain ⟨es, clock, hm, Ft, hs, hD⟩ := h.m
  exact ⟨es, clock, (hb mb (.inr (.inr (.inl rfl)))).trans hm, Ft, hs, hD⟩
theorem ZM.mine_lt (h : ZM F w b gl mb vs L D) {k : Nat} (hk : ZM.mine b gl mb vs L.length k) : k < w.heap.size ∧ ¬ F k := by
  rcases hk with rfl | rfl | rfl | ⟨i, hi, e⟩
  · exact ⟨h.z.lt, h.fb⟩
  · exact ⟨h.l.lt, h.fl⟩
  · exact ⟨h.m.lt, h.fm⟩
  · exact ⟨(h.r i hi).lt e, h.nf i k hi e⟩
/- what others write or make -/
theorem ZM.grown {rw : Option Nat} (h : ZM F w b gl mb vs L D) (hg : w.grownBy w' rw) (hr : ∀ g, rw = some g → g < w.heap.size → F g) (hG : ∀ k, G k → k < w'.heap.size) (hk : ∀ k, G k → k < w.heap.size → F k) : ZM G w' b gl mb vs L D :=
  h.keep hg.size (fun k hm => hg.block k (h.mine_lt hm).1 (fun e => (h.mine_lt hm).2 (hr k e.symm (h.mine_lt hm).1))) hG hk
theorem ZM.below (h : ZM F w b gl mb vs L D) (hb : Below w.heap.size w w') (hG : ∀ k, G k → k < w'.heap.size) (hk : ∀ k, G k → k < w.heap.size → F k) : ZM G w' b gl mb vs L D :=
  h.keep hb.size (fun k hm => hb.block k (h.mine_lt hm).1) hG hk
theorem ZM.weaken (h : ZM F w b gl mb vs L D) (hk : ∀ k, G k → F k) : ZM G w b gl mb vs L D :=
  h.keep (Nat.le_refl _) (fun _ _ => rfl) (fun k hg => h.ft k (hk k hg)) (fun k hg _ => hk k hg)
theorem ZM.below' (h : ZM F w b gl mb vs L D) (hb : Below w.heap.size w w') : ZM F w' b gl mb vs L D := h.below hb (fun k hk => Nat.lt_of_lt_of_le (h.ft k hk) hb.size) (fun k hk _ => hk)
theorem getD_set (vs : List Value) (i j : Nat) (v : Value) (hi : i < vs.length) : (vs.set i v).getD j d0 = if j = i then v else vs.getD j d0 := by
  rw [List.getD_eq_getElem?_getD, List.getElem?_set, List.getD_eq_getElem?_getD]
  by_cases e : i = j
  · subst e; simp [hi]
  · simp [e, Ne.symm e]
/- one list written anew: its own block may have been written, or a new one made; then its value stored -/
theorem ZM.put (h : ZM F w b gl mb vs L D) {i : Nat} (hi : i < L.length) {v : Value} {l : List Int} (hg : w.grownBy w' (vs.getD i d0).ownBlock) (hr : rowAt w' v l) (hv : ∀ g, v.ownBlock = some g → (vs.getD i d0).ownBlock = some g ∨ w.heap.size ≤ g) :
    ZM F (w'.setCell ⟨gl, i, none⟩ v) b gl mb (vs.set i v) (L.set i l) D ∧ KeepF F w (w'.setCell ⟨gl, i, none⟩ v) := by
  have hk : KeepF F w w' := KeepF.of_grown hg h.ft (fun g e => h.nf i g hi e)
  have hil : i < vs.length := by rw [h.vl]; exact hi
  have tne : 35 ≠ 3 := by decide
  have gl0 := h.l.lt
  have glv : ∀ j g, j < L.length → (vs.getD j d0).ownBlock = some g → g ≠ gl := fun j g hj e => (h.r j hj).box e h.l tne
  have gln : (vs.getD i d0).ownBlock ≠ some gl := fun e => glv i gl hi e rfl
  have l1 : has w' gl 35 vs := (hg.block gl gl0 (fun e => gln e.symm)).trans h.l
  have b1 : has w' b 43 [.slice (some ⟨gl, 0, none⟩) L.length L.length, .map (some mb)] := (hg.block b h.z.lt (fun e => (h.r i hi).box e.symm h.z (by decide) rfl)).trans h.z
  have bgl : b ≠ gl := h.z.ne h.l (by decide)
  have mgl : mb ≠ gl := map_ne h.m h.l
  have vgl : ∀ g, v.ownBlock = some g → g ≠ gl := fun g e => hr.box e l1 tne
  have far : ∀ k, k ≠ gl → (w'.setCell ⟨gl, i, none⟩ v).heap[k]? = w'.heap[k]? := fun k hne => Below.heap_setCell w' ⟨gl, i, none⟩ v k hne
  refine ⟨⟨?_, l1.put i v, by simp [h.vl], fun j hj => ?_, fun j k g hj hk' e1 e2 => ?_, fun j g hj e => ?_, h.fb, h.fl, h.fm, fun k hF => ?_, ?_⟩, hk.trans (KeepF.set w' i v h.fl)⟩
  · rw [List.length_set]; exact (far b bgl).trans b1
  · rw [List.length_set] at hj
    rw [getD_set _ _ _ _ hil, row_set _ _ _ hi]
    split
    · exact hr.keep fun g e => far g (vgl g e)
    · next ne =>
      refine (h.r j hj).keep fun g e => (far g (glv j g hj e)).trans (hg.block g ((h.r j hj).lt e) fun e2 => ne (h.ne j i g hj hi e e2.symm))
  · rw [List.length_set] at hj hk'
    rw [getD_set _ _ _ _ hil] at e1 e2
    by_cases a : j = i <;> by_cases c : k = i
    · rw [a, c]
    · simp [a] at e1; simp [c] at e2
      rcases hv g e1 with h2 | h2
      · exact absurd (h.ne k i g hk' hi e2 h2) c
      · have := (h.r k hk').lt e2; omega
    · simp [a] at e1; simp [c] at e2
      rcases hv g e2 with h2 | h2
      · exact absurd (h.ne j i g hj hi e1 h2) a
      · have := (h.r j hj).lt e1; omega
    · simp [a] at e1; simp [c] at e2
      exact h.ne j k g hj hk' e1 e2
  · rw [List.length_set] at hj
    rw [getD_set _ _ _ _ hil] at e
    split at e
    · intro hF
      rcases hv g e with h2 | h2
      · exact h.nf i g hi h2 hF
      · have := h.ft g hF; omega
    · exact h.nf j g hj e
  · have := h.ft k hF
    have := hg.size
    simp [World.setCell]; omega
  · obtain ⟨es, clock, hm, Ft, hs, hD⟩ := h.m
    exact ⟨es, clock, ((far mb mgl).trans (hg.block mb h.m.lt (fun e => (h.r i hi).ne_map e.symm h.m rfl))).trans hm, Ft, hs, hD⟩
theorem ZM.after (h : ZM F w b gl mb vs L D) {i : Nat} (hi : i < L.length) {v : Value} (hv : vs.getD i d0 = v) (hg : w.grownBy w' v.ownBlock) :
    w'.cell? ⟨gl, i, none⟩ = some v ∧ w'.frozen? ⟨gl, i, none⟩ = false ∧ w'.cell? ⟨b, 0, none⟩ = some (.slice (some ⟨gl, 0, none⟩) L.length L.length) ∧ w'.cell? ⟨b, 1, none⟩ = some (.map (some mb)) := by
  subst hv
  have l1 : has w' gl 35 vs := (hg.block gl h.l.lt (fun e => (h.r i hi).box e.symm h.l (by decide) rfl)).trans h.l
  have b1 : has w' b 43 [.slice (some ⟨gl, 0, none⟩) L.length L.length, .map (some mb)] := (hg.block b h.z.lt (fun e => (h.r i hi).box e.symm h.z (by decide) rfl)).trans h.z
  refine ⟨?_, l1.free i, b1.cell 0, b1.cell 1⟩
  rw [l1.cell, List.getD_eq_getElem?_getD, List.getElem?_eq_getElem (by rw [h.vl]; exact hi)]; rfl
/- the map written -/
theorem ZM.mapped (h : ZM F w b gl mb vs L D) {D' : DataW Unit} {n : Nat} (hg : w.grownBy w' (some mb)) (hm : w'.ownsMap Try.prog 3 (plainElem Try.prog 3) mb n D') : ZM F w' b gl mb vs L D' ∧ KeepF F w w' := by
  have hk : KeepF F w w' := KeepF.of_grown hg h.ft (fun g e => by cases e; exact h.fm)
  have o : ∀ k, k < w.heap.size → k ≠ mb → w'.heap[k]? = w.heap[k]? := fun k hk hne => hg.block k hk (fun e => hne (by cases e; rfl))
  refine ⟨⟨(o b h.z.lt (map_ne h.m h.z).symm).trans h.z, (o gl h.l.lt (map_ne h.m h.l).symm).trans h.l, h.vl, fun i hi => (h.r i hi).keep fun g e => o g ((h.r i hi).lt e) ((h.r i hi).ne_map e h.m), h.ne, h.nf, h.fb, h.fl, h.fm, fun k hF => Nat.lt_of_lt_of_le (h.ft k hF) hg.size, tight hm⟩, hk⟩

/- zones: their lists, and the map that says where each id is -/
def ZS (F : Nat → Prop) (w : World) (b gl mb : Nat) (L : List (List Int)) : Prop := Good L ∧ ∃ vs D, ZM F w b gl mb vs L D ∧ Home D L
theorem ZS.good (h : ZS F w b gl mb L) : Good L := h.1
theorem ZS.below' (h : ZS F w b gl mb L) (hb : Below w.heap.size w w') : ZS F w' b gl mb L := ⟨h.1, h.2.imp fun vs hv => hv.imp fun D hD => ⟨hD.1.below' hb, hD.2⟩⟩
theorem ZS.below (h : ZS F w b gl mb L) (hb : Below w.heap.size w w') (hG : ∀ k, G k → k < w'.heap.size) (hk : ∀ k, G k → k < w.heap.size → F k) : ZS G w' b gl mb L := ⟨h.1, h.2.imp fun vs hv => hv.imp fun D hD => ⟨hD.1.below hb hG hk, hD.2⟩⟩
theorem ZS.grown {rw : Option Nat} (h : ZS F w b gl mb L) (hg : w.grownBy w' rw) (hr : ∀ g, rw = some g → g < w.heap.size → F g) (hG : ∀ k, G k → k < w'.heap.size) (hk : ∀ k, G k → k < w.heap.size → F k) : ZS G w' b gl mb L := ⟨h.1, h.2.imp fun vs hv => hv.imp fun D hD => ⟨hD.1.grown hg hr hG hk, hD.2⟩⟩
theorem ZS.weaken (h : ZS F w b gl mb L) (hk : ∀ k, G k → F k) : ZS G w b gl mb L := ⟨h.1, h.2.imp fun vs hv => hv.imp fun D hD => ⟨hD.1.weaken hk, hD.2⟩⟩
theorem ZS.ft (h : ZS F w b gl mb L) : ∀ k, F k → k < w.heap.size := by obtain ⟨_, vs, D, hm, _⟩ := h; exact hm.ft
theorem ZS.z (h : ZS F w b gl mb L) : has w b 43 [.slice (some ⟨gl, 0, none⟩) L.length L.length, .map (some mb)] := by obtain ⟨_, vs, D, hm, _⟩ := h; exact hm.z
theorem ZS.c0 (h : ZS F w b gl mb L) : w.cell? ⟨b, 0, none⟩ = some (.slice (some ⟨gl, 0, none⟩) L.length L.length) := h.z.cell 0
theorem ZS.c1 (h : ZS F w b gl mb L) : w.cell? ⟨b, 1, none⟩ = some (.map (some mb)) := h.z.cell 1
theorem ZM.at (h : ZM F w b gl mb vs L D) {i : Nat} (hi : i < L.length) : w.cell? ⟨gl, i, none⟩ = some (vs.getD i d0) := by
  rw [h.l.cell, List.getD_eq_getElem?_getD, List.getElem?_eq_getElem (by rw [h.vl]; exact hi)]; rfl
theorem ZS.row (h : ZS F w b gl mb L) {i : Nat} (hi : i < L.length) : ∃ v, w.cell? ⟨gl, i, none⟩ = some v ∧ rowAt w v (row L i) := by
  obtain ⟨_, vs, D, hm, _⟩ := h
  exact ⟨_, hm.at hi, hm.r i hi⟩
theorem ZS.map (h : ZS F w b gl mb L) : ∃ D, w.ownsMap Try.prog 3 (plainElem Try.prog 3) mb (Maps.size D) D ∧ Home D L := by
  obtain ⟨_, vs, D, hm, hh⟩ := h
  exact ⟨D, hm.m, hh⟩
end Go.Proofs.Ytklohgecgjlgeaa.zoFn
