/- Joined texts: CaClone CaCopyM CaCopy CaLawQ -/
import Derived.Test.YtkappnnoienhnaaDoorCaTrigM
import Derived.OwnWalk
import Derived.Laws.OwnMore
import Derived.Lib.SmallJoins
import Derived.Test.YtkappnnoienhnaaDoorCaCardM
import Derived.BigRegion
import Derived.Deep.RegionHeld3
import Derived.Deep.AppendLies
import Derived.Test.YtkappnnoienhnaaDoorCaJK
import Derived.Test.YtkappnnoienhnaaDoorCaEqual
import Derived.Deep.Slices
/- Lists of effects and of triggers that are cloned. -/
namespace Go.Proofs.YtkappnnoienhnaaDoor.caFn
open Go.ChangeShapes Go.WideShapes Go.ChangeAt Go.RowKit drMem efFn
set_option linter.unusedVariables false

theorem infoE' : (Tryd.prog.info? 41).map (fun i => (i.zero, i.size, i.bytes)) = some (some (eV 0 0 0 0 0), 5, 40) := by kernel_rfl
theorem infoT' : (Tryd.prog.info? 44).map (fun i => (i.zero, i.size, i.bytes)) = some (some (.agg #[.int .i64 0, .slice none 0 0]), 2, 32) := by kernel_rfl
theorem efC_one (l : List Ef) : ∀ u ∈ efC l, u.oneCell' = true := by
  intro u hu
  obtain ⟨e, _, he⟩ := List.mem_flatMap.1 hu
  simp only [Ef.l, List.mem_cons, List.not_mem_nil, or_false] at he
  rcases he with rfl | rfl | rfl | rfl | rfl <;> rfl
theorem EfsAt.cells {W : World} {b off n : Nat} {l : List Ef} (h : EfsAt W (some ⟨b, off, none⟩) n l) : ∀ j u, (efC l)[j]? = some u → W.cell? ⟨b, off + j, none⟩ = some u := by
  intro j u hu
  have hj := (List.getElem?_eq_some_iff.1 hu).1
  rw [efC_len] at hj
  obtain ⟨b', o', e, hb, hc⟩ := h.c (by rw [← h.n]; omega)
  cases e
  have hi : j / 5 < l.length := by omega
  have g := hc (j / 5) _ (get_some hi)
  have k := efC_get l (j / 5) (j % 5) _ (get_some hi) (by omega)
  rw [show j / 5 * 5 + j % 5 = j by omega, hu] at k
  have e5 : j % 5 = 0 ∨ j % 5 = 1 ∨ j % 5 = 2 ∨ j % 5 = 3 ∨ j % 5 = 4 := by omega
  have ej : j = j / 5 * 5 + j % 5 := by omega
  generalize l.getD (j / 5) default = x at *
  generalize j / 5 = i at *
  rcases e5 with e5 | e5 | e5 | e5 | e5 <;> rw [e5] at k ej <;> subst ej <;> simp at k <;> subst k
  · exact g.c0
  · have := g.c1; rwa [Nat.add_assoc] at this
  · have := g.c2; rwa [Nat.add_assoc] at this
  · have := g.c3; rwa [Nat.add_assoc] at this
  · have := g.c4; rwa [Nat.add_assoc] at this
/- a copy lies in memory of its own, not frozen -/
def Fresh (B : Nat) (W : World) (sp : Option Addr) (n : Nat) : Prop := ∀ a, sp = some a → 0 < n → B ≤ a.block ∧ a.spot = none ∧ ∀ j, W.frozen? ⟨a.block, j, none⟩ = false
theorem own_fresh {W : World} {base n : Nat} {t : TypeId} {size : Nat} {sv : Option Addr} {cv m : Nat} {xs : List Value} (h : W.ownsRow base t size (.slice sv m cv) n xs) : Fresh base W sv n := by
  intro a ha h0
  subst ha
  rcases h.2 with ⟨h2, h3⟩ | ⟨g, cap, cur, h2, hbg, hh, _⟩
  · omega
  · cases h2
    exact ⟨hbg, rfl, fun j => by simp [World.frozen?, hh]⟩
def clPost (n : Nat) (l : List Ef) (w : World) (v : Ending) (W : World) : Prop := ∃ sp c, v = .returned (.slice sp n c) ∧ EfsAt W sp n l ∧ n ≤ c ∧ Below w.heap.size w W ∧ Fresh w.heap.size W sp n
set_option maxRecDepth 100000 in
set_option maxHeartbeats 2000000 in
theorem cloneE_any (sp : Option Addr) (n cap : Nat) (l : List Ef) (w : World) (h : EfsAt w sp n l) (hl : n ≤ 1000) :
    Calls Tryd.prog 28 #[.slice sp n cap] w (clPost n l w) := by
  obtain ⟨i0, hi, hz0, hz1, hz2⟩ := info_parts infoE'
  have hn := h.n
  have HO : Hid ((w.alloc (.cells #[] 41)).ownsRow w.heap.size 41 5 (.slice (some ⟨w.heap.size, 0, none⟩) 0 0) 0 []) := Lib.hid (World.ownsRow_lit (base := w.heap.size) (e := 41) (size := 5) w #[] 0 (Nat.le_refl _) (by unfold maxLen; omega) rfl)
  have HB0 : Hid (Below w.heap.size w (w.alloc (.cells #[] 41))) := Lib.hid ((Below.refl _ _).alloc (Nat.le_refl _) _)
  rcases Nat.eq_zero_or_pos n with h0 | h0
  · cases sp with
    | none =>
      have q1 : ∀ w, (binOp .eql 31 (.slice none n cap) (.slice none 0 0)).run Tryd.prog w = .ok (.bool true) w := fun w => Lib.run_eql_slice_nil w _ _ none n cap 0 0 Tryd.underlying31
      have hl0 : l = [] := List.eq_nil_of_length_eq_zero (hn.trans h0)
      have HH := Lib.hid (And.intro h0 hl0)
      clear hn h h0 hl0
      go_enter Tryd.func28, Tryd.ntmps28
      go_wp2_with fail
      go_ret
      obtain ⟨rfl, rfl⟩ := HH.out
      exact ⟨none, 0, rfl, EfsAt.nil _ _, Nat.le_refl _, Below.refl _ _, fun a ha => by cases ha⟩
    | some a =>
      have q1 : ∀ w, (binOp .eql 31 (.slice (some a) n cap) (.slice none 0 0)).run Tryd.prog w = .ok (.bool false) w := fun w => Lib.run_eql_slice_nil w _ _ (some a) n cap 0 0 Tryd.underlying31
      have hl0 : l = [] := List.eq_nil_of_length_eq_zero (hn.trans h0)
      have HH := Lib.hid hl0
      subst h0
      clear hn h hl0
      go_enter Tryd.func28, Tryd.ntmps28
      go_wp2_with (at_builtin; refine wpList_append_own _ rfl _ _ 31 rfl w.heap.size 41 i0 (eV 0 0 0 0 0) 5 40 Tryd.underlying31 hi hz0 hz1 hz2 rfl (by decide) _ 0 _ rfl HO.out a 0 cap [] rfl rfl (fun j u hu => by simp at hu) (by simp) (by unfold maxLen; omega) (by omega) (by simp) ?_; intro v1 w1 hown hgrow _; have HO1 := Lib.hid hown; have HG1 := Lib.hid (below_own HB0.out HO.out hgrow (by simp)); clear hown hgrow)
      go_ret
      obtain ⟨sv, cv, rfl, h2, h3, h4, h5⟩ := own_form HO1.out
      rw [HH.out]
      exact ⟨sv, cv, rfl, EfsAt.nil _ _, by omega, HG1.out, fun a ha h0 => absurd h0 (by omega)⟩
  · obtain ⟨b, off, rfl, hbl, hc⟩ := h.c h0
    have HC := Lib.hid (EfsAt.cells h)
    have q1 : ∀ w, (binOp .eql 31 (.slice (some ⟨b, off, none⟩) n cap) (.slice none 0 0)).run Tryd.prog w = .ok (.bool false) w := fun w => Lib.run_eql_slice_nil w _ _ (some _) n cap 0 0 Tryd.underlying31
    have HN := Lib.hid hn
    have HV := Lib.hid h.v
    have HC2 : Hid (∀ j u, (efC l)[j]? = some u → (w.alloc (.cells #[] 41)).cell? ⟨b, off + j, none⟩ = some u) := Lib.hid (fun j u hu => (HB0.out.cell (p := ⟨b, off + j, none⟩) hbl).trans (HC.out j u hu))
    clear hc h hn
    go_enter Tryd.func28, Tryd.ntmps28
    go_wp2_with (at_builtin; refine wpList_append_own _ rfl _ _ 31 rfl w.heap.size 41 i0 (eV 0 0 0 0 0) 5 40 Tryd.underlying31 hi hz0 hz1 hz2 rfl (by decide) _ 0 _ rfl HO.out ⟨b, off, none⟩ n cap (efC l) rfl (by rw [efC_len, HN.out]; omega) (fun j u hu => by rw [addr_add]; exact HC2.out j u hu) (efC_one l) (by unfold maxLen; omega) (by omega) (by simp) ?_; intro v1 w1 hown hgrow _; have HO1 := Lib.hid hown; have HG1 := Lib.hid (below_own HB0.out HO.out hgrow (by simp)); clear hown hgrow)
    go_ret
    obtain ⟨sv, cv, rfl, h2, h3, h4, h5⟩ := own_form HO1.out
    have hf := own_fresh HO1.out
    rw [Nat.zero_add] at hf
    refine ⟨sv, cv, by rw [Nat.zero_add]; rfl, ?_, by omega, HG1.out, hf⟩
    have := EfsAt.of_src (l := l) (by simpa using h2) HV.out (by rw [HN.out]; omega)
    rw [HN.out] at this
    exact this
end Go.Proofs.YtkappnnoienhnaaDoor.caFn

/- Lists of triggers that are cloned; copies of cards in memory. -/
namespace Go.Proofs.YtkappnnoienhnaaDoor.caFn
open Go.ChangeShapes Go.WideShapes Go.ChangeAt Go.RowKit drMem efFn
set_option linter.unusedVariables false

theorem txC_one (l : List Tx) : ∀ u ∈ txC l, u.oneCell' = true := by
  intro u hu
  obtain ⟨e, _, he⟩ := List.mem_flatMap.1 hu
  simp only [Tx.l, List.mem_cons, List.not_mem_nil, or_false] at he
  rcases he with rfl | rfl <;> rfl
theorem getX {l : List Tx} {k : Nat} (h : k < l.length) : l[k]? = some (l.getD k default) := by
  simp [List.getD_eq_getElem?_getD, h]
/- the cells of triggers as data -/
theorem tx_of {W : World} {b off : Nat} {l : List Tr} (hc : ∀ i t, l[i]? = some t → ∃ s n c, TrAt W b (off + i * 2) t s n c) :
    ∃ xs : List Tx, xs.length = l.length ∧ ∀ i, i < l.length → (xs.getD i default).w = (l.getD i default).w ∧ TrAt W b (off + i * 2) (l.getD i default) (xs.getD i default).s (xs.getD i default).n (xs.getD i default).c := by
  have key : ∀ k, k ≤ l.length → ∃ xs : List Tx, xs.length = k ∧ ∀ i, i < k → (xs.getD i default).w = (l.getD i default).w ∧ TrAt W b (off + i * 2) (l.getD i default) (xs.getD i default).s (xs.getD i default).n (xs.getD i default).c := by
    intro k
    induction k with
    | zero => exact fun _ => ⟨[], rfl, fun i hi => by omega⟩
    | succ k ih =>
      intro hk
      obtain ⟨xs, hx, h⟩ := ih (by omega)
      obtain ⟨s, n, c, ht⟩ := hc k _ (getT (by omega))
      refine ⟨xs ++ [⟨(l.getD k default).w, s, n, c⟩], by simp [hx], fun i hi => ?_⟩
      by_cases h2 : i < k
      · have e : (xs ++ [(⟨(l.getD k default).w, s, n, c⟩ : Tx)]).getD i default = xs.getD i default := by simp only [List.getD_eq_getElem?_getD]; rw [List.getElem?_append_left (by omega)]
        rw [e]; exact h i h2
      · obtain rfl : i = k := by omega
        have e : (xs ++ [(⟨(l.getD i default).w, s, n, c⟩ : Tx)]).getD i default = ⟨(l.getD i default).w, s, n, c⟩ := by subst hx; simp [List.getD_eq_getElem?_getD]
        rw [e]; exact ⟨rfl, ht⟩
  exact key l.length (Nat.le_refl _)
theorem tx_cells {W : World} {b off : Nat} {l : List Tr} {xs : List Tx} (hn : xs.length = l.length) (hx : ∀ i, i < l.length → (xs.getD i default).w = (l.getD i default).w ∧ TrAt W b (off + i * 2) (l.getD i default) (xs.getD i default).s (xs.getD i default).n (xs.getD i default).c) :
    ∀ j u, (txC xs)[j]? = some u → W.cell? ⟨b, off + j, none⟩ = some u := by
  intro j u hu
  have hj := (List.getElem?_eq_some_iff.1 hu).1
  rw [txC_len] at hj
  have hi : j / 2 < xs.length := by omega
  obtain ⟨g0, g⟩ := hx (j / 2) (by omega)
  have k := txC_get xs (j / 2) (j % 2) _ (getX hi) (by omega)
  rw [show j / 2 * 2 + j % 2 = j by omega, hu] at k
  have e2 : j % 2 = 0 ∨ j % 2 = 1 := by omega
  have ej : j = j / 2 * 2 + j % 2 := by omega
  generalize xs.getD (j / 2) default = x at *
  generalize l.getD (j / 2) default = t at *
  generalize j / 2 = i at *
  rcases e2 with e2 | e2 <;> rw [e2] at k ej <;> subst ej <;> simp at k <;> subst k
  · rw [g0]; exact g.c0
  · have := g.c1; rwa [Nat.add_assoc] at this
/- a copy in memory -/
structure CpAt (B : Nat) (W : World) (es : Option Addr) (en : Nat) (ef : List Ef) (ts : Option Addr) (tn : Nat) (tr : List Tr) : Prop where
  e : EfsAt W es en ef
  fe : Fresh B W es en
  n : tr.length = tn
  m : tn ≤ 1000
  t : 0 < tn → ∃ g, ts = some ⟨g, 0, none⟩ ∧ B ≤ g ∧ g < W.heap.size ∧ (∀ j, W.frozen? ⟨g, j, none⟩ = false) ∧ ∀ i, i < tn → ∃ s n c, TrAt W g (i * 2) (tr.getD i default) s n c ∧ Fresh B W s n
  v : ∀ t ∈ tr, i64ok t.w
theorem CpAt.cd {B : Nat} {W : World} {es ts : Option Addr} {en tn : Nat} {ef : List Ef} {tr : List Tr} (h : CpAt B W es en ef ts tn tr) : CdAt W es en ef ts tn tr :=
  ⟨h.e, ⟨h.n, by have := h.m; omega, fun h0 => by
    obtain ⟨g, e, _, hg, _, ht⟩ := h.t h0
    refine ⟨g, 0, e, hg, fun i t hi => ?_⟩
    have hl := (List.getElem?_eq_some_iff.1 hi).1
    obtain ⟨s, n, c, h1, _⟩ := ht i (by have := h.n; omega)
    have : tr.getD i default = t := by rw [List.getD_eq_getElem?_getD, hi]; rfl
    rw [this] at h1
    exact ⟨s, n, c, by rw [Nat.zero_add]; exact h1⟩, h.v⟩⟩
section
variable {W W' w : World} {sp es : Option Addr} {n en B : Nat} {l ef : List Ef}
theorem Fresh.below (h : Fresh B W sp n) (he : EfsAt W sp n l) (hb : Below W.heap.size W W') : Fresh B W' sp n := fun a ha h0 => by
  obtain ⟨h1, h2, h3⟩ := h a ha h0
  obtain ⟨b, off, e, hl, _⟩ := he.c h0
  rw [ha] at e
  cases e
  exact ⟨h1, h2, fun j => (hb.frozen (p := ⟨b, j, none⟩) hl).trans (h3 j)⟩
theorem Fresh.put (h : Fresh B W sp n) (a : Addr) (v : Value) : Fresh B (W.setCell a v) sp n := fun b hb h0 => by
  obtain ⟨h1, h2, h3⟩ := h b hb h0
  exact ⟨h1, h2, fun j => by rw [World.frozen?_setCell]; exact h3 j⟩
theorem Fresh.mono {B' : Nat} (h : Fresh B W sp n) (hB : B' ≤ B) : Fresh B' W sp n := fun a ha h0 => by
  obtain ⟨h1, h2, h3⟩ := h a ha h0
  exact ⟨by omega, h2, h3⟩
/- the copying of the triggers' effects -/
structure CI (w : World) (cs : List Value) (g cap tn : Nat) (es : Option Addr) (en : Nat) (ef : List Ef) (l : List Tr) (W : World) (ys : List Tx) (k : Nat) : Prop where
  hb : Below w.heap.size w W
  box : has W w.heap.size 34 cs
  res : has W (w.heap.size + 1) 34 zeroL
  row : W.ownsRow (w.heap.size + 2) 44 2 (.slice (some ⟨g, 0, none⟩) tn cap) tn (txC ys)
  n : ys.length = tn
  e : EfsAt W es en ef
  f : Fresh (w.heap.size + 2) W es en
  t : ∀ i, i < tn → (ys.getD i default).w = (l.getD i default).w ∧ EfsAt W (ys.getD i default).s (ys.getD i default).n (l.getD i default).e
  d : ∀ i, i < k → i < tn → Fresh (w.heap.size + 2) W (ys.getD i default).s (ys.getD i default).n
variable {cs : List Value} {g cap tn : Nat} {tr : List Tr} {ys : List Tx} {k : Nat}
theorem CI.below (h : CI w cs g cap tn es en ef tr W ys k) (hb : Below W.heap.size W W') : CI w cs g cap tn es en ef tr W' ys k :=
  ⟨h.hb.trans (hb.mono h.hb.size), h.box.below hb h.box.lt, h.res.below hb h.res.lt, own_below h.row hb, h.n, h.e.below hb (Nat.le_refl _), h.f.below h.e hb,
    fun i hi => ⟨(h.t i hi).1, (h.t i hi).2.below hb (Nat.le_refl _)⟩, fun i hi hl => (h.d i hi hl).below (h.t i hl).2 hb⟩
theorem CI.cell (h : CI w cs g cap tn es en ef tr W ys k) (i : Nat) (hi : i < tn) : W.cell? ⟨g, i * 2, none⟩ = some (.int .i64 (ys.getD i default).w) ∧ W.cell? ⟨g, i * 2 + 1, none⟩ = some (.slice (ys.getD i default).s (ys.getD i default).n (ys.getD i default).c) := by
  have hx : ys[i]? = some (ys.getD i default) := getX (by rw [h.n]; exact hi)
  constructor
  · have := txC_get ys i 0 _ hx (by omega)
    rw [Nat.add_zero] at this
    rw [h.row.cellAt (i * 2) (by omega), this]; rfl
  · have := txC_get ys i 1 _ hx (by omega)
    rw [h.row.cellAt (i * 2 + 1) (by omega), this]; rfl
theorem CI.hg (h : CI w cs g cap tn es en ef tr W ys k) : w.heap.size + 2 ≤ g ∧ g < W.heap.size := by
  rcases h.row.2 with ⟨h1, _⟩ | ⟨g', cap', cur, h1, hb, hh, _⟩
  · cases h1
  · cases h1
    exact ⟨hb, has.lt (cs := cur.toList) (t := 44) (by unfold has; simpa using hh)⟩
theorem set_txC (ys : List Tx) (k : Nat) (x : Tx) (h : k < ys.length) (hw : x.w = (ys.getD k default).w) : (txC ys).set (k * 2 + 1) (.slice x.s x.n x.c) = txC (ys.set k x) := by
  induction ys generalizing k with
  | nil => simp at h
  | cons a r ih =>
    have ea : ∀ (a : Tx) (r : List Tx), txC (a :: r) = .int .i64 a.w :: .slice a.s a.n a.c :: txC r := fun a r => by simp [txC]
    cases k with
    | zero =>
      simp at hw
      rw [ea, List.set_cons_zero, ea, Nat.zero_mul, Nat.zero_add, List.set_cons_succ, List.set_cons_zero, hw]
    | succ k =>
      rw [show (k + 1) * 2 + 1 = (k * 2 + 1) + 1 + 1 by omega, List.set_cons_succ, ea, List.set_cons_succ, List.set_cons_succ, ea]
      rw [ih k (by simpa using h) (by simpa using hw)]
theorem CI.put (h : CI w cs g cap tn es en ef tr W ys k) (hk : k < tn) {s : Option Addr} {n c : Nat} (he : EfsAt W s n (tr.getD k default).e) (hf : Fresh (w.heap.size + 2) W s n) :
    CI w cs g cap tn es en ef tr (W.setCell ⟨g, k * 2 + 1, none⟩ (.slice s n c)) (ys.set k ⟨(tr.getD k default).w, s, n, c⟩) (k + 1) := by
  obtain ⟨g1, g2⟩ := h.hg
  obtain ⟨c0, c1⟩ := h.cell k hk
  have hs := h.row.stored (k * 2 + 1) (.slice s n c)
  have hyk : (ys.getD k default).w = (tr.getD k default).w := (h.t k hk).1
  rw [set_txC ys k ⟨(tr.getD k default).w, s, n, c⟩ (by rw [h.n]; exact hk) (by rw [hyk])] at hs
  have key : ∀ {sp : Option Addr} {n' : Nat} {l : List Ef}, EfsAt W sp n' l → EfsAt (W.setCell ⟨g, k * 2 + 1, none⟩ (.slice s n c)) sp n' l := fun hx => EfsAt.put hx _ _ _ c1 (fun x => by simp)
  have gd : ∀ i, i ≠ k → (ys.set k ⟨(tr.getD k default).w, s, n, c⟩).getD i default = ys.getD i default := fun i hi => by simp only [List.getD_eq_getElem?_getD]; rw [List.getElem?_set_ne (by omega)]
  have gk : (ys.set k ⟨(tr.getD k default).w, s, n, c⟩).getD k default = ⟨(tr.getD k default).w, s, n, c⟩ := by simp only [List.getD_eq_getElem?_getD]; rw [List.getElem?_set_self (by rw [h.n]; exact hk)]; rfl
  refine ⟨below_grown h.hb hs.2 h.hb.size (by omega), h.box.far (by show w.heap.size ≠ g; omega) _, h.res.far (by show w.heap.size + 1 ≠ g; omega) _, hs.1, by simp [h.n], key h.e, h.f.put _ _, fun i hi => ?_, fun i hi hl => ?_⟩
  · by_cases hik : i = k
    · subst hik; rw [gk]; exact ⟨rfl, key he⟩
    · rw [gd i hik]; exact ⟨(h.t i hi).1, key (h.t i hi).2⟩
  · by_cases hik : i = k
    · subst hik; rw [gk]; exact hf.put _ _
    · rw [gd i hik]; exact (h.d i (by omega) hl).put _ _
theorem CI.fin (h : CI w cs g cap tn es en ef tr W ys tn) (hn : tr.length = tn) (hm : tn ≤ 1000) (hv : ∀ t ∈ tr, i64ok t.w) : CpAt (w.heap.size + 2) W es en ef (some ⟨g, 0, none⟩) tn tr :=
  ⟨h.e, h.f, hn, hm, fun _ => ⟨g, rfl, h.hg.1, h.hg.2, fun j => h.row.frozenAt j, fun i hi => by
    obtain ⟨c0, c1⟩ := h.cell i hi
    obtain ⟨t1, t2⟩ := h.t i hi
    exact ⟨_, _, _, ⟨by rw [c0, t1], c1, t2⟩, h.d i hi hi⟩⟩, hv⟩
/- kept by what writes one block alone, which lies outside -/
theorem CpAt.below {es ts : Option Addr} {W2 : World} (h : CpAt B W es en ef ts tn tr) (hb : Below W.heap.size W W2) : CpAt B W2 es en ef ts tn tr :=
  ⟨h.e.below hb (Nat.le_refl _), h.fe.below h.e hb, h.n, h.m, fun h0 => by
    obtain ⟨g, e, h1, hg, hf, ht⟩ := h.t h0
    exact ⟨g, e, h1, Nat.lt_of_lt_of_le hg hb.size, fun j => (hb.frozen (p := ⟨g, j, none⟩) hg).trans (hf j), fun i hi => by
      obtain ⟨s, n, c, h2, h3⟩ := ht i hi
      exact ⟨s, n, c, h2.below hb hg (Nat.le_refl _), h3.below h2.e hb⟩⟩, h.v⟩
end
def clTPost (n : Nat) (xs : List Tx) (w : World) (v : Ending) (W : World) : Prop := ∃ sp c, v = .returned (.slice sp n c) ∧ n ≤ c ∧ (0 < n → W.ownsRow w.heap.size 44 2 (.slice sp n c) n (txC xs)) ∧ Below w.heap.size w W
set_option maxRecDepth 100000 in
set_option maxHeartbeats 2000000 in
theorem cloneT_any (sp : Option Addr) (n cap : Nat) (xs : List Tx) (w : World) (hx : xs.length = n) (hl : n ≤ 1000) (h : 0 < n → ∃ b off, sp = some ⟨b, off, none⟩ ∧ b < w.heap.size ∧ ∀ j u, (txC xs)[j]? = some u → w.cell? ⟨b, off + j, none⟩ = some u) :
    Calls Tryd.prog 29 #[.slice sp n cap] w (clTPost n xs w) := by
  obtain ⟨i0, hi, hz0, hz1, hz2⟩ := info_parts infoT'
  have HO : Hid ((w.alloc (.cells #[] 44)).ownsRow w.heap.size 44 2 (.slice (some ⟨w.heap.size, 0, none⟩) 0 0) 0 []) := Lib.hid (World.ownsRow_lit (base := w.heap.size) (e := 44) (size := 2) w #[] 0 (Nat.le_refl _) (by unfold maxLen; omega) rfl)
  have HB0 : Hid (Below w.heap.size w (w.alloc (.cells #[] 44))) := Lib.hid ((Below.refl _ _).alloc (Nat.le_refl _) _)
  rcases Nat.eq_zero_or_pos n with h0 | h0
  · cases sp with
    | none =>
      have q1 : ∀ w, (binOp .eql 32 (.slice none n cap) (.slice none 0 0)).run Tryd.prog w = .ok (.bool true) w := fun w => Lib.run_eql_slice_nil w _ _ none n cap 0 0 Tryd.underlying32
      have HH := Lib.hid h0
      clear hx h h0
      go_enter Tryd.func29, Tryd.ntmps29
      go_wp2_with fail
      go_ret
      obtain rfl := HH.out
      exact ⟨none, 0, rfl, Nat.le_refl _, fun h => absurd h (by omega), Below.refl _ _⟩
    | some a =>
      have q1 : ∀ w, (binOp .eql 32 (.slice (some a) n cap) (.slice none 0 0)).run Tryd.prog w = .ok (.bool false) w := fun w => Lib.run_eql_slice_nil w _ _ (some a) n cap 0 0 Tryd.underlying32
      subst h0
      clear hx h
      go_enter Tryd.func29, Tryd.ntmps29
      go_wp2_with (at_builtin; refine wpList_append_own _ rfl _ _ 32 rfl w.heap.size 44 i0 (.agg #[.int .i64 0, .slice none 0 0]) 2 32 Tryd.underlying32 hi hz0 hz1 hz2 rfl (by decide) _ 0 _ rfl HO.out a 0 cap [] rfl rfl (fun j u hu => by simp at hu) (by simp) (by unfold maxLen; omega) (by omega) (by simp) ?_; intro v1 w1 hown hgrow _; have HO1 := Lib.hid hown; have HG1 := Lib.hid (below_own HB0.out HO.out hgrow (by simp)); clear hown hgrow)
      go_ret
      obtain ⟨sv, cv, rfl, h2, h3, h4, h5⟩ := own_form HO1.out
      exact ⟨sv, cv, rfl, by omega, fun h => absurd h (by omega), HG1.out⟩
  · obtain ⟨b, off, rfl, hbl, hc⟩ := h h0
    have q1 : ∀ w, (binOp .eql 32 (.slice (some ⟨b, off, none⟩) n cap) (.slice none 0 0)).run Tryd.prog w = .ok (.bool false) w := fun w => Lib.run_eql_slice_nil w _ _ (some _) n cap 0 0 Tryd.underlying32
    have HN := Lib.hid hx
    have HC2 : Hid (∀ j u, (txC xs)[j]? = some u → (w.alloc (.cells #[] 44)).cell? ⟨b, off + j, none⟩ = some u) := Lib.hid (fun j u hu => (HB0.out.cell (p := ⟨b, off + j, none⟩) hbl).trans (hc j u hu))
    clear hc h hx
    go_enter Tryd.func29, Tryd.ntmps29
    go_wp2_with (at_builtin; refine wpList_append_own _ rfl _ _ 32 rfl w.heap.size 44 i0 (.agg #[.int .i64 0, .slice none 0 0]) 2 32 Tryd.underlying32 hi hz0 hz1 hz2 rfl (by decide) _ 0 _ rfl HO.out ⟨b, off, none⟩ n cap (txC xs) rfl (by rw [txC_len, HN.out]; omega) (fun j u hu => by rw [addr_add]; exact HC2.out j u hu) (txC_one xs) (by unfold maxLen; omega) (by omega) (by simp) ?_; intro v1 w1 hown hgrow _; have HO1 := Lib.hid hown; have HG1 := Lib.hid (below_own HB0.out HO.out hgrow (by simp)); clear hown hgrow)
    go_ret
    obtain ⟨sv, cv, rfl, h2, h3, h4, h5⟩ := own_form HO1.out
    refine ⟨sv, cv, by rw [Nat.zero_add]; rfl, by omega, fun _ => ?_, HG1.out⟩
    have := HO1.out
    rw [Nat.zero_add, List.nil_append] at this
    exact this
theorem cloneT_pos (sp : Option Addr) (n cap : Nat) (xs : List Tx) (w : World) (hx : xs.length = n) (hl : n ≤ 1000) (h0 : 0 < n) (h : 0 < n → ∃ b off, sp = some ⟨b, off, none⟩ ∧ b < w.heap.size ∧ ∀ j u, (txC xs)[j]? = some u → w.cell? ⟨b, off + j, none⟩ = some u) :
    Calls Tryd.prog 29 #[.slice sp n cap] w fun v W => ∃ g c, v = .returned (.slice (some ⟨g, 0, none⟩) n c) ∧ n ≤ c ∧ W.ownsRow w.heap.size 44 2 (.slice (some ⟨g, 0, none⟩) n c) n (txC xs) ∧ Below w.heap.size w W := by
  refine (cloneT_any sp n cap xs w hx hl h).mono ?_
  rintro v W ⟨sp', c, rfl, h1, h2, h3⟩
  obtain ⟨g, c', he, _, _⟩ := (h2 h0).form h0
  cases he
  exact ⟨g, _, rfl, h1, h2 h0, h3⟩
theorem newK {w : World} {n : Nat} (h : w.heap.size = n) (t : TypeId) (cs : List Value) : has (w.alloc (.cells cs.toArray t)) n t cs := h ▸ new0 w t cs
theorem row_mono {W : World} {b b' : Nat} {t : TypeId} {size : Nat} {v : Value} {n : Nat} {xs : List Value} (h : W.ownsRow b t size v n xs) (hb : b' ≤ b) : W.ownsRow b' t size v n xs :=
  ⟨h.1, h.2.imp id fun ⟨g, cap, cur, h1, h2, h3⟩ => ⟨g, cap, cur, h1, Nat.le_trans hb h2, h3⟩⟩

end Go.Proofs.YtkappnnoienhnaaDoor.caFn

/- Copy: a card that is equal and shares no memory. -/
namespace Go.Proofs.YtkappnnoienhnaaDoor.caFn
open Go.ChangeShapes Go.WideShapes Go.ChangeAt Go.RowKit drMem efFn
set_option linter.unusedVariables false

/- what Copy returns -/
def cpPost (s : ByteArray) (kd a b c d x m p t k : Int) (en tn : Nat) (r : Int) (e : List Ef) (l : List Tr) (w : World) (v : Ending) (W : World) : Prop :=
  ∃ es2 ec2 ts2 tc2, v = .returned (cV s kd a b c d x m p t k es2 en ec2 ts2 tn tc2 r) ∧ CpAt (w.heap.size + 2) W es2 en e ts2 tn l ∧ tn ≤ tc2 ∧ Below w.heap.size w W
theorem CpAt.row {B : Nat} {W W2 : World} {es ts : Option Addr} {en tn g0 : Nat} {ef : List Ef} {tr : List Tr} (h : CpAt B W es en ef ts tn tr) (hW : W.grownBy W2 (some g0)) (hg : g0 < B) : CpAt B W2 es en ef ts tn tr := by
  have kE : ∀ {sp : Option Addr} {n : Nat} {l : List Ef}, EfsAt W sp n l → Fresh B W sp n → EfsAt W2 sp n l := fun h1 h2 => EfsAt.grownTo h1 hW (fun a ha h0 e => by have := (h2 a ha h0).1; cases e; omega)
  have kF : ∀ {sp : Option Addr} {n : Nat} {l : List Ef}, EfsAt W sp n l → Fresh B W sp n → Fresh B W2 sp n := fun h1 h2 a ha h0 => by
    obtain ⟨f1, f2, f3⟩ := h2 a ha h0
    obtain ⟨b, off, e, hl, _⟩ := h1.c h0
    rw [ha] at e
    cases e
    exact ⟨f1, f2, fun j => (hW.frozen_far ⟨b, j, none⟩ hl (by intro e; have e2 : b = g0 := Option.some.inj e; dsimp only at f1; omega)).trans (f3 j)⟩
  refine ⟨kE h.e h.fe, kF h.e h.fe, h.n, h.m, fun h0 => ?_, h.v⟩
  obtain ⟨g, e, h1, hgl, hf, ht⟩ := h.t h0
  have hne : some g ≠ some g0 := by intro e; cases e; omega
  refine ⟨g, e, h1, Nat.lt_of_lt_of_le hgl hW.size, fun j => (hW.frozen_far ⟨g, j, none⟩ hgl hne).trans (hf j), fun i hi => ?_⟩
  obtain ⟨s, n, c, h2, h3⟩ := ht i hi
  exact ⟨s, n, c, ⟨(World.cell?_of_block (hW.block g hgl hne)).trans h2.c0, (World.cell?_of_block (hW.block g hgl hne)).trans h2.c1, kE h2.e h3⟩, kF h2.e h3⟩
set_option maxRecDepth 100000 in
set_option maxHeartbeats 8000000 in
theorem Copy_0 (s : ByteArray) (kd a b c d x m p t k : Int) (es : Option Addr) (en ec : Nat) (ts : Option Addr) (tn tc : Nat) (r : Int) (e : List Ef) (l : List Tr) (w : World) (h : CdAt w es en e ts tn l) (hen : en ≤ 1000) (htn : tn ≤ 1000) (hte : ∀ t ∈ l, t.e.length ≤ 1000) (h0 : tn = 0) :
    Calls Tryd.prog 12 #[cV s kd a b c d x m p t k es en ec ts tn tc r] w (cpPost s kd a b c d x m p t k en tn r e l w) := by
  have hd0 : ¬ (0 : Int) < (tn : Int) := by omega
  have H00 := Lib.hid h0
  clear h0
  have HA := Lib.hid (show has ((w.alloc (.cells #[.string s, .int .i64 kd, .int .i64 a, .int .i64 b, .int .i64 c, .int .i64 d, .int .i64 x, .int .i64 m, .int .i64 p, .int .i64 t, .int .i64 k, .slice es en ec, .slice ts tn tc, .int .i64 r] 34)).alloc (.cells #[.string ⟨#[]⟩, .int .i64 0, .int .i64 0, .int .i64 0, .int .i64 0, .int .i64 0, .int .i64 0, .int .i64 0, .int .i64 0, .int .i64 0, .int .i64 0, .slice none 0 0, .slice none 0 0, .int .i64 0] 34)) w.heap.size 34 [.string s, .int .i64 kd, .int .i64 a, .int .i64 b, .int .i64 c, .int .i64 d, .int .i64 x, .int .i64 m, .int .i64 p, .int .i64 t, .int .i64 k, .slice es en ec, .slice ts tn tc, .int .i64 r] from (new0 w 34 [.string s, .int .i64 kd, .int .i64 a, .int .i64 b, .int .i64 c, .int .i64 d, .int .i64 x, .int .i64 m, .int .i64 p, .int .i64 t, .int .i64 k, .slice es en ec, .slice ts tn tc, .int .i64 r]).alloc _)
  have HZ := Lib.hid (show has ((w.alloc (.cells #[.string s, .int .i64 kd, .int .i64 a, .int .i64 b, .int .i64 c, .int .i64 d, .int .i64 x, .int .i64 m, .int .i64 p, .int .i64 t, .int .i64 k, .slice es en ec, .slice ts tn tc, .int .i64 r] 34)).alloc (.cells #[.string ⟨#[]⟩, .int .i64 0, .int .i64 0, .int .i64 0, .int .i64 0, .int .i64 0, .int .i64 0, .int .i64 0, .int .i64 0, .int .i64 0, .int .i64 0, .slice none 0 0, .slice none 0 0, .int .i64 0] 34)) (w.heap.size + 1) 34 zeroL from newK (by simp) 34 zeroL)
  have HB := Lib.hid (show Below w.heap.size w ((w.alloc (.cells #[.string s, .int .i64 kd, .int .i64 a, .int .i64 b, .int .i64 c, .int .i64 d, .int .i64 x, .int .i64 m, .int .i64 p, .int .i64 t, .int .i64 k, .slice es en ec, .slice ts tn tc, .int .i64 r] 34)).alloc (.cells #[.string ⟨#[]⟩, .int .i64 0, .int .i64 0, .int .i64 0, .int .i64 0, .int .i64 0, .int .i64 0, .int .i64 0, .int .i64 0, .int .i64 0, .int .i64 0, .slice none 0 0, .slice none 0 0, .int .i64 0] 34)) from ((Below.refl _ w).alloc (Nat.le_refl _) _).alloc (by simp) _)
  have hln := h.t.n
  have HX : Hid (∃ xs : List Tx, xs.length = tn ∧ (0 < tn → ∃ b off, ts = some ⟨b, off, none⟩ ∧ b < w.heap.size ∧ ∀ j u, (txC xs)[j]? = some u → w.cell? ⟨b, off + j, none⟩ = some u) ∧ ∀ i, i < tn → (xs.getD i default).w = (l.getD i default).w ∧ EfsAt w (xs.getD i default).s (xs.getD i default).n (l.getD i default).e) := Lib.hid (by
    rcases Nat.eq_zero_or_pos tn with h1 | h1
    · exact ⟨[], by simp [h1], fun h2 => absurd h2 (by omega), fun i hi => absurd hi (by omega)⟩
    · obtain ⟨b', off', e', hb', hc'⟩ := h.t.c h1
      obtain ⟨xs, hx1, hx2⟩ := tx_of hc'
      exact ⟨xs, hx1.trans hln, fun _ => ⟨b', off', e', hb', tx_cells hx1 hx2⟩, fun i hi => ⟨(hx2 i (by omega)).1, (hx2 i (by omega)).2.e⟩⟩)
  obtain ⟨xs, hxn, hxc, hxe⟩ := HX.out
  have HXE := Lib.hid hxe
  have HXC := Lib.hid hxc
  have HXN := Lib.hid hxn
  have HV := Lib.hid h.t.v
  have HLN := Lib.hid hln
  have HTE : Hid (∀ i, i < tn → (l.getD i default).e.length ≤ 1000) := Lib.hid fun i hi => hte _ (by rw [List.getD_eq_getElem?_getD, List.getElem?_eq_getElem (by omega)]; exact List.getElem_mem _)
  have HC := cloneE_any es en ec e _ (h.e.below HB.out (Nat.le_refl _)) hen
  obtain ⟨u0, u1, u2, u3, u4, u5, u6, u7, u8, u9, u10, u11, u12, u13, u14⟩ := card14 HA.out
  clear HX hxe hxc hxn hln h hte
  go_enter Tryd.func12, Tryd.ntmps12
  go_wp2_with fail
  clear u0 u1 u2 u3 u4 u5 u6 u7 u8 u9 u10 u11 u12 u13 u14
  refine HC.mono ?_; rintro v w1 ⟨es2, ec2, rfl, hE, _, hb, hF⟩
  have HA1 := Lib.hid (HA.out.below hb HA.out.lt)
  have HZ1 := Lib.hid (HZ.out.below hb HZ.out.lt)
  have HB1 := Lib.hid (next HB.out hb)
  have HE1 := Lib.hid hE
  have HF1 : Hid (Fresh (w.heap.size + 2) w1 es2 en) := Lib.hid (hF.mono (by simp))
  clear hb hE hF HA HZ HB
  obtain ⟨u0, u1, u2, u3, u4, u5, u6, u7, u8, u9, u10, u11, u12, u13, u14⟩ := card14 HA1.out
  go_wp2_with fail
  obtain ⟨W1, hW1⟩ : ∃ W, w1.setCell ⟨w.heap.size, 11, none⟩ (.slice es2 en ec2) = W := ⟨_, rfl⟩
  have HA2 : Hid (has W1 w.heap.size 34 [.string s, .int .i64 kd, .int .i64 a, .int .i64 b, .int .i64 c, .int .i64 d, .int .i64 x, .int .i64 m, .int .i64 p, .int .i64 t, .int .i64 k, .slice es2 en ec2, .slice ts tn tc, .int .i64 r]) := Lib.hid (by rw [← hW1]; exact HA1.out.put 11 (.slice es2 en ec2))
  have HZ2 : Hid (has W1 (w.heap.size + 1) 34 zeroL) := Lib.hid (by rw [← hW1]; exact HZ1.out.far (by show w.heap.size + 1 ≠ w.heap.size; omega) _)
  have HB2 : Hid (Below w.heap.size w W1) := Lib.hid (by rw [← hW1]; exact below_grown HB1.out (grown_set w1 ⟨w.heap.size, 11, none⟩ (.slice es2 en ec2)) HB1.out.size (Nat.le_refl _))
  have HE2 : Hid (EfsAt W1 es2 en e) := Lib.hid (by rw [← hW1]; exact EfsAt.put HE1.out _ _ _ u11 (fun x => by simp))
  have HF2 : Hid (Fresh (w.heap.size + 2) W1 es2 en) := Lib.hid (by rw [← hW1]; exact HF1.out.put _ _)
  rw [hW1]
  have HLT : Hid (w.heap.size + 2 ≤ W1.heap.size) := Lib.hid HZ2.out.lt
  clear hW1 HA1 HZ1 HB1 HE1 HF1 u0 u1 u2 u3 u4 u5 u6 u7 u8 u9 u10 u11 u12 u13 u14
  refine (cloneT_any ts tn tc xs W1 HXN.out htn (fun h2 => by obtain ⟨b', off', e', hb', hc'⟩ := HXC.out h2; exact ⟨b', off', e', Nat.lt_of_lt_of_le hb' HB2.out.size, fun j u hu => (HB2.out.cell (p := ⟨b', off' + j, none⟩) hb').trans (hc' j u hu)⟩)).mono ?_; rintro v w2 ⟨ts2, tc2, rfl, hle, _, hb⟩
  have HLE := Lib.hid hle
  clear hle
  have HA3 := Lib.hid (HA2.out.below hb HA2.out.lt)
  have HZ3 := Lib.hid (HZ2.out.below hb HZ2.out.lt)
  have HB3 := Lib.hid (next HB2.out hb)
  have HE3 := Lib.hid (HE2.out.below hb (Nat.le_refl _))
  have HF3 := Lib.hid (HF2.out.below HE2.out hb)
  clear hb
  obtain ⟨u0, u1, u2, u3, u4, u5, u6, u7, u8, u9, u10, u11, u12, u13, u14⟩ := card14 HA3.out
  skip
  go_wp2_with fail
  obtain ⟨W3, hW3⟩ : ∃ W, w2.setCell ⟨w.heap.size, 12, none⟩ (.slice (ts2) tn tc2) = W := ⟨_, rfl⟩
  have HA4 : Hid (has W3 w.heap.size 34 [.string s, .int .i64 kd, .int .i64 a, .int .i64 b, .int .i64 c, .int .i64 d, .int .i64 x, .int .i64 m, .int .i64 p, .int .i64 t, .int .i64 k, .slice es2 en ec2, .slice (ts2) tn tc2, .int .i64 r]) := Lib.hid (by rw [← hW3]; exact HA3.out.put 12 (.slice (ts2) tn tc2))
  have HZ4 : Hid (has W3 (w.heap.size + 1) 34 zeroL) := Lib.hid (by rw [← hW3]; exact HZ3.out.far (by show w.heap.size + 1 ≠ w.heap.size; omega) _)
  have HB4 : Hid (Below w.heap.size w W3) := Lib.hid (by rw [← hW3]; exact below_grown HB3.out (grown_set w2 ⟨w.heap.size, 12, none⟩ (.slice (ts2) tn tc2)) HB3.out.size (Nat.le_refl _))
  have HE4 : Hid (EfsAt W3 es2 en e) := Lib.hid (by rw [← hW3]; exact EfsAt.put HE3.out _ _ _ u12 (fun x => by simp))
  have HF4 : Hid (Fresh (w.heap.size + 2) W3 es2 en) := Lib.hid (by rw [← hW3]; exact HF3.out.put _ _)
  rw [hW3]
  clear hW3 HA3 HZ3 HB3 HE3 HF3
  clear u0 u1 u2 u3 u4 u5 u6 u7 u8 u9 u10 u11 u12 u13 u14
  refine wp_loop_rounds 1 ?_
  rw [rounds_succ]
  obtain ⟨p0, p1, p2, p3, p4, p5, p6, p7, p8, p9, pa, pb, pc, pd, pf⟩ := card14 HA4.out
  obtain ⟨y0, y1, y2, y3, y4, y5, y6, y7, y8, y9, ya, yb, yc, yd, yf⟩ := card14 HZ4.out
  go_wp2_with fail
  have RR : has ((((((((((((((W3.setCell ⟨w.heap.size + 1, 0, none⟩ (.string s)).setCell ⟨w.heap.size + 1, 1, none⟩ (.int .i64 kd)).setCell ⟨w.heap.size + 1, 2, none⟩ (.int .i64 a)).setCell ⟨w.heap.size + 1, 3, none⟩ (.int .i64 b)).setCell ⟨w.heap.size + 1, 4, none⟩ (.int .i64 c)).setCell ⟨w.heap.size + 1, 5, none⟩ (.int .i64 d)).setCell ⟨w.heap.size + 1, 6, none⟩ (.int .i64 x)).setCell ⟨w.heap.size + 1, 7, none⟩ (.int .i64 m)).setCell ⟨w.heap.size + 1, 8, none⟩ (.int .i64 p)).setCell ⟨w.heap.size + 1, 9, none⟩ (.int .i64 t)).setCell ⟨w.heap.size + 1, 10, none⟩ (.int .i64 k)).setCell ⟨w.heap.size + 1, 11, none⟩ (.slice es2 en ec2)).setCell ⟨w.heap.size + 1, 12, none⟩ (.slice (ts2) tn tc2)).setCell ⟨w.heap.size + 1, 13, none⟩ (.int .i64 r)) (w.heap.size + 1) 34 [.string s, .int .i64 kd, .int .i64 a, .int .i64 b, .int .i64 c, .int .i64 d, .int .i64 x, .int .i64 m, .int .i64 p, .int .i64 t, .int .i64 k, .slice es2 en ec2, .slice (ts2) tn tc2, .int .i64 r] := (((((((((((((((show has W3 (w.heap.size + 1) 34 zeroL from HZ4.out).put 0 (.string s)).put 1 (.int .i64 kd)).put 2 (.int .i64 a)).put 3 (.int .i64 b)).put 4 (.int .i64 c)).put 5 (.int .i64 d)).put 6 (.int .i64 x)).put 7 (.int .i64 m)).put 8 (.int .i64 p)).put 9 (.int .i64 t)).put 10 (.int .i64 k)).put 11 (.slice es2 en ec2)).put 12 (.slice (ts2) tn tc2)).put 13 (.int .i64 r))
  have RG : W3.grownBy ((((((((((((((W3.setCell ⟨w.heap.size + 1, 0, none⟩ (.string s)).setCell ⟨w.heap.size + 1, 1, none⟩ (.int .i64 kd)).setCell ⟨w.heap.size + 1, 2, none⟩ (.int .i64 a)).setCell ⟨w.heap.size + 1, 3, none⟩ (.int .i64 b)).setCell ⟨w.heap.size + 1, 4, none⟩ (.int .i64 c)).setCell ⟨w.heap.size + 1, 5, none⟩ (.int .i64 d)).setCell ⟨w.heap.size + 1, 6, none⟩ (.int .i64 x)).setCell ⟨w.heap.size + 1, 7, none⟩ (.int .i64 m)).setCell ⟨w.heap.size + 1, 8, none⟩ (.int .i64 p)).setCell ⟨w.heap.size + 1, 9, none⟩ (.int .i64 t)).setCell ⟨w.heap.size + 1, 10, none⟩ (.int .i64 k)).setCell ⟨w.heap.size + 1, 11, none⟩ (.slice es2 en ec2)).setCell ⟨w.heap.size + 1, 12, none⟩ (.slice (ts2) tn tc2)).setCell ⟨w.heap.size + 1, 13, none⟩ (.int .i64 r)) (some (w.heap.size + 1)) := (grown_trans (grown_trans (grown_trans (grown_trans (grown_trans (grown_trans (grown_trans (grown_trans (grown_trans (grown_trans (grown_trans (grown_trans (grown_trans (grown_trans (grown_refl W3 (some (w.heap.size + 1))) (grown_set _ ⟨w.heap.size + 1, 0, none⟩ (.string s))) (grown_set _ ⟨w.heap.size + 1, 1, none⟩ (.int .i64 kd))) (grown_set _ ⟨w.heap.size + 1, 2, none⟩ (.int .i64 a))) (grown_set _ ⟨w.heap.size + 1, 3, none⟩ (.int .i64 b))) (grown_set _ ⟨w.heap.size + 1, 4, none⟩ (.int .i64 c))) (grown_set _ ⟨w.heap.size + 1, 5, none⟩ (.int .i64 d))) (grown_set _ ⟨w.heap.size + 1, 6, none⟩ (.int .i64 x))) (grown_set _ ⟨w.heap.size + 1, 7, none⟩ (.int .i64 m))) (grown_set _ ⟨w.heap.size + 1, 8, none⟩ (.int .i64 p))) (grown_set _ ⟨w.heap.size + 1, 9, none⟩ (.int .i64 t))) (grown_set _ ⟨w.heap.size + 1, 10, none⟩ (.int .i64 k))) (grown_set _ ⟨w.heap.size + 1, 11, none⟩ (.slice es2 en ec2))) (grown_set _ ⟨w.heap.size + 1, 12, none⟩ (.slice (ts2) tn tc2))) (grown_set _ ⟨w.heap.size + 1, 13, none⟩ (.int .i64 r)))
  obtain ⟨F, hF⟩ : ∃ F, ((((((((((((((W3.setCell ⟨w.heap.size + 1, 0, none⟩ (.string s)).setCell ⟨w.heap.size + 1, 1, none⟩ (.int .i64 kd)).setCell ⟨w.heap.size + 1, 2, none⟩ (.int .i64 a)).setCell ⟨w.heap.size + 1, 3, none⟩ (.int .i64 b)).setCell ⟨w.heap.size + 1, 4, none⟩ (.int .i64 c)).setCell ⟨w.heap.size + 1, 5, none⟩ (.int .i64 d)).setCell ⟨w.heap.size + 1, 6, none⟩ (.int .i64 x)).setCell ⟨w.heap.size + 1, 7, none⟩ (.int .i64 m)).setCell ⟨w.heap.size + 1, 8, none⟩ (.int .i64 p)).setCell ⟨w.heap.size + 1, 9, none⟩ (.int .i64 t)).setCell ⟨w.heap.size + 1, 10, none⟩ (.int .i64 k)).setCell ⟨w.heap.size + 1, 11, none⟩ (.slice es2 en ec2)).setCell ⟨w.heap.size + 1, 12, none⟩ (.slice (ts2) tn tc2)).setCell ⟨w.heap.size + 1, 13, none⟩ (.int .i64 r)) = F := ⟨_, rfl⟩
  rw [hF] at RR RG ⊢
  clear hF
  obtain ⟨k0, k1, k2, k3, k4, k5, k6, k7, k8, k9, ka, kb, kc, kk, kf⟩ := card14 RR
  refine bodyPost_ret (v := cV s kd a b c d x m p t k es2 en ec2 (ts2) tn tc2 r) (by simp [results, Tryd.results12, go_sem, k0, k1, k2, k3, k4, k5, k6, k7, k8, k9, ka, kb, kc, kk]) rfl ?_
  have hcp : CpAt (w.heap.size + 2) W3 es2 en e ts2 tn l := ⟨HE4.out, HF4.out, HLN.out, htn, fun h => absurd h (by have := H00.out; omega), HV.out⟩
  exact ⟨_, _, _, _, rfl, hcp.row RG (by omega), HLE.out, below_grown HB4.out RG HB4.out.size (by omega)⟩
set_option maxRecDepth 100000 in
set_option maxHeartbeats 8000000 in
theorem Copy_p (s : ByteArray) (kd a b c d x m p t k : Int) (es : Option Addr) (en ec : Nat) (ts : Option Addr) (tn tc : Nat) (r : Int) (e : List Ef) (l : List Tr) (w : World) (h : CdAt w es en e ts tn l) (hen : en ≤ 1000) (htn : tn ≤ 1000) (hte : ∀ t ∈ l, t.e.length ≤ 1000) (h0 : 0 < tn) :
    Calls Tryd.prog 12 #[cV s kd a b c d x m p t k es en ec ts tn tc r] w (cpPost s kd a b c d x m p t k en tn r e l w) := by
  have HA := Lib.hid (show has ((w.alloc (.cells #[.string s, .int .i64 kd, .int .i64 a, .int .i64 b, .int .i64 c, .int .i64 d, .int .i64 x, .int .i64 m, .int .i64 p, .int .i64 t, .int .i64 k, .slice es en ec, .slice ts tn tc, .int .i64 r] 34)).alloc (.cells #[.string ⟨#[]⟩, .int .i64 0, .int .i64 0, .int .i64 0, .int .i64 0, .int .i64 0, .int .i64 0, .int .i64 0, .int .i64 0, .int .i64 0, .int .i64 0, .slice none 0 0, .slice none 0 0, .int .i64 0] 34)) w.heap.size 34 [.string s, .int .i64 kd, .int .i64 a, .int .i64 b, .int .i64 c, .int .i64 d, .int .i64 x, .int .i64 m, .int .i64 p, .int .i64 t, .int .i64 k, .slice es en ec, .slice ts tn tc, .int .i64 r] from (new0 w 34 [.string s, .int .i64 kd, .int .i64 a, .int .i64 b, .int .i64 c, .int .i64 d, .int .i64 x, .int .i64 m, .int .i64 p, .int .i64 t, .int .i64 k, .slice es en ec, .slice ts tn tc, .int .i64 r]).alloc _)
  have HZ := Lib.hid (show has ((w.alloc (.cells #[.string s, .int .i64 kd, .int .i64 a, .int .i64 b, .int .i64 c, .int .i64 d, .int .i64 x, .int .i64 m, .int .i64 p, .int .i64 t, .int .i64 k, .slice es en ec, .slice ts tn tc, .int .i64 r] 34)).alloc (.cells #[.string ⟨#[]⟩, .int .i64 0, .int .i64 0, .int .i64 0, .int .i64 0, .int .i64 0, .int .i64 0, .int .i64 0, .int .i64 0, .int .i64 0, .int .i64 0, .slice none 0 0, .slice none 0 0, .int .i64 0] 34)) (w.heap.size + 1) 34 zeroL from newK (by simp) 34 zeroL)
  have HB := Lib.hid (show Below w.heap.size w ((w.alloc (.cells #[.string s, .int .i64 kd, .int .i64 a, .int .i64 b, .int .i64 c, .int .i64 d, .int .i64 x, .int .i64 m, .int .i64 p, .int .i64 t, .int .i64 k, .slice es en ec, .slice ts tn tc, .int .i64 r] 34)).alloc (.cells #[.string ⟨#[]⟩, .int .i64 0, .int .i64 0, .int .i64 0, .int .i64 0, .int .i64 0, .int .i64 0, .int .i64 0, .int .i64 0, .int .i64 0, .int .i64 0, .slice none 0 0, .slice none 0 0, .int .i64 0] 34)) from ((Below.refl _ w).alloc (Nat.le_refl _) _).alloc (by simp) _)
  have hln := h.t.n
  have HX : Hid (∃ xs : List Tx, xs.length = tn ∧ (0 < tn → ∃ b off, ts = some ⟨b, off, none⟩ ∧ b < w.heap.size ∧ ∀ j u, (txC xs)[j]? = some u → w.cell? ⟨b, off + j, none⟩ = some u) ∧ ∀ i, i < tn → (xs.getD i default).w = (l.getD i default).w ∧ EfsAt w (xs.getD i default).s (xs.getD i default).n (l.getD i default).e) := Lib.hid (by
    rcases Nat.eq_zero_or_pos tn with h1 | h1
    · exact ⟨[], by simp [h1], fun h2 => absurd h2 (by omega), fun i hi => absurd hi (by omega)⟩
    · obtain ⟨b', off', e', hb', hc'⟩ := h.t.c h1
      obtain ⟨xs, hx1, hx2⟩ := tx_of hc'
      exact ⟨xs, hx1.trans hln, fun _ => ⟨b', off', e', hb', tx_cells hx1 hx2⟩, fun i hi => ⟨(hx2 i (by omega)).1, (hx2 i (by omega)).2.e⟩⟩)
  obtain ⟨xs, hxn, hxc, hxe⟩ := HX.out
  have HXE := Lib.hid hxe
  have HXC := Lib.hid hxc
  have HXN := Lib.hid hxn
  have HV := Lib.hid h.t.v
  have HLN := Lib.hid hln
  have HTE : Hid (∀ i, i < tn → (l.getD i default).e.length ≤ 1000) := Lib.hid fun i hi => hte _ (by rw [List.getD_eq_getElem?_getD, List.getElem?_eq_getElem (by omega)]; exact List.getElem_mem _)
  have HC := cloneE_any es en ec e _ (h.e.below HB.out (Nat.le_refl _)) hen
  obtain ⟨u0, u1, u2, u3, u4, u5, u6, u7, u8, u9, u10, u11, u12, u13, u14⟩ := card14 HA.out
  clear HX hxe hxc hxn hln h hte
  go_enter Tryd.func12, Tryd.ntmps12
  go_wp2_with fail
  clear u0 u1 u2 u3 u4 u5 u6 u7 u8 u9 u10 u11 u12 u13 u14
  refine HC.mono ?_; rintro v w1 ⟨es2, ec2, rfl, hE, _, hb, hF⟩
  have HA1 := Lib.hid (HA.out.below hb HA.out.lt)
  have HZ1 := Lib.hid (HZ.out.below hb HZ.out.lt)
  have HB1 := Lib.hid (next HB.out hb)
  have HE1 := Lib.hid hE
  have HF1 : Hid (Fresh (w.heap.size + 2) w1 es2 en) := Lib.hid (hF.mono (by simp))
  clear hb hE hF HA HZ HB
  obtain ⟨u0, u1, u2, u3, u4, u5, u6, u7, u8, u9, u10, u11, u12, u13, u14⟩ := card14 HA1.out
  go_wp2_with fail
  obtain ⟨W1, hW1⟩ : ∃ W, w1.setCell ⟨w.heap.size, 11, none⟩ (.slice es2 en ec2) = W := ⟨_, rfl⟩
  have HA2 : Hid (has W1 w.heap.size 34 [.string s, .int .i64 kd, .int .i64 a, .int .i64 b, .int .i64 c, .int .i64 d, .int .i64 x, .int .i64 m, .int .i64 p, .int .i64 t, .int .i64 k, .slice es2 en ec2, .slice ts tn tc, .int .i64 r]) := Lib.hid (by rw [← hW1]; exact HA1.out.put 11 (.slice es2 en ec2))
  have HZ2 : Hid (has W1 (w.heap.size + 1) 34 zeroL) := Lib.hid (by rw [← hW1]; exact HZ1.out.far (by show w.heap.size + 1 ≠ w.heap.size; omega) _)
  have HB2 : Hid (Below w.heap.size w W1) := Lib.hid (by rw [← hW1]; exact below_grown HB1.out (grown_set w1 ⟨w.heap.size, 11, none⟩ (.slice es2 en ec2)) HB1.out.size (Nat.le_refl _))
  have HE2 : Hid (EfsAt W1 es2 en e) := Lib.hid (by rw [← hW1]; exact EfsAt.put HE1.out _ _ _ u11 (fun x => by simp))
  have HF2 : Hid (Fresh (w.heap.size + 2) W1 es2 en) := Lib.hid (by rw [← hW1]; exact HF1.out.put _ _)
  rw [hW1]
  have HLT : Hid (w.heap.size + 2 ≤ W1.heap.size) := Lib.hid HZ2.out.lt
  clear hW1 HA1 HZ1 HB1 HE1 HF1 u0 u1 u2 u3 u4 u5 u6 u7 u8 u9 u10 u11 u12 u13 u14
  refine (cloneT_pos ts tn tc xs W1 HXN.out htn h0 (fun h2 => by obtain ⟨b', off', e', hb', hc'⟩ := HXC.out h2; exact ⟨b', off', e', Nat.lt_of_lt_of_le hb' HB2.out.size, fun j u hu => (HB2.out.cell (p := ⟨b', off' + j, none⟩) hb').trans (hc' j u hu)⟩)).mono ?_; rintro v w2 ⟨g, tc2, rfl, hle, hown, hb⟩
  have HR2 := Lib.hid hown
  have HLE := Lib.hid hle
  clear hown hle
  have HA3 := Lib.hid (HA2.out.below hb HA2.out.lt)
  have HZ3 := Lib.hid (HZ2.out.below hb HZ2.out.lt)
  have HB3 := Lib.hid (next HB2.out hb)
  have HE3 := Lib.hid (HE2.out.below hb (Nat.le_refl _))
  have HF3 := Lib.hid (HF2.out.below HE2.out hb)
  clear hb
  obtain ⟨u0, u1, u2, u3, u4, u5, u6, u7, u8, u9, u10, u11, u12, u13, u14⟩ := card14 HA3.out
  skip
  go_wp2_with fail
  obtain ⟨W3, hW3⟩ : ∃ W, w2.setCell ⟨w.heap.size, 12, none⟩ (.slice (some ⟨g, 0, none⟩) tn tc2) = W := ⟨_, rfl⟩
  have HA4 : Hid (has W3 w.heap.size 34 [.string s, .int .i64 kd, .int .i64 a, .int .i64 b, .int .i64 c, .int .i64 d, .int .i64 x, .int .i64 m, .int .i64 p, .int .i64 t, .int .i64 k, .slice es2 en ec2, .slice (some ⟨g, 0, none⟩) tn tc2, .int .i64 r]) := Lib.hid (by rw [← hW3]; exact HA3.out.put 12 (.slice (some ⟨g, 0, none⟩) tn tc2))
  have HZ4 : Hid (has W3 (w.heap.size + 1) 34 zeroL) := Lib.hid (by rw [← hW3]; exact HZ3.out.far (by show w.heap.size + 1 ≠ w.heap.size; omega) _)
  have HB4 : Hid (Below w.heap.size w W3) := Lib.hid (by rw [← hW3]; exact below_grown HB3.out (grown_set w2 ⟨w.heap.size, 12, none⟩ (.slice (some ⟨g, 0, none⟩) tn tc2)) HB3.out.size (Nat.le_refl _))
  have HE4 : Hid (EfsAt W3 es2 en e) := Lib.hid (by rw [← hW3]; exact EfsAt.put HE3.out _ _ _ u12 (fun x => by simp))
  have HF4 : Hid (Fresh (w.heap.size + 2) W3 es2 en) := Lib.hid (by rw [← hW3]; exact HF3.out.put _ _)
  have HI : Hid (CI w [.string s, .int .i64 kd, .int .i64 a, .int .i64 b, .int .i64 c, .int .i64 d, .int .i64 x, .int .i64 m, .int .i64 p, .int .i64 t, .int .i64 k, .slice es2 en ec2, .slice (some ⟨g, 0, none⟩) tn tc2, .int .i64 r] g tc2 tn es2 en e l W3 xs 0) := Lib.hid ⟨HB4.out, HA4.out, HZ4.out, by
      rw [← hW3]
      refine (row_mono HR2.out HLT.out).kept (grown_set w2 ⟨w.heap.size, 12, none⟩ (.slice (some ⟨g, 0, none⟩) tn tc2)) (.inr ?_)
      have h1 := (HR2.out.lt g rfl).1
      have h2 := HLT.out
      intro e'
      have e2 : w.heap.size = g := (Option.some.inj e').symm
      omega, HXN.out, HE4.out, HF4.out, fun i hi => ⟨(HXE.out i hi).1, (HXE.out i hi).2.below HB4.out (Nat.le_refl _)⟩, fun i hi => absurd hi (by omega)⟩
  rw [hW3]
  clear hW3 HA3 HZ3 HB3 HE3 HF3 HA2 HZ2 HB2 HE2 HF2 HA4 HZ4 HB4 HE4 HF4 HR2 HXE HXC HXN HLT
  clear u0 u1 u2 u3 u4 u5 u6 u7 u8 u9 u10 u11 u12 u13 u14
  go_loopw [16] (fun i wr => ∃ (q : Nat) (ys : List Tx), q ≤ tn ∧ i = .int .i64 q ∧ Hid (CI w [.string s, .int .i64 kd, .int .i64 a, .int .i64 b, .int .i64 c, .int .i64 d, .int .i64 x, .int .i64 m, .int .i64 p, .int .i64 t, .int .i64 k, .slice es2 en ec2, .slice (some ⟨g, 0, none⟩) tn tc2, .int .i64 r] g tc2 tn es2 en e l wr ys q)) (fun i _ => tn - (intOf i).toNat)
  case atStart => exact ⟨0, xs, Nat.zero_le _, rfl, HI⟩
  case round =>
    obtain ⟨q, ys, hq, rfl, HT⟩ := hrel
    by_cases hlt : q < tn
    · obtain ⟨c0, c1⟩ := HT.out.cell q hlt
      have hye := (HT.out.t q hlt).2
      have hy1 := HTE.out q hlt
      obtain ⟨yl, hyl⟩ : ∃ y, l.getD q default = y := ⟨_, rfl⟩
      have HYL := Lib.hid hyl
      rw [hyl] at hye hy1
      clear hyl
      generalize ys.getD q default = y at *
      obtain ⟨yw, s', n', c'⟩ := y
      dsimp only at c0 c1 hye
      have hn6 : n' ≤ 1000 := by rw [← hye.n]; exact hy1
      have HM6 := Lib.hid (new0 wr 44 [.int .i64 yw, .slice s' n' c'])
      have HB6 := Lib.hid (show Below wr.heap.size wr (wr.alloc (.cells #[.int .i64 yw, .slice s' n' c'] 44)).drew from ((Below.refl _ wr).alloc (Nat.le_refl _) _).drew)
      have HI6 := Lib.hid (HT.out.below HB6.out)
      have HEC := cloneE_any s' n' c' yl.e _ (hye.below HB6.out (Nat.le_refl _)) hn6
      have h12 := HT.out.box.cell 12
      clear hye hy1
      go_wp2_with fail
      clear h12
      refine wp_region_held_drew (S := (fun w' => has w' wr.heap.size 44 [.int .i64 yw, .slice s' n' c'] ∧ w'.cell? ⟨w.heap.size, 12, none⟩ = some (.slice (some ⟨g, 0, none⟩) tn tc2))) (by kernel_rfl) ?_ (fun hH0 => ?_)
      · exact ⟨HM6.out, HI6.out.box.cell 12⟩
      refine wpAnyH_take (i := 0) (oi := _) (v := ?_) rfl (by kernel_rfl) (by kernel_rfl) (by kernel_rfl) (fun _ _ _ h => h) (Or.inl ⟨by rfl, ?_⟩) (by assumption) ?_
      rotate_left
      · intro w hSw; (try dsimp only at hSw); obtain ⟨hS1, h5⟩ := hSw; obtain ⟨x0, x1, x2⟩ := two hS1; first | (go_simp; done) | (go_simp; with_reducible rfl)
      try simp only [go_sem]
      refine wpAnyH_take (i := 1) (oi := _) (v := ?_) rfl (by kernel_rfl) (by kernel_rfl) (by kernel_rfl) (fun _ _ _ h => h) (Or.inl ⟨by rfl, ?_⟩) (by assumption) ?_
      rotate_left
      · intro w hSw; (try dsimp only at hSw); obtain ⟨hS1, h5⟩ := hSw; obtain ⟨x0, x1, x2⟩ := two hS1; first | (go_simp; done) | (go_simp; with_reducible rfl)
      try simp only [go_sem]
      refine wpAnyH_take (i := 2) (oi := _) (v := ?_) rfl (by kernel_rfl) (by kernel_rfl) (by kernel_rfl) (fun _ _ _ h => h) (Or.inl ⟨by rfl, ?_⟩) (by assumption) ?_
      rotate_left
      · intro w hSw; (try dsimp only at hSw); obtain ⟨hS1, h5⟩ := hSw; obtain ⟨x0, x1, x2⟩ := two hS1; first | (go_simp; done) | (go_simp; with_reducible rfl)
      try simp only [go_sem]
      refine wpAnyH_take (i := 3) (oi := _) (v := ?_) rfl (by kernel_rfl) (by kernel_rfl) (by kernel_rfl) (fun _ _ _ h => h) (Or.inl ⟨by rfl, ?_⟩) (by assumption) ?_
      rotate_left
      · intro w hSw; (try dsimp only at hSw); obtain ⟨hS1, h5⟩ := hSw; obtain ⟨x0, x1, x2⟩ := two hS1; first | (go_simp; done) | (go_simp; with_reducible rfl)
      try simp only [go_sem]
      refine wpAnyH_take (i := 4) (oi := _) (v := ?_) rfl (by kernel_rfl) (by kernel_rfl) (by kernel_rfl) (fun _ _ _ h => h) (Or.inl ⟨by rfl, ?_⟩) (by assumption) ?_
      rotate_left
      · intro w hSw; (try dsimp only at hSw); obtain ⟨hS1, h5⟩ := hSw; obtain ⟨x0, x1, x2⟩ := two hS1; first | (go_simp; done) | (go_simp; with_reducible rfl)
      try simp only [go_sem]
      refine wpAnyH_ready (rs := [5]) (by kernel_rfl) (by simp) ?_
      refine AllReadyH.cons (o := _) rfl (fun K hK => ?_) AllReadyH.nil
      go_simp; refine HEC.mono ?_; rintro vv w6 ⟨s2, c2, rfl, hE6, _, hb6, hF6⟩; have HI7 := Lib.hid (HI6.out.below hb6); have HM7 := Lib.hid ((show has (wr.alloc (.cells #[.int .i64 yw, .slice s' n' c'] 44)).drew wr.heap.size 44 [.int .i64 yw, .slice s' n' c'] from HM6.out).below hb6 HM6.out.lt); have HE7 := Lib.hid hE6; have HF7 : Hid (Fresh (w.heap.size + 2) w6 s2 n') := Lib.hid (hF6.mono (Nat.le_trans (show w.heap.size + 2 ≤ wr.heap.size from HT.out.res.lt) HB6.out.size)); clear hE6 hF6 hb6; obtain ⟨z0, z1⟩ := HI7.out.cell q hlt; have zf := HI7.out.row.frozenAt
      refine hK.out _ _ ?_ (fun hH1 => ?_)
      · exact ⟨HM7.out, HI7.out.box.cell 12⟩
      clear hK K hH0
      try simp only [go_sem]
      refine wpAnyH_take (i := 6) (oi := _) (v := ?_) rfl (by kernel_rfl) (by kernel_rfl) (by kernel_rfl) (fun _ _ _ h => h) (Or.inl ⟨by rfl, ?_⟩) (by assumption) ?_
      rotate_left
      · intro w hSw; (try dsimp only at hSw); obtain ⟨hS1, h5⟩ := hSw; obtain ⟨x0, x1, x2⟩ := two hS1; first | (go_simp; done) | (go_simp; with_reducible rfl)
      try simp only [go_sem]
      refine wpAnyH_take (i := 7) (oi := _) (v := ?_) rfl (by kernel_rfl) (by kernel_rfl) (by kernel_rfl) (fun _ _ _ h => h) (Or.inl ⟨by rfl, ?_⟩) (by assumption) ?_
      rotate_left
      · intro w hSw; (try dsimp only at hSw); obtain ⟨hS1, h5⟩ := hSw; obtain ⟨x0, x1, x2⟩ := two hS1; first | (go_simp; done) | (go_simp; with_reducible rfl)
      try simp only [go_sem]
      refine wpAnyH_ready (rs := [8]) (by kernel_rfl) (by simp) ?_
      refine AllReadyH.cons (o := _) rfl (fun K hK => ?_) AllReadyH.nil
      go_simp
      refine hK.out _ _ ?_ (fun hH2 => ?_)
      · exact ⟨HM7.out.far (by have h2 := HT.out.hg; show wr.heap.size ≠ g; omega) _, (HI7.out.box.far (by show w.heap.size ≠ g; have := HI7.out.hg; omega) _).cell 12⟩
      clear hK K hH1
      try simp only [go_sem]
      refine wpAnyH_done (by kernel_rfl) ?_ _
      have HI8 : Hid (CI w [.string s, .int .i64 kd, .int .i64 a, .int .i64 b, .int .i64 c, .int .i64 d, .int .i64 x, .int .i64 m, .int .i64 p, .int .i64 t, .int .i64 k, .slice es2 en ec2, .slice (some ⟨g, 0, none⟩) tn tc2, .int .i64 r] g tc2 tn es2 en e l (w6.setCell ⟨g, q * 2 + 1, none⟩ (.slice s2 n' c2)) (ys.set q ⟨(l.getD q default).w, s2, n', c2⟩) (q + 1)) := Lib.hid (HI7.out.put hlt (by rw [HYL.out]; exact HE7.out) HF7.out)
      clear z0 z1 zf
      go_wp2_with fail
      exact ⟨⟨q + 1, _, by omega, by go_num, HI8⟩, by simp [intOf]; omega⟩
    · obtain rfl : tn = q := by omega
      obtain ⟨p0, p1, p2, p3, p4, p5, p6, p7, p8, p9, pa, pb, pc, pd, pf⟩ := card14 HT.out.box
      obtain ⟨y0, y1, y2, y3, y4, y5, y6, y7, y8, y9, ya, yb, yc, yd, yf⟩ := card14 HT.out.res
      go_wp2_with fail
      have RR : has ((((((((((((((wr.setCell ⟨w.heap.size + 1, 0, none⟩ (.string s)).setCell ⟨w.heap.size + 1, 1, none⟩ (.int .i64 kd)).setCell ⟨w.heap.size + 1, 2, none⟩ (.int .i64 a)).setCell ⟨w.heap.size + 1, 3, none⟩ (.int .i64 b)).setCell ⟨w.heap.size + 1, 4, none⟩ (.int .i64 c)).setCell ⟨w.heap.size + 1, 5, none⟩ (.int .i64 d)).setCell ⟨w.heap.size + 1, 6, none⟩ (.int .i64 x)).setCell ⟨w.heap.size + 1, 7, none⟩ (.int .i64 m)).setCell ⟨w.heap.size + 1, 8, none⟩ (.int .i64 p)).setCell ⟨w.heap.size + 1, 9, none⟩ (.int .i64 t)).setCell ⟨w.heap.size + 1, 10, none⟩ (.int .i64 k)).setCell ⟨w.heap.size + 1, 11, none⟩ (.slice es2 en ec2)).setCell ⟨w.heap.size + 1, 12, none⟩ (.slice (some ⟨g, 0, none⟩) tn tc2)).setCell ⟨w.heap.size + 1, 13, none⟩ (.int .i64 r)) (w.heap.size + 1) 34 [.string s, .int .i64 kd, .int .i64 a, .int .i64 b, .int .i64 c, .int .i64 d, .int .i64 x, .int .i64 m, .int .i64 p, .int .i64 t, .int .i64 k, .slice es2 en ec2, .slice (some ⟨g, 0, none⟩) tn tc2, .int .i64 r] := (((((((((((((((show has wr (w.heap.size + 1) 34 zeroL from HT.out.res).put 0 (.string s)).put 1 (.int .i64 kd)).put 2 (.int .i64 a)).put 3 (.int .i64 b)).put 4 (.int .i64 c)).put 5 (.int .i64 d)).put 6 (.int .i64 x)).put 7 (.int .i64 m)).put 8 (.int .i64 p)).put 9 (.int .i64 t)).put 10 (.int .i64 k)).put 11 (.slice es2 en ec2)).put 12 (.slice (some ⟨g, 0, none⟩) tn tc2)).put 13 (.int .i64 r))
      have RG : wr.grownBy ((((((((((((((wr.setCell ⟨w.heap.size + 1, 0, none⟩ (.string s)).setCell ⟨w.heap.size + 1, 1, none⟩ (.int .i64 kd)).setCell ⟨w.heap.size + 1, 2, none⟩ (.int .i64 a)).setCell ⟨w.heap.size + 1, 3, none⟩ (.int .i64 b)).setCell ⟨w.heap.size + 1, 4, none⟩ (.int .i64 c)).setCell ⟨w.heap.size + 1, 5, none⟩ (.int .i64 d)).setCell ⟨w.heap.size + 1, 6, none⟩ (.int .i64 x)).setCell ⟨w.heap.size + 1, 7, none⟩ (.int .i64 m)).setCell ⟨w.heap.size + 1, 8, none⟩ (.int .i64 p)).setCell ⟨w.heap.size + 1, 9, none⟩ (.int .i64 t)).setCell ⟨w.heap.size + 1, 10, none⟩ (.int .i64 k)).setCell ⟨w.heap.size + 1, 11, none⟩ (.slice es2 en ec2)).setCell ⟨w.heap.size + 1, 12, none⟩ (.slice (some ⟨g, 0, none⟩) tn tc2)).setCell ⟨w.heap.size + 1, 13, none⟩ (.int .i64 r)) (some (w.heap.size + 1)) := (grown_trans (grown_trans (grown_trans (grown_trans (grown_trans (grown_trans (grown_trans (grown_trans (grown_trans (grown_trans (grown_trans (grown_trans (grown_trans (grown_trans (grown_refl wr (some (w.heap.size + 1))) (grown_set _ ⟨w.heap.size + 1, 0, none⟩ (.string s))) (grown_set _ ⟨w.heap.size + 1, 1, none⟩ (.int .i64 kd))) (grown_set _ ⟨w.heap.size + 1, 2, none⟩ (.int .i64 a))) (grown_set _ ⟨w.heap.size + 1, 3, none⟩ (.int .i64 b))) (grown_set _ ⟨w.heap.size + 1, 4, none⟩ (.int .i64 c))) (grown_set _ ⟨w.heap.size + 1, 5, none⟩ (.int .i64 d))) (grown_set _ ⟨w.heap.size + 1, 6, none⟩ (.int .i64 x))) (grown_set _ ⟨w.heap.size + 1, 7, none⟩ (.int .i64 m))) (grown_set _ ⟨w.heap.size + 1, 8, none⟩ (.int .i64 p))) (grown_set _ ⟨w.heap.size + 1, 9, none⟩ (.int .i64 t))) (grown_set _ ⟨w.heap.size + 1, 10, none⟩ (.int .i64 k))) (grown_set _ ⟨w.heap.size + 1, 11, none⟩ (.slice es2 en ec2))) (grown_set _ ⟨w.heap.size + 1, 12, none⟩ (.slice (some ⟨g, 0, none⟩) tn tc2))) (grown_set _ ⟨w.heap.size + 1, 13, none⟩ (.int .i64 r)))
      obtain ⟨F, hF⟩ : ∃ F, ((((((((((((((wr.setCell ⟨w.heap.size + 1, 0, none⟩ (.string s)).setCell ⟨w.heap.size + 1, 1, none⟩ (.int .i64 kd)).setCell ⟨w.heap.size + 1, 2, none⟩ (.int .i64 a)).setCell ⟨w.heap.size + 1, 3, none⟩ (.int .i64 b)).setCell ⟨w.heap.size + 1, 4, none⟩ (.int .i64 c)).setCell ⟨w.heap.size + 1, 5, none⟩ (.int .i64 d)).setCell ⟨w.heap.size + 1, 6, none⟩ (.int .i64 x)).setCell ⟨w.heap.size + 1, 7, none⟩ (.int .i64 m)).setCell ⟨w.heap.size + 1, 8, none⟩ (.int .i64 p)).setCell ⟨w.heap.size + 1, 9, none⟩ (.int .i64 t)).setCell ⟨w.heap.size + 1, 10, none⟩ (.int .i64 k)).setCell ⟨w.heap.size + 1, 11, none⟩ (.slice es2 en ec2)).setCell ⟨w.heap.size + 1, 12, none⟩ (.slice (some ⟨g, 0, none⟩) tn tc2)).setCell ⟨w.heap.size + 1, 13, none⟩ (.int .i64 r)) = F := ⟨_, rfl⟩
      rw [hF] at RR RG ⊢
      clear hF
      obtain ⟨k0, k1, k2, k3, k4, k5, k6, k7, k8, k9, ka, kb, kc, kk, kf⟩ := card14 RR
      refine bodyPost_ret (v := cV s kd a b c d x m p t k es2 en ec2 (some ⟨g, 0, none⟩) tn tc2 r) (by simp [results, Tryd.results12, go_sem, k0, k1, k2, k3, k4, k5, k6, k7, k8, k9, ka, kb, kc, kk]) rfl ?_
      exact ⟨_, _, _, _, rfl, (HT.out.fin HLN.out htn HV.out).row RG (by omega), HLE.out, below_grown HT.out.hb RG HT.out.hb.size (by omega)⟩
end Go.Proofs.YtkappnnoienhnaaDoor.caFn

/- The law CardEqual. -/
namespace Go.Proofs.YtkappnnoienhnaaDoor.caFn
open Go.ChangeShapes Go.WideShapes Go.ChangeAt Go.RowKit drMem efFn
set_option linter.unusedVariables false

abbrev cdL (q : Cd) (es : Option Addr) (en ec : Nat) (ts : Option Addr) (tn tc : Nat) : List Value := cL (bs q.nm) q.kd q.a q.b q.c q.d q.x q.ml q.pw q.tg q.kw es en ec ts tn tc q.ra
theorem cd_chain2 (p q : Cd) : (((bs p.nm).toList == (bs q.nm).toList) && ((p.kd == q.kd) && ((p.ra == q.ra) && (maFn.eq5 p.a p.b p.c p.d p.x q.a q.b q.c q.d q.x && ((p.ml == q.ml) && ((p.pw == q.pw) && ((p.tg == q.tg) && ((p.kw == q.kw) && (sameB p.ef q.ef && sameT p.tr q.tr))))))))) = decide (p = q) := by
  rw [str_beq', Bool.eq_iff_iff]
  obtain ⟨⟩ := p
  obtain ⟨⟩ := q
  simp only [sameB, sameT, Bool.and_eq_true, decide_eq_true_eq, beq_iff_eq, maFn.eq5_iff, Cd.mk.injEq]
  grind
theorem eEq_any (p q : Cd) (es1 es2 ts1 ts2 : Option Addr) (en1 ec1 en2 ec2 tn1 tc1 tn2 tc2 : Nat) (w : World) (h1 : CdAt w es1 en1 p.ef ts1 tn1 p.tr) (h2 : CdAt w es2 en2 q.ef ts2 tn2 q.tr) :
    Calls Tryd.prog 10 #[cdV p es1 en1 ec1 ts1 tn1 tc1, cdV q es2 en2 ec2 ts2 tn2 tc2] w fun e w' => e = .returned (.bool (decide (p = q))) ∧ Below w.heap.size w w' := by
  have := EqualV_any (bs p.nm) p.kd p.a p.b p.c p.d p.x p.ml p.pw p.tg p.kw es1 en1 ec1 ts1 tn1 tc1 p.ra p.ef p.tr (bs q.nm) q.kd q.a q.b q.c q.d q.x q.ml q.pw q.tg q.kw es2 en2 ec2 ts2 tn2 tc2 q.ra q.ef q.tr w h1 h2
  rw [cd_chain2] at this
  exact this
theorem CpAt.mono {B B' : Nat} {W : World} {es ts : Option Addr} {en tn : Nat} {ef : List Ef} {tr : List Tr} (h : CpAt B W es en ef ts tn tr) (hB : B' ≤ B) : CpAt B' W es en ef ts tn tr :=
  ⟨h.e, h.fe.mono hB, h.n, h.m, fun h0 => by
    obtain ⟨g, e, h1, h2, h3, h4⟩ := h.t h0
    exact ⟨g, e, by omega, h2, h3, fun i hi => by obtain ⟨s, n, c, k1, k2⟩ := h4 i hi; exact ⟨s, n, c, k1, k2.mono hB⟩⟩, h.v⟩
theorem rEq_self (p : Cd) (es1 es2 ts1 ts2 : Option Addr) (en1 ec1 en2 ec2 tn1 tc1 tn2 tc2 : Nat) (w : World) (h1 : CdAt w es1 en1 p.ef ts1 tn1 p.tr) (h2 : CdAt w es2 en2 p.ef ts2 tn2 p.tr) :
    Calls Tryd.prog 11 #[cdV p es1 en1 ec1 ts1 tn1 tc1, cdV p es2 en2 ec2 ts2 tn2 tc2] w fun e w' => e = .returned (.bool true) ∧ Below w.heap.size w w' := by
  have := rEq_any p p es1 es2 ts1 ts2 en1 ec1 en2 ec2 tn1 tc1 tn2 tc2 w h1 h2
  rw [decide_eq_true (rfl : p = p)] at this
  exact this
def copyPost (p : Cd) (en tn : Nat) (w : World) (v : Ending) (W : World) : Prop := ∃ es2 ec2 ts2 tc2, v = .returned (cdV p es2 en ec2 ts2 tn tc2) ∧ CpAt w.heap.size W es2 en p.ef ts2 tn p.tr ∧ Below w.heap.size w W
theorem Copy_any (p : Cd) (es : Option Addr) (en ec : Nat) (ts : Option Addr) (tn tc : Nat) (w : World) (h : CdAt w es en p.ef ts tn p.tr) (hl : Lt (bs p.nm) en tn p.tr) :
    Calls Tryd.prog 12 #[cdV p es en ec ts tn tc] w (copyPost p en tn w) := by
  have hen : en ≤ 1000 := by have := hl.e; omega
  have htn : tn ≤ 1000 := by have := hl.t; omega
  have hte : ∀ t ∈ p.tr, t.e.length ≤ 1000 := fun t ht => by
    obtain ⟨i, hi, rfl⟩ := List.getElem_of_mem ht
    have := hl.l i (by rw [← h.t.n]; exact hi)
    rw [List.getD_eq_getElem?_getD, List.getElem?_eq_getElem hi] at this
    simp at this
    omega
  have key : ∀ v W, cpPost (bs p.nm) p.kd p.a p.b p.c p.d p.x p.ml p.pw p.tg p.kw en tn p.ra p.ef p.tr w v W → copyPost p en tn w v W := fun v W ⟨es2, ec2, ts2, tc2, h1, h2, _, h3⟩ => ⟨es2, ec2, ts2, tc2, h1, h2.mono (by omega), h3⟩
  rcases Nat.eq_zero_or_pos tn with h0 | h0
  · exact (Copy_0 (bs p.nm) p.kd p.a p.b p.c p.d p.x p.ml p.pw p.tg p.kw es en ec ts tn tc p.ra p.ef p.tr w h hen htn hte h0).mono key
  · exact (Copy_p (bs p.nm) p.kd p.a p.b p.c p.d p.x p.ml p.pw p.tg p.kw es en ec ts tn tc p.ra p.ef p.tr w h hen htn hte h0).mono key
/- numbers that are written over: the N of effects, the When of triggers -/
def NumAt (B M : Nat) (W : World) (s : Option Addr) (n : Nat) : Prop := 0 < n → ∃ b off, s = some ⟨b, off, none⟩ ∧ B ≤ b ∧ b < M ∧ (∀ j, W.frozen? ⟨b, j, none⟩ = false) ∧ ∀ i, i < n → ∃ z : Int, W.cell? ⟨b, off + i * 5 + 2, none⟩ = some (.int .i64 z)
def NT (B M : Nat) (W : World) (ts : Option Addr) (tn g : Nat) (xs : Nat → Tx) : Prop := 0 < tn → ts = some ⟨g, 0, none⟩ ∧ B ≤ g ∧ g < M ∧ (∀ j, W.frozen? ⟨g, j, none⟩ = false) ∧
  ∀ i, i < tn → (∃ z : Int, W.cell? ⟨g, i * 2, none⟩ = some (.int .i64 z)) ∧ W.cell? ⟨g, i * 2 + 1, none⟩ = some (.slice (xs i).s (xs i).n (xs i).c) ∧ (xs i).n ≤ 9223372036854775807 ∧ NumAt B M W (xs i).s (xs i).n
section
variable {B M : Nat} {W W' W0 : World} {s es ts : Option Addr} {n en tn g yb : Nat} {xs : Nat → Tx} {cs : List Value} {ef : List Ef} {tr : List Tr}
theorem NumAt.of (h : EfsAt W s n ef) (hf : Fresh B W s n) : NumAt B W.heap.size W s n := fun h0 => by
  obtain ⟨b, off, e, hl, hc⟩ := h.c h0
  obtain ⟨f1, f2, f3⟩ := hf _ e h0
  exact ⟨b, off, e, f1, hl, f3, fun i hi => ⟨_, (hc i _ (get_some (by rw [h.n]; exact hi))).c2⟩⟩
theorem NT.of (h : CpAt B W es en ef ts tn tr) : ∃ g xs, NT B W.heap.size W ts tn g xs := by
  rcases Nat.eq_zero_or_pos tn with h0 | h0
  · exact ⟨0, fun _ => default, fun h1 => absurd h1 (by omega)⟩
  · obtain ⟨g, e, h1, h2, h3, h4⟩ := h.t h0
    have key : ∀ i, i < tn → ∃ x : Tx, TrAt W g (i * 2) (tr.getD i default) x.s x.n x.c ∧ Fresh B W x.s x.n := fun i hi => by
      obtain ⟨s, n, c, k1, k2⟩ := h4 i hi
      exact ⟨⟨0, s, n, c⟩, k1, k2⟩
    obtain ⟨R, hR⟩ := Go.Deep.choose_lt key
    exact ⟨g, R, fun _ => ⟨e, h1, h2, h3, fun i hi => ⟨⟨_, (hR i hi).1.c0⟩, (hR i hi).1.c1, (hR i hi).1.e.m, NumAt.of (hR i hi).1.e (hR i hi).2⟩⟩⟩
theorem NumAt.below (h : NumAt B M W s n) (hb : Below M W W') : NumAt B M W' s n := fun h0 => by
  obtain ⟨b, off, e, h1, h2, h3, h4⟩ := h h0
  exact ⟨b, off, e, h1, h2, fun j => (hb.frozen (p := ⟨b, j, none⟩) h2).trans (h3 j), fun i hi => by
    obtain ⟨z, hz⟩ := h4 i hi
    exact ⟨z, (hb.cell (p := ⟨b, _, none⟩) h2).trans hz⟩⟩
theorem NT.below (h : NT B M W ts tn g xs) (hb : Below M W W') : NT B M W' ts tn g xs := fun h0 => by
  obtain ⟨e, h1, h2, h3, h4⟩ := h h0
  exact ⟨e, h1, h2, fun j => (hb.frozen (p := ⟨g, j, none⟩) h2).trans (h3 j), fun i hi => by
    obtain ⟨⟨z, k1⟩, k2, km, k3⟩ := h4 i hi
    exact ⟨⟨z, (hb.cell (p := ⟨g, _, none⟩) h2).trans k1⟩, (hb.cell (p := ⟨g, _, none⟩) h2).trans k2, km, k3.below hb⟩⟩
theorem int_put {a p : Addr} {z0 z1 : Int} (hk : W.cell? a = some (.int .i64 z0)) (hp : ∃ z : Int, W.cell? p = some (.int .i64 z)) : ∃ z : Int, (W.setCell a (.int .i64 z1)).cell? p = some (.int .i64 z) := by
  by_cases e : a = p
  · subst e
    exact ⟨z1, by rw [World.cell?_setCell_same (h := hk)]⟩
  · obtain ⟨z, hz⟩ := hp
    exact ⟨z, by rw [World.cell?_setCell_other (h := e)]; exact hz⟩
theorem NumAt.put {a : Addr} {z0 z1 : Int} (h : NumAt B M W s n) (hk : W.cell? a = some (.int .i64 z0)) : NumAt B M (W.setCell a (.int .i64 z1)) s n := fun h0 => by
  obtain ⟨b, off, e, h1, h2, h3, h4⟩ := h h0
  exact ⟨b, off, e, h1, h2, fun j => by rw [World.frozen?_setCell]; exact h3 j, fun i hi => int_put hk (h4 i hi)⟩
theorem NT.put {a : Addr} {z0 z1 : Int} (h : NT B M W ts tn g xs) (hk : W.cell? a = some (.int .i64 z0)) : NT B M (W.setCell a (.int .i64 z1)) ts tn g xs := fun h0 => by
  obtain ⟨e, h1, h2, h3, h4⟩ := h h0
  refine ⟨e, h1, h2, fun j => by rw [World.frozen?_setCell]; exact h3 j, fun i hi => ?_⟩
  obtain ⟨k1, k2, km, k3⟩ := h4 i hi
  refine ⟨int_put hk k1, ?_, km, k3.put hk⟩
  rw [World.cell?_setCell_other (h := by rintro rfl; rw [hk] at k2; cases k2)]
  exact k2
/- while the copy is written over -/
structure YI (B M : Nat) (W0 : World) (yb : Nat) (cs : List Value) (es : Option Addr) (en : Nat) (ts : Option Addr) (tn g : Nat) (xs : Nat → Tx) (W : World) : Prop where
  hb : Below B W0 W
  hB : B ≤ W.heap.size
  box : has W yb 34 cs
  hm : M ≤ yb
  e : NumAt B M W es en
  t : NT B M W ts tn g xs
theorem YI.below (h : YI B M W0 yb cs es en ts tn g xs W) (hb : Below W.heap.size W W') : YI B M W0 yb cs es en ts tn g xs W' :=
  have hM : M ≤ W.heap.size := Nat.le_trans h.hm (Nat.le_of_lt h.box.lt)
  ⟨h.hb.trans (hb.mono h.hB), Nat.le_trans h.hB hb.size, h.box.below hb h.box.lt, h.hm, h.e.below (hb.mono hM), h.t.below (hb.mono hM)⟩
theorem YI.put {a : Addr} {z0 z1 : Int} (h : YI B M W0 yb cs es en ts tn g xs W) (hk : W.cell? a = some (.int .i64 z0)) (ha : B ≤ a.block) (ha2 : a.block < M) : YI B M W0 yb cs es en ts tn g xs (W.setCell a (.int .i64 z1)) :=
  ⟨below_grown h.hb (grown_set W a (.int .i64 z1)) h.hB ha, by simpa [World.setCell] using h.hB, h.box.far (by have := h.hm; omega) _, h.hm, h.e.put hk, h.t.put hk⟩
end

set_option maxRecDepth 100000 in
set_option maxHeartbeats 16000000 in
theorem Equal_law (p : Cd) (es1 : Option Addr) (en1 ec1 : Nat) (ts1 : Option Addr) (tn1 tc1 : Nat) (q : Cd) (es2 : Option Addr) (en2 ec2 : Nat) (ts2 : Option Addr) (tn2 tc2 : Nat) (w : World) (hG : G w) (hp : CdAt w es1 en1 p.ef ts1 tn1 p.tr) (hpc : tn1 ≤ tc1) (hq : CdAt w es2 en2 q.ef ts2 tn2 q.tr) (hqc : tn2 ≤ tc2) :
    Calls Tryd.prog 4 #[cdV p es1 en1 ec1 ts1 tn1 tc1, cdV q es2 en2 ec2 ts2 tn2 tc2] w (lawPost w) := by
  have HG := Lib.hid hG
  have HP := Lib.hid hp
  have HQ := Lib.hid hq
  have HA := Lib.hid (show has ((w.alloc (.cells #[.string (bs p.nm), .int .i64 p.kd, .int .i64 p.a, .int .i64 p.b, .int .i64 p.c, .int .i64 p.d, .int .i64 p.x, .int .i64 p.ml, .int .i64 p.pw, .int .i64 p.tg, .int .i64 p.kw, .slice es1 en1 ec1, .slice ts1 tn1 tc1, .int .i64 p.ra] 34)).alloc (.cells #[.string (bs q.nm), .int .i64 q.kd, .int .i64 q.a, .int .i64 q.b, .int .i64 q.c, .int .i64 q.d, .int .i64 q.x, .int .i64 q.ml, .int .i64 q.pw, .int .i64 q.tg, .int .i64 q.kw, .slice es2 en2 ec2, .slice ts2 tn2 tc2, .int .i64 q.ra] 34)) w.heap.size 34 (cdL p es1 en1 ec1 ts1 tn1 tc1) from (new0 w 34 (cdL p es1 en1 ec1 ts1 tn1 tc1)).alloc _)
  have HX := Lib.hid (show has ((w.alloc (.cells #[.string (bs p.nm), .int .i64 p.kd, .int .i64 p.a, .int .i64 p.b, .int .i64 p.c, .int .i64 p.d, .int .i64 p.x, .int .i64 p.ml, .int .i64 p.pw, .int .i64 p.tg, .int .i64 p.kw, .slice es1 en1 ec1, .slice ts1 tn1 tc1, .int .i64 p.ra] 34)).alloc (.cells #[.string (bs q.nm), .int .i64 q.kd, .int .i64 q.a, .int .i64 q.b, .int .i64 q.c, .int .i64 q.d, .int .i64 q.x, .int .i64 q.ml, .int .i64 q.pw, .int .i64 q.tg, .int .i64 q.kw, .slice es2 en2 ec2, .slice ts2 tn2 tc2, .int .i64 q.ra] 34)) (w.heap.size + 1) 34 (cdL q es2 en2 ec2 ts2 tn2 tc2) from newK (by simp) 34 (cdL q es2 en2 ec2 ts2 tn2 tc2))
  have HB := Lib.hid (show Below w.heap.size w ((w.alloc (.cells #[.string (bs p.nm), .int .i64 p.kd, .int .i64 p.a, .int .i64 p.b, .int .i64 p.c, .int .i64 p.d, .int .i64 p.x, .int .i64 p.ml, .int .i64 p.pw, .int .i64 p.tg, .int .i64 p.kw, .slice es1 en1 ec1, .slice ts1 tn1 tc1, .int .i64 p.ra] 34)).alloc (.cells #[.string (bs q.nm), .int .i64 q.kd, .int .i64 q.a, .int .i64 q.b, .int .i64 q.c, .int .i64 q.d, .int .i64 q.x, .int .i64 q.ml, .int .i64 q.pw, .int .i64 q.tg, .int .i64 q.kw, .slice es2 en2 ec2, .slice ts2 tn2 tc2, .int .i64 q.ra] 34)) from ((Below.refl _ w).alloc (Nat.le_refl _) _).alloc (by simp) _)
  have hm1 := hp.e.m
  have hm2 := hq.e.m
  clear hG hp hq hpc hqc
  obtain ⟨u0, u1, u2, u3, u4, u5, u6, u7, u8, u9, u10, u11, u12, u13, u14⟩ := card14 HA.out
  obtain ⟨v0, v1, v2, v3, v4, v5, v6, v7, v8, v9, v10, v11, v12, v13, v14⟩ := card14 HX.out
  go_enter Tryd.func4, Tryd.ntmps4
  go_wp2_with fail
  refine (light_any (bs p.nm) p.kd p.a p.b p.c p.d p.x p.ml p.pw p.tg p.kw es1 en1 ec1 ts1 tn1 tc1 p.ra p.tr _ (HP.out.t.below HB.out (Nat.le_refl _)) (by omega)).mono ?_; rintro v w1 ⟨b1, rfl, hl1, hb⟩
  have HA := Lib.hid (HA.out.below hb HA.out.lt)
  have HX := Lib.hid (HX.out.below hb HX.out.lt)
  have HB := Lib.hid (next HB.out hb)
  have HL0 := Lib.hid hl1
  clear hb hl1
  clear u0 u1 u2 u3 u4 u5 u6 u7 u8 u9 u10 u11 u12 u13 u14
  clear v0 v1 v2 v3 v4 v5 v6 v7 v8 v9 v10 v11 v12 v13 v14
  obtain ⟨u0, u1, u2, u3, u4, u5, u6, u7, u8, u9, u10, u11, u12, u13, u14⟩ := card14 HA.out
  obtain ⟨v0, v1, v2, v3, v4, v5, v6, v7, v8, v9, v10, v11, v12, v13, v14⟩ := card14 HX.out
  cases b1
  · as_aux_lemma =>
      go_wp2_with fail
      refine (known_any _ (HG.out.below HB.out)).mono ?_; rintro e wk ⟨rfl, hbk⟩
      have HB := Lib.hid (next HB.out hbk)
      clear hbk
      go_wp2_with fail
      go_ret
      exact ⟨rfl, HB.out⟩
  have HL1 := Lib.hid (HL0.out rfl)
  clear HL0
  go_wp2_with fail
  refine (light_any (bs q.nm) q.kd q.a q.b q.c q.d q.x q.ml q.pw q.tg q.kw es2 en2 ec2 ts2 tn2 tc2 q.ra q.tr _ (HQ.out.t.below HB.out (Nat.le_refl _)) (by omega)).mono ?_; rintro v w2 ⟨b2, rfl, _, hb⟩
  have HA := Lib.hid (HA.out.below hb HA.out.lt)
  have HX := Lib.hid (HX.out.below hb HX.out.lt)
  have HB := Lib.hid (next HB.out hb)
  clear hb
  clear u0 u1 u2 u3 u4 u5 u6 u7 u8 u9 u10 u11 u12 u13 u14
  clear v0 v1 v2 v3 v4 v5 v6 v7 v8 v9 v10 v11 v12 v13 v14
  cases b2
  · as_aux_lemma =>
      go_wp2_with fail
      refine (known_any _ (HG.out.below HB.out)).mono ?_; rintro e wk ⟨rfl, hbk⟩
      have HB := Lib.hid (next HB.out hbk)
      clear hbk
      go_wp2_with fail
      go_ret
      exact ⟨rfl, HB.out⟩
  have hpp : decide (p = p) = true := by simp
  have hne : (decide (p = q) != decide (p = q)) = false := by simp
  have HE1 := Lib.hid (eEq_any p q es1 es2 ts1 ts2 en1 ec1 en2 ec2 tn1 tc1 tn2 tc2)
  have HE2 := Lib.hid (rEq_any p q es1 es2 ts1 ts2 en1 ec1 en2 ec2 tn1 tc1 tn2 tc2)
  have HE3 := Lib.hid (eEq_any p p es1 es1 ts1 ts1 en1 ec1 en1 ec1 tn1 tc1 tn1 tc1)
  rw [hpp] at HE3
  generalize decide (p = q) = dq at hne HE1 HE2
  go_wp2_with fail
  have HAd := Lib.hid (show has w2.drew w.heap.size 34 (cdL p es1 en1 ec1 ts1 tn1 tc1) from HA.out)
  have HXd := Lib.hid (show has w2.drew (w.heap.size + 1) 34 (cdL q es2 en2 ec2 ts2 tn2 tc2) from HX.out)
  have HBd := Lib.hid HB.out.drew
  refine wp_region_held_drew (S := (fun w' => has w' w.heap.size 34 (cdL p es1 en1 ec1 ts1 tn1 tc1) ∧ has w' (w.heap.size + 1) 34 (cdL q es2 en2 ec2 ts2 tn2 tc2))) (by kernel_rfl) ?_ (fun hH0 => ?_)
  · exact ⟨HAd.out, HXd.out⟩
  refine wpAnyH_take (i := 0) (oi := _) (v := ?_) rfl (by kernel_rfl) (by kernel_rfl) (by kernel_rfl) (fun _ _ _ h => h) (Or.inl ⟨by rfl, ?_⟩) (by assumption) ?_
  rotate_left
  · intro w hSw; (try dsimp only at hSw); obtain ⟨hS1, hS2⟩ := hSw; obtain ⟨x0, x1, x2, x3, x4, x5, x6, x7, x8, x9, x10, x11, x12, x13, x14⟩ := card14 hS1; obtain ⟨y0, y1, y2, y3, y4, y5, y6, y7, y8, y9, y10, y11, y12, y13, y14⟩ := card14 hS2; first | (go_simp; done) | (go_simp; with_reducible rfl)
  try simp only [go_sem]
  refine wpAnyH_take (i := 1) (oi := _) (v := ?_) rfl (by kernel_rfl) (by kernel_rfl) (by kernel_rfl) (fun _ _ _ h => h) (Or.inl ⟨by rfl, ?_⟩) (by assumption) ?_
  rotate_left
  · intro w hSw; (try dsimp only at hSw); obtain ⟨hS1, hS2⟩ := hSw; obtain ⟨x0, x1, x2, x3, x4, x5, x6, x7, x8, x9, x10, x11, x12, x13, x14⟩ := card14 hS1; obtain ⟨y0, y1, y2, y3, y4, y5, y6, y7, y8, y9, y10, y11, y12, y13, y14⟩ := card14 hS2; first | (go_simp; done) | (go_simp; with_reducible rfl)
  try simp only [go_sem]
  refine wpAnyH_take (i := 3) (oi := _) (v := ?_) rfl (by kernel_rfl) (by kernel_rfl) (by kernel_rfl) (fun _ _ _ h => h) (Or.inl ⟨by rfl, ?_⟩) (by assumption) ?_
  rotate_left
  · intro w hSw; (try dsimp only at hSw); obtain ⟨hS1, hS2⟩ := hSw; obtain ⟨x0, x1, x2, x3, x4, x5, x6, x7, x8, x9, x10, x11, x12, x13, x14⟩ := card14 hS1; obtain ⟨y0, y1, y2, y3, y4, y5, y6, y7, y8, y9, y10, y11, y12, y13, y14⟩ := card14 hS2; first | (go_simp; done) | (go_simp; with_reducible rfl)
  try simp only [go_sem]
  refine wpAnyH_take (i := 4) (oi := _) (v := ?_) rfl (by kernel_rfl) (by kernel_rfl) (by kernel_rfl) (fun _ _ _ h => h) (Or.inl ⟨by rfl, ?_⟩) (by assumption) ?_
  rotate_left
  · intro w hSw; (try dsimp only at hSw); obtain ⟨hS1, hS2⟩ := hSw; obtain ⟨x0, x1, x2, x3, x4, x5, x6, x7, x8, x9, x10, x11, x12, x13, x14⟩ := card14 hS1; obtain ⟨y0, y1, y2, y3, y4, y5, y6, y7, y8, y9, y10, y11, y12, y13, y14⟩ := card14 hS2; first | (go_simp; done) | (go_simp; with_reducible rfl)
  try simp only [go_sem]
  refine wpAnyH_ready (rs := [2]) (by kernel_rfl) (by simp) ?_
  refine AllReadyH.cons (o := _) rfl (fun K hK => ?_) AllReadyH.nil
  go_simp; refine (HE1.out _ (HP.out.below HBd.out (Nat.le_refl _)) (HQ.out.below HBd.out (Nat.le_refl _))).mono ?_; rintro e wr3 ⟨rfl, hb⟩; have HAd := Lib.hid (HAd.out.below hb HAd.out.lt); have HXd := Lib.hid (HXd.out.below hb HXd.out.lt); have HBd := Lib.hid (next HBd.out hb); clear hb
  refine hK.out _ _ ?_ (fun hH1 => ?_)
  · exact ⟨HAd.out, HXd.out⟩
  clear hK K hH0
  try simp only [go_sem]
  refine wpAnyH_ready (rs := [5]) (by kernel_rfl) (by simp) ?_
  refine AllReadyH.cons (o := _) rfl (fun K hK => ?_) AllReadyH.nil
  go_simp; refine (HE2.out _ (HP.out.below HBd.out (Nat.le_refl _)) (HQ.out.below HBd.out (Nat.le_refl _))).mono ?_; rintro e wr4 ⟨rfl, hb⟩; have HAd := Lib.hid (HAd.out.below hb HAd.out.lt); have HXd := Lib.hid (HXd.out.below hb HXd.out.lt); have HBd := Lib.hid (next HBd.out hb); clear hb
  refine hK.out _ _ ?_ (fun hH2 => ?_)
  · exact ⟨HAd.out, HXd.out⟩
  clear hK K hH1
  try simp only [go_sem]
  refine wpAnyH_take (i := 6) (oi := _) (v := ?_) rfl (by kernel_rfl) (by kernel_rfl) (by kernel_rfl) (fun _ _ _ h => h) (Or.inl ⟨by rfl, ?_⟩) (by assumption) ?_
  rotate_left
  · intro w hSw; (try dsimp only at hSw); obtain ⟨hS1, hS2⟩ := hSw; obtain ⟨x0, x1, x2, x3, x4, x5, x6, x7, x8, x9, x10, x11, x12, x13, x14⟩ := card14 hS1; obtain ⟨y0, y1, y2, y3, y4, y5, y6, y7, y8, y9, y10, y11, y12, y13, y14⟩ := card14 hS2; first | (go_simp; done) | (go_simp; with_reducible rfl)
  try simp only [go_sem]
  refine wpAnyH_take (i := 7) (oi := _) (v := ?_) rfl (by kernel_rfl) (by kernel_rfl) (by kernel_rfl) (fun _ _ _ h => h) (Or.inl ⟨by rfl, ?_⟩) (by assumption) ?_
  rotate_left
  · intro w hSw; (try dsimp only at hSw); obtain ⟨hS1, hS2⟩ := hSw; obtain ⟨x0, x1, x2, x3, x4, x5, x6, x7, x8, x9, x10, x11, x12, x13, x14⟩ := card14 hS1; obtain ⟨y0, y1, y2, y3, y4, y5, y6, y7, y8, y9, y10, y11, y12, y13, y14⟩ := card14 hS2; first | (go_simp; done) | (go_simp; with_reducible rfl)
  try simp only [go_sem]
  refine wpAnyH_take (i := 8) (oi := _) (v := ?_) rfl (by kernel_rfl) (by kernel_rfl) (by kernel_rfl) (fun _ _ _ h => h) (Or.inl ⟨by rfl, ?_⟩) (by assumption) ?_
  rotate_left
  · intro w hSw; (try dsimp only at hSw); obtain ⟨hS1, hS2⟩ := hSw; obtain ⟨x0, x1, x2, x3, x4, x5, x6, x7, x8, x9, x10, x11, x12, x13, x14⟩ := card14 hS1; obtain ⟨y0, y1, y2, y3, y4, y5, y6, y7, y8, y9, y10, y11, y12, y13, y14⟩ := card14 hS2; first | (go_simp; done) | (go_simp; with_reducible rfl)
  try simp only [go_sem]
  refine wpAnyH_take (i := 9) (oi := _) (v := ?_) rfl (by kernel_rfl) (by kernel_rfl) (by kernel_rfl) (fun _ _ _ h => h) (Or.inl ⟨by rfl, ?_⟩) (by assumption) ?_
  rotate_left
  · intro w hSw; (try dsimp only at hSw); obtain ⟨hS1, hS2⟩ := hSw; obtain ⟨x0, x1, x2, x3, x4, x5, x6, x7, x8, x9, x10, x11, x12, x13, x14⟩ := card14 hS1; obtain ⟨y0, y1, y2, y3, y4, y5, y6, y7, y8, y9, y10, y11, y12, y13, y14⟩ := card14 hS2; first | (go_simp; done) | (go_simp; with_reducible rfl)
  try simp only [go_sem]
  refine wpAnyH_ready (rs := [10]) (by kernel_rfl) (by simp) ?_
  refine AllReadyH.cons (o := _) rfl (fun K hK => ?_) AllReadyH.nil
  go_simp; refine (HE3.out _ (HP.out.below HBd.out (Nat.le_refl _)) (HP.out.below HBd.out (Nat.le_refl _))).mono ?_; rintro e wr5 ⟨rfl, hb⟩; have HAd := Lib.hid (HAd.out.below hb HAd.out.lt); have HXd := Lib.hid (HXd.out.below hb HXd.out.lt); have HBd := Lib.hid (next HBd.out hb); clear hb
  refine hK.out _ _ ?_ (fun hH3 => ?_)
  · exact ⟨HAd.out, HXd.out⟩
  clear hK K hH2
  try simp only [go_sem]
  refine wpAnyH_take (i := 11) (oi := _) (v := ?_) rfl (by kernel_rfl) (by kernel_rfl) (by kernel_rfl) (fun _ _ _ h => h) (Or.inl ⟨by rfl, ?_⟩) (by assumption) ?_
  rotate_left
  · intro w hSw; (try dsimp only at hSw); obtain ⟨hS1, hS2⟩ := hSw; obtain ⟨x0, x1, x2, x3, x4, x5, x6, x7, x8, x9, x10, x11, x12, x13, x14⟩ := card14 hS1; obtain ⟨y0, y1, y2, y3, y4, y5, y6, y7, y8, y9, y10, y11, y12, y13, y14⟩ := card14 hS2; first | (go_simp; done) | (go_simp; with_reducible rfl)
  try simp only [go_sem]
  refine wpAnyH_take (i := 12) (oi := _) (v := ?_) rfl (by kernel_rfl) (by kernel_rfl) (by kernel_rfl) (fun _ _ _ h => h) (Or.inl ⟨by rfl, ?_⟩) (by assumption) ?_
  rotate_left
  · intro w hSw; (try dsimp only at hSw); obtain ⟨hS1, hS2⟩ := hSw; obtain ⟨x0, x1, x2, x3, x4, x5, x6, x7, x8, x9, x10, x11, x12, x13, x14⟩ := card14 hS1; obtain ⟨y0, y1, y2, y3, y4, y5, y6, y7, y8, y9, y10, y11, y12, y13, y14⟩ := card14 hS2; first | (go_simp; done) | (go_simp; with_reducible rfl)
  try simp only [go_sem]
  refine wpAnyH_done (by kernel_rfl) ?_ _
  as_aux_lemma =>
    clear hne HE1 HE2 HE3 HA HX HB
    have HA := HAd
    have HB := HBd
    clear HAd HXd HBd
    obtain ⟨u0, u1, u2, u3, u4, u5, u6, u7, u8, u9, u10, u11, u12, u13, u14⟩ := card14 HA.out
    go_wp2_with fail
    clear u0 u1 u2 u3 u4 u5 u6 u7 u8 u9 u10 u11 u12 u13 u14
    refine (Copy_any p es1 en1 ec1 ts1 tn1 tc1 _ (HP.out.below HB.out (Nat.le_refl _)) HL1.out).mono ?_; rintro v w6 ⟨es3, ec3, ts3, tc3, rfl, hcp, hb⟩
    have HA6 := Lib.hid ((HA.out.below hb HA.out.lt).alloc (.cells #[.string (bs p.nm), .int .i64 p.kd, .int .i64 p.a, .int .i64 p.b, .int .i64 p.c, .int .i64 p.d, .int .i64 p.x, .int .i64 p.ml, .int .i64 p.pw, .int .i64 p.tg, .int .i64 p.kw, .slice es3 en1 ec3, .slice ts3 tn1 tc3, .int .i64 p.ra] 34))
    have HX6 := Lib.hid (show has (w6.alloc (.cells #[.string (bs p.nm), .int .i64 p.kd, .int .i64 p.a, .int .i64 p.b, .int .i64 p.c, .int .i64 p.d, .int .i64 p.x, .int .i64 p.ml, .int .i64 p.pw, .int .i64 p.tg, .int .i64 p.kw, .slice es3 en1 ec3, .slice ts3 tn1 tc3, .int .i64 p.ra] 34)) w6.heap.size 34 (cdL p es3 en1 ec3 ts3 tn1 tc3) from new0 w6 34 (cdL p es3 en1 ec3 ts3 tn1 tc3))
    have HB6 := Lib.hid ((next HB.out hb).alloc (next HB.out hb).size (.cells #[.string (bs p.nm), .int .i64 p.kd, .int .i64 p.a, .int .i64 p.b, .int .i64 p.c, .int .i64 p.d, .int .i64 p.x, .int .i64 p.ml, .int .i64 p.pw, .int .i64 p.tg, .int .i64 p.kw, .slice es3 en1 ec3, .slice ts3 tn1 tc3, .int .i64 p.ra] 34))
    have HC6 := Lib.hid (hcp.cd.below ((Below.refl _ w6).alloc (Nat.le_refl _) (.cells #[.string (bs p.nm), .int .i64 p.kd, .int .i64 p.a, .int .i64 p.b, .int .i64 p.c, .int .i64 p.d, .int .i64 p.x, .int .i64 p.ml, .int .i64 p.pw, .int .i64 p.tg, .int .i64 p.kw, .slice es3 en1 ec3, .slice ts3 tn1 tc3, .int .i64 p.ra] 34)) (Nat.le_refl _))
    clear hcp hb HA HB
    obtain ⟨u0, u1, u2, u3, u4, u5, u6, u7, u8, u9, u10, u11, u12, u13, u14⟩ := card14 HX6.out
    go_wp2_with fail
    clear u0 u1 u2 u3 u4 u5 u6 u7 u8 u9 u10 u11 u12 u13 u14
    obtain ⟨W4, hW4⟩ : ∃ W, w6.alloc (.cells #[.string (bs p.nm), .int .i64 p.kd, .int .i64 p.a, .int .i64 p.b, .int .i64 p.c, .int .i64 p.d, .int .i64 p.x, .int .i64 p.ml, .int .i64 p.pw, .int .i64 p.tg, .int .i64 p.kw, .slice es3 en1 ec3, .slice ts3 tn1 tc3, .int .i64 p.ra] 34) = W := ⟨_, rfl⟩
    rw [hW4] at HA6 HX6 HB6 HC6 ⊢
    have hx6 : w6.heap.size < W4.heap.size := HX6.out.lt
    clear hW4
    refine (Copy_any p es3 en1 ec3 ts3 tn1 tc3 W4 HC6.out HL1.out).mono ?_; rintro v w7 ⟨es4, ec4, ts4, tc4, rfl, hcp, hb⟩
    have HA7 := Lib.hid ((HA6.out.below hb HA6.out.lt).alloc (.cells #[.string (bs p.nm), .int .i64 p.kd, .int .i64 p.a, .int .i64 p.b, .int .i64 p.c, .int .i64 p.d, .int .i64 p.x, .int .i64 p.ml, .int .i64 p.pw, .int .i64 p.tg, .int .i64 p.kw, .slice es4 en1 ec4, .slice ts4 tn1 tc4, .int .i64 p.ra] 34))
    have HX7 := Lib.hid ((HX6.out.below hb HX6.out.lt).alloc (.cells #[.string (bs p.nm), .int .i64 p.kd, .int .i64 p.a, .int .i64 p.b, .int .i64 p.c, .int .i64 p.d, .int .i64 p.x, .int .i64 p.ml, .int .i64 p.pw, .int .i64 p.tg, .int .i64 p.kw, .slice es4 en1 ec4, .slice ts4 tn1 tc4, .int .i64 p.ra] 34))
    have HY7 := Lib.hid (show has (w7.alloc (.cells #[.string (bs p.nm), .int .i64 p.kd, .int .i64 p.a, .int .i64 p.b, .int .i64 p.c, .int .i64 p.d, .int .i64 p.x, .int .i64 p.ml, .int .i64 p.pw, .int .i64 p.tg, .int .i64 p.kw, .slice es4 en1 ec4, .slice ts4 tn1 tc4, .int .i64 p.ra] 34)) w7.heap.size 34 (cdL p es4 en1 ec4 ts4 tn1 tc4) from new0 w7 34 (cdL p es4 en1 ec4 ts4 tn1 tc4))
    have HB7 := Lib.hid (hb.alloc hb.size (.cells #[.string (bs p.nm), .int .i64 p.kd, .int .i64 p.a, .int .i64 p.b, .int .i64 p.c, .int .i64 p.d, .int .i64 p.x, .int .i64 p.ml, .int .i64 p.pw, .int .i64 p.tg, .int .i64 p.kw, .slice es4 en1 ec4, .slice ts4 tn1 tc4, .int .i64 p.ra] 34))
    have HC7 := Lib.hid (hcp.cd.below ((Below.refl _ w7).alloc (Nat.le_refl _) (.cells #[.string (bs p.nm), .int .i64 p.kd, .int .i64 p.a, .int .i64 p.b, .int .i64 p.c, .int .i64 p.d, .int .i64 p.x, .int .i64 p.ml, .int .i64 p.pw, .int .i64 p.tg, .int .i64 p.kw, .slice es4 en1 ec4, .slice ts4 tn1 tc4, .int .i64 p.ra] 34)) (Nat.le_refl _))
    have HN7 := Lib.hid (NumAt.below (NumAt.of hcp.e hcp.fe) ((Below.refl _ w7).alloc (Nat.le_refl _) (.cells #[.string (bs p.nm), .int .i64 p.kd, .int .i64 p.a, .int .i64 p.b, .int .i64 p.c, .int .i64 p.d, .int .i64 p.x, .int .i64 p.ml, .int .i64 p.pw, .int .i64 p.tg, .int .i64 p.kw, .slice es4 en1 ec4, .slice ts4 tn1 tc4, .int .i64 p.ra] 34)))
    obtain ⟨g, xs, hnt⟩ := NT.of hcp
    have HT7 := Lib.hid (hnt.below ((Below.refl _ w7).alloc (Nat.le_refl _) (.cells #[.string (bs p.nm), .int .i64 p.kd, .int .i64 p.a, .int .i64 p.b, .int .i64 p.c, .int .i64 p.d, .int .i64 p.x, .int .i64 p.ml, .int .i64 p.pw, .int .i64 p.tg, .int .i64 p.kw, .slice es4 en1 ec4, .slice ts4 tn1 tc4, .int .i64 p.ra] 34)))
    clear hcp hb hnt
    as_aux_lemma =>
      have HI : Hid (YI W4.heap.size w7.heap.size W4 w7.heap.size (cdL p es4 en1 ec4 ts4 tn1 tc4) es4 en1 ts4 tn1 g xs (w7.alloc (.cells #[.string (bs p.nm), .int .i64 p.kd, .int .i64 p.a, .int .i64 p.b, .int .i64 p.c, .int .i64 p.d, .int .i64 p.x, .int .i64 p.ml, .int .i64 p.pw, .int .i64 p.tg, .int .i64 p.kw, .slice es4 en1 ec4, .slice ts4 tn1 tc4, .int .i64 p.ra] 34))) := Lib.hid ⟨HB7.out, HB7.out.size, HY7.out, Nat.le_refl _, HN7.out, HT7.out⟩
      clear HY7 HN7 HT7 HX HQ
      obtain ⟨u0, u1, u2, u3, u4, u5, u6, u7, u8, u9, u10, u11, u12, u13, u14⟩ := card14 HA7.out
      obtain ⟨v0, v1, v2, v3, v4, v5, v6, v7, v8, v9, v10, v11, v12, v13, v14⟩ := card14 HX7.out
      go_wp2_with fail
      clear u0 u1 u2 u3 u4 u5 u6 u7 u8 u9 u10 u11 u12 u13 u14
      clear v0 v1 v2 v3 v4 v5 v6 v7 v8 v9 v10 v11 v12 v13 v14
      obtain ⟨W5, hW5⟩ : ∃ W, w7.alloc (.cells #[.string (bs p.nm), .int .i64 p.kd, .int .i64 p.a, .int .i64 p.b, .int .i64 p.c, .int .i64 p.d, .int .i64 p.x, .int .i64 p.ml, .int .i64 p.pw, .int .i64 p.tg, .int .i64 p.kw, .slice es4 en1 ec4, .slice ts4 tn1 tc4, .int .i64 p.ra] 34) = W := ⟨_, rfl⟩
      rw [hW5] at HA7 HX7 HI HC7 HB7 ⊢
      clear hW5
      refine (rEq_self p es3 es1 ts3 ts1 en1 ec3 en1 ec1 tn1 tc3 tn1 tc1 W5 (HC6.out.below HB7.out (Nat.le_refl _)) (HP.out.below (HB6.out.trans (HB7.out.mono HB6.out.size)) (Nat.le_refl _))).mono ?_; rintro v w8 ⟨rfl, hb⟩
      have HA8 := Lib.hid (HA7.out.below hb HA7.out.lt)
      have HI8 := Lib.hid (HI.out.below hb)
      have HC8 := Lib.hid (HC7.out.below hb (Nat.le_refl _))
      clear hb HA7 HX7 HI HC7 HB7
      obtain ⟨u0, u1, u2, u3, u4, u5, u6, u7, u8, u9, u10, u11, u12, u13, u14⟩ := card14 HA8.out
      obtain ⟨v0, v1, v2, v3, v4, v5, v6, v7, v8, v9, v10, v11, v12, v13, v14⟩ := card14 HI8.out.box
      go_wp2_with fail
      refine (rEq_self p es4 es1 ts4 ts1 en1 ec4 en1 ec1 tn1 tc4 tn1 tc1 w8 HC8.out (HP.out.below (HB6.out.trans (HI8.out.hb.mono HB6.out.size)) (Nat.le_refl _))).mono ?_; rintro v w9 ⟨rfl, hb⟩
      have HI9 := Lib.hid (HI8.out.below hb)
      clear hb HA8 HI8 HC8
      clear u0 u1 u2 u3 u4 u5 u6 u7 u8 u9 u10 u11 u12 u13 u14
      clear v0 v1 v2 v3 v4 v5 v6 v7 v8 v9 v10 v11 v12 v13 v14
      have htn5 : tn1 ≤ 5 := HL1.out.t
      have h11 : w9.cell? ⟨w7.heap.size, 11, none⟩ = some (.slice es4 en1 ec4) := HI9.out.box.cell 11
      go_wp2_with fail
      clear h11
      go_loopw [49] (fun i wr => ∃ k : Nat, k ≤ en1 ∧ i = .int .i64 k ∧ Hid (YI W4.heap.size w7.heap.size W4 w7.heap.size (cdL p es4 en1 ec4 ts4 tn1 tc4) es4 en1 ts4 tn1 g xs wr)) (fun i _ => en1 - (intOf i).toNat)
      case atStart => exact ⟨0, Nat.zero_le _, rfl, HI9⟩
      case round =>
        obtain ⟨k, hk, rfl, HT⟩ := hrel
        by_cases hlt : k < en1
        · as_aux_lemma =>
            obtain ⟨b, off, hes, hb1, hb2, hf, hz⟩ := HT.out.e (by omega)
            obtain ⟨z, hz⟩ := hz k hlt
            have h11 : wr.cell? ⟨w7.heap.size, 11, none⟩ = some (.slice (some ⟨b, off, none⟩) en1 ec4) := by rw [← hes]; exact HT.out.box.cell 11
            clear hes
            go_wp2_with fail
            exact ⟨⟨k + 1, by omega, by go_num, Lib.hid (HT.out.put hz hb1 hb2)⟩, by simp [intOf]; omega⟩
        · as_aux_lemma =>
            obtain rfl : en1 = k := by omega
            as_aux_lemma =>
              have h12 : wr.cell? ⟨w7.heap.size, 12, none⟩ = some (.slice ts4 tn1 tc4) := HT.out.box.cell 12
              go_wp2_with fail
              clear h12 HI9
              obtain ⟨wo, hwo⟩ : ∃ wo : World, wo = wr := ⟨_, rfl⟩
              rw [← hwo] at HT ⊢
              clear hwo
              go_loopw [65] (fun i wr => ∃ k : Nat, k ≤ tn1 ∧ i = .int .i64 k ∧ Hid (YI W4.heap.size w7.heap.size W4 w7.heap.size (cdL p es4 en1 ec4 ts4 tn1 tc4) es4 en1 ts4 tn1 g xs wr)) (fun i _ => tn1 - (intOf i).toNat)
              case atStart => exact ⟨0, Nat.zero_le _, rfl, HT⟩
              case round =>
                obtain ⟨k, hk, rfl, HU⟩ := hrel
                by_cases hlt : k < tn1
                · as_aux_lemma =>
                    obtain ⟨hts, hg1, hg2, hgf, hx⟩ := HU.out.t (by omega)
                    obtain ⟨⟨z, hz⟩, hsl, hxm, _⟩ := hx k hlt
                    obtain ⟨x, hxk⟩ : ∃ x, xs k = x := ⟨_, rfl⟩
                    rw [hxk] at hsl hxm
                    obtain ⟨xw, xp, xn, xc⟩ := x
                    dsimp only at hsl hxm
                    have HXK := Lib.hid hxk
                    have h12 : wr.cell? ⟨w7.heap.size, 12, none⟩ = some (.slice (some ⟨g, 0, none⟩) tn1 tc4) := by rw [← hts]; exact HU.out.box.cell 12
                    have HTS := Lib.hid hts
                    clear hx hz hts hxk hgf
                    go_wp2_with fail
                    clear h12 hsl
                    obtain ⟨wo2, hwo⟩ : ∃ wo : World, wo = wr := ⟨_, rfl⟩
                    rw [← hwo] at HU ⊢
                    clear hwo
                    go_loopw [75] (fun i wr => ∃ j : Nat, j ≤ xn ∧ i = .int .i64 j ∧ Hid (YI W4.heap.size w7.heap.size W4 w7.heap.size (cdL p es4 en1 ec4 ts4 tn1 tc4) es4 en1 ts4 tn1 g xs wr)) (fun i _ => xn - (intOf i).toNat)
                    case atStart => exact ⟨0, Nat.zero_le _, rfl, HU⟩
                    case round =>
                      obtain ⟨j, hj, rfl, HV⟩ := hrel
                      obtain ⟨_, _, _, hgf, hx⟩ := HV.out.t (by omega)
                      obtain ⟨⟨z, hz⟩, hsl, _, hnu⟩ := hx k hlt
                      rw [HXK.out] at hsl hnu
                      dsimp only at hsl hnu
                      have h12 : wr.cell? ⟨w7.heap.size, 12, none⟩ = some (.slice (some ⟨g, 0, none⟩) tn1 tc4) := by rw [← HTS.out]; exact HV.out.box.cell 12
                      clear hx
                      by_cases hlj : j < xn
                      · as_aux_lemma =>
                          obtain ⟨b, off, hes, hb1, hb2, hf, hz2⟩ := hnu (by omega)
                          obtain ⟨z2, hz2⟩ := hz2 j hlj
                          rw [hes] at hsl
                          clear hes hz
                          go_wp2_with fail
                          exact ⟨⟨j + 1, by omega, by go_num, Lib.hid (HV.out.put hz2 hb1 hb2)⟩, by simp [intOf]; omega⟩
                      · obtain rfl : xn = j := by omega
                        clear hnu hsl
                        go_wp2_with fail
                        exact ⟨⟨k + 1, by omega, by go_num, Lib.hid (HV.out.put hz hg1 hg2)⟩, by simp [intOf]; omega⟩
                · as_aux_lemma =>
                    obtain rfl : tn1 = k := by omega
                    have HAe := Lib.hid (HA6.out.below HU.out.hb HA6.out.lt)
                    have HXe := Lib.hid (HX6.out.below HU.out.hb HX6.out.lt)
                    have HB := Lib.hid (HB6.out.trans (HU.out.hb.mono HB6.out.size))
                    obtain ⟨u0, u1, u2, u3, u4, u5, u6, u7, u8, u9, u10, u11, u12, u13, u14⟩ := card14 HAe.out
                    obtain ⟨v0, v1, v2, v3, v4, v5, v6, v7, v8, v9, v10, v11, v12, v13, v14⟩ := card14 HXe.out
                    go_wp2_with fail
                    refine (rEq_self p es3 es1 ts3 ts1 en1 ec3 en1 ec1 tn1 tc3 tn1 tc1 _ (HC6.out.below HU.out.hb (Nat.le_refl _)) (HP.out.below HB.out (Nat.le_refl _))).mono ?_; rintro v wz ⟨rfl, hb⟩
                    clear u0 u1 u2 u3 u4 u5 u6 u7 u8 u9 u10 u11 u12 u13 u14
                    clear v0 v1 v2 v3 v4 v5 v6 v7 v8 v9 v10 v11 v12 v13 v14
                    have HB := Lib.hid (next HB.out hb)
                    clear hb
                    go_wp2_with fail
                    refine (known_any _ (HG.out.below HB.out)).mono ?_; rintro e wk ⟨rfl, hbk⟩
                    have HB := Lib.hid (next HB.out hbk)
                    clear hbk
                    go_wp2_with fail
                    go_ret
                    exact ⟨rfl, HB.out⟩
end Go.Proofs.YtkappnnoienhnaaDoor.caFn
