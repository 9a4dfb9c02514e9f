/- The lists of zones as data: which are good, what the map of ids says. -/
import Derived.Test.YtklohgecgjlgeaaDrMem
import Derived.Maps.OwnSet
import Derived.Maps.OwnOps
import Derived.WalkArith
namespace Go.Proofs.Ytklohgecgjlgeaa.zoFn
open Go.ChangeShapes Go.WideShapes Go.ChangeAt Go.RowKit drMem
set_option linter.unusedVariables false

def row (L : List (List Int)) (i : Nat) : List Int := L.getD i []
theorem row_lt {L : List (List Int)} {i : Nat} {x : Int} (h : x ∈ row L i) : i < L.length := by
  rcases Nat.lt_or_ge i L.length with h1 | h1
  · exact h1
  · unfold row at h; rw [List.getD_eq_getElem?_getD, List.getElem?_eq_none h1] at h; cases h
theorem row_eq {L : List (List Int)} {i : Nat} (h : i < L.length) : L[i]? = some (row L i) := by
  unfold row; rw [List.getD_eq_getElem?_getD, List.getElem?_eq_getElem h]; rfl
theorem row_set (L : List (List Int)) (i : Nat) (l : List Int) (h : i < L.length) (j : Nat) : row (L.set i l) j = if j = i then l else row L j := by
  unfold row
  rw [List.getD_eq_getElem?_getD, List.getElem?_set, List.getD_eq_getElem?_getD]
  by_cases e : i = j
  · subst e; simp [h]
  · simp [e, Ne.symm e]
theorem row_same (L : List (List Int)) (i : Nat) (l : List Int) (h : i < L.length) : row (L.set i l) i = l := by rw [row_set L i l h]; simp
theorem row_other (L : List (List Int)) (i : Nat) (l : List Int) (h : i < L.length) (j : Nat) (hj : j ≠ i) : row (L.set i l) j = row L j := by rw [row_set L i l h]; simp [hj]
theorem row_rep (n : Nat) (i : Nat) : row (List.replicate n []) i = [] := by
  unfold row
  rw [List.getD_eq_getElem?_getD, List.getElem?_replicate]
  split <;> rfl
theorem rows_ext {L M : List (List Int)} (h : L.length = M.length) (h2 : ∀ i, i < L.length → row L i = row M i) : L = M := by
  apply List.ext_getElem h
  intro i h3 h4
  have := h2 i h3
  unfold row at this
  simpa [List.getD_eq_getElem?_getD, h3, h4] using this

structure Good (L : List (List Int)) : Prop where
  n1 : 1 ≤ L.length
  n2 : L.length ≤ 32
  rng : ∀ i x, x ∈ row L i → 1 ≤ x ∧ x ≤ 4096
  nd : ∀ i, (row L i).Nodup
  dj : ∀ i j x, x ∈ row L i → x ∈ row L j → i = j
theorem len_of_nodup : ∀ (n : Nat) (l : List Int), l.Nodup → (∀ x ∈ l, 1 ≤ x ∧ x ≤ (n : Int)) → l.length ≤ n
  | 0, l, _, h => by
    cases l with
    | nil => simp
    | cons a t => have := h a (by simp); omega
  | n + 1, l, hn, h => by
    have h1 := len_of_nodup n (l.erase ((n : Int) + 1)) (hn.erase _) (fun x hx => by
      rw [hn.mem_erase_iff] at hx
      have := h x hx.2
      have := hx.1
      omega)
    have h2 := List.length_erase (a := (n : Int) + 1) (l := l)
    split at h2 <;> omega
theorem Good.len {L : List (List Int)} (h : Good L) (i : Nat) : (row L i).length ≤ 4096 := len_of_nodup 4096 _ (h.nd i) (fun x hx => h.rng i x hx)
theorem Good.rep (n : Nat) (h1 : 1 ≤ n) (h2 : n ≤ 32) : Good (List.replicate n []) :=
  ⟨by simpa using h1, by simpa using h2, fun i x h => (by rw [row_rep] at h; cases h), fun i => (by rw [row_rep]; exact List.nodup_nil), fun i j x h => (by rw [row_rep] at h; cases h)⟩
theorem Good.set {L : List (List Int)} (h : Good L) {i : Nat} (hi : i < L.length) {l : List Int} (hl : l.Nodup) (hx : ∀ x ∈ l, (1 ≤ x ∧ x ≤ 4096) ∧ ∀ j, j ≠ i → x ∉ row L j) : Good (L.set i l) := by
  refine ⟨by simpa using h.n1, by simpa using h.n2, fun j x hj => ?_, fun j => ?_, fun j k x hj hk => ?_⟩
  · rw [row_set L i l hi] at hj
    split at hj
    · exact (hx x hj).1
    · exact h.rng j x hj
  · rw [row_set L i l hi]
    split
    · exact hl
    · exact h.nd j
  · rw [row_set L i l hi] at hj hk
    by_cases e1 : j = i <;> by_cases e2 : k = i
    · rw [e1, e2]
    · simp [e1] at hj; simp [e2] at hk; exact absurd hk ((hx x hj).2 k e2)
    · simp [e1] at hj; simp [e2] at hk; exact absurd hj ((hx x hk).2 j e1)
    · simp [e1] at hj; simp [e2] at hk; exact h.dj j k x hj hk

/- whether an id is in a zone -/
def inL (L : List (List Int)) (x : Int) : Bool := L.any fun l => decide (x ∈ l)
theorem inL_iff {L : List (List Int)} {x : Int} : inL L x = true ↔ ∃ i, x ∈ row L i := by
  unfold inL
  rw [List.any_eq_true]
  constructor
  · rintro ⟨l, hl, hx⟩
    obtain ⟨i, hi, rfl⟩ := List.getElem_of_mem hl
    exact ⟨i, by unfold row; rw [List.getD_eq_getElem?_getD, List.getElem?_eq_getElem hi]; simpa using hx⟩
  · rintro ⟨i, hx⟩
    have hi := row_lt hx
    exact ⟨L[i], List.getElem_mem hi, by unfold row at hx; rw [List.getD_eq_getElem?_getD, List.getElem?_eq_getElem hi] at hx; simpa using hx⟩
theorem inL_no {L : List (List Int)} {x : Int} (h : inL L x = false) (i : Nat) : x ∉ row L i := fun hx => by
  have := inL_iff.2 ⟨i, hx⟩
  rw [this] at h; cases h
theorem inL_of {L : List (List Int)} {x : Int} {i : Nat} (h : x ∈ row L i) : inL L x = true := inL_iff.2 ⟨i, h⟩
theorem inL_false {L : List (List Int)} {x : Int} (h : ∀ i, x ∉ row L i) : inL L x = false := by
  cases e : inL L x
  · rfl
  · obtain ⟨i, hi⟩ := inL_iff.1 e; exact absurd hi (h i)

/- how many ids there are -/
def tot (L : List (List Int)) : Nat := (L.map List.length).sum
theorem tot_set : ∀ (L : List (List Int)) (i : Nat) (l : List Int), i < L.length → tot (L.set i l) + (row L i).length = tot L + l.length
  | [], i, l, h => by simp at h
  | a :: t, 0, l, h => by simp [tot, row]; omega
  | a :: t, i + 1, l, h => by
    have := tot_set t i l (by simpa using h)
    simp [tot, row] at this ⊢
    omega
theorem tot_rep : ∀ n : Nat, tot (List.replicate n []) = 0
  | 0 => rfl
  | n + 1 => by have := tot_rep n; simp [tot, List.replicate_succ] at this ⊢
theorem tot_le : ∀ (L : List (List Int)) (m : Nat), (∀ i, (row L i).length ≤ m) → tot L ≤ L.length * m
  | [], m, _ => by simp [tot]
  | a :: t, m, h => by
    have h1 := tot_le t m (fun i => by have := h (i + 1); simpa [row] using this)
    have h0 := h 0
    simp [row] at h0
    have : (t.length + 1) * m = t.length * m + m := Nat.succ_mul _ _
    simp [tot] at h1 ⊢
    omega
theorem Good.tot {L : List (List Int)} (h : Good L) : tot L ≤ 131072 := by
  have h1 := tot_le L 4096 h.len
  have h2 := Nat.mul_le_mul_right 4096 h.n2
  omega

/- what the map of ids says -/
structure Home (D : DataW Unit) (L : List (List Int)) : Prop where
  t : Maps.Tidy D
  a : ∀ i x, x ∈ row L i → D.atKey (.int .i64 x) (.lit (.int .i64 0)) = .lit (.int .i64 (i : Nat))
  h : ∀ x, Maps.has D (.int .i64 x) = inL L x
  n : Maps.size D = tot L
theorem Home.rep (n : Nat) : Home (.map []) (List.replicate n []) :=
  ⟨Maps.tidy_empty, fun i x h => (by rw [row_rep] at h; cases h), fun x => (by rw [inL_false (fun i => by rw [row_rep]; simp)]; rfl), (by rw [tot_rep]; rfl)⟩
theorem Home.put {D : DataW Unit} {L : List (List Int)} (h : Home D L) {i : Nat} (hi : i < L.length) {x : Int} (hx : inL L x = false) {l : List Int} (hl : ∀ y, y ∈ l ↔ y = x ∨ y ∈ row L i) (hn : l.length = (row L i).length + 1) :
    Home (D.put (.int .i64 x) (.lit (.int .i64 (i : Nat)))) (L.set i l) := by
  have hk : WideAt.IsKeyLit (.int .i64 x) := trivial
  have hne : ∀ y, y ≠ x → (Lit.int .i64 y) ≠ .int .i64 x := fun y hy e => by injection e with _ e; exact hy e
  refine ⟨h.t.put hk _, fun j y hy => ?_, fun y => ?_, ?_⟩
  · rw [row_set L i l hi] at hy
    by_cases hj : j = i
    · subst hj
      simp at hy
      by_cases e : y = x
      · subst e; rw [Maps.atKey_put_same h.t.isMap hk]
      · rw [Maps.atKey_put_other (hne y e)]
        exact h.a j y (((hl y).1 hy).resolve_left e)
    · simp [hj] at hy
      have e : y ≠ x := fun e => inL_no hx j (e ▸ hy)
      rw [Maps.atKey_put_other (hne y e)]
      exact h.a j y hy
  · by_cases e : y = x
    · subst e
      rw [Maps.has_put_same h.t.isMap hk]
      exact (inL_of (i := i) (by rw [row_same L i l hi]; exact (hl y).2 (.inl rfl))).symm
    · rw [Maps.has_put_other (hne y e), h.h y]
      apply Bool.eq_iff_iff.2
      rw [inL_iff, inL_iff]
      constructor
      · rintro ⟨j, hj⟩
        refine ⟨j, ?_⟩
        rw [row_set L i l hi]
        split
        · next e2 => subst e2; exact (hl y).2 (.inr hj)
        · exact hj
      · rintro ⟨j, hj⟩
        refine ⟨j, ?_⟩
        rw [row_set L i l hi] at hj
        split at hj
        · next e2 => subst e2; exact ((hl y).1 hj).resolve_left e
        · exact hj
  · rw [Maps.size_put h.t, h.h x, hx, h.n]
    have := tot_set L i l hi
    simp; omega
theorem Home.del {D : DataW Unit} {L : List (List Int)} (h : Home D L) (g : Good L) {i : Nat} {x : Int} (hx : x ∈ row L i) {l : List Int} (hl : ∀ y, y ∈ l ↔ y ≠ x ∧ y ∈ row L i) (hn : l.length + 1 = (row L i).length) :
    Home (D.del (.int .i64 x)) (L.set i l) := by
  have hi := row_lt hx
  have hne : ∀ y, y ≠ x → (Lit.int .i64 y) ≠ .int .i64 x := fun y hy e => by injection e with _ e; exact hy e
  refine ⟨h.t.del _, fun j y hy => ?_, fun y => ?_, ?_⟩
  · rw [row_set L i l hi] at hy
    by_cases hj : j = i
    · subst hj
      simp at hy
      have := (hl y).1 hy
      rw [Maps.atKey_del_other (hne y this.1)]
      exact h.a j y this.2
    · simp [hj] at hy
      have e : y ≠ x := fun e => hj (g.dj j i x (e ▸ hy) hx)
      rw [Maps.atKey_del_other (hne y e)]
      exact h.a j y hy
  · by_cases e : y = x
    · subst e
      rw [Maps.has_del_same]
      refine (inL_false fun j => ?_).symm
      rw [row_set L i l hi]
      split
      · intro hy; exact ((hl y).1 hy).1 rfl
      · next e2 => intro hy; exact e2 (g.dj j i y hy hx)
    · rw [Maps.has_del_other (hne y e), h.h y]
      apply Bool.eq_iff_iff.2
      rw [inL_iff, inL_iff]
      constructor
      · rintro ⟨j, hj⟩
        refine ⟨j, ?_⟩
        rw [row_set L i l hi]
        split
        · next e2 => subst e2; exact (hl y).2 ⟨e, hj⟩
        · exact hj
      · rintro ⟨j, hj⟩
        refine ⟨j, ?_⟩
        rw [row_set L i l hi] at hj
        split at hj
        · next e2 => subst e2; exact ((hl y).1 hj).2
        · exact hj
  · have h1 := Maps.size_del (D := D) (k := .int .i64 x) h.t
    have h3 := h.h x
    rw [inL_of hx] at h3
    simp only [h3, if_true, h.n] at h1
    have := tot_set L i l hi
    omega
theorem Home.perm {D : DataW Unit} {L : List (List Int)} (h : Home D L) {i : Nat} (hi : i < L.length) {l : List Int} (hl : ∀ y, y ∈ l ↔ y ∈ row L i) (hn : l.length = (row L i).length) : Home D (L.set i l) := by
  have hm : ∀ j y, y ∈ row (L.set i l) j ↔ y ∈ row L j := fun j y => by
    rw [row_set L i l hi]
    split
    · next e => subst e; exact hl y
    · rfl
  refine ⟨h.t, fun j y hy => h.a j y ((hm j y).1 hy), fun y => ?_, ?_⟩
  · rw [h.h y]
    apply Bool.eq_iff_iff.2
    rw [inL_iff, inL_iff]
    exact ⟨fun ⟨j, hj⟩ => ⟨j, (hm j y).2 hj⟩, fun ⟨j, hj⟩ => ⟨j, (hm j y).1 hj⟩⟩
  · rw [h.n]
    have := tot_set L i l hi
    omega

/- where an id is, what is left without it -/
def homeI (L : List (List Int)) (x : Int) : Nat := L.findIdx fun l => decide (x ∈ l)
theorem homeI_mem {L : List (List Int)} {x : Int} (h : inL L x = true) : x ∈ row L (homeI L x) := by
  have hlt : homeI L x < L.length := List.findIdx_lt_length_of_exists (by unfold inL at h; rw [List.any_eq_true] at h; exact h)
  have := List.findIdx_getElem (w := hlt)
  unfold row
  rw [List.getD_eq_getElem?_getD, List.getElem?_eq_getElem hlt]
  show x ∈ L[homeI L x]
  exact of_decide_eq_true this
theorem homeI_eq {L : List (List Int)} (g : Good L) {x : Int} {i : Nat} (h : x ∈ row L i) : homeI L x = i := g.dj _ _ x (homeI_mem (inL_of h)) h
def outL (L : List (List Int)) (x : Int) : List (List Int) := L.set (homeI L x) ((row L (homeI L x)).erase x)
def topL (L : List (List Int)) (x : Int) (i : Nat) : List (List Int) := L.set i (row L i ++ [x])
def botL (L : List (List Int)) (x : Int) (i : Nat) : List (List Int) := L.set i (x :: row L i)
theorem outL_len (L : List (List Int)) (x : Int) : (outL L x).length = L.length := by simp [outL]
theorem topL_len (L : List (List Int)) (x : Int) (i : Nat) : (topL L x i).length = L.length := by simp [topL]
theorem botL_len (L : List (List Int)) (x : Int) (i : Nat) : (botL L x i).length = L.length := by simp [botL]
theorem Good.top {L : List (List Int)} (g : Good L) {x : Int} {i : Nat} (hi : i < L.length) (hx : 1 ≤ x ∧ x ≤ 4096) (hin : inL L x = false) : Good (topL L x i) :=
  g.set hi (List.nodup_append.2 ⟨g.nd i, by simp, fun a ha b hb e => by simp at hb; subst hb; subst e; exact inL_no hin i ha⟩) fun y hy => by
    rcases List.mem_append.1 hy with h | h
    · exact ⟨g.rng i y h, fun j hj h2 => hj (g.dj j i y h2 h)⟩
    · simp at h; subst h; exact ⟨hx, fun j _ => inL_no hin j⟩
theorem Good.bot {L : List (List Int)} (g : Good L) {x : Int} {i : Nat} (hi : i < L.length) (hx : 1 ≤ x ∧ x ≤ 4096) (hin : inL L x = false) : Good (botL L x i) :=
  g.set hi (List.nodup_cons.2 ⟨inL_no hin i, g.nd i⟩) fun y hy => by
    rcases List.mem_cons.1 hy with h | h
    · subst h; exact ⟨hx, fun j _ => inL_no hin j⟩
    · exact ⟨g.rng i y h, fun j hj h2 => hj (g.dj j i y h2 h)⟩
theorem Good.out {L : List (List Int)} (g : Good L) {x : Int} (hin : inL L x = true) : Good (outL L x) :=
  g.set (row_lt (homeI_mem hin)) ((g.nd _).erase x) fun y hy => by
    have h := List.mem_of_mem_erase hy
    exact ⟨g.rng _ y h, fun j hj h2 => hj (g.dj j _ y h2 h)⟩
theorem outL_in {L : List (List Int)} (g : Good L) {x : Int} (hin : inL L x = true) : inL (outL L x) x = false := inL_false fun j => by
  have hm := homeI_mem hin
  unfold outL
  rw [row_set _ _ _ (row_lt hm)]
  split
  · exact fun h => absurd ((g.nd _).mem_erase_iff.1 h).1 (by simp)
  · next e => exact fun h => e (g.dj _ _ x h hm)
theorem Home.top {D : DataW Unit} {L : List (List Int)} (h : Home D L) {i : Nat} (hi : i < L.length) {x : Int} (hx : inL L x = false) : Home (D.put (.int .i64 x) (.lit (.int .i64 (i : Nat)))) (topL L x i) :=
  h.put hi hx (fun y => by simp [or_comm]) (by simp)
theorem Home.bot {D : DataW Unit} {L : List (List Int)} (h : Home D L) {i : Nat} (hi : i < L.length) {x : Int} (hx : inL L x = false) : Home (D.put (.int .i64 x) (.lit (.int .i64 (i : Nat)))) (botL L x i) :=
  h.put hi hx (fun y => by simp) (by simp)
theorem Home.out {D : DataW Unit} {L : List (List Int)} (h : Home D L) (g : Good L) {x : Int} (hin : inL L x = true) : Home (D.del (.int .i64 x)) (outL L x) :=
  h.del g (homeI_mem hin) (fun y => (g.nd _).mem_erase_iff) (by
    have hm := homeI_mem hin
    have := List.length_erase_of_mem hm
    have := List.length_pos_of_mem hm
    omega)
end Go.Proofs.Ytklohgecgjlgeaa.zoFn
