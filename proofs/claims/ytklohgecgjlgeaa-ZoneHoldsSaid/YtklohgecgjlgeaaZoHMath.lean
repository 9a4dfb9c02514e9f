/- What each call changes of the lists, as the law of the stage asks for it. -/
import Derived.Test.YtklohgecgjlgeaaZoHelp
namespace Go.Proofs.Ytklohgecgjlgeaa.zoFn
open Go.ChangeShapes Go.WideShapes Go.ChangeAt Go.RowKit drMem
set_option linter.unusedVariables false
variable {L M : List (List Int)}

def noID (x : Int) (l : List Int) : List Int := l.filter fun y => !(y == x)
theorem noID_app (x : Int) (a c : List Int) : noID x (a ++ c) = noID x a ++ noID x c := List.filter_append ..
theorem noID_one (x : Int) : noID x [x] = [] := by simp [noID]
theorem noID_cons_same (x : Int) (l : List Int) : noID x (x :: l) = noID x l := by simp [noID]
theorem noID_erase (x : Int) (l : List Int) : noID x (l.erase x) = noID x l := by
  unfold noID
  induction l with
  | nil => rfl
  | cons a t ih =>
    rw [List.erase_cons]
    by_cases h : a = x
    · subst h; simp
    · have : (a == x) = false := by simpa using h
      simp [this, ih]
theorem noID_snoc_ne {x y : Int} (l : List Int) (h : y ≠ x) : noID x (l ++ [y]) = noID x l ++ [y] := by
  rw [noID_app]; congr 1; simp [noID, h]
theorem noID_snoc_eq (x : Int) (l : List Int) : noID x (l ++ [x]) = noID x l := by rw [noID_app, noID_one, List.append_nil]
/- what the law knows of a call: its error, the zones that it may change -/
structure Chg (L M : List (List Int)) (x er fz az : Int) : Prop where
  n : M.length = L.length
  a : ∀ i, noID x (row L i) = noID x (row M i)
  e : er ≠ 0 → M = L
  c : ∀ i : Nat, er = 0 → (i : Int) ≠ fz → (i : Int) ≠ az → row M i = row L i
def fromZ (L : List (List Int)) (x : Int) : Int := if leaE L.length L x = 0 then ((homeI L x : Nat) : Int) else -1
theorem Chg.refl (L : List (List Int)) (x er fz az : Int) : Chg L L x er fz az := ⟨rfl, fun _ => rfl, fun _ => rfl, fun _ _ _ _ => rfl⟩
theorem chg_put (L : List (List Int)) (x z fz : Int) : Chg L (putL L x z) x (entE L.length L x z) fz z := by
  unfold putL
  by_cases he : entE L.length L x z = 0
  · obtain ⟨_, _, h2, _⟩ := entE_ok he
    obtain ⟨i, rfl, hi⟩ := okZ_b h2
    have e : (i : Int).toNat = i := by omega
    rw [if_pos he, e]
    refine ⟨topL_len _ _ _, fun j => ?_, fun h => absurd he h, fun j _ _ hj => ?_⟩
    · unfold topL
      rw [row_set _ _ _ hi]
      split
      · next ee => subst ee; rw [noID_snoc_eq]
      · rfl
    · unfold topL
      exact row_other _ _ _ hi j (fun ee => hj (by rw [ee]))
  · rw [if_neg he]; exact Chg.refl ..
theorem chg_und (L : List (List Int)) (x z fz : Int) : Chg L (undL L x z) x (entE L.length L x z) fz z := by
  unfold undL
  by_cases he : entE L.length L x z = 0
  · obtain ⟨_, _, h2, _⟩ := entE_ok he
    obtain ⟨i, rfl, hi⟩ := okZ_b h2
    have e : (i : Int).toNat = i := by omega
    rw [if_pos he, e]
    refine ⟨botL_len _ _ _, fun j => ?_, fun h => absurd he h, fun j _ _ hj => ?_⟩
    · unfold botL
      rw [row_set _ _ _ hi]
      split
      · next ee => subst ee; rw [noID_cons_same]
      · rfl
    · unfold botL
      exact row_other _ _ _ hi j (fun ee => hj (by rw [ee]))
  · rw [if_neg he]; exact Chg.refl ..
theorem out_row (L : List (List Int)) {x : Int} (hin : inL L x = true) (j : Nat) : noID x (row (outL L x) j) = noID x (row L j) ∧ (j ≠ homeI L x → row (outL L x) j = row L j) := by
  have hi := row_lt (homeI_mem hin)
  unfold outL
  refine ⟨?_, fun h => row_other _ _ _ hi j h⟩
  rw [row_set _ _ _ hi]
  split
  · next ee => subst ee; exact noID_erase _ _
  · rfl
theorem chg_rem (L : List (List Int)) (x az : Int) : Chg L (remL L x) x (leaE L.length L x) (fromZ L x) az := by
  unfold remL fromZ
  by_cases he : leaE L.length L x = 0
  · obtain ⟨_, _, h3⟩ := leaE_in he
    rw [if_pos he, if_pos he]
    exact ⟨outL_len _ _, fun j => ((out_row L h3 j).1).symm, fun h => absurd he h, fun j _ hj _ => (out_row L h3 j).2 (fun ee => hj (by rw [ee]))⟩
  · rw [if_neg he]; exact Chg.refl ..
theorem chg_mov (L : List (List Int)) (x z : Int) : Chg L (movL L x z) x (movE L.length L x z) (fromZ L x) z := by
  unfold movL
  by_cases he : movE L.length L x z = 0
  · obtain ⟨n0, h1, h2, h3⟩ := movE_ok he
    obtain ⟨i, rfl, hi⟩ := okZ_b h2
    have e : (i : Int).toNat = i := by omega
    have hl : leaE L.length L x = 0 := by unfold leaE; rw [if_neg n0, h1, h3]; simp
    rw [if_pos he, e]
    have hi2 : i < (outL L x).length := by rw [outL_len]; exact hi
    refine ⟨by rw [topL_len, outL_len], fun j => ?_, fun h => absurd he h, fun j _ hf hj => ?_⟩
    · unfold topL
      rw [row_set _ _ _ hi2]
      split
      · next ee => subst ee; rw [noID_snoc_eq, (out_row L h3 _).1]
      · rw [(out_row L h3 _).1]
    · unfold topL
      rw [row_other _ _ _ hi2 j (fun ee => hj (by rw [ee]))]
      refine (out_row L h3 j).2 (fun ee => hf ?_)
      unfold fromZ
      rw [if_pos hl, ee]
  · rw [if_neg he]; exact Chg.refl ..
/- what is asked of each id of a zone, and of its top -/
theorem wh_ok {M : List (List Int)} (g : Good M) {i k : Nat} (hi : i < M.length) (hk : k < (row M i).length) : whB M ((row M i).getD k 0) (i : Int) (k : Int) 0 = true := by
  have hm : (row M i).getD k 0 ∈ row M i := by rw [List.getD_eq_getElem?_getD, List.getElem?_eq_getElem hk]; exact List.getElem_mem hk
  have hr := g.rng i _ hm
  have h1 : okID ((row M i).getD k 0) = true := decide_eq_true hr
  have h2 := inL_of hm
  have h3 := homeI_eq g hm
  have n0 : M.length ≠ 0 := by have := g.n1; omega
  have hl : leaE M.length M ((row M i).getD k 0) = 0 := by unfold leaE; rw [if_neg n0, h1, h2]; simp
  unfold whB whZ whI
  rw [hl, if_pos rfl, if_pos rfl, h3, idxI_of (g.nd i) hk]
  simp
theorem getD_mem {l : List Int} {k : Nat} (h : k < l.length) : l.getD k 0 ∈ l := by rw [List.getD_eq_getElem?_getD, List.getElem?_eq_getElem h]; exact List.getElem_mem h
theorem last_mem {l : List Int} (h : 0 < l.length) : lastI l ∈ l := getD_mem (by omega)
theorem drop_last {l : List Int} (hn : l.Nodup) (h : 0 < l.length) : l.erase (lastI l) ++ [lastI l] = l := by
  obtain ⟨a, y, rfl⟩ : ∃ a y, l = a ++ [y] := by
    have h2 : l ≠ [] := fun e => by rw [e] at h; cases h
    exact ⟨l.dropLast, l.getLast h2, (List.dropLast_concat_getLast h2).symm⟩
  have hl : lastI (a ++ [y]) = y := by simp [lastI]
  have hny : y ∉ a := fun hm => (List.nodup_append.1 hn).2.2 y hm y (by simp) rfl
  rw [hl, List.erase_append_right _ hny]
  simp
theorem mov_top {M : List (List Int)} (g : Good M) {i : Nat} (hi : i < M.length) (h : 0 < (row M i).length) : movE M.length M (lastI (row M i)) (i : Int) = 0 ∧ movL M (lastI (row M i)) (i : Int) = M := by
  have hm := last_mem h
  have hr := g.rng i _ hm
  have h1 : okID (lastI (row M i)) = true := decide_eq_true hr
  have h2 := inL_of hm
  have h3 := homeI_eq g hm
  have n0 : M.length ≠ 0 := by have := g.n1; omega
  have hz : okZ M.length (i : Int) = true := by unfold okZ; simp; exact hi
  have he : movE M.length M (lastI (row M i)) (i : Int) = 0 := by unfold movE; rw [if_neg n0, h1, h2, hz]; simp
  refine ⟨he, ?_⟩
  unfold movL
  have e : (i : Int).toNat = i := by omega
  rw [if_pos he, e]
  have hd := drop_last (g.nd i) h
  unfold topL outL
  rw [h3]
  rw [row_same M i _ hi, hd]
  rw [List.set_set]
  apply rows_ext (by simp)
  intro j hj
  rw [row_set M i _ hi]
  split
  · next ee => subst ee; rfl
  · rfl
theorem top_e {M : List (List Int)} (g : Good M) {i : Nat} (hi : i < M.length) : topE M.length M (i : Int) = (if (row M i).length = 0 then 9 else 0) ∧ topV M.length M (i : Int) = lastI (row M i) := by
  have n0 : M.length ≠ 0 := by have := g.n1; omega
  have hz : okZ M.length (i : Int) = true := by unfold okZ; simp; exact hi
  have e : (i : Int).toNat = i := by omega
  unfold topE topV
  rw [if_neg n0, hz, e]
  simp
theorem l_row {M : List (List Int)} {i : Nat} (hi : i < M.length) : (if okZ M.length (i : Int) then row M (i : Int).toNat else []) = row M i := by
  have hz : okZ M.length (i : Int) = true := by unfold okZ; simp; exact hi
  have e : (i : Int).toNat = i := by omega
  rw [hz, e, if_pos rfl]
end Go.Proofs.Ytklohgecgjlgeaa.zoFn
