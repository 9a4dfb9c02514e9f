/- Texts of effects: words, and what a text is read as. -/
import Derived.Test.YtfdolapiikgebaaDoorEfWord
import Derived.Lib.AtoiAllCases
import Derived.Lib.AtoiErrMem
namespace Go.Proofs.YtfdolapiikgebaaDoor.efFn
open Go.ChangeShapes Go.WideShapes Go.ChangeAt Go.RowKit drMem
set_option linter.unusedVariables false

/- the word of a code, the word of a target kind -/
def nmL (c : Int) : List UInt8 := if c = 1 then [100, 97, 109, 97, 103, 101] else if c = 2 then [100, 114, 97, 119] else if c = 3 then [103, 97, 105, 110] else if c = 4 then [108, 111, 115, 101] else if c = 5 then [100, 101, 115, 116, 114, 111, 121] else if c = 6 then [114, 101, 116, 117, 114, 110] else if c = 7 then [99, 111, 117, 110, 116, 101, 114] else if c = 8 then [112, 117, 109, 112] else if c = 9 then [99, 111, 117, 110, 116, 101, 114, 115] else if c = 10 then [116, 111, 107, 101, 110] else if c = 11 then [116, 97, 112] else if c = 12 then [109, 97, 110, 97] else []
def kwL (t : Int) : List UInt8 := if t = 0 then [] else if t = 1 then [99, 114, 101, 97, 116, 117, 114, 101] else if t = 2 then [111, 119, 110] else if t = 3 then [111, 116, 104, 101, 114] else if t = 4 then [112, 108, 97, 121, 101, 114] else if t = 5 then [101, 105, 116, 104, 101, 114] else if t = 6 then [115, 112, 101, 108, 108] else []
def numW (c n m k : Int) : List (List UInt8) :=
  if c = 1 ∨ c = 2 ∨ c = 3 ∨ c = 4 ∨ c = 9 then [tab n.toNat]
  else if c = 8 ∨ c = 10 then [tab n.toNat, tab m.toNat]
  else if c = 12 then [tab n.toNat, letW k.toNat]
  else []
def tgW (t : Int) : List (List UInt8) := if t = 0 then [] else [kwL t]
def wordsE (e : Ef) : List (List UInt8) := nmL e.c :: (numW e.c e.n e.m e.k ++ tgW e.t)
def textE (e : Ef) : List UInt8 := Lib.join (wordsE e) [32]

/- the number that strconv.Atoi returns, whatever its error is -/
def fr (l : List UInt8) : Int := match Lib.atoiAll l with
  | .ok v => v
  | .range => Lib.atoiSat l
  | .syntax => 0
theorem fr_bd (l : List UInt8) : -9223372036854775808 ≤ fr l ∧ fr l ≤ 9223372036854775807 := by
  unfold fr
  split
  · rename_i v h; exact Lib.atoiAll_bounds h
  · exact Lib.atoiSat_bounds l
  · omega
theorem tab_fr : ∀ x : Nat, x < 100 → fr (tab x) = x := by decide +kernel
def c1 (l : List UInt8) : List UInt8 := (Lib.cut l [32]).1
def c2 (l : List UInt8) : List UInt8 := (Lib.cut l [32]).2.1
def cdW (l : List UInt8) : Int := if l = [100, 97, 109, 97, 103, 101] then 1 else if l = [100, 114, 97, 119] then 2 else if l = [103, 97, 105, 110] then 3 else if l = [108, 111, 115, 101] then 4 else if l = [100, 101, 115, 116, 114, 111, 121] then 5 else if l = [114, 101, 116, 117, 114, 110] then 6 else if l = [99, 111, 117, 110, 116, 101, 114] then 7 else if l = [112, 117, 109, 112] then 8 else if l = [99, 111, 117, 110, 116, 101, 114, 115] then 9 else if l = [116, 111, 107, 101, 110] then 10 else if l = [116, 97, 112] then 11 else if l = [109, 97, 110, 97] then 12 else 0
def kdW (l : List UInt8) : Int := if l = [] then 0 else if l = [99, 114, 101, 97, 116, 117, 114, 101] then 1 else if l = [111, 119, 110] then 2 else if l = [111, 116, 104, 101, 114] then 3 else if l = [112, 108, 97, 121, 101, 114] then 4 else if l = [101, 105, 116, 104, 101, 114] then 5 else if l = [115, 112, 101, 108, 108] then 6 else -1
def ltW (l : List UInt8) : Int := Lib.index [69, 84, 76, 83] l
/- the effect that a text is read as, valid or not -/
def cand (s : List UInt8) : Ef :=
  let c := cdW (c1 s)
  let r := c2 s
  if c = 1 ∨ c = 2 ∨ c = 3 ∨ c = 4 ∨ c = 9 then ⟨c, kdW (c2 r), fr (c1 r), 0, 0⟩
  else if c = 8 ∨ c = 10 then ⟨c, kdW (c2 (c2 r)), fr (c1 r), fr (c1 (c2 r)), 0⟩
  else if c = 12 then ⟨c, kdW (c2 (c2 r)), fr (c1 r), 0, ltW (c1 (c2 r))⟩
  else ⟨c, kdW r, 0, 0, 0⟩

/- cutting at the first space -/
theorem index_app (a b : List UInt8) (h : ∀ x ∈ a, x ≠ 32) : Lib.index (a ++ 32 :: b) [32] = a.length := by
  induction a with
  | nil => simp [Lib.index]
  | cons x r ih =>
    have hx : x ≠ 32 := h x (by simp)
    have hr := ih (fun y hy => h y (by simp [hy]))
    rw [List.cons_append, Lib.index, hr]
    rw [if_neg (by simp [List.isPrefixOf]; exact fun e => hx e.symm)]
    rw [if_neg (by first | (simp; done) | (simp; omega))]
    simp
theorem index_none (a : List UInt8) (h : ∀ x ∈ a, x ≠ 32) : Lib.index a [32] = -1 := by
  induction a with
  | nil => rfl
  | cons x r ih =>
    have hx : x ≠ 32 := h x (by simp)
    have hr := ih (fun y hy => h y (by simp [hy]))
    rw [Lib.index, hr]
    rw [if_neg (by simp [List.isPrefixOf]; exact fun e => hx e.symm)]
    rfl
theorem c1_app (a b : List UInt8) (h : ∀ x ∈ a, x ≠ 32) : c1 (a ++ 32 :: b) = a := by
  unfold c1 Lib.cut
  rw [index_app a b h, if_pos (by omega)]
  simp
theorem c2_app (a b : List UInt8) (h : ∀ x ∈ a, x ≠ 32) : c2 (a ++ 32 :: b) = b := by
  unfold c2 Lib.cut
  rw [index_app a b h, if_pos (by omega)]
  simp
theorem c1_none (a : List UInt8) (h : ∀ x ∈ a, x ≠ 32) : c1 a = a := by
  unfold c1 Lib.cut
  rw [index_none a h, if_neg (by omega)]
theorem c2_none (a : List UInt8) (h : ∀ x ∈ a, x ≠ 32) : c2 a = [] := by
  unfold c2 Lib.cut
  rw [index_none a h, if_neg (by omega)]
theorem c2_len (l : List UInt8) : (c2 l).length ≤ l.length := by
  unfold c2 Lib.cut
  split
  · simp
  · simp
theorem c1_len (l : List UInt8) : (c1 l).length ≤ l.length := by
  unfold c1 Lib.cut
  split
  · simp; omega
  · simp
theorem tab_sp : ∀ x : Nat, x < 100 → (tab x).all (· ≠ 32) = true := by decide +kernel
theorem tab_ns {x : Nat} (h : x < 100) : ∀ y ∈ tab x, y ≠ 32 := fun y hy => by
  have := List.all_eq_true.1 (tab_sp x h) y hy
  simpa using this
theorem join2 (a b : List UInt8) (r : List (List UInt8)) : Lib.join (a :: b :: r) [32] = a ++ 32 :: Lib.join (b :: r) [32] := by
  rw [Lib.join_cons, Lib.join_cons]
  simp [Lib.joinTail]
theorem join1 (a : List UInt8) : Lib.join [a] [32] = a := Lib.join_one _ _
theorem kindsR (t : Int) (h0 : 0 ≤ t) (h1 : t ≤ 6) : t = 0 ∨ t = 1 ∨ t = 2 ∨ t = 3 ∨ t = 4 ∨ t = 5 ∨ t = 6 := by omega
theorem codesR (c : Int) (h0 : 1 ≤ c) (h1 : c ≤ 12) : c = 1 ∨ c = 2 ∨ c = 3 ∨ c = 4 ∨ c = 5 ∨ c = 6 ∨ c = 7 ∨ c = 8 ∨ c = 9 ∨ c = 10 ∨ c = 11 ∨ c = 12 := by omega
theorem kw_ns (t : Int) (h0 : 0 ≤ t) (h1 : t ≤ 6) : ∀ y ∈ kwL t, y ≠ 32 := by
  rcases kindsR t h0 h1 with rfl | rfl | rfl | rfl | rfl | rfl | rfl <;> decide
theorem nm_ns (c : Int) (h0 : 1 ≤ c) (h1 : c ≤ 12) : ∀ y ∈ nmL c, y ≠ 32 := by
  rcases codesR c h0 h1 with rfl | rfl | rfl | rfl | rfl | rfl | rfl | rfl | rfl | rfl | rfl | rfl <;> decide
theorem cd_nm (c : Int) (h0 : 1 ≤ c) (h1 : c ≤ 12) : cdW (nmL c) = c := by
  rcases codesR c h0 h1 with rfl | rfl | rfl | rfl | rfl | rfl | rfl | rfl | rfl | rfl | rfl | rfl <;> decide
theorem kd_kw (t : Int) (h0 : 0 ≤ t) (h1 : t ≤ 6) : kdW (kwL t) = t := by
  rcases kindsR t h0 h1 with rfl | rfl | rfl | rfl | rfl | rfl | rfl <;> decide
theorem kd_nil : kdW [] = 0 := by decide
theorem lt_let : ∀ r : Nat, r < 4 → ltW (letW r) = r := by decide
theorem let_ns : ∀ r : Nat, r < 4 → ∀ y ∈ letW r, y ≠ 32 := by decide
/- the kind behind the last word -/
theorem last_kd (a : List UInt8) (ha : ∀ x ∈ a, x ≠ 32) (t : Int) (h0 : 0 ≤ t) (h1 : t ≤ 6) : c1 (Lib.join (a :: tgW t) [32]) = a ∧ kdW (c2 (Lib.join (a :: tgW t) [32])) = t := by
  unfold tgW
  split
  · rename_i h
    rw [join1, c1_none a ha, c2_none a ha, kd_nil]
    exact ⟨rfl, h.symm⟩
  · rw [join2, join1, c1_app _ _ ha, c2_app _ _ ha, kd_kw t h0 h1]
    exact ⟨rfl, rfl⟩
theorem okE_parts {e : Ef} (h : e.ok = true) : okN e.c e.n e.m e.k = true ∧ aimB (kd e.c) e.t = true := by
  unfold Ef.ok okE at h
  rw [Bool.and_eq_true] at h
  exact ⟨h.2, h.1⟩
theorem cand_text (e : Ef) (h : e.ok = true) : cand (textE e) = e := by
  obtain ⟨c0, c1', t0, t1, n0, n1, m0, m1, k0, k1⟩ := ok_bd h
  obtain ⟨hN, hA⟩ := okE_parts h
  obtain ⟨c, t, n, m, k⟩ := e
  dsimp only at *
  have hd := cd_nm c c0 c1'
  have hs := nm_ns c c0 c1'
  have tn : ∀ y ∈ tab n.toNat, y ≠ 32 := tab_ns (by omega)
  have tm : ∀ y ∈ tab m.toNat, y ≠ 32 := tab_ns (by omega)
  have fn : fr (tab n.toNat) = n := by rw [tab_fr _ (by omega)]; omega
  have fm : fr (tab m.toNat) = m := by rw [tab_fr _ (by omega)]; omega
  have ns := let_ns k.toNat (by omega)
  have lk : ltW (letW k.toNat) = k := by rw [lt_let _ (by omega)]; omega
  by_cases hA1 : c = 1 ∨ c = 2 ∨ c = 3 ∨ c = 4 ∨ c = 9
  · have e0 : m = 0 ∧ k = 0 := by
      rcases hA1 with rfl | rfl | rfl | rfl | rfl <;> (have := of_decide_eq_true (show decide _ = true from hN); omega)
    have ew : textE ⟨c, t, n, m, k⟩ = nmL c ++ 32 :: Lib.join (tab n.toNat :: tgW t) [32] := by
      show Lib.join (nmL c :: (numW c n m k ++ tgW t)) [32] = _
      unfold numW; rw [if_pos hA1, List.cons_append, List.nil_append, join2]
    obtain ⟨q1, q2⟩ := last_kd _ tn t t0 t1
    unfold cand
    rw [ew, c1_app _ _ hs, c2_app _ _ hs, hd]
    dsimp only
    rw [if_pos hA1, q1, q2, fn, e0.1, e0.2]
  · by_cases hB1 : c = 8 ∨ c = 10
    · have e0 : k = 0 := by
        rcases hB1 with rfl | rfl <;> (have := of_decide_eq_true (show decide _ = true from hN); omega)
      have ew : textE ⟨c, t, n, m, k⟩ = nmL c ++ 32 :: (tab n.toNat ++ 32 :: Lib.join (tab m.toNat :: tgW t) [32]) := by
        show Lib.join (nmL c :: (numW c n m k ++ tgW t)) [32] = _
        unfold numW; rw [if_neg hA1, if_pos hB1, List.cons_append, List.cons_append, List.nil_append, join2, join2]
      obtain ⟨q1, q2⟩ := last_kd _ tm t t0 t1
      unfold cand
      rw [ew, c1_app _ _ hs, c2_app _ _ hs, hd]
      dsimp only
      rw [if_neg hA1, if_pos hB1, c1_app _ _ tn, c2_app _ _ tn, q1, q2, fn, fm, e0]
    · by_cases hC1 : c = 12
      · have e0 : m = 0 := by
          subst hC1; have := of_decide_eq_true (show decide _ = true from hN); omega
        have ew : textE ⟨c, t, n, m, k⟩ = nmL c ++ 32 :: (tab n.toNat ++ 32 :: Lib.join (letW k.toNat :: tgW t) [32]) := by
          show Lib.join (nmL c :: (numW c n m k ++ tgW t)) [32] = _
          unfold numW; rw [if_neg hA1, if_neg hB1, if_pos hC1, List.cons_append, List.cons_append, List.nil_append, join2, join2]
        obtain ⟨q1, q2⟩ := last_kd _ ns t t0 t1
        unfold cand
        rw [ew, c1_app _ _ hs, c2_app _ _ hs, hd]
        dsimp only
        rw [if_neg hA1, if_neg hB1, if_pos hC1, c1_app _ _ tn, c2_app _ _ tn, q1, q2, fn, lk, e0]
      · have hc : c = 5 ∨ c = 6 ∨ c = 7 ∨ c = 11 := by omega
        have e0 : n = 0 ∧ m = 0 ∧ k = 0 := by
          rcases hc with rfl | rfl | rfl | rfl <;> exact of_decide_eq_true (show decide _ = true from hN)
        have ht : t ≠ 0 := by
          rintro rfl
          rcases hc with rfl | rfl | rfl | rfl <;> exact absurd hA (by decide)
        have ew : textE ⟨c, t, n, m, k⟩ = nmL c ++ 32 :: kwL t := by
          show Lib.join (nmL c :: (numW c n m k ++ tgW t)) [32] = _
          unfold numW tgW; rw [if_neg hA1, if_neg hB1, if_neg hC1, if_neg ht, List.nil_append, join2, join1]
        unfold cand
        rw [ew, c1_app _ _ hs, c2_app _ _ hs, hd]
        dsimp only
        rw [if_neg hA1, if_neg hB1, if_neg hC1, kd_kw t t0 t1, e0.1, e0.2.1, e0.2.2]
theorem text_inj {e e' : Ef} (h : e.ok = true) (h' : e'.ok = true) (he : textE e = textE e') : e = e' := by
  rw [← cand_text e h, he, cand_text e' h']
end Go.Proofs.YtfdolapiikgebaaDoor.efFn
