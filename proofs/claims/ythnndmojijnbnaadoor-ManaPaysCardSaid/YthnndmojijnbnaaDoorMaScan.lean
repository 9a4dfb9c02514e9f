/- How the reference reads a text: up to two digits, then the letters of each colour. -/
import Derived.Test.YthnndmojijnbnaaDoorMaPMath
namespace Go.Proofs.YthnndmojijnbnaaDoor.maFn
set_option linter.unusedVariables false

/- as many of the letter c as there are, and what follows -/
def num (c : UInt8) (l : List UInt8) : Nat := (l.takeWhile (· == c)).length
def skp (c : UInt8) (l : List UInt8) : List UInt8 := l.dropWhile (· == c)
theorem num_nil (c : UInt8) : num c [] = 0 := rfl
theorem skp_nil (c : UInt8) : skp c [] = [] := rfl
theorem num_same (c : UInt8) (t : List UInt8) : num c (c :: t) = num c t + 1 := by simp [num]
theorem skp_same (c : UInt8) (t : List UInt8) : skp c (c :: t) = skp c t := by simp [skp]
theorem num_other (c d : UInt8) (t : List UInt8) (h : d ≠ c) : num c (d :: t) = 0 := by simp [num, h]
theorem skp_other (c d : UInt8) (t : List UInt8) (h : d ≠ c) : skp c (d :: t) = d :: t := by simp [skp, h]
theorem num_le (c : UInt8) (l : List UInt8) : num c l + (skp c l).length = l.length := by
  have := congrArg List.length (List.takeWhile_append_dropWhile (p := (· == c)) (l := l))
  rw [List.length_append] at this
  exact this
/- up to f digits behind those that make x -/
def scanD : Nat → Nat → List UInt8 → Nat × List UInt8
  | 0, x, l => (x, l)
  | _ + 1, x, [] => (x, [])
  | f + 1, x, c :: t => if 48 ≤ c.toNat ∧ c.toNat ≤ 57 then scanD f (10 * x + (c.toNat - 48)) t else (x, c :: t)
theorem scanD_nil (f x : Nat) : scanD f x [] = (x, []) := by cases f <;> rfl
theorem scanD_dig (f x : Nat) (c : UInt8) (t : List UInt8) (h : 48 ≤ c.toNat ∧ c.toNat ≤ 57) : scanD (f + 1) x (c :: t) = scanD f (10 * x + (c.toNat - 48)) t := by
  rw [scanD, if_pos h]
theorem scanD_no (f x : Nat) (c : UInt8) (t : List UInt8) (h : ¬ (48 ≤ c.toNat ∧ c.toNat ≤ 57)) : scanD f x (c :: t) = (x, c :: t) := by
  cases f
  · rfl
  · rw [scanD, if_neg h]
def lc : Nat → UInt8
  | 0 => 69
  | 1 => 84
  | 2 => 76
  | _ => 83
def rdX (l : List UInt8) : Nat := (scanD 2 0 l).1
def rs (l : List UInt8) : Nat → List UInt8
  | 0 => (scanD 2 0 l).2
  | k + 1 => skp (lc k) (rs l k)
def cn (l : List UInt8) (k : Nat) : Nat := num (lc k) (rs l k)
theorem scanD_len : ∀ (f x : Nat) (l : List UInt8), (scanD f x l).2.length ≤ l.length
  | 0, _, _ => Nat.le_refl _
  | _ + 1, _, [] => Nat.le_refl _
  | f + 1, x, c :: t => by
    rw [scanD]
    split
    · have := scanD_len f (10 * x + (c.toNat - 48)) t
      simp; omega
    · exact Nat.le_refl _
theorem rs_len (l : List UInt8) : ∀ k, (rs l k).length ≤ l.length
  | 0 => scanD_len _ _ _
  | k + 1 => by
    have := rs_len l k
    have := num_le (lc k) (rs l k)
    show (skp (lc k) (rs l k)).length ≤ _
    omega
theorem cn_le (l : List UInt8) (k : Nat) : cn l k ≤ l.length := by
  have := rs_len l k
  have := num_le (lc k) (rs l k)
  unfold cn; omega
theorem drop_at (s : ByteArray) (k : Nat) (h : k < s.size) : s.data.toList.drop k = s[k] :: s.data.toList.drop (k + 1) := by
  rw [List.drop_eq_getElem_cons (by rw [← Lib.size_eq]; exact h)]
  rfl
theorem drop_end (s : ByteArray) (k : Nat) (h : ¬ k < s.size) : s.data.toList.drop k = [] := List.drop_eq_nil_of_le (by rw [← Lib.size_eq]; omega)
theorem one_at (s : ByteArray) (k : Nat) (h : k < s.size) : s.extract k (k + 1) = bs [s[k]] := by
  apply ByteArray.ext
  rw [ByteArray.data_extract]
  apply Array.ext'
  rw [Array.toList_extract, List.extract_eq_take_drop, drop_at s k h, show k + 1 - k = 1 by omega]
  rfl

/- the text of a cost is read as that cost -/
theorem num_rep (c : UInt8) (m : Nat) (t : List UInt8) (h : ∀ d, t.head? = some d → d ≠ c) : num c (List.replicate m c ++ t) = m ∧ skp c (List.replicate m c ++ t) = t := by
  obtain ⟨h1, h2⟩ := takeWhile_all (List.replicate m c) t (· == c) (by simp) (fun d hd => by simpa using h d hd)
  exact ⟨by unfold num; rw [h1]; simp, h2⟩
theorem head_rep (c : UInt8) (m : Nat) (t : List UInt8) (d : UInt8) (h : (List.replicate m c ++ t).head? = some d) : d = c ∨ t.head? = some d := by
  cases m with
  | zero => exact .inr (by simpa using h)
  | succ m => exact .inl (by simpa [List.replicate_succ] using h.symm)
theorem scan_tab : ∀ x : Nat, x < 21 → ∀ t : List UInt8, (∀ d, t.head? = some d → isD d = false) → scanD 2 0 (tab x ++ t) = (x, t) := by
  intro x hx t ht
  have hn : ∀ (f y : Nat), scanD f y t = (y, t) := by
    intro f y
    cases t with
    | nil => exact scanD_nil f y
    | cons d r =>
      have h1 := ht d rfl
      refine scanD_no f y d r fun ⟨h2, h3⟩ => ?_
      have h4 : ∀ n : Nat, n < 58 → 48 ≤ n → isD (UInt8.ofNat n) = true := by decide
      have h5 := h4 d.toNat (by omega) h2
      rw [UInt8.ofNat_toNat, h1] at h5
      cases h5
  have hd : ∀ x : Nat, x < 10 → 48 ≤ (UInt8.ofNat (48 + x)).toNat ∧ (UInt8.ofNat (48 + x)).toNat ≤ 57 ∧ (UInt8.ofNat (48 + x)).toNat - 48 = x := by decide
  unfold tab
  split
  · rename_i h
    obtain ⟨h1, h2, h3⟩ := hd x h
    rw [List.cons_append, List.nil_append, scanD_dig _ _ _ _ ⟨h1, h2⟩, h3, hn]
    simp
  · obtain ⟨h1, h2, h3⟩ := hd (x / 10) (by omega)
    obtain ⟨k1, k2, k3⟩ := hd (x % 10) (by omega)
    rw [List.cons_append, List.cons_append, List.nil_append, scanD_dig _ _ _ _ ⟨h1, h2⟩, h3, scanD_dig _ _ _ _ ⟨k1, k2⟩, k3, scanD]
    have : 10 * (10 * 0 + x / 10) + x % 10 = x := by omega
    rw [this]
theorem scan_text (p q r s x : Nat) (hx : x ≤ 20) : scanD 2 0 (textL p q r s x) = (x, letL p q r s) := by
  unfold textL numL
  split
  · rw [dec_tab x (by omega)]
    exact scan_tab x (by omega) _ (let_noD p q r s)
  · have h0 : x = 0 := by omega
    subst h0
    rw [List.nil_append]
    cases h : letL p q r s with
    | nil => rfl
    | cons d t =>
      refine scanD_no _ _ _ _ fun ⟨h2, h3⟩ => ?_
      have h1 := head_let p q r s d (by rw [h]; rfl)
      rcases h1 with rfl | rfl | rfl | rfl <;> simp at h3
theorem read_text (p q r s x : Nat) (hx : x ≤ 20) : rdX (textL p q r s x) = x ∧ cn (textL p q r s x) 0 = p ∧ cn (textL p q r s x) 1 = q ∧ cn (textL p q r s x) 2 = r ∧ cn (textL p q r s x) 3 = s ∧ rs (textL p q r s x) 4 = [] := by
  have h0 : rs (textL p q r s x) 0 = letL p q r s := by show (scanD 2 0 _).2 = _; rw [scan_text p q r s x hx]
  have n1 : ∀ t : List UInt8, (∀ d, t.head? = some d → d = 83) → ∀ d, (List.replicate r 76 ++ t).head? = some d → d = 76 ∨ d = 83 := fun t ht d hd => (head_rep _ _ _ _ hd).imp_right (ht d)
  have e3 : ∀ d, (List.replicate s (83 : UInt8)).head? = some d → d = 83 := fun d hd => by
    rcases head_rep 83 s [] d (by simpa using hd) with h | h
    · exact h
    · cases h
  have e2 : ∀ d, (List.replicate r (76 : UInt8) ++ List.replicate s 83).head? = some d → d = 76 ∨ d = 83 := n1 _ e3
  have e1 : ∀ d, (List.replicate q (84 : UInt8) ++ (List.replicate r 76 ++ List.replicate s 83)).head? = some d → d = 84 ∨ d = 76 ∨ d = 83 := fun d hd => (head_rep _ _ _ _ hd).imp_right (e2 d)
  obtain ⟨a1, a2⟩ := num_rep 69 p _ (fun d hd => by rcases e1 d hd with rfl | rfl | rfl <;> decide)
  obtain ⟨b1, b2⟩ := num_rep 84 q _ (fun d hd => by rcases e2 d hd with rfl | rfl <;> decide)
  obtain ⟨c1, c2⟩ := num_rep 76 r _ (fun d hd => by rw [e3 d hd]; decide)
  obtain ⟨d1, d2⟩ := num_rep 83 s [] (fun d hd => by cases hd)
  rw [List.append_nil] at d1 d2
  have h1 : rs (textL p q r s x) 1 = List.replicate q 84 ++ (List.replicate r 76 ++ List.replicate s 83) := by show skp 69 (rs _ 0) = _; rw [h0]; exact a2
  have h2 : rs (textL p q r s x) 2 = List.replicate r 76 ++ List.replicate s 83 := by show skp 84 (rs _ 1) = _; rw [h1]; exact b2
  have h3 : rs (textL p q r s x) 3 = List.replicate s 83 := by show skp 76 (rs _ 2) = _; rw [h2]; exact c2
  have h4 : rs (textL p q r s x) 4 = [] := by show skp 83 (rs _ 3) = _; rw [h3]; exact d2
  refine ⟨by unfold rdX; rw [scan_text p q r s x hx], ?_, ?_, ?_, ?_, h4⟩
  · show num 69 (rs _ 0) = _; rw [h0]; exact a1
  · show num 84 (rs _ 1) = _; rw [h1]; exact b1
  · show num 76 (rs _ 2) = _; rw [h2]; exact c1
  · show num 83 (rs _ 3) = _; rw [h3]; exact d1
theorem rdX_le (l : List UInt8) : rdX l ≤ 99 := by
  unfold rdX
  match l with
  | [] => simp [scanD_nil]
  | [c] =>
    by_cases h : 48 ≤ c.toNat ∧ c.toNat ≤ 57
    · rw [scanD_dig _ _ _ _ h, scanD_nil]; simp only; omega
    · rw [scanD_no _ _ _ _ h]; simp
  | c :: d :: t =>
    by_cases h : 48 ≤ c.toNat ∧ c.toNat ≤ 57
    · rw [scanD_dig _ _ _ _ h]
      by_cases h' : 48 ≤ d.toNat ∧ d.toNat ≤ 57
      · rw [scanD_dig _ _ _ _ h', scanD]; simp only; omega
      · rw [scanD_no _ _ _ _ h']; simp only; omega
    · rw [scanD_no _ _ _ _ h]; simp
end Go.Proofs.YthnndmojijnbnaaDoor.maFn
