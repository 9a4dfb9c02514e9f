/- Texts of costs that are read: the digits at the beginning, and how many of each letter there are. -/
import Derived.Test.YthnndmojijnbnaaDoorMaText
import Derived.Lib.AtoiAllCases
import Derived.Lib.SlTrimSet
namespace Go.Proofs.YthnndmojijnbnaaDoor.maFn
set_option linter.unusedVariables false

def dgs : List UInt8 := [48, 49, 50, 51, 52, 53, 54, 55, 56, 57]
def isD (c : UInt8) : Bool := dgs.contains c
def pre (l : List UInt8) : List UInt8 := l.takeWhile isD
def rst (l : List UInt8) : List UInt8 := l.dropWhile isD
/- the number that strconv.Atoi returns, whatever its error is -/
def fr (l : List UInt8) : Int := match Lib.atoiAll l with
  | .ok v => v
  | .range => Lib.atoiSat l
  | .syntax => 0
theorem pre_rst (l : List UInt8) : pre l ++ rst l = l := List.takeWhile_append_dropWhile
theorem pre_len (l : List UInt8) : (pre l).length + (rst l).length = l.length := by
  have := congrArg List.length (pre_rst l)
  simpa using this
theorem trim_eq (l : List UInt8) : Lib.trimLeftS l dgs = rst l := rfl

/- the decimal digits of a number of at most 20 -/
def tab (x : Nat) : List UInt8 := if x < 10 then [UInt8.ofNat (48 + x)] else [UInt8.ofNat (48 + x / 10), UInt8.ofNat (48 + x % 10)]
theorem dec_tab (x : Nat) (h : x ≤ 99) : Lib.decDigits x = tab x := by
  unfold Lib.decDigits tab
  split
  · rfl
  · unfold Lib.decDigits
    rw [dif_pos (by omega)]
    rfl
theorem tab_fr : ∀ x : Nat, x < 21 → fr (tab x) = x := by decide
theorem tab_dig : ∀ x : Nat, x < 21 → (tab x).all isD = true := by decide
theorem fr_nil : fr [] = 0 := rfl

theorem takeWhile_all (a b : List UInt8) (p : UInt8 → Bool) (ha : a.all p = true) (hb : ∀ c, b.head? = some c → p c = false) : (a ++ b).takeWhile p = a ∧ (a ++ b).dropWhile p = b := by
  induction a with
  | nil =>
    cases b with
    | nil => exact ⟨rfl, rfl⟩
    | cons c r =>
      have := hb c rfl
      simp [this]
  | cons c r ih =>
    simp only [List.all_cons, Bool.and_eq_true] at ha
    obtain ⟨h1, h2⟩ := ih ha.2
    simp [ha.1, h1, h2]

theorem head_let (p q r s : Nat) : ∀ c, (letL p q r s).head? = some c → c = 69 ∨ c = 84 ∨ c = 76 ∨ c = 83 := by
  intro c h
  have hm : c ∈ letL p q r s := List.mem_of_mem_head? h
  simp only [letL, List.mem_append, List.mem_replicate] at hm
  rcases hm with ⟨_, rfl⟩ | ⟨_, rfl⟩ | ⟨_, rfl⟩ | ⟨_, rfl⟩
  · exact .inl rfl
  · exact .inr (.inl rfl)
  · exact .inr (.inr (.inl rfl))
  · exact .inr (.inr (.inr rfl))
theorem let_noD (p q r s : Nat) : ∀ c, (letL p q r s).head? = some c → isD c = false := by
  intro c h
  rcases head_let p q r s c h with rfl | rfl | rfl | rfl <;> rfl
theorem num_dig (p q r s x : Nat) (hx : x ≤ 20) : (numL p q r s x).all isD = true := by
  unfold numL
  split
  · rw [dec_tab x (by omega)]; exact tab_dig x (by omega)
  · rfl
theorem num_fr (p q r s x : Nat) (hx : x ≤ 20) : fr (numL p q r s x) = x := by
  unfold numL
  split
  · rw [dec_tab x (by omega)]; exact tab_fr x (by omega)
  · have : x = 0 := by omega
    subst this; rfl
theorem pre_text (p q r s x : Nat) (hx : x ≤ 20) : pre (textL p q r s x) = numL p q r s x := (takeWhile_all _ _ isD (num_dig p q r s x hx) (let_noD p q r s)).1
theorem rst_text (p q r s x : Nat) (hx : x ≤ 20) : rst (textL p q r s x) = letL p q r s := (takeWhile_all _ _ isD (num_dig p q r s x hx) (let_noD p q r s)).2
theorem cnt_let (p q r s : Nat) : (letL p q r s).count 69 = p ∧ (letL p q r s).count 84 = q ∧ (letL p q r s).count 76 = r ∧ (letL p q r s).count 83 = s := by
  refine ⟨?_, ?_, ?_, ?_⟩ <;> simp [letL, List.count_append, List.count_replicate]
/- the cost that a text is read as -/
def rdE (l : List UInt8) : Nat := (rst l).count 69
def rdT (l : List UInt8) : Nat := (rst l).count 84
def rdL (l : List UInt8) : Nat := (rst l).count 76
def rdS (l : List UInt8) : Nat := (rst l).count 83
theorem rd_text (p q r s x : Nat) (hx : x ≤ 20) : rdE (textL p q r s x) = p ∧ rdT (textL p q r s x) = q ∧ rdL (textL p q r s x) = r ∧ rdS (textL p q r s x) = s ∧ fr (pre (textL p q r s x)) = x := by
  unfold rdE rdT rdL rdS
  rw [rst_text p q r s x hx, pre_text p q r s x hx, num_fr p q r s x hx]
  obtain ⟨h1, h2, h3, h4⟩ := cnt_let p q r s
  exact ⟨h1, h2, h3, h4, rfl⟩
/- a text is that of one cost only -/
theorem text_inj (p q r s x p' q' r' s' x' : Nat) (hx : x ≤ 20) (hx' : x' ≤ 20) (h : textL p q r s x = textL p' q' r' s' x') : p = p' ∧ q = q' ∧ r = r' ∧ s = s' ∧ x = x' := by
  obtain ⟨h1, h2, h3, h4, h5⟩ := rd_text p q r s x hx
  obtain ⟨k1, k2, k3, k4, k5⟩ := rd_text p' q' r' s' x' hx'
  rw [h] at h1 h2 h3 h4 h5
  omega
theorem fr_bd (l : List UInt8) : -9223372036854775808 ≤ fr l ∧ fr l ≤ 9223372036854775807 := by
  unfold fr
  split
  · rename_i v h; exact Lib.atoiAll_bounds h
  · exact Lib.atoiSat_bounds l
  · omega
end Go.Proofs.YthnndmojijnbnaaDoor.maFn
