/- Texts of effects: words. -/
import Derived.Test.YtlhnnjllbcglcaaGreatDoorCeWord
namespace Go.Proofs.YtlhnnjllbcglcaaGreatDoor.efFn
open Go.ChangeShapes Go.WideShapes Go.ChangeAt Go.RowKit drMem
set_option linter.unusedVariables false

/- the word of a code, the word of a target kind -/
def nmL (c : Int) : List UInt8 := if c = 1 then [100, 97, 109, 97, 103, 101] else if c = 2 then [100, 114, 97, 119] else if c = 3 then [103, 97, 105, 110] else if c = 4 then [108, 111, 115, 101] else if c = 5 then [100, 101, 115, 116, 114, 111, 121] else if c = 6 then [114, 101, 116, 117, 114, 110] else if c = 7 then [99, 111, 117, 110, 116, 101, 114] else if c = 8 then [112, 117, 109, 112] else if c = 9 then [99, 111, 117, 110, 116, 101, 114, 115] else if c = 10 then [116, 111, 107, 101, 110] else if c = 11 then [116, 97, 112] else if c = 12 then [109, 97, 110, 97] else []
def kwL (t : Int) : List UInt8 := if t = 0 then [] else if t = 1 then [99, 114, 101, 97, 116, 117, 114, 101] else if t = 2 then [111, 119, 110] else if t = 3 then [111, 116, 104, 101, 114] else if t = 4 then [112, 108, 97, 121, 101, 114] else if t = 5 then [101, 105, 116, 104, 101, 114] else if t = 6 then [115, 112, 101, 108, 108] else []
def numW (c n m k : Int) : List (List UInt8) :=
  if c = 1 ∨ c = 2 ∨ c = 3 ∨ c = 4 ∨ c = 9 then [tab n.toNat]
  else if c = 8 ∨ c = 10 then [tab n.toNat, tab m.toNat]
  else if c = 12 then [tab n.toNat, letW k.toNat]
  else []
def tgW (t : Int) : List (List UInt8) := if t = 0 then [] else [kwL t]
def wordsE (e : Ef) : List (List UInt8) := nmL e.c :: (numW e.c e.n e.m e.k ++ tgW e.t)
def textE (e : Ef) : List UInt8 := Lib.join (wordsE e) [32]
theorem kindsR (t : Int) (h0 : 0 ≤ t) (h1 : t ≤ 6) : t = 0 ∨ t = 1 ∨ t = 2 ∨ t = 3 ∨ t = 4 ∨ t = 5 ∨ t = 6 := by omega
theorem codesR (c : Int) (h0 : 1 ≤ c) (h1 : c ≤ 12) : c = 1 ∨ c = 2 ∨ c = 3 ∨ c = 4 ∨ c = 5 ∨ c = 6 ∨ c = 7 ∨ c = 8 ∨ c = 9 ∨ c = 10 ∨ c = 11 ∨ c = 12 := by omega
theorem okE_parts {e : Ef} (h : e.ok = true) : okN e.c e.n e.m e.k = true ∧ aimB (kd e.c) e.t = true := by
  unfold Ef.ok okE at h
  rw [Bool.and_eq_true] at h
  exact ⟨h.2, h.1⟩
theorem str_inj {a b : ByteArray} (h : a.toList = b.toList) : a = b := by
  rw [ByteArray.toList_eq, ByteArray.toList_eq] at h
  exact ByteArray.ext (Array.ext' h)
theorem bs_inj {a b : List UInt8} (h : bs a = bs b) : a = b := congrArg (fun x => x.data.toList) h
theorem bs_size (l : List UInt8) : (bs l).size = l.length := by simp [bs, ByteArray.size]
theorem s_eq {a b : List UInt8} (h : a = b) : ((bs a).toList == (bs b).toList) = true := by subst h; simp
theorem s_ne {a b : List UInt8} (h : a ≠ b) : ((bs a).toList == (bs b).toList) = false := by
  have : (bs a).toList ≠ (bs b).toList := fun e => h (bs_inj (str_inj e))
  simpa using this
end Go.Proofs.YtlhnnjllbcglcaaGreatDoor.efFn
