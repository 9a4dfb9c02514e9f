/- What a pile of ids is, and what putting on it and moving from it makes of the lists. -/
import Derived.Test.YtklohgecgjlgeaaZoBack
namespace Go.Proofs.Ytklohgecgjlgeaa.zoFn
open drMem
attribute [local simp] entE movE leaE putL undL movL remL topL botL outL homeI inL row okZ whB whZ whI idxI topB topV topE List.findIdx_cons

def pile (d : Nat) : Nat → List Int
  | 0 => []
  | k + 1 => if (k + 1) % d = 0 then ((k + 1 : Nat) : Int) :: pile d k else pile d k ++ [((k + 1 : Nat) : Int)]
theorem pile_len (d : Nat) : ∀ k, (pile d k).length = k
  | 0 => rfl
  | k + 1 => by
    have := pile_len d k
    unfold pile
    split <;> simp [this]
theorem pile_mem (d : Nat) : ∀ (k : Nat) (x : Int), x ∈ pile d k ↔ 1 ≤ x ∧ x ≤ (k : Int)
  | 0, x => by simp [pile]; omega
  | k + 1, x => by
    have h := pile_mem d k x
    unfold pile
    split
    · rw [List.mem_cons, h]; omega
    · rw [List.mem_append, h, List.mem_singleton]; omega
theorem pile_nodup (d : Nat) : ∀ k, (pile d k).Nodup
  | 0 => List.nodup_nil
  | k + 1 => by
    have ih := pile_nodup d k
    have hm : ((k + 1 : Nat) : Int) ∉ pile d k := fun h => by have := (pile_mem d k _).1 h; omega
    unfold pile
    split
    · exact List.nodup_cons.2 ⟨hm, ih⟩
    · exact List.nodup_append.2 ⟨ih, by simp, fun a ha c hc e => by simp at hc; subst hc; subst e; exact hm ha⟩
theorem pile_pos {d k : Nat} {y : Int} (hy : (k : Int) + 1 = y) (h : (k + 1) % d = 0) : pile d (k + 1) = y :: pile d k := by
  subst hy
  rw [pile, if_pos h]; rfl
theorem pile_neg {d k : Nat} {y : Int} (hy : (k : Int) + 1 = y) (h : ¬ (k + 1) % d = 0) : pile d (k + 1) = pile d k ++ [y] := by
  subst hy
  rw [pile, if_neg h]; rfl
theorem mod_b {d k : Nat} {y : Int} (hy : (k : Int) + 1 = y) : (y % (d : Int) == 0) = decide ((k + 1) % d = 0) := by
  subst hy
  have e : ((k : Int) + 1) % (d : Int) = (((k + 1) % d : Nat) : Int) := rfl
  rw [e]
  apply Bool.eq_iff_iff.2
  simp
  omega
theorem p_ent {p : List Int} {x : Int} (hk : okID x = true) (hn : x ∉ p) : entE [p, []].length [p, []] x 0 = 0 ∧ putL [p, []] x 0 = [p ++ [x], []] ∧ undL [p, []] x 0 = [x :: p, []] := by
  refine ⟨?_, ?_, ?_⟩ <;> simp [hk, hn]
theorem p_mov {A B : List Int} {x : Int} (hk : okID x = true) (hA : x ∉ A) : movE [A ++ [x], B].length [A ++ [x], B] x 1 = 0 ∧ movL [A ++ [x], B] x 1 = [A, B ++ [x]] := by
  refine ⟨?_, ?_⟩ <;> simp [hk, hA, List.erase_append_right]
theorem p_top {A B : List Int} {x : Int} : topB [A ++ [x], B] 0 x 0 = true := by
  simp [lastI]
theorem p_len {A B : List Int} : ((if okZ [A, B].length 0 then ((row [A, B] (0 : Int).toNat).length : Nat) else 0 : Int)) = (A.length : Int) := by simp
theorem p_l0 {A B : List Int} : (if okZ [A, B].length 0 then row [A, B] (0 : Int).toNat else []) = A := by simp
theorem p_l1 {A B : List Int} : (if okZ [A, B].length 1 then row [A, B] (1 : Int).toNat else []) = B := by simp
end Go.Proofs.Ytklohgecgjlgeaa.zoFn
