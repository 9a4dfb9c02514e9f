/- What the reference says of target kinds. -/
import Derived.Test.YtfdolapiikgebaaDoorEfAll
import Derived.Test.YtfdolapiikgebaaDoorShelf
import Derived.Lib.AtoiErrMem
namespace Go.Proofs.YtfdolapiikgebaaDoor.efFn
open Go.ChangeShapes Go.WideShapes Go.ChangeAt Go.RowKit drMem
set_option linter.unusedVariables false

/- whether a list of letters has one -/
def hasI (l : List UInt8) (x : Int) : Bool := l.any fun b => (b.toNat : Int) == x
theorem has_step (s : ByteArray) (x : Int) (k : Nat) (h : k < s.size) : hasI (s.data.toList.take (k + 1)) x = (hasI (s.data.toList.take k) x || ((s[k].toNat : Int) == x)) := by
  have h2 : k < s.data.toList.length := by rw [← Lib.size_eq]; exact h
  unfold hasI
  rw [List.take_succ_eq_append_getElem h2, List.any_append]
  simp [ByteArray.getElem_eq_getElem_data]
theorem has_yes (s : ByteArray) (x : Int) (k : Nat) (h : k < s.size) (h2 : ((s[k].toNat : Int) == x) = true) : hasI s.data.toList x = true := by
  have h3 : k < s.data.toList.length := by rw [← Lib.size_eq]; exact h
  unfold hasI
  rw [List.any_eq_true]
  exact ⟨s.data.toList[k], List.getElem_mem h3, by simpa [ByteArray.getElem_eq_getElem_data] using h2⟩
set_option maxRecDepth 100000 in
set_option maxHeartbeats 2000000 in
theorem has_any (s : ByteArray) (x : Int) (w : World) (hs : s.size ≤ 100) :
    Calls Tryd.prog 30 #[.string s, .int .u8 x] w fun e w' => e = .returned (.bool (hasI s.data.toList x)) ∧ w = w' := by
  go_enter Tryd.func30, Tryd.ntmps30
  go_wp2
  go_loopw [5] (fun i wr => ∃ k : Nat, k ≤ s.size ∧ i = .int .i64 k ∧ Hid (hasI (s.data.toList.take k) x = false) ∧ wr = w) (fun i _ => s.size - (intOf i).toNat)
  case atStart => exact ⟨0, Nat.zero_le _, rfl, Lib.hid rfl, rfl⟩
  case round =>
    obtain ⟨k, hk, rfl, HT, rfl⟩ := hrel
    by_cases hlt : k < s.size
    · have HX := Lib.hid (has_step s x k hlt)
      have HY := Lib.hid (has_yes s x k hlt)
      cases hx : ((s[k].toNat : Int) == x)
      · go_wp2
        exact ⟨⟨k + 1, by omega, by go_num, Lib.hid (by rw [HX.out, HT.out, hx]; rfl), trivial⟩, by simp [intOf]; omega⟩
      · go_wp2
        go_ret
        exact ⟨ret_bool (HY.out hx).symm, rfl⟩
    · obtain rfl : k = s.size := by omega
      have e : hasI s.data.toList x = false := by
        have := HT.out
        rw [List.take_of_length_le (by rw [← Lib.size_eq]; exact Nat.le_refl _)] at this
        exact this
      go_wp2
      go_ret
      exact ⟨ret_bool e.symm, rfl⟩
def tgL (c : Int) : List UInt8 := if c = 1 then [99, 111, 120, 112, 101] else if c = 2 then [110, 112] else if c = 3 then [110, 112] else if c = 4 then [110, 112] else if c = 5 then [99, 111, 120] else if c = 6 then [99, 111, 120] else if c = 7 then [115] else if c = 8 then [110, 99, 111, 120] else if c = 9 then [110, 99, 111, 120] else if c = 10 then [110] else if c = 11 then [99, 111, 120] else if c = 12 then [110] else []
def letN (t : Int) : Int := if t = 0 then 110 else if t = 1 then 99 else if t = 2 then 111 else if t = 3 then 120 else if t = 4 then 112 else if t = 5 then 101 else if t = 6 then 115 else 63
theorem kinds (t : Int) : t = 0 ∨ t = 1 ∨ t = 2 ∨ t = 3 ∨ t = 4 ∨ t = 5 ∨ t = 6 ∨ ¬ (0 ≤ t ∧ t ≤ 6) := by omega
theorem ret_str {a b : ByteArray} (h : a = b) : Ending.returned (.string a) = .returned (.string b) := by rw [h]
theorem rLetter_any (t : Int) (w : World) :
    Calls Tryd.prog 32 #[.int .i64 t] w fun e w' => e = .returned (.int .u8 (letN t)) ∧ w = w' := by
  rcases kinds t with rfl | rfl | rfl | rfl | rfl | rfl | rfl | h
  all_goals first
    | (have he : letN t = 63 := by unfold letN; repeat rw [if_neg (by omega)]
       rw [he]
       go_enter Tryd.func32, Tryd.ntmps32
       go_wp2
       all_goals first | (go_ret; exact ⟨rfl, rfl⟩) | (exfalso; omega))
    | (go_enter Tryd.func32, Tryd.ntmps32
       go_wp2
       go_ret
       exact ⟨rfl, rfl⟩)
set_option maxRecDepth 100000 in
set_option maxHeartbeats 2000000 in
theorem rTargets_any (c : Int) (w : World) :
    Calls Tryd.prog 31 #[.int .i64 c] w fun e w' => e = .returned (.string (bs (tgL c))) ∧ Below w.heap.size w w' := by
  rcases codes c with rfl | rfl | rfl | rfl | rfl | rfl | rfl | rfl | rfl | rfl | rfl | rfl | h
  all_goals first
    | (have he : tgL c = [] := by unfold tgL; repeat rw [if_neg (by omega)]
       rw [he]
       go_enter Tryd.func31, Tryd.ntmps31
       go_wp2
       all_goals first | (go_ret; exact ⟨rfl, by go_grown⟩) | (exfalso; omega))
    | (go_enter Tryd.func31, Tryd.ntmps31
       go_wp2
       go_ret
       exact ⟨rfl, by go_grown⟩)
theorem tg_len (c : Int) : (tgL c).length ≤ 5 := by unfold tgL; (repeat' split) <;> simp
theorem rHas_any (c x : Int) (w : World) :
    Calls Tryd.prog 30 #[.string (bs (tgL c)), .int .u8 x] w fun e w' => e = .returned (.bool (hasI (tgL c) x)) ∧ w = w' :=
  has_any (bs (tgL c)) x w (by have := tg_len c; show (tgL c).toArray.size ≤ 100; simp; omega)
theorem aim_far (k t : Int) (k0 : 0 ≤ k) (k1 : k < 128) (h : ¬ (0 ≤ t ∧ t ≤ 6)) : aimB k t = false := by
  unfold aimB
  by_cases t0 : 0 ≤ t
  · have h1 : (128 : Int) ≤ 2 ^ min t.toNat 64 := by
      have : (2 : Nat) ^ 7 ≤ 2 ^ min t.toNat 64 := Nat.pow_le_pow_right (by omega) (by omega)
      exact_mod_cast this
    rw [Int.ediv_eq_zero_of_lt k0 (by omega), Bool.and_eq_false_iff]
    exact .inr rfl
  · rw [decide_eq_false t0, Bool.false_and]
theorem kd_bd (c : Int) : 0 ≤ kd c ∧ kd c < 128 := by unfold kd; (repeat' split) <;> omega
theorem kd_no (c : Int) (h : ¬ (1 ≤ c ∧ c ≤ 12)) : kd c = 0 := by
  unfold kd
  rw [if_neg (by omega), if_neg (by omega), if_neg (by omega), if_neg (by omega), if_neg (by omega), if_neg (by omega)]
theorem aim_zero (t : Int) : aimB 0 t = false := by
  unfold aimB
  rw [Int.zero_ediv, Bool.and_eq_false_iff]
  exact .inr rfl
theorem hasI_63 (c : Int) : hasI (tgL c) 63 = false := by
  rcases codes c with rfl | rfl | rfl | rfl | rfl | rfl | rfl | rfl | rfl | rfl | rfl | rfl | h
  all_goals first
    | (have he : tgL c = [] := by unfold tgL; repeat rw [if_neg (by omega)]
       rw [he]; rfl)
    | decide
theorem aims_ref (c t : Int) : hasI (tgL c) (letN t) = aimB (kd c) t := by
  rcases kinds t with rfl | rfl | rfl | rfl | rfl | rfl | rfl | h
  case' inr.inr.inr.inr.inr.inr.inr =>
    have hl : letN t = 63 := by unfold letN; repeat rw [if_neg (by omega)]
    rw [hl, hasI_63, aim_far _ _ (kd_bd c).1 (kd_bd c).2 h]
  all_goals
    rcases codes c with rfl | rfl | rfl | rfl | rfl | rfl | rfl | rfl | rfl | rfl | rfl | rfl | h
    all_goals first
      | (have he : tgL c = [] := by unfold tgL; repeat rw [if_neg (by omega)]
         rw [he, kd_no c h, aim_zero]; rfl)
      | decide
end Go.Proofs.YtfdolapiikgebaaDoor.efFn
