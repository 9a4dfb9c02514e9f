/- Joined texts: CeRNum CeRNum2 CeRKind CeRVal -/
import Derived.Test.YtlhnnjllbcglcaaGreatDoorCeKind
import Derived.Deep.QuietTactic
import Derived.BigQuiet
import Derived.Test.YtlhnnjllbcglcaaGreatDoorShelf
import Derived.Lib.AtoiErrMem
import Derived.Deep.RegionWith
/- The reference's numbers, the first six codes. -/
namespace Go.Proofs.YtlhnnjllbcglcaaGreatDoor.efFn
open Go.ChangeShapes Go.WideShapes Go.ChangeAt Go.RowKit drMem
set_option linter.unusedVariables false

set_option maxRecDepth 100000 in
set_option maxHeartbeats 4000000 in
theorem rnum_1 (t n m k : Int) (w : World) :
    Calls Tryz.prog 49 #[eV 1 t n m k] w fun e w' => e = .returned (.bool (okN 1 n m k)) ∧ Below w.heap.size w w' := by
  cases hm : (m == 0) <;> cases hk : (k == 0)
  all_goals
    have jm := hm
    have jk := hk
    simp only [beq_iff_eq, beq_eq_false_iff_ne] at jm jk
    go_enter Tryz.func49, Tryz.ntmps49
    go_wp2
    go_quiet (fail)
    go_wp2
    all_goals (go_ret; exact ⟨ret_bool (by first | exact (decide_eq_true (by omega)).symm | exact (decide_eq_false (by omega)).symm), dN (by go_grown) _⟩)
set_option maxRecDepth 100000 in
set_option maxHeartbeats 4000000 in
theorem rnum_2 (t n m k : Int) (w : World) :
    Calls Tryz.prog 49 #[eV 2 t n m k] w fun e w' => e = .returned (.bool (okN 2 n m k)) ∧ Below w.heap.size w w' := by
  cases hm : (m == 0) <;> cases hk : (k == 0)
  all_goals
    have jm := hm
    have jk := hk
    simp only [beq_iff_eq, beq_eq_false_iff_ne] at jm jk
    go_enter Tryz.func49, Tryz.ntmps49
    go_wp2
    go_quiet (fail)
    go_wp2
    all_goals (go_ret; exact ⟨ret_bool (by first | exact (decide_eq_true (by omega)).symm | exact (decide_eq_false (by omega)).symm), dN (by go_grown) _⟩)
set_option maxRecDepth 100000 in
set_option maxHeartbeats 4000000 in
theorem rnum_3 (t n m k : Int) (w : World) :
    Calls Tryz.prog 49 #[eV 3 t n m k] w fun e w' => e = .returned (.bool (okN 3 n m k)) ∧ Below w.heap.size w w' := by
  cases hm : (m == 0) <;> cases hk : (k == 0)
  all_goals
    have jm := hm
    have jk := hk
    simp only [beq_iff_eq, beq_eq_false_iff_ne] at jm jk
    go_enter Tryz.func49, Tryz.ntmps49
    go_wp2
    go_quiet (fail)
    go_wp2
    all_goals (go_ret; exact ⟨ret_bool (by first | exact (decide_eq_true (by omega)).symm | exact (decide_eq_false (by omega)).symm), dN (by go_grown) _⟩)
set_option maxRecDepth 100000 in
set_option maxHeartbeats 4000000 in
theorem rnum_4 (t n m k : Int) (w : World) :
    Calls Tryz.prog 49 #[eV 4 t n m k] w fun e w' => e = .returned (.bool (okN 4 n m k)) ∧ Below w.heap.size w w' := by
  cases hm : (m == 0) <;> cases hk : (k == 0)
  all_goals
    have jm := hm
    have jk := hk
    simp only [beq_iff_eq, beq_eq_false_iff_ne] at jm jk
    go_enter Tryz.func49, Tryz.ntmps49
    go_wp2
    go_quiet (fail)
    go_wp2
    all_goals (go_ret; exact ⟨ret_bool (by first | exact (decide_eq_true (by omega)).symm | exact (decide_eq_false (by omega)).symm), dN (by go_grown) _⟩)
set_option maxRecDepth 100000 in
set_option maxHeartbeats 4000000 in
theorem rnum_5 (t n m k : Int) (w : World) :
    Calls Tryz.prog 49 #[eV 5 t n m k] w fun e w' => e = .returned (.bool (okN 5 n m k)) ∧ Below w.heap.size w w' := by
  cases hn : (n == 0) <;> cases hm : (m == 0) <;> cases hk : (k == 0)
  all_goals
    have jn := hn
    have jm := hm
    have jk := hk
    simp only [beq_iff_eq, beq_eq_false_iff_ne] at jn jm jk
    go_enter Tryz.func49, Tryz.ntmps49
    go_wp2
    go_quiet (fail)
    go_wp2
    all_goals (go_ret; exact ⟨ret_bool (by first | exact (decide_eq_true (by omega)).symm | exact (decide_eq_false (by omega)).symm), dN (by go_grown) _⟩)
set_option maxRecDepth 100000 in
set_option maxHeartbeats 4000000 in
theorem rnum_6 (t n m k : Int) (w : World) :
    Calls Tryz.prog 49 #[eV 6 t n m k] w fun e w' => e = .returned (.bool (okN 6 n m k)) ∧ Below w.heap.size w w' := by
  cases hn : (n == 0) <;> cases hm : (m == 0) <;> cases hk : (k == 0)
  all_goals
    have jn := hn
    have jm := hm
    have jk := hk
    simp only [beq_iff_eq, beq_eq_false_iff_ne] at jn jm jk
    go_enter Tryz.func49, Tryz.ntmps49
    go_wp2
    go_quiet (fail)
    go_wp2
    all_goals (go_ret; exact ⟨ret_bool (by first | exact (decide_eq_true (by omega)).symm | exact (decide_eq_false (by omega)).symm), dN (by go_grown) _⟩)
end Go.Proofs.YtlhnnjllbcglcaaGreatDoor.efFn

/- The reference's numbers, the other codes. -/
namespace Go.Proofs.YtlhnnjllbcglcaaGreatDoor.efFn
open Go.ChangeShapes Go.WideShapes Go.ChangeAt Go.RowKit drMem
set_option linter.unusedVariables false

set_option maxRecDepth 100000 in
set_option maxHeartbeats 4000000 in
theorem rnum_7 (t n m k : Int) (w : World) :
    Calls Tryz.prog 49 #[eV 7 t n m k] w fun e w' => e = .returned (.bool (okN 7 n m k)) ∧ Below w.heap.size w w' := by
  cases hn : (n == 0) <;> cases hm : (m == 0) <;> cases hk : (k == 0)
  all_goals
    have jn := hn
    have jm := hm
    have jk := hk
    simp only [beq_iff_eq, beq_eq_false_iff_ne] at jn jm jk
    go_enter Tryz.func49, Tryz.ntmps49
    go_wp2
    go_quiet (fail)
    go_wp2
    all_goals (go_ret; exact ⟨ret_bool (by first | exact (decide_eq_true (by omega)).symm | exact (decide_eq_false (by omega)).symm | exact decide_eq_decide.2 (by omega)), dN (by go_grown) _⟩)
set_option maxRecDepth 100000 in
set_option maxHeartbeats 4000000 in
theorem rnum_8 (t n m k : Int) (w : World) :
    Calls Tryz.prog 49 #[eV 8 t n m k] w fun e w' => e = .returned (.bool (okN 8 n m k)) ∧ Below w.heap.size w w' := by
  cases hk : (k == 0)
  all_goals
    have jk := hk
    simp only [beq_iff_eq, beq_eq_false_iff_ne] at jk
    go_enter Tryz.func49, Tryz.ntmps49
    go_wp2
    go_quiet (fail)
    go_wp2
    all_goals (go_ret; exact ⟨ret_bool (by first | exact (decide_eq_true (by omega)).symm | exact (decide_eq_false (by omega)).symm | exact decide_eq_decide.2 (by omega)), dN (by go_grown) _⟩)
set_option maxRecDepth 100000 in
set_option maxHeartbeats 4000000 in
theorem rnum_9 (t n m k : Int) (w : World) :
    Calls Tryz.prog 49 #[eV 9 t n m k] w fun e w' => e = .returned (.bool (okN 9 n m k)) ∧ Below w.heap.size w w' := by
  cases hm : (m == 0) <;> cases hk : (k == 0)
  all_goals
    have jm := hm
    have jk := hk
    simp only [beq_iff_eq, beq_eq_false_iff_ne] at jm jk
    go_enter Tryz.func49, Tryz.ntmps49
    go_wp2
    go_quiet (fail)
    go_wp2
    all_goals (go_ret; exact ⟨ret_bool (by first | exact (decide_eq_true (by omega)).symm | exact (decide_eq_false (by omega)).symm | exact decide_eq_decide.2 (by omega)), dN (by go_grown) _⟩)
set_option maxRecDepth 100000 in
set_option maxHeartbeats 4000000 in
theorem rnum_10 (t n m k : Int) (w : World) :
    Calls Tryz.prog 49 #[eV 10 t n m k] w fun e w' => e = .returned (.bool (okN 10 n m k)) ∧ Below w.heap.size w w' := by
  cases hk : (k == 0)
  all_goals
    have jk := hk
    simp only [beq_iff_eq, beq_eq_false_iff_ne] at jk
    go_enter Tryz.func49, Tryz.ntmps49
    go_wp2
    go_quiet (fail)
    go_wp2
    all_goals (go_ret; exact ⟨ret_bool (by first | exact (decide_eq_true (by omega)).symm | exact (decide_eq_false (by omega)).symm | exact decide_eq_decide.2 (by omega)), dN (by go_grown) _⟩)
set_option maxRecDepth 100000 in
set_option maxHeartbeats 4000000 in
theorem rnum_11 (t n m k : Int) (w : World) :
    Calls Tryz.prog 49 #[eV 11 t n m k] w fun e w' => e = .returned (.bool (okN 11 n m k)) ∧ Below w.heap.size w w' := by
  cases hn : (n == 0) <;> cases hm : (m == 0) <;> cases hk : (k == 0)
  all_goals
    have jn := hn
    have jm := hm
    have jk := hk
    simp only [beq_iff_eq, beq_eq_false_iff_ne] at jn jm jk
    go_enter Tryz.func49, Tryz.ntmps49
    go_wp2
    go_quiet (fail)
    go_wp2
    all_goals (go_ret; exact ⟨ret_bool (by first | exact (decide_eq_true (by omega)).symm | exact (decide_eq_false (by omega)).symm | exact decide_eq_decide.2 (by omega)), dN (by go_grown) _⟩)
set_option maxRecDepth 100000 in
set_option maxHeartbeats 4000000 in
theorem rnum_12 (t n m k : Int) (w : World) :
    Calls Tryz.prog 49 #[eV 12 t n m k] w fun e w' => e = .returned (.bool (okN 12 n m k)) ∧ Below w.heap.size w w' := by
  cases hm : (m == 0)
  all_goals
    have jm := hm
    simp only [beq_iff_eq, beq_eq_false_iff_ne] at jm
    go_enter Tryz.func49, Tryz.ntmps49
    go_wp2
    go_quiet (fail)
    go_wp2
    all_goals (go_ret; exact ⟨ret_bool (by first | exact (decide_eq_true (by omega)).symm | exact (decide_eq_false (by omega)).symm | exact decide_eq_decide.2 (by omega)), dN (by go_grown) _⟩)
set_option maxRecDepth 100000 in
set_option maxHeartbeats 4000000 in
theorem rnum_no (c t n m k : Int) (h : ¬ (1 ≤ c ∧ c ≤ 12)) (w : World) :
    Calls Tryz.prog 49 #[eV c t n m k] w fun e w' => e = .returned (.bool (okN c n m k)) ∧ Below w.heap.size w w' := by
  have he : okN c n m k = decide (n = 0 ∧ m = 0 ∧ k = 0) := by
    unfold okN
    rw [if_neg (by omega), if_neg (by omega), if_neg (by omega), if_neg (by omega), if_neg (by omega), if_neg (by omega)]
  rw [he]
  clear he
  have n1 : (c == 1) = false := by rw [beq_eq_false_iff_ne]; omega
  have n2 : (c == 2) = false := by rw [beq_eq_false_iff_ne]; omega
  have n3 : (c == 3) = false := by rw [beq_eq_false_iff_ne]; omega
  have n4 : (c == 4) = false := by rw [beq_eq_false_iff_ne]; omega
  have n5 : (c == 5) = false := by rw [beq_eq_false_iff_ne]; omega
  have n6 : (c == 6) = false := by rw [beq_eq_false_iff_ne]; omega
  have n7 : (c == 7) = false := by rw [beq_eq_false_iff_ne]; omega
  have n8 : (c == 8) = false := by rw [beq_eq_false_iff_ne]; omega
  have n9 : (c == 9) = false := by rw [beq_eq_false_iff_ne]; omega
  have n10 : (c == 10) = false := by rw [beq_eq_false_iff_ne]; omega
  have n11 : (c == 11) = false := by rw [beq_eq_false_iff_ne]; omega
  have n12 : (c == 12) = false := by rw [beq_eq_false_iff_ne]; omega
  clear h
  cases hn : (n == 0) <;> cases hm : (m == 0) <;> cases hk : (k == 0)
  all_goals
    have jn := hn
    have jm := hm
    have jk := hk
    simp only [beq_iff_eq, beq_eq_false_iff_ne] at jn jm jk
    go_enter Tryz.func49, Tryz.ntmps49
    go_wp2
    go_quiet (fail)
    go_wp2
    all_goals (go_ret; exact ⟨ret_bool (by first | exact (decide_eq_true (by omega)).symm | exact (decide_eq_false (by omega)).symm | exact decide_eq_decide.2 (by omega)), dN (by go_grown) _⟩)
theorem rnum_any (c t n m k : Int) (w : World) :
    Calls Tryz.prog 49 #[eV c t n m k] w fun e w' => e = .returned (.bool (okN c n m k)) ∧ Below w.heap.size w w' := by
  rcases codes c with rfl | rfl | rfl | rfl | rfl | rfl | rfl | rfl | rfl | rfl | rfl | rfl | h
  · exact rnum_1 t n m k w
  · exact rnum_2 t n m k w
  · exact rnum_3 t n m k w
  · exact rnum_4 t n m k w
  · exact rnum_5 t n m k w
  · exact rnum_6 t n m k w
  · exact rnum_7 t n m k w
  · exact rnum_8 t n m k w
  · exact rnum_9 t n m k w
  · exact rnum_10 t n m k w
  · exact rnum_11 t n m k w
  · exact rnum_12 t n m k w
  · exact rnum_no c t n m k h w
end Go.Proofs.YtlhnnjllbcglcaaGreatDoor.efFn

/- The reference's kinds of targets. -/
namespace Go.Proofs.YtlhnnjllbcglcaaGreatDoor.efFn
open Go.ChangeShapes Go.WideShapes Go.ChangeAt Go.RowKit drMem
set_option linter.unusedVariables false

/- whether a list of letters has one -/
def hasI (l : List UInt8) (x : Int) : Bool := l.any fun b => (b.toNat : Int) == x
theorem has_step (s : ByteArray) (x : Int) (k : Nat) (h : k < s.size) : hasI (s.data.toList.take (k + 1)) x = (hasI (s.data.toList.take k) x || ((s[k].toNat : Int) == x)) := by
  have h2 : k < s.data.toList.length := by rw [← Lib.size_eq]; exact h
  unfold hasI
  rw [List.take_succ_eq_append_getElem h2, List.any_append]
  simp [ByteArray.getElem_eq_getElem_data]
theorem has_yes (s : ByteArray) (x : Int) (k : Nat) (h : k < s.size) (h2 : ((s[k].toNat : Int) == x) = true) : hasI s.data.toList x = true := by
  have h3 : k < s.data.toList.length := by rw [← Lib.size_eq]; exact h
  unfold hasI
  rw [List.any_eq_true]
  exact ⟨s.data.toList[k], List.getElem_mem h3, by simpa [ByteArray.getElem_eq_getElem_data] using h2⟩
set_option maxRecDepth 100000 in
set_option maxHeartbeats 2000000 in
theorem has_any (s : ByteArray) (x : Int) (w : World) (hs : s.size ≤ 100) :
    Calls Tryz.prog 46 #[.string s, .int .u8 x] w fun e w' => e = .returned (.bool (hasI s.data.toList x)) ∧ w = w' := by
  go_enter Tryz.func46, Tryz.ntmps46
  go_wp2
  go_loopw [5] (fun i wr => ∃ k : Nat, k ≤ s.size ∧ i = .int .i64 k ∧ Hid (hasI (s.data.toList.take k) x = false) ∧ wr = w) (fun i _ => s.size - (intOf i).toNat)
  case atStart => exact ⟨0, Nat.zero_le _, rfl, Lib.hid rfl, rfl⟩
  case round =>
    obtain ⟨k, hk, rfl, HT, rfl⟩ := hrel
    by_cases hlt : k < s.size
    · have HX := Lib.hid (has_step s x k hlt)
      have HY := Lib.hid (has_yes s x k hlt)
      cases hx : ((s[k].toNat : Int) == x)
      · go_wp2
        exact ⟨⟨k + 1, by omega, by go_num, Lib.hid (by rw [HX.out, HT.out, hx]; rfl), trivial⟩, by simp [intOf]; omega⟩
      · go_wp2
        go_ret
        exact ⟨ret_bool (HY.out hx).symm, rfl⟩
    · obtain rfl : k = s.size := by omega
      have e : hasI s.data.toList x = false := by
        have := HT.out
        rw [List.take_of_length_le (by rw [← Lib.size_eq]; exact Nat.le_refl _)] at this
        exact this
      go_wp2
      go_ret
      exact ⟨ret_bool e.symm, rfl⟩
def tgL (c : Int) : List UInt8 := if c = 1 then [99, 111, 120, 112, 101] else if c = 2 then [110, 112] else if c = 3 then [110, 112] else if c = 4 then [110, 112] else if c = 5 then [99, 111, 120] else if c = 6 then [99, 111, 120] else if c = 7 then [115] else if c = 8 then [110, 99, 111, 120] else if c = 9 then [110, 99, 111, 120] else if c = 10 then [110] else if c = 11 then [99, 111, 120] else if c = 12 then [110] else []
def letN (t : Int) : Int := if t = 0 then 110 else if t = 1 then 99 else if t = 2 then 111 else if t = 3 then 120 else if t = 4 then 112 else if t = 5 then 101 else if t = 6 then 115 else 63
theorem rLetter_any (t : Int) (w : World) :
    Calls Tryz.prog 48 #[.int .i64 t] w fun e w' => e = .returned (.int .u8 (letN t)) ∧ w = w' := by
  rcases kinds t with rfl | rfl | rfl | rfl | rfl | rfl | rfl | h
  all_goals first
    | (have he : letN t = 63 := by unfold letN; repeat rw [if_neg (by omega)]
       rw [he]
       go_enter Tryz.func48, Tryz.ntmps48
       go_wp2
       all_goals first | (go_ret; exact ⟨rfl, rfl⟩) | (exfalso; omega))
    | (go_enter Tryz.func48, Tryz.ntmps48
       go_wp2
       go_ret
       exact ⟨rfl, rfl⟩)
set_option maxRecDepth 100000 in
set_option maxHeartbeats 2000000 in
theorem rTargets_any (c : Int) (w : World) :
    Calls Tryz.prog 47 #[.int .i64 c] w fun e w' => e = .returned (.string (bs (tgL c))) ∧ Below w.heap.size w w' := by
  rcases codes c with rfl | rfl | rfl | rfl | rfl | rfl | rfl | rfl | rfl | rfl | rfl | rfl | h
  all_goals first
    | (have he : tgL c = [] := by unfold tgL; repeat rw [if_neg (by omega)]
       rw [he]
       go_enter Tryz.func47, Tryz.ntmps47
       go_wp2
       all_goals first | (go_ret; exact ⟨rfl, by go_grown⟩) | (exfalso; omega))
    | (go_enter Tryz.func47, Tryz.ntmps47
       go_wp2
       go_ret
       exact ⟨rfl, by go_grown⟩)
theorem tg_len (c : Int) : (tgL c).length ≤ 5 := by unfold tgL; (repeat' split) <;> simp
theorem rHas_any (c x : Int) (w : World) :
    Calls Tryz.prog 46 #[.string (bs (tgL c)), .int .u8 x] w fun e w' => e = .returned (.bool (hasI (tgL c) x)) ∧ w = w' :=
  has_any (bs (tgL c)) x w (by have := tg_len c; show (tgL c).toArray.size ≤ 100; simp; omega)
theorem hasI_63 (c : Int) : hasI (tgL c) 63 = false := by
  rcases codes c with rfl | rfl | rfl | rfl | rfl | rfl | rfl | rfl | rfl | rfl | rfl | rfl | h
  all_goals first
    | (have he : tgL c = [] := by unfold tgL; repeat rw [if_neg (by omega)]
       rw [he]; rfl)
    | decide
theorem aims_ref (c t : Int) : hasI (tgL c) (letN t) = aimB (kd c) t := by
  rcases kinds t with rfl | rfl | rfl | rfl | rfl | rfl | rfl | h
  case' inr.inr.inr.inr.inr.inr.inr =>
    have hl : letN t = 63 := by unfold letN; repeat rw [if_neg (by omega)]
    rw [hl, hasI_63, aim_far _ _ (kd_bd c).1 (kd_bd c).2 h]
  all_goals
    rcases codes c with rfl | rfl | rfl | rfl | rfl | rfl | rfl | rfl | rfl | rfl | rfl | rfl | h
    all_goals first
      | (have he : tgL c = [] := by unfold tgL; repeat rw [if_neg (by omega)]
         rw [he, kd_no c h, aim_zero]; rfl)
      | decide
end Go.Proofs.YtlhnnjllbcglcaaGreatDoor.efFn

/- Which effects are valid, by the reference. -/
namespace Go.Proofs.YtlhnnjllbcglcaaGreatDoor.efFn
open Go.ChangeShapes Go.WideShapes Go.ChangeAt Go.RowKit drMem
set_option linter.unusedVariables false

set_option maxRecDepth 100000 in
set_option maxHeartbeats 4000000 in
theorem rValid_any (c t n m k : Int) (w : World) :
    Calls Tryz.prog 30 #[eV c t n m k] w fun e w' => e = .returned (.bool (okE c t n m k)) ∧ Below w.heap.size w w' := by
  have HT := rTargets_any c
  have HL := rLetter_any t
  have HH := rHas_any c (letN t)
  have HN := rnum_any c t n m k
  rw [aims_ref] at HH
  unfold okE
  cases ha : aimB (kd c) t
  all_goals
    rw [ha] at HH
    go_enter Tryz.func30, Tryz.ntmps30
    go_wp2_with fail
    have M' : has (w.alloc (.cells #[.int .i64 c, .int .i64 t, .int .i64 n, .int .i64 m, .int .i64 k] 51)).drew w.heap.size 51 (eL c t n m k) := new0 w 51 (eL c t n m k)
    have B' : Below w.heap.size w (w.alloc (.cells #[.int .i64 c, .int .i64 t, .int .i64 n, .int .i64 m, .int .i64 k] 51)).drew := ((Below.refl _ _).alloc (Nat.le_refl _) _).drew
    obtain ⟨W, hW⟩ : ∃ W, w.alloc (.cells #[.int .i64 c, .int .i64 t, .int .i64 n, .int .i64 m, .int .i64 k] 51) = W := ⟨_, rfl⟩
    rw [hW] at M' B' ⊢
    clear hW
    obtain ⟨u0, u1, u2, u3, u4, u5⟩ := five M'
    first
      | (go_region_with (first | (go_at_call 47; (with_reducible refine (HT _).mono ?_); rintro e wa ⟨rfl, hba⟩; have Ma := M'.below hba M'.lt; have Ba := next B' hba; clear hba; obtain ⟨u0, u1, u2, u3, u4, u5⟩ := five Ma) | (go_at_call 48; (with_reducible refine (HL _).mono ?_); rintro e wl ⟨rfl, rfl⟩) | (go_at_call 46; (with_reducible refine (HH _).mono ?_); rintro e wh ⟨rfl, rfl⟩) | (go_at_call 49; (with_reducible refine (HN _).mono ?_); rintro e wb ⟨rfl, hbb⟩; have Mb := Ma.below hbb Ma.lt; have Bb := next Ba hbb; clear hbb; obtain ⟨u0, u1, u2, u3, u4, u5⟩ := five Mb)))
      | (go_region_held3 (fun w' => w'.cell? ⟨w.heap.size, 0, none⟩ = some (.int .i64 c) ∧ w'.cell? ⟨w.heap.size, 1, none⟩ = some (.int .i64 t) ∧ w'.cell? ⟨w.heap.size, 2, none⟩ = some (.int .i64 n) ∧ w'.cell? ⟨w.heap.size, 3, none⟩ = some (.int .i64 m) ∧ w'.cell? ⟨w.heap.size, 4, none⟩ = some (.int .i64 k) ∧ Below w.heap.size w w') (first | assumption | (refine ⟨?_, ?_, ?_, ?_, ?_, ?_⟩ <;> first | assumption | go_keep)) (first | (go_at_call 47; (with_reducible refine (HT _).mono ?_); rintro e wa ⟨rfl, hba⟩; have Ma := M'.below hba M'.lt; have Ba := next B' hba; clear hba; obtain ⟨u0, u1, u2, u3, u4, u5⟩ := five Ma) | (go_at_call 48; (with_reducible refine (HL _).mono ?_); rintro e wl ⟨rfl, rfl⟩) | (go_at_call 46; (with_reducible refine (HH _).mono ?_); rintro e wh ⟨rfl, rfl⟩) | (go_at_call 49; (with_reducible refine (HN _).mono ?_); rintro e wb ⟨rfl, hbb⟩; have Mb := Ma.below hbb Ma.lt; have Bb := next Ba hbb; clear hbb; obtain ⟨u0, u1, u2, u3, u4, u5⟩ := five Mb)))
    all_goals
      go_wp2
      go_ret
      exact ⟨rfl, by assumption⟩
set_option maxRecDepth 100000 in
set_option maxHeartbeats 2000000 in
theorem rAll_any (sp : Option Addr) (n cap : Nat) (l : List Ef) (w : World) (h : EfsAt w sp n l) :
    Calls Tryz.prog 18 #[.slice sp n cap] w fun e w' => e = .returned (.bool (allB l)) ∧ Below w.heap.size w w' := by
  have hn := h.n
  have hm := h.m
  rcases Nat.eq_zero_or_pos n with h0 | h0
  · subst h0
    have e : allB l = true := by rw [List.eq_nil_of_length_eq_zero hn]; rfl
    rw [e]
    clear e h hn hm
    go_enter Tryz.func18, Tryz.ntmps18
    go_wp2
    refine wp_loop_rounds 1 ?_
    rw [rounds_succ]
    go_wp2
    go_ret
    exact ⟨rfl, Below.refl _ _⟩
  · obtain ⟨b, off, rfl, hbl, hc⟩ := h.c h0
    have C : Hid (∀ k, k < n → EfAt w b (off + k * 5) (l.getD k default)) := Lib.hid fun k hk => hc k _ (get_some (by omega))
    have HN := Lib.hid hn
    clear hc h hn
    go_enter Tryz.func18, Tryz.ntmps18
    go_wp2
    go_loopw [3] (fun i wr => ∃ k : Nat, k ≤ n ∧ i = .int .i64 k ∧ Hid ((l.take k).all Ef.ok = true ∧ Below w.heap.size w wr)) (fun i _ => n - (intOf i).toNat)
    case atStart => exact ⟨0, Nat.zero_le _, rfl, Lib.hid ⟨by simp, Below.refl _ _⟩⟩
    case round =>
      obtain ⟨k, hk, rfl, HT⟩ := hrel
      by_cases hlt : k < n
      · obtain ⟨c0, c1, c2, c3, c4⟩ := (C.out k hlt).below HT.out.2 hbl
        have HX := Lib.hid (fun h => all_take_succ (l := l) (k := k) (by rw [HN.out]; exact hlt) HT.out.1 h)
        have HY := Lib.hid (fun h => all_not (l := l) (k := k) (by rw [HN.out]; exact hlt) h)
        generalize l.getD k default = x at *
        obtain ⟨xc, xt, xn, xm, xk⟩ := x
        have HV := rValid_any xc xt xn xm xk
        dsimp only at c0 c1 c2 c3 c4
        cases hx : okE xc xt xn xm xk
        · go_wp2_with fail
          refine (HV _).mono ?_; rintro e w1 ⟨rfl, hb1⟩
          have B1 := next HT.out.2 hb1
          have e : allB l = false := by unfold allB; rw [HY.out hx, Bool.and_false]
          rw [hx]
          go_wp2
          go_ret
          exact ⟨ret_bool e.symm, B1⟩
        · go_wp2_with fail
          refine (HV _).mono ?_; rintro e w1 ⟨rfl, hb1⟩
          have B1 := next HT.out.2 hb1
          rw [hx]
          go_wp2
          exact ⟨⟨k + 1, by omega, by go_num, Lib.hid ⟨HX.out hx, B1⟩⟩, by simp [intOf]; omega⟩
      · obtain rfl : k = n := by omega
        have e : allB l = decide ((k : Int) ≤ 4) := by
          have h1 := HT.out.1
          rw [List.take_of_length_le (by rw [HN.out]; exact Nat.le_refl _)] at h1
          unfold allB; rw [h1, Bool.and_true, HN.out]
          exact decide_eq_decide.2 (by omega)
        go_wp2
        go_ret
        exact ⟨ret_bool e.symm, HT.out.2⟩
end Go.Proofs.YtlhnnjllbcglcaaGreatDoor.efFn
