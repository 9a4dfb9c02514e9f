/- The text of every effect: what Text returns. -/
import Derived.Test.YtlhnnjllbcglcaaGreatDoorCeText
namespace Go.Proofs.YtlhnnjllbcglcaaGreatDoor.efFn
open Go.ChangeShapes Go.WideShapes Go.ChangeAt Go.RowKit drMem
set_option linter.unusedVariables false

theorem kw_len (t : Int) : (kwL t).length ≤ 8 := by unfold kwL; (repeat' split) <;> decide
theorem nm_len (c : Int) : (nmL c).length ≤ 8 := by
  rcases codes c with rfl | rfl | rfl | rfl | rfl | rfl | rfl | rfl | rfl | rfl | rfl | rfl | h
  all_goals first
    | (have e : nmL c = [] := by unfold nmL; repeat rw [if_neg (by omega)]
       rw [e]; decide)
    | decide
theorem let_len (r : Nat) : (letW r).length ≤ 8 := by unfold letW; (repeat' split) <;> decide
theorem tab_len8 (r : Nat) : (tab r).length ≤ 8 := by have := tab_len r; omega
theorem tail_len : ∀ (r : List (List UInt8)), (∀ x ∈ r, x.length ≤ 8) → (Lib.joinTail [32] r).length ≤ 9 * r.length
  | [], _ => by simp [Lib.joinTail]
  | a :: r, h => by
    have ih := tail_len r (fun x hx => h x (by simp [hx]))
    have ha := h a (by simp)
    simp only [Lib.joinTail, List.map_cons, List.flatten_cons, List.length_append, List.length_cons, List.length_nil] at *
    omega
theorem join_len (l : List (List UInt8)) (h : ∀ x ∈ l, x.length ≤ 8) (hl : l.length ≤ 10) : (Lib.join l [32]).length ≤ 1000 := by
  cases l with
  | nil => simp [Lib.join_nil]
  | cons a r =>
    rw [Lib.join_cons, List.length_append]
    have := tail_len r (fun x hx => h x (by simp [hx]))
    have := h a (by simp)
    simp only [List.length_cons] at hl
    omega
theorem bs_l (l : List UInt8) : (bs l).data.toList = l := rfl
def textPost (e : Ef) (w : World) (r : Ending) (w' : World) : Prop := r = .returned (.tuple #[.string (bs (textE e)), .int .i64 0]) ∧ Below w.heap.size w w'
theorem Text_1 (t n m k : Int) (w : World) (hG : G w) (hv : okE 1 t n m k = true) : Calls Tryz.prog 54 #[eV 1 t n m k] w (textPost ⟨1, t, n, m, k⟩ w) := by
  obtain ⟨b0, b1, b2, b3, b4, b5, b6, b7, b8, b9⟩ := ok_bd (e := ⟨1, t, n, m, k⟩) hv
  dsimp only at b0 b1 b2 b3 b4 b5 b6 b7 b8 b9
  obtain ⟨hN, hA⟩ := okE_parts (e := ⟨1, t, n, m, k⟩) hv
  obtain ⟨p, rfl⟩ := Int.eq_ofNat_of_zero_le b4
  obtain ⟨q, rfl⟩ := Int.eq_ofNat_of_zero_le b6
  obtain ⟨r, rfl⟩ := Int.eq_ofNat_of_zero_le b8
  have HW : ∀ w, Calls Tryz.prog 73 #[.agg #[.int .i64 (p : Int), .int .i64 (q : Int), .int .i64 (r : Int)], raV (bs (nmL 1)) 62 1 0 0 99 0 0] w (strPost [bs (tab p)] w) := fun w => wr_A _ _ 1 0 0 99 p q r w (by omega) (by omega) (by omega) (by omega)
  by_cases ht : t = 0
  · refine (Text_ra0 1 t p q r (bs (nmL 1)) 62 1 0 0 99 0 0 [bs (tab p)] (by simp) w hG ruleV_1 hv ht HW (by show (Lib.join [nmL 1, (tab p)] [32]).length ≤ 1000; exact join_len _ (by intro x hx; simp only [List.mem_cons, List.not_mem_nil, or_false] at hx; rcases hx with rfl | rfl <;> first | exact nm_len _ | exact tab_len8 _ | exact let_len _ | exact kw_len _) (by simp))).mono fun e w' ⟨h1, h2⟩ => ⟨h1.trans ?_, h2⟩
    subst ht; rfl
  · refine (Text_ra1 1 t p q r (bs (nmL 1)) 62 1 0 0 99 0 0 [bs (tab p)] (by simp) w hG ruleV_1 hv ht b2 b3 HW (by show (Lib.join [nmL 1, (tab p), kwL t] [32]).length ≤ 1000; exact join_len _ (by intro x hx; simp only [List.mem_cons, List.not_mem_nil, or_false] at hx; rcases hx with rfl | rfl | rfl <;> first | exact nm_len _ | exact tab_len8 _ | exact let_len _ | exact kw_len _) (by simp))).mono fun e w' ⟨h1, h2⟩ => ⟨h1.trans ?_, h2⟩
    have e1 : tgW t = [kwL t] := by unfold tgW; rw [if_neg ht]
    show _ = Ending.returned (.tuple #[.string (bs (Lib.join (nmL 1 :: (numW 1 p q r ++ tgW t)) [32])), .int .i64 0])
    rw [e1]; rfl
theorem Text_2 (t n m k : Int) (w : World) (hG : G w) (hv : okE 2 t n m k = true) : Calls Tryz.prog 54 #[eV 2 t n m k] w (textPost ⟨2, t, n, m, k⟩ w) := by
  obtain ⟨b0, b1, b2, b3, b4, b5, b6, b7, b8, b9⟩ := ok_bd (e := ⟨2, t, n, m, k⟩) hv
  dsimp only at b0 b1 b2 b3 b4 b5 b6 b7 b8 b9
  obtain ⟨hN, hA⟩ := okE_parts (e := ⟨2, t, n, m, k⟩) hv
  obtain ⟨p, rfl⟩ := Int.eq_ofNat_of_zero_le b4
  obtain ⟨q, rfl⟩ := Int.eq_ofNat_of_zero_le b6
  obtain ⟨r, rfl⟩ := Int.eq_ofNat_of_zero_le b8
  have HW : ∀ w, Calls Tryz.prog 73 #[.agg #[.int .i64 (p : Int), .int .i64 (q : Int), .int .i64 (r : Int)], raV (bs (nmL 2)) 17 1 0 0 7 0 0] w (strPost [bs (tab p)] w) := fun w => wr_A _ _ 1 0 0 7 p q r w (by omega) (by omega) (by omega) (by omega)
  by_cases ht : t = 0
  · refine (Text_ra0 2 t p q r (bs (nmL 2)) 17 1 0 0 7 0 0 [bs (tab p)] (by simp) w hG ruleV_2 hv ht HW (by show (Lib.join [nmL 2, (tab p)] [32]).length ≤ 1000; exact join_len _ (by intro x hx; simp only [List.mem_cons, List.not_mem_nil, or_false] at hx; rcases hx with rfl | rfl <;> first | exact nm_len _ | exact tab_len8 _ | exact let_len _ | exact kw_len _) (by simp))).mono fun e w' ⟨h1, h2⟩ => ⟨h1.trans ?_, h2⟩
    subst ht; rfl
  · refine (Text_ra1 2 t p q r (bs (nmL 2)) 17 1 0 0 7 0 0 [bs (tab p)] (by simp) w hG ruleV_2 hv ht b2 b3 HW (by show (Lib.join [nmL 2, (tab p), kwL t] [32]).length ≤ 1000; exact join_len _ (by intro x hx; simp only [List.mem_cons, List.not_mem_nil, or_false] at hx; rcases hx with rfl | rfl | rfl <;> first | exact nm_len _ | exact tab_len8 _ | exact let_len _ | exact kw_len _) (by simp))).mono fun e w' ⟨h1, h2⟩ => ⟨h1.trans ?_, h2⟩
    have e1 : tgW t = [kwL t] := by unfold tgW; rw [if_neg ht]
    show _ = Ending.returned (.tuple #[.string (bs (Lib.join (nmL 2 :: (numW 2 p q r ++ tgW t)) [32])), .int .i64 0])
    rw [e1]; rfl
theorem Text_3 (t n m k : Int) (w : World) (hG : G w) (hv : okE 3 t n m k = true) : Calls Tryz.prog 54 #[eV 3 t n m k] w (textPost ⟨3, t, n, m, k⟩ w) := by
  obtain ⟨b0, b1, b2, b3, b4, b5, b6, b7, b8, b9⟩ := ok_bd (e := ⟨3, t, n, m, k⟩) hv
  dsimp only at b0 b1 b2 b3 b4 b5 b6 b7 b8 b9
  obtain ⟨hN, hA⟩ := okE_parts (e := ⟨3, t, n, m, k⟩) hv
  obtain ⟨p, rfl⟩ := Int.eq_ofNat_of_zero_le b4
  obtain ⟨q, rfl⟩ := Int.eq_ofNat_of_zero_le b6
  obtain ⟨r, rfl⟩ := Int.eq_ofNat_of_zero_le b8
  have HW : ∀ w, Calls Tryz.prog 73 #[.agg #[.int .i64 (p : Int), .int .i64 (q : Int), .int .i64 (r : Int)], raV (bs (nmL 3)) 17 1 0 0 99 0 0] w (strPost [bs (tab p)] w) := fun w => wr_A _ _ 1 0 0 99 p q r w (by omega) (by omega) (by omega) (by omega)
  by_cases ht : t = 0
  · refine (Text_ra0 3 t p q r (bs (nmL 3)) 17 1 0 0 99 0 0 [bs (tab p)] (by simp) w hG ruleV_3 hv ht HW (by show (Lib.join [nmL 3, (tab p)] [32]).length ≤ 1000; exact join_len _ (by intro x hx; simp only [List.mem_cons, List.not_mem_nil, or_false] at hx; rcases hx with rfl | rfl <;> first | exact nm_len _ | exact tab_len8 _ | exact let_len _ | exact kw_len _) (by simp))).mono fun e w' ⟨h1, h2⟩ => ⟨h1.trans ?_, h2⟩
    subst ht; rfl
  · refine (Text_ra1 3 t p q r (bs (nmL 3)) 17 1 0 0 99 0 0 [bs (tab p)] (by simp) w hG ruleV_3 hv ht b2 b3 HW (by show (Lib.join [nmL 3, (tab p), kwL t] [32]).length ≤ 1000; exact join_len _ (by intro x hx; simp only [List.mem_cons, List.not_mem_nil, or_false] at hx; rcases hx with rfl | rfl | rfl <;> first | exact nm_len _ | exact tab_len8 _ | exact let_len _ | exact kw_len _) (by simp))).mono fun e w' ⟨h1, h2⟩ => ⟨h1.trans ?_, h2⟩
    have e1 : tgW t = [kwL t] := by unfold tgW; rw [if_neg ht]
    show _ = Ending.returned (.tuple #[.string (bs (Lib.join (nmL 3 :: (numW 3 p q r ++ tgW t)) [32])), .int .i64 0])
    rw [e1]; rfl
theorem Text_4 (t n m k : Int) (w : World) (hG : G w) (hv : okE 4 t n m k = true) : Calls Tryz.prog 54 #[eV 4 t n m k] w (textPost ⟨4, t, n, m, k⟩ w) := by
  obtain ⟨b0, b1, b2, b3, b4, b5, b6, b7, b8, b9⟩ := ok_bd (e := ⟨4, t, n, m, k⟩) hv
  dsimp only at b0 b1 b2 b3 b4 b5 b6 b7 b8 b9
  obtain ⟨hN, hA⟩ := okE_parts (e := ⟨4, t, n, m, k⟩) hv
  obtain ⟨p, rfl⟩ := Int.eq_ofNat_of_zero_le b4
  obtain ⟨q, rfl⟩ := Int.eq_ofNat_of_zero_le b6
  obtain ⟨r, rfl⟩ := Int.eq_ofNat_of_zero_le b8
  have HW : ∀ w, Calls Tryz.prog 73 #[.agg #[.int .i64 (p : Int), .int .i64 (q : Int), .int .i64 (r : Int)], raV (bs (nmL 4)) 17 1 0 0 99 0 0] w (strPost [bs (tab p)] w) := fun w => wr_A _ _ 1 0 0 99 p q r w (by omega) (by omega) (by omega) (by omega)
  by_cases ht : t = 0
  · refine (Text_ra0 4 t p q r (bs (nmL 4)) 17 1 0 0 99 0 0 [bs (tab p)] (by simp) w hG ruleV_4 hv ht HW (by show (Lib.join [nmL 4, (tab p)] [32]).length ≤ 1000; exact join_len _ (by intro x hx; simp only [List.mem_cons, List.not_mem_nil, or_false] at hx; rcases hx with rfl | rfl <;> first | exact nm_len _ | exact tab_len8 _ | exact let_len _ | exact kw_len _) (by simp))).mono fun e w' ⟨h1, h2⟩ => ⟨h1.trans ?_, h2⟩
    subst ht; rfl
  · refine (Text_ra1 4 t p q r (bs (nmL 4)) 17 1 0 0 99 0 0 [bs (tab p)] (by simp) w hG ruleV_4 hv ht b2 b3 HW (by show (Lib.join [nmL 4, (tab p), kwL t] [32]).length ≤ 1000; exact join_len _ (by intro x hx; simp only [List.mem_cons, List.not_mem_nil, or_false] at hx; rcases hx with rfl | rfl | rfl <;> first | exact nm_len _ | exact tab_len8 _ | exact let_len _ | exact kw_len _) (by simp))).mono fun e w' ⟨h1, h2⟩ => ⟨h1.trans ?_, h2⟩
    have e1 : tgW t = [kwL t] := by unfold tgW; rw [if_neg ht]
    show _ = Ending.returned (.tuple #[.string (bs (Lib.join (nmL 4 :: (numW 4 p q r ++ tgW t)) [32])), .int .i64 0])
    rw [e1]; rfl
theorem Text_5 (t n m k : Int) (w : World) (hG : G w) (hv : okE 5 t n m k = true) : Calls Tryz.prog 54 #[eV 5 t n m k] w (textPost ⟨5, t, n, m, k⟩ w) := by
  obtain ⟨b0, b1, b2, b3, b4, b5, b6, b7, b8, b9⟩ := ok_bd (e := ⟨5, t, n, m, k⟩) hv
  dsimp only at b0 b1 b2 b3 b4 b5 b6 b7 b8 b9
  obtain ⟨hN, hA⟩ := okE_parts (e := ⟨5, t, n, m, k⟩) hv
  have ht : t ≠ 0 := by rintro rfl; exact absurd (show aimB (kd 5) 0 = true from hA) (by decide)
  refine (Text_pl 5 t n m k (bs (nmL 5)) 14 w hG ruleV_5 hv ht b2 b3 (by show (Lib.join [nmL 5, kwL t] [32]).length ≤ 1000; exact join_len _ (by intro x hx; simp only [List.mem_cons, List.not_mem_nil, or_false] at hx; rcases hx with rfl | rfl <;> first | exact nm_len _ | exact kw_len _) (by simp))).mono fun e w' ⟨h1, h2⟩ => ⟨h1.trans ?_, h2⟩
  have e1 : tgW t = [kwL t] := by unfold tgW; rw [if_neg ht]
  show _ = Ending.returned (.tuple #[.string (bs (Lib.join (nmL 5 :: (numW 5 n m k ++ tgW t)) [32])), .int .i64 0])
  rw [e1]; rfl
theorem Text_6 (t n m k : Int) (w : World) (hG : G w) (hv : okE 6 t n m k = true) : Calls Tryz.prog 54 #[eV 6 t n m k] w (textPost ⟨6, t, n, m, k⟩ w) := by
  obtain ⟨b0, b1, b2, b3, b4, b5, b6, b7, b8, b9⟩ := ok_bd (e := ⟨6, t, n, m, k⟩) hv
  dsimp only at b0 b1 b2 b3 b4 b5 b6 b7 b8 b9
  obtain ⟨hN, hA⟩ := okE_parts (e := ⟨6, t, n, m, k⟩) hv
  have ht : t ≠ 0 := by rintro rfl; exact absurd (show aimB (kd 6) 0 = true from hA) (by decide)
  refine (Text_pl 6 t n m k (bs (nmL 6)) 14 w hG ruleV_6 hv ht b2 b3 (by show (Lib.join [nmL 6, kwL t] [32]).length ≤ 1000; exact join_len _ (by intro x hx; simp only [List.mem_cons, List.not_mem_nil, or_false] at hx; rcases hx with rfl | rfl <;> first | exact nm_len _ | exact kw_len _) (by simp))).mono fun e w' ⟨h1, h2⟩ => ⟨h1.trans ?_, h2⟩
  have e1 : tgW t = [kwL t] := by unfold tgW; rw [if_neg ht]
  show _ = Ending.returned (.tuple #[.string (bs (Lib.join (nmL 6 :: (numW 6 n m k ++ tgW t)) [32])), .int .i64 0])
  rw [e1]; rfl
theorem Text_7 (t n m k : Int) (w : World) (hG : G w) (hv : okE 7 t n m k = true) : Calls Tryz.prog 54 #[eV 7 t n m k] w (textPost ⟨7, t, n, m, k⟩ w) := by
  obtain ⟨b0, b1, b2, b3, b4, b5, b6, b7, b8, b9⟩ := ok_bd (e := ⟨7, t, n, m, k⟩) hv
  dsimp only at b0 b1 b2 b3 b4 b5 b6 b7 b8 b9
  obtain ⟨hN, hA⟩ := okE_parts (e := ⟨7, t, n, m, k⟩) hv
  have ht : t ≠ 0 := by rintro rfl; exact absurd (show aimB (kd 7) 0 = true from hA) (by decide)
  refine (Text_pl 7 t n m k (bs (nmL 7)) 64 w hG ruleV_7 hv ht b2 b3 (by show (Lib.join [nmL 7, kwL t] [32]).length ≤ 1000; exact join_len _ (by intro x hx; simp only [List.mem_cons, List.not_mem_nil, or_false] at hx; rcases hx with rfl | rfl <;> first | exact nm_len _ | exact kw_len _) (by simp))).mono fun e w' ⟨h1, h2⟩ => ⟨h1.trans ?_, h2⟩
  have e1 : tgW t = [kwL t] := by unfold tgW; rw [if_neg ht]
  show _ = Ending.returned (.tuple #[.string (bs (Lib.join (nmL 7 :: (numW 7 n m k ++ tgW t)) [32])), .int .i64 0])
  rw [e1]; rfl
theorem Text_8 (t n m k : Int) (w : World) (hG : G w) (hv : okE 8 t n m k = true) : Calls Tryz.prog 54 #[eV 8 t n m k] w (textPost ⟨8, t, n, m, k⟩ w) := by
  obtain ⟨b0, b1, b2, b3, b4, b5, b6, b7, b8, b9⟩ := ok_bd (e := ⟨8, t, n, m, k⟩) hv
  dsimp only at b0 b1 b2 b3 b4 b5 b6 b7 b8 b9
  obtain ⟨hN, hA⟩ := okE_parts (e := ⟨8, t, n, m, k⟩) hv
  obtain ⟨p, rfl⟩ := Int.eq_ofNat_of_zero_le b4
  obtain ⟨q, rfl⟩ := Int.eq_ofNat_of_zero_le b6
  obtain ⟨r, rfl⟩ := Int.eq_ofNat_of_zero_le b8
  have HW : ∀ w, Calls Tryz.prog 73 #[.agg #[.int .i64 (p : Int), .int .i64 (q : Int), .int .i64 (r : Int)], soV (bs (nmL 8)) 15 0 0 0 9 9 0] w (strPost [bs (tab p), bs (tab q)] w) := fun w => wr_S _ _ 0 0 0 9 9 p q r w (by omega) (by omega) (by omega) (by omega) (by omega)
  by_cases ht : t = 0
  · refine (Text_so0 8 t p q r (bs (nmL 8)) 15 0 0 0 9 9 0 [bs (tab p), bs (tab q)] (by simp) w hG ruleV_8 hv ht HW (by show (Lib.join [nmL 8, (tab p), (tab q)] [32]).length ≤ 1000; exact join_len _ (by intro x hx; simp only [List.mem_cons, List.not_mem_nil, or_false] at hx; rcases hx with rfl | rfl | rfl <;> first | exact nm_len _ | exact tab_len8 _ | exact let_len _ | exact kw_len _) (by simp))).mono fun e w' ⟨h1, h2⟩ => ⟨h1.trans ?_, h2⟩
    subst ht; rfl
  · refine (Text_so1 8 t p q r (bs (nmL 8)) 15 0 0 0 9 9 0 [bs (tab p), bs (tab q)] (by simp) w hG ruleV_8 hv ht b2 b3 HW (by show (Lib.join [nmL 8, (tab p), (tab q), kwL t] [32]).length ≤ 1000; exact join_len _ (by intro x hx; simp only [List.mem_cons, List.not_mem_nil, or_false] at hx; rcases hx with rfl | rfl | rfl | rfl <;> first | exact nm_len _ | exact tab_len8 _ | exact let_len _ | exact kw_len _) (by simp))).mono fun e w' ⟨h1, h2⟩ => ⟨h1.trans ?_, h2⟩
    have e1 : tgW t = [kwL t] := by unfold tgW; rw [if_neg ht]
    show _ = Ending.returned (.tuple #[.string (bs (Lib.join (nmL 8 :: (numW 8 p q r ++ tgW t)) [32])), .int .i64 0])
    rw [e1]; rfl
theorem Text_9 (t n m k : Int) (w : World) (hG : G w) (hv : okE 9 t n m k = true) : Calls Tryz.prog 54 #[eV 9 t n m k] w (textPost ⟨9, t, n, m, k⟩ w) := by
  obtain ⟨b0, b1, b2, b3, b4, b5, b6, b7, b8, b9⟩ := ok_bd (e := ⟨9, t, n, m, k⟩) hv
  dsimp only at b0 b1 b2 b3 b4 b5 b6 b7 b8 b9
  obtain ⟨hN, hA⟩ := okE_parts (e := ⟨9, t, n, m, k⟩) hv
  obtain ⟨p, rfl⟩ := Int.eq_ofNat_of_zero_le b4
  obtain ⟨q, rfl⟩ := Int.eq_ofNat_of_zero_le b6
  obtain ⟨r, rfl⟩ := Int.eq_ofNat_of_zero_le b8
  have HW : ∀ w, Calls Tryz.prog 73 #[.agg #[.int .i64 (p : Int), .int .i64 (q : Int), .int .i64 (r : Int)], raV (bs (nmL 9)) 15 1 0 0 9 0 0] w (strPost [bs (tab p)] w) := fun w => wr_A _ _ 1 0 0 9 p q r w (by omega) (by omega) (by omega) (by omega)
  by_cases ht : t = 0
  · refine (Text_ra0 9 t p q r (bs (nmL 9)) 15 1 0 0 9 0 0 [bs (tab p)] (by simp) w hG ruleV_9 hv ht HW (by show (Lib.join [nmL 9, (tab p)] [32]).length ≤ 1000; exact join_len _ (by intro x hx; simp only [List.mem_cons, List.not_mem_nil, or_false] at hx; rcases hx with rfl | rfl <;> first | exact nm_len _ | exact tab_len8 _ | exact let_len _ | exact kw_len _) (by simp))).mono fun e w' ⟨h1, h2⟩ => ⟨h1.trans ?_, h2⟩
    subst ht; rfl
  · refine (Text_ra1 9 t p q r (bs (nmL 9)) 15 1 0 0 9 0 0 [bs (tab p)] (by simp) w hG ruleV_9 hv ht b2 b3 HW (by show (Lib.join [nmL 9, (tab p), kwL t] [32]).length ≤ 1000; exact join_len _ (by intro x hx; simp only [List.mem_cons, List.not_mem_nil, or_false] at hx; rcases hx with rfl | rfl | rfl <;> first | exact nm_len _ | exact tab_len8 _ | exact let_len _ | exact kw_len _) (by simp))).mono fun e w' ⟨h1, h2⟩ => ⟨h1.trans ?_, h2⟩
    have e1 : tgW t = [kwL t] := by unfold tgW; rw [if_neg ht]
    show _ = Ending.returned (.tuple #[.string (bs (Lib.join (nmL 9 :: (numW 9 p q r ++ tgW t)) [32])), .int .i64 0])
    rw [e1]; rfl
theorem Text_10 (t n m k : Int) (w : World) (hG : G w) (hv : okE 10 t n m k = true) : Calls Tryz.prog 54 #[eV 10 t n m k] w (textPost ⟨10, t, n, m, k⟩ w) := by
  obtain ⟨b0, b1, b2, b3, b4, b5, b6, b7, b8, b9⟩ := ok_bd (e := ⟨10, t, n, m, k⟩) hv
  dsimp only at b0 b1 b2 b3 b4 b5 b6 b7 b8 b9
  obtain ⟨hN, hA⟩ := okE_parts (e := ⟨10, t, n, m, k⟩) hv
  obtain ⟨p, rfl⟩ := Int.eq_ofNat_of_zero_le b4
  obtain ⟨q, rfl⟩ := Int.eq_ofNat_of_zero_le b6
  obtain ⟨r, rfl⟩ := Int.eq_ofNat_of_zero_le b8
  have HW : ∀ w, Calls Tryz.prog 73 #[.agg #[.int .i64 (p : Int), .int .i64 (q : Int), .int .i64 (r : Int)], raV (bs (nmL 10)) 1 0 1 0 9 9 0] w (strPost [bs (tab p), bs (tab q)] w) := fun w => wr_B _ _ 0 1 0 9 9 p q r w (by omega) (by omega) (by omega) (by omega) (by omega)
  by_cases ht : t = 0
  · refine (Text_ra0 10 t p q r (bs (nmL 10)) 1 0 1 0 9 9 0 [bs (tab p), bs (tab q)] (by simp) w hG ruleV_10 hv ht HW (by show (Lib.join [nmL 10, (tab p), (tab q)] [32]).length ≤ 1000; exact join_len _ (by intro x hx; simp only [List.mem_cons, List.not_mem_nil, or_false] at hx; rcases hx with rfl | rfl | rfl <;> first | exact nm_len _ | exact tab_len8 _ | exact let_len _ | exact kw_len _) (by simp))).mono fun e w' ⟨h1, h2⟩ => ⟨h1.trans ?_, h2⟩
    subst ht; rfl
  · refine (Text_ra1 10 t p q r (bs (nmL 10)) 1 0 1 0 9 9 0 [bs (tab p), bs (tab q)] (by simp) w hG ruleV_10 hv ht b2 b3 HW (by show (Lib.join [nmL 10, (tab p), (tab q), kwL t] [32]).length ≤ 1000; exact join_len _ (by intro x hx; simp only [List.mem_cons, List.not_mem_nil, or_false] at hx; rcases hx with rfl | rfl | rfl | rfl <;> first | exact nm_len _ | exact tab_len8 _ | exact let_len _ | exact kw_len _) (by simp))).mono fun e w' ⟨h1, h2⟩ => ⟨h1.trans ?_, h2⟩
    have e1 : tgW t = [kwL t] := by unfold tgW; rw [if_neg ht]
    show _ = Ending.returned (.tuple #[.string (bs (Lib.join (nmL 10 :: (numW 10 p q r ++ tgW t)) [32])), .int .i64 0])
    rw [e1]; rfl
theorem Text_11 (t n m k : Int) (w : World) (hG : G w) (hv : okE 11 t n m k = true) : Calls Tryz.prog 54 #[eV 11 t n m k] w (textPost ⟨11, t, n, m, k⟩ w) := by
  obtain ⟨b0, b1, b2, b3, b4, b5, b6, b7, b8, b9⟩ := ok_bd (e := ⟨11, t, n, m, k⟩) hv
  dsimp only at b0 b1 b2 b3 b4 b5 b6 b7 b8 b9
  obtain ⟨hN, hA⟩ := okE_parts (e := ⟨11, t, n, m, k⟩) hv
  have ht : t ≠ 0 := by rintro rfl; exact absurd (show aimB (kd 11) 0 = true from hA) (by decide)
  refine (Text_pl 11 t n m k (bs (nmL 11)) 14 w hG ruleV_11 hv ht b2 b3 (by show (Lib.join [nmL 11, kwL t] [32]).length ≤ 1000; exact join_len _ (by intro x hx; simp only [List.mem_cons, List.not_mem_nil, or_false] at hx; rcases hx with rfl | rfl <;> first | exact nm_len _ | exact kw_len _) (by simp))).mono fun e w' ⟨h1, h2⟩ => ⟨h1.trans ?_, h2⟩
  have e1 : tgW t = [kwL t] := by unfold tgW; rw [if_neg ht]
  show _ = Ending.returned (.tuple #[.string (bs (Lib.join (nmL 11 :: (numW 11 n m k ++ tgW t)) [32])), .int .i64 0])
  rw [e1]; rfl
theorem Text_12 (t n m k : Int) (w : World) (hG : G w) (hv : okE 12 t n m k = true) : Calls Tryz.prog 54 #[eV 12 t n m k] w (textPost ⟨12, t, n, m, k⟩ w) := by
  obtain ⟨b0, b1, b2, b3, b4, b5, b6, b7, b8, b9⟩ := ok_bd (e := ⟨12, t, n, m, k⟩) hv
  dsimp only at b0 b1 b2 b3 b4 b5 b6 b7 b8 b9
  obtain ⟨hN, hA⟩ := okE_parts (e := ⟨12, t, n, m, k⟩) hv
  obtain ⟨p, rfl⟩ := Int.eq_ofNat_of_zero_le b4
  obtain ⟨q, rfl⟩ := Int.eq_ofNat_of_zero_le b6
  obtain ⟨r, rfl⟩ := Int.eq_ofNat_of_zero_le b8
  have HW : ∀ w, Calls Tryz.prog 73 #[.agg #[.int .i64 (p : Int), .int .i64 (q : Int), .int .i64 (r : Int)], raV (bs (nmL 12)) 1 1 0 0 9 0 3] w (strPost [bs (tab p), bs (letW r)] w) := fun w => wr_C _ _ 1 0 0 9 3 p q r w (by omega) (by omega) (by omega) (by omega) (by omega)
  by_cases ht : t = 0
  · refine (Text_ra0 12 t p q r (bs (nmL 12)) 1 1 0 0 9 0 3 [bs (tab p), bs (letW r)] (by simp) w hG ruleV_12 hv ht HW (by show (Lib.join [nmL 12, (tab p), (letW r)] [32]).length ≤ 1000; exact join_len _ (by intro x hx; simp only [List.mem_cons, List.not_mem_nil, or_false] at hx; rcases hx with rfl | rfl | rfl <;> first | exact nm_len _ | exact tab_len8 _ | exact let_len _ | exact kw_len _) (by simp))).mono fun e w' ⟨h1, h2⟩ => ⟨h1.trans ?_, h2⟩
    subst ht; rfl
  · refine (Text_ra1 12 t p q r (bs (nmL 12)) 1 1 0 0 9 0 3 [bs (tab p), bs (letW r)] (by simp) w hG ruleV_12 hv ht b2 b3 HW (by show (Lib.join [nmL 12, (tab p), (letW r), kwL t] [32]).length ≤ 1000; exact join_len _ (by intro x hx; simp only [List.mem_cons, List.not_mem_nil, or_false] at hx; rcases hx with rfl | rfl | rfl | rfl <;> first | exact nm_len _ | exact tab_len8 _ | exact let_len _ | exact kw_len _) (by simp))).mono fun e w' ⟨h1, h2⟩ => ⟨h1.trans ?_, h2⟩
    have e1 : tgW t = [kwL t] := by unfold tgW; rw [if_neg ht]
    show _ = Ending.returned (.tuple #[.string (bs (Lib.join (nmL 12 :: (numW 12 p q r ++ tgW t)) [32])), .int .i64 0])
    rw [e1]; rfl
theorem Text_yes (e : Ef) (w : World) (hG : G w) (hv : e.ok = true) : Calls Tryz.prog 54 #[e.v] w (textPost e w) := by
  have hb := ok_bd hv
  obtain ⟨c, t, n, m, k⟩ := e
  have h0 : 1 ≤ c := hb.c0
  have h1 : c ≤ 12 := hb.c1
  rcases codesR c h0 h1 with rfl | rfl | rfl | rfl | rfl | rfl | rfl | rfl | rfl | rfl | rfl | rfl
  · exact Text_1 t n m k w hG hv
  · exact Text_2 t n m k w hG hv
  · exact Text_3 t n m k w hG hv
  · exact Text_4 t n m k w hG hv
  · exact Text_5 t n m k w hG hv
  · exact Text_6 t n m k w hG hv
  · exact Text_7 t n m k w hG hv
  · exact Text_8 t n m k w hG hv
  · exact Text_9 t n m k w hG hv
  · exact Text_10 t n m k w hG hv
  · exact Text_11 t n m k w hG hv
  · exact Text_12 t n m k w hG hv
theorem words_len8 (e : Ef) : ∀ x ∈ wordsE e, x.length ≤ 8 := by
  intro x hx
  unfold wordsE at hx
  rw [List.mem_cons, List.mem_append] at hx
  rcases hx with rfl | hx | hx
  · exact nm_len _
  · unfold numW at hx
    split at hx
    · simp only [List.mem_cons, List.not_mem_nil, or_false] at hx; subst hx; exact tab_len8 _
    · split at hx
      · simp only [List.mem_cons, List.not_mem_nil, or_false] at hx; rcases hx with rfl | rfl <;> exact tab_len8 _
      · split at hx
        · simp only [List.mem_cons, List.not_mem_nil, or_false] at hx; rcases hx with rfl | rfl
          · exact tab_len8 _
          · exact let_len _
        · cases hx
  · unfold tgW at hx
    split at hx
    · cases hx
    · simp only [List.mem_cons, List.not_mem_nil, or_false] at hx; subst hx; exact kw_len _
theorem words_len (e : Ef) : (wordsE e).length ≤ 4 := by
  unfold wordsE numW tgW
  (repeat' split) <;> simp
theorem textE_len (e : Ef) : (textE e).length ≤ 900 := by
  have h8 := words_len8 e
  have h4 := words_len e
  unfold textE
  generalize wordsE e = l at *
  cases l with
  | nil => simp [Lib.join_nil]
  | cons a r =>
    rw [Lib.join_cons, List.length_append]
    have := tail_len r (fun x hx => h8 x (by simp [hx]))
    have := h8 a (by simp)
    simp only [List.length_cons] at h4
    omega
end Go.Proofs.YtlhnnjllbcglcaaGreatDoor.efFn
