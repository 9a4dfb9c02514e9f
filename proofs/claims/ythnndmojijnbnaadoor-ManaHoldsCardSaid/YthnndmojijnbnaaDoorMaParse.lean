/- What package mana's Parse returns. -/
import Derived.Test.YthnndmojijnbnaaDoorMaPFn
namespace Go.Proofs.YthnndmojijnbnaaDoor.maFn
open Go.ChangeShapes Go.WideShapes Go.ChangeAt Go.RowKit drMem
set_option linter.unusedVariables false

theorem slice_pre (s : ByteArray) : s.extract 0 (s.size - (bs (rst s.data.toList)).size) = bs (pre s.data.toList) := by
  have h := pre_len s.data.toList
  have h2 : s.size = s.data.toList.length := Lib.size_eq s
  rw [bs_size]
  apply ByteArray.ext
  rw [ByteArray.data_extract]
  apply Array.ext'
  rw [show (bs (pre s.data.toList)).data.toList = pre s.data.toList from rfl]
  rw [Array.toList_extract]
  rw [List.extract_eq_take_drop, List.drop_zero, show s.size - (rst s.data.toList).length - 0 = (pre s.data.toList).length by omega]
  conv => lhs; rw [← pre_rst s.data.toList]
  rw [List.take_append_of_le_length (by rw [pre_rst]; exact Nat.le_refl _)]
  rw [pre_rst]
  exact List.take_length
theorem str_inj {a b : ByteArray} (h : a.toList = b.toList) : a = b := by
  rw [ByteArray.toList_eq, ByteArray.toList_eq] at h
  exact ByteArray.ext (Array.ext' h)
theorem str_ne {a b : ByteArray} (h : a ≠ b) : (!(a.toList == b.toList)) = true := by
  have : a.toList ≠ b.toList := fun e => h (str_inj e)
  simpa using this
theorem str_eq {a b : ByteArray} (h : a = b) : (a.toList == b.toList) = true := by subst h; simp
theorem size_rst (s : ByteArray) : (bs (rst s.data.toList)).size ≤ s.size := by
  have h := pre_len s.data.toList
  have h2 : s.size = s.data.toList.length := Lib.size_eq s
  rw [bs_size]; omega



set_option maxRecDepth 100000 in
set_option maxHeartbeats 4000000 in
theorem Parse_bad (s : ByteArray) (w : World) (hs : s.size ≤ 140737488355328) (hE : E w) (h : okC (rdE s.data.toList) (rdT s.data.toList) (rdL s.data.toList) (rdS s.data.toList) (fr (pre s.data.toList)) = false) :
    Calls Tryd.prog 37 #[.string s] w fun e w' => e = .returned (.tuple #[.agg #[.int .i64 0, .int .i64 0, .int .i64 0, .int .i64 0, .int .i64 0], .int .i64 6]) ∧ Below w.heap.size w w' := by
  have hsl := slice_pre s
  have hsz := size_rst s
  obtain ⟨hf0, hf1⟩ := fr_bd (pre s.data.toList)
  unfold rdE rdT rdL rdS at *
  generalize hr : rst s.data.toList = R at *
  generalize hf : fr (pre s.data.toList) = f at *
  have HF := Lib.hid hf
  have HE := Lib.hid hE
  clear hE hf
  go_enter Tryd.func37, Tryd.ntmps37
  go_wp2_with fail
  refine (Trim_any _ _).mono ?_; rintro e w1 ⟨rfl, hb1⟩
  have R1 := (new0 w 25 [.int .i64 0, .int .i64 0, .int .i64 0, .int .i64 0, .int .i64 0]).below hb1 (by simp)
  have B1 : Below w.heap.size w w1 := next (by go_grown) hb1
  clear hb1
  rw [hr]
  go_wp2_with fail
  refine (Atoi_any _ _ rfl _ (by have := pre_len s.data.toList; have := Lib.size_eq s; omega) (HE.out.below B1)).mono ?_; rintro e w2 ⟨ev, rfl, hb2⟩
  rw [HF.out]
  have R2 := R1.below hb2 R1.lt
  have B2 : Below w.heap.size w w2 := next B1 hb2
  clear hb2 R1 hsl
  obtain ⟨u0, u1, u2, u3, u4, u5⟩ := five R2
  have z2 : w.heap.size < w2.heap.size := R2.lt
  go_wp2_with fail
  refine wp_loop_rounds 5 ?_
  rw [rounds_succ]
  go_wp2_with (go_at_call 45; refine (cnt_at R _ 69 _ rfl).mono ?_; rintro e w' ⟨rfl, rfl⟩)
  rw [rounds_succ]
  go_wp2_with (go_at_call 45; refine (cnt_at R _ 84 _ rfl).mono ?_; rintro e w' ⟨rfl, rfl⟩)
  rw [rounds_succ]
  go_wp2_with (go_at_call 45; refine (cnt_at R _ 76 _ rfl).mono ?_; rintro e w' ⟨rfl, rfl⟩)
  rw [rounds_succ]
  go_wp2_with (go_at_call 45; refine (cnt_at R _ 83 _ rfl).mono ?_; rintro e w' ⟨rfl, rfl⟩)
  rw [rounds_succ]
  go_wp2_with fail
  refine (Text_no _ _ _ _ _ _ h).mono ?_; rintro e w3 ⟨rfl, hb3⟩
  have z3 : w.heap.size < w3.heap.size := by have := hb3.size; simp at this; omega
  have R3 := (R2.alloc _).below hb3 (by simp; omega)
  have C3 := (new0 w2 25 [.int .i64 (R.count 69 : Nat), .int .i64 (R.count 84 : Nat), .int .i64 (R.count 76 : Nat), .int .i64 (R.count 83 : Nat), .int .i64 f]).below hb3 (by simp)
  have B3 : Below w.heap.size w w3 := next (by go_grown) hb3
  clear hb3 u0 u1 u2 u3 u4 u5 R2
  obtain ⟨u0, u1, u2, u3, u4, u5⟩ := five R3
  obtain ⟨v0, v1, v2, v3, v4, v5⟩ := five C3
  go_wp2_with fail
  exact bodyPost_ret (v := .tuple #[.agg #[.int .i64 0, .int .i64 0, .int .i64 0, .int .i64 0, .int .i64 0], .int .i64 6]) (by simp [results, Tryd.results37, go_sem, u0, u1, u2, u3, u4]) rfl ⟨rfl, by go_grown⟩


set_option maxRecDepth 100000 in
set_option maxHeartbeats 4000000 in
theorem Parse_ne (s : ByteArray) (w : World) (hs : s.size ≤ 140737488355328) (hE : E w) (x : Nat) (hx : fr (pre s.data.toList) = x) (h : okC (rdE s.data.toList) (rdT s.data.toList) (rdL s.data.toList) (rdS s.data.toList) x = true) (ht : bs (textL (rdE s.data.toList) (rdT s.data.toList) (rdL s.data.toList) (rdS s.data.toList) x) ≠ s) :
    Calls Tryd.prog 37 #[.string s] w fun e w' => e = .returned (.tuple #[.agg #[.int .i64 0, .int .i64 0, .int .i64 0, .int .i64 0, .int .i64 0], .int .i64 6]) ∧ Below w.heap.size w w' := by
  have hsl := slice_pre s
  have hsz := size_rst s
  obtain ⟨hf0, hf1⟩ := fr_bd (pre s.data.toList)
  unfold rdE rdT rdL rdS at *
  generalize hr : rst s.data.toList = R at *
  generalize hf : fr (pre s.data.toList) = f at *
  have HF := Lib.hid hf
  have HE := Lib.hid hE
  clear hE hf
  go_enter Tryd.func37, Tryd.ntmps37
  go_wp2_with fail
  refine (Trim_any _ _).mono ?_; rintro e w1 ⟨rfl, hb1⟩
  have R1 := (new0 w 25 [.int .i64 0, .int .i64 0, .int .i64 0, .int .i64 0, .int .i64 0]).below hb1 (by simp)
  have B1 : Below w.heap.size w w1 := next (by go_grown) hb1
  clear hb1
  rw [hr]
  go_wp2_with fail
  refine (Atoi_any _ _ rfl _ (by have := pre_len s.data.toList; have := Lib.size_eq s; omega) (HE.out.below B1)).mono ?_; rintro e w2 ⟨ev, rfl, hb2⟩
  rw [HF.out]
  have R2 := R1.below hb2 R1.lt
  have B2 : Below w.heap.size w w2 := next B1 hb2
  clear hb2 R1 hsl
  obtain ⟨u0, u1, u2, u3, u4, u5⟩ := five R2
  have z2 : w.heap.size < w2.heap.size := R2.lt
  go_wp2_with fail
  refine wp_loop_rounds 5 ?_
  rw [rounds_succ]
  go_wp2_with (go_at_call 45; refine (cnt_at R _ 69 _ rfl).mono ?_; rintro e w' ⟨rfl, rfl⟩)
  rw [rounds_succ]
  go_wp2_with (go_at_call 45; refine (cnt_at R _ 84 _ rfl).mono ?_; rintro e w' ⟨rfl, rfl⟩)
  rw [rounds_succ]
  go_wp2_with (go_at_call 45; refine (cnt_at R _ 76 _ rfl).mono ?_; rintro e w' ⟨rfl, rfl⟩)
  rw [rounds_succ]
  go_wp2_with (go_at_call 45; refine (cnt_at R _ 83 _ rfl).mono ?_; rintro e w' ⟨rfl, rfl⟩)
  rw [rounds_succ]
  go_wp2_with fail
  subst hx
  refine (Text_yes _ _ _ _ _ _ h).mono ?_; rintro e w3 ⟨rfl, hb3⟩
  generalize bs (textL (R.count 69) (R.count 84) (R.count 76) (R.count 83) x) = T at *
  have hT := str_ne ht
  have z3 : w.heap.size < w3.heap.size := by have := hb3.size; simp at this; omega
  have R3 := (R2.alloc _).below hb3 (by simp; omega)
  have C3 := (new0 w2 25 [.int .i64 (R.count 69 : Nat), .int .i64 (R.count 84 : Nat), .int .i64 (R.count 76 : Nat), .int .i64 (R.count 83 : Nat), .int .i64 x]).below hb3 (by simp)
  have B3 : Below w.heap.size w w3 := next (by go_grown) hb3
  clear hb3 u0 u1 u2 u3 u4 u5 R2
  obtain ⟨u0, u1, u2, u3, u4, u5⟩ := five R3
  obtain ⟨v0, v1, v2, v3, v4, v5⟩ := five C3
  clear ht
  go_wp2_with fail
  exact bodyPost_ret (v := .tuple #[.agg #[.int .i64 0, .int .i64 0, .int .i64 0, .int .i64 0, .int .i64 0], .int .i64 6]) (by simp [results, Tryd.results37, go_sem, u0, u1, u2, u3, u4]) rfl ⟨rfl, by go_grown⟩


set_option maxRecDepth 100000 in
set_option maxHeartbeats 4000000 in
theorem Parse_eq (s : ByteArray) (w : World) (hs : s.size ≤ 140737488355328) (hE : E w) (x : Nat) (hx : fr (pre s.data.toList) = x) (h : okC (rdE s.data.toList) (rdT s.data.toList) (rdL s.data.toList) (rdS s.data.toList) x = true) (ht : bs (textL (rdE s.data.toList) (rdT s.data.toList) (rdL s.data.toList) (rdS s.data.toList) x) = s) :
    Calls Tryd.prog 37 #[.string s] w fun e w' => e = .returned (.tuple #[.agg #[.int .i64 (rdE s.data.toList : Nat), .int .i64 (rdT s.data.toList : Nat), .int .i64 (rdL s.data.toList : Nat), .int .i64 (rdS s.data.toList : Nat), .int .i64 (x : Nat)], .int .i64 0]) ∧ Below w.heap.size w w' := by
  have hsl := slice_pre s
  have hsz := size_rst s
  obtain ⟨hf0, hf1⟩ := fr_bd (pre s.data.toList)
  unfold rdE rdT rdL rdS at *
  generalize hr : rst s.data.toList = R at *
  generalize hf : fr (pre s.data.toList) = f at *
  have HF := Lib.hid hf
  have HE := Lib.hid hE
  clear hE hf
  go_enter Tryd.func37, Tryd.ntmps37
  go_wp2_with fail
  refine (Trim_any _ _).mono ?_; rintro e w1 ⟨rfl, hb1⟩
  have R1 := (new0 w 25 [.int .i64 0, .int .i64 0, .int .i64 0, .int .i64 0, .int .i64 0]).below hb1 (by simp)
  have B1 : Below w.heap.size w w1 := next (by go_grown) hb1
  clear hb1
  rw [hr]
  go_wp2_with fail
  refine (Atoi_any _ _ rfl _ (by have := pre_len s.data.toList; have := Lib.size_eq s; omega) (HE.out.below B1)).mono ?_; rintro e w2 ⟨ev, rfl, hb2⟩
  rw [HF.out]
  have R2 := R1.below hb2 R1.lt
  have B2 : Below w.heap.size w w2 := next B1 hb2
  clear hb2 R1 hsl
  obtain ⟨u0, u1, u2, u3, u4, u5⟩ := five R2
  have z2 : w.heap.size < w2.heap.size := R2.lt
  go_wp2_with fail
  refine wp_loop_rounds 5 ?_
  rw [rounds_succ]
  go_wp2_with (go_at_call 45; refine (cnt_at R _ 69 _ rfl).mono ?_; rintro e w' ⟨rfl, rfl⟩)
  rw [rounds_succ]
  go_wp2_with (go_at_call 45; refine (cnt_at R _ 84 _ rfl).mono ?_; rintro e w' ⟨rfl, rfl⟩)
  rw [rounds_succ]
  go_wp2_with (go_at_call 45; refine (cnt_at R _ 76 _ rfl).mono ?_; rintro e w' ⟨rfl, rfl⟩)
  rw [rounds_succ]
  go_wp2_with (go_at_call 45; refine (cnt_at R _ 83 _ rfl).mono ?_; rintro e w' ⟨rfl, rfl⟩)
  rw [rounds_succ]
  go_wp2_with fail
  subst hx
  have HT := Lib.hid ht
  clear ht
  refine (Text_yes _ _ _ _ _ _ h).mono ?_; rintro e w3 ⟨rfl, hb3⟩
  rw [HT.out]
  have z3 : w.heap.size < w3.heap.size := by have := hb3.size; simp at this; omega
  have R3 := (R2.alloc _).below hb3 (by simp; omega)
  have C3 := (new0 w2 25 [.int .i64 (R.count 69 : Nat), .int .i64 (R.count 84 : Nat), .int .i64 (R.count 76 : Nat), .int .i64 (R.count 83 : Nat), .int .i64 x]).below hb3 (by simp)
  have B3 : Below w.heap.size w w3 := next (by go_grown) hb3
  clear hb3 u0 u1 u2 u3 u4 u5 R2
  obtain ⟨u0, u1, u2, u3, u4, u5⟩ := five R3
  obtain ⟨v0, v1, v2, v3, v4, v5⟩ := five C3
  go_wp2_with fail
  exact bodyPost_ret (v := .tuple #[.agg #[.int .i64 (R.count 69 : Nat), .int .i64 (R.count 84 : Nat), .int .i64 (R.count 76 : Nat), .int .i64 (R.count 83 : Nat), .int .i64 (x : Nat)], .int .i64 0]) (by simp [results, Tryd.results37, go_sem, u0, u1, u2, u3, u4]) rfl ⟨rfl, by go_grown⟩

end Go.Proofs.YthnndmojijnbnaaDoor.maFn
