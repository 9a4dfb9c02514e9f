/- What package mana's Text returns. -/
import Derived.Test.YtlhnnjllbcglcaaGreatDoorCaMana
import Derived.Test.YtlhnnjllbcglcaaGreatDoorDrMem
import Derived.Test.YtlhnnjllbcglcaaGreatDoorShelf
import Derived.Laws.Concat
namespace Go.Proofs.YtlhnnjllbcglcaaGreatDoor.maFn
open Go.ChangeShapes Go.WideShapes Go.ChangeAt Go.RowKit drMem
set_option linter.unusedVariables false

theorem new0 (w : World) (t : TypeId) (cs : List Value) : has (w.alloc (.cells cs.toArray t)) w.heap.size t cs := has.new w t cs
theorem five {w : World} {g : Nat} {t : TypeId} {a b c d e : Value} (h : has w g t [a, b, c, d, e]) :
    w.cell? ⟨g, 0, none⟩ = some a ∧ w.cell? ⟨g, 1, none⟩ = some b ∧ w.cell? ⟨g, 2, none⟩ = some c ∧ w.cell? ⟨g, 3, none⟩ = some d ∧ w.cell? ⟨g, 4, none⟩ = some e ∧ ∀ i, w.frozen? ⟨g, i, none⟩ = false :=
  ⟨h.cell 0, h.cell 1, h.cell 2, h.cell 3, h.cell 4, h.free⟩

/- strings of bytes -/
def bs (l : List UInt8) : ByteArray := ⟨l.toArray⟩
theorem bs_app (a b : List UInt8) : bs a ++ bs b = bs (a ++ b) := ByteArray.mk_append_mk a b
theorem bs_size (l : List UInt8) : (bs l).size = l.length := by simp [bs, ByteArray.size]
theorem bs_list (l : List UInt8) : (bs l).data.toList = l := rfl
theorem bs_data (s : ByteArray) : bs s.data.toList = s := rfl
theorem bs_inj {a b : List UInt8} (h : bs a = bs b) : a = b := by rw [← bs_list a, h, bs_list]
def rp (k : UInt8) (n : Nat) : ByteArray := bs (List.replicate n k)
theorem rp_size (k : UInt8) (n : Nat) : (rp k n).size = n := by simp [rp, bs_size]
theorem repeatL_one' (k : UInt8) : ∀ n, Lib.repeatL [k] n = List.replicate n k
  | 0 => rfl
  | n + 1 => by rw [Lib.repeatL, repeatL_one' k n]; rfl
theorem rep_at (x : ByteArray) (k : UInt8) (n : Nat) (w : World) (hx : x = ⟨#[k]⟩) (hn : n ≤ 100) :
    Calls Tryz.prog 68 #[.string x, .int .i64 (n : Int)] w fun e w' => e = .returned (.string (rp k n)) ∧ Below w.heap.size w w' := by
  subst hx
  have h1 : (ByteArray.mk #[k]).size = 1 := rfl
  exact (Tryz.strings_Repeat ⟨#[k]⟩ n w (by omega) (by rw [h1]; omega)).mono fun e w' ⟨h2, h3⟩ => ⟨h2.trans (by rw [show (ByteArray.mk #[k]).data.toList = [k] from rfl, repeatL_one']; rfl), h3⟩

/- the number ahead of the letters -/
def numL (p q r s x : Nat) : List UInt8 := if x ≠ 0 ∨ p + q + r + s = 0 then Lib.decDigits x else []
def letL (p q r s : Nat) : List UInt8 := List.replicate p 69 ++ (List.replicate q 84 ++ (List.replicate r 76 ++ List.replicate s 83))
def textL (p q r s x : Nat) : List UInt8 := numL p q r s x ++ letL p q r s
theorem text_eq (p q r s x : Nat) (n : List UInt8) (h : numL p q r s x = n) : (((bs n ++ rp 69 p) ++ rp 84 q) ++ rp 76 r) ++ rp 83 s = bs (textL p q r s x) := by
  subst h
  simp only [rp, bs_app, textL, letL, List.append_assoc]
theorem dec_len (x : Nat) (h : x ≤ 20) : (Lib.decDigits x).length ≤ 2 := by
  unfold Lib.decDigits
  split
  · simp
  · unfold Lib.decDigits
    rw [dif_pos (by omega)]; simp

theorem cat_run (a b : ByteArray) (h : a.size + b.size ≤ 1000) : ∀ w, (Op.stringOp .add a b).run Tryz.prog w = .ok (.string (a ++ b)) w := fun w => run_string_add_sum w a b (by omega)

theorem ret_se {a b : ByteArray} {e : Int} (h : a = b) : Ending.returned (.tuple #[.string a, .int .i64 e]) = .returned (.tuple #[.string b, .int .i64 e]) := by rw [h]
theorem Text_no (p q r s x : Int) (w : World) (h : okC p q r s x = false) :
    Calls Tryz.prog 51 #[.agg #[.int .i64 p, .int .i64 q, .int .i64 r, .int .i64 s, .int .i64 x]] w fun e w' => e = .returned (.tuple #[.string ⟨#[]⟩, .int .i64 2]) ∧ Below w.heap.size w w' := by
  have d1 : (!okC p q r s x) = true := by rw [h]; rfl
  go_enter Tryz.func51, Tryz.ntmps51
  go_wp2_with fail
  refine (ValidCost_any _ _ _ _ _ _).mono ?_; rintro e w1 ⟨rfl, hb1⟩
  have B1 : Below w.heap.size w w1 := next (by go_grown) hb1
  go_wp2_with fail
  go_ret2
  exact ⟨rfl, B1⟩

 
set_option maxRecDepth 100000 in
set_option maxHeartbeats 2000000 in
theorem Text_num (p q r s x : Nat) (w : World) (h : okC p q r s x = true) (hx : 0 < x) :
    Calls Tryz.prog 51 #[.agg #[.int .i64 (p : Nat), .int .i64 (q : Nat), .int .i64 (r : Nat), .int .i64 (s : Nat), .int .i64 (x : Nat)]] w fun e w' => e = .returned (.tuple #[.string (bs (textL p q r s x)), .int .i64 0]) ∧ Below w.heap.size w w' := by
  have d1 : (!okC p q r s x) = false := by rw [h]; rfl
  have HK := Lib.hid h
  obtain ⟨⟨⟨p0, p1⟩, ⟨q0, q1⟩, ⟨r0, r1⟩, ⟨s0, s1⟩⟩, x0, x1⟩ := (okC_iff _ _ _ _ _).1 h
  clear h p0 q0 r0 s0 x0
  have i0 := ix0 p q r s; have i1 := ix1 p q r s; have i2 := ix2 p q r s; have i3 := ix3 p q r s
  have hne : ((x : Int) != 0) = true := by rw [bne_iff_ne]; omega
  obtain ⟨n, hn⟩ : ∃ n, numL p q r s x = n := ⟨_, rfl⟩
  have hd : Lib.decDigits x = n := by rw [← hn]; unfold numL; rw [if_pos (Or.inl (by omega))]
  have HN := Lib.hid hn
  have HI := Tryz.strconv_Itoa_small x (by omega)
  rw [hd] at HI
  clear hd hn hx
  go_enter Tryz.func51, Tryz.ntmps51
  go_wp2_with fail
  refine (ValidCost_any _ _ _ _ _ _).mono ?_; rintro e w1 ⟨rfl, hb1⟩
  have K1 := (new0 w 26 [.int .i64 (p : Nat), .int .i64 (q : Nat), .int .i64 (r : Nat), .int .i64 (s : Nat), .int .i64 (x : Nat)]).below hb1 (by simp)
  have B1 : Below w.heap.size w w1 := next (by go_grown) hb1
  clear hb1
  obtain ⟨u0, u1, u2, u3, u4, u5⟩ := five K1
  go_wp2_with fail
  refine (HI _).mono ?_; rintro e w3 ⟨rfl, rfl⟩
  have B3 := B1
  change Below w.heap.size w w3 at B3
  rw [show (ByteArray.mk n.toArray) = bs n from rfl]
  go_wp2_with fail

  have sA : (bs n).size ≤ 2 := by rw [bs_size, ← HN.out]; unfold numL; split; (exact dec_len x (by omega)); simp
  generalize hA : bs n = A at *
  have HA := Lib.hid hA
  clear hA
  have s0 := rp_size 69 p; have s1 := rp_size 84 q; have s2 := rp_size 76 r; have s3 := rp_size 83 s
  have b0 := cat_run A (rp 69 p) (by omega)
  have b1 := cat_run (A ++ rp 69 p) (rp 84 q) (by rw [ByteArray.size_append]; omega)
  have b2 := cat_run (A ++ rp 69 p ++ rp 84 q) (rp 76 r) (by rw [ByteArray.size_append, ByteArray.size_append]; omega)
  have b3 := cat_run (A ++ rp 69 p ++ rp 84 q ++ rp 76 r) (rp 83 s) (by rw [ByteArray.size_append, ByteArray.size_append, ByteArray.size_append]; omega)
  clear s0 s1 s2 s3 sA
  refine wp_loop_rounds 5 ?_
  rw [rounds_succ]
  go_wp2_with (go_at_call 68; refine (rep_at _ 69 _ _ rfl (by omega)).mono ?_; rintro e w4 ⟨rfl, hb4⟩; have B4 := next B3 hb4; clear hb4)
  rw [rounds_succ]
  go_wp2_with (go_at_call 68; refine (rep_at _ 84 _ _ rfl (by omega)).mono ?_; rintro e w5 ⟨rfl, hb5⟩; have B5 := next B4 hb5; clear hb5)
  rw [rounds_succ]
  go_wp2_with (go_at_call 68; refine (rep_at _ 76 _ _ rfl (by omega)).mono ?_; rintro e w6 ⟨rfl, hb6⟩; have B6 := next B5 hb6; clear hb6)
  rw [rounds_succ]
  go_wp2_with (go_at_call 68; refine (rep_at _ 83 _ _ rfl (by omega)).mono ?_; rintro e w7 ⟨rfl, hb7⟩; have B7 := next B6 hb7; clear hb7)
  rw [rounds_succ]
  go_wp2_with fail
  go_ret2
  exact ⟨ret_se (by rw [← HA.out, text_eq p q r s x n HN.out]), B7⟩

 
set_option maxRecDepth 100000 in
set_option maxHeartbeats 2000000 in
theorem Text_zero (p q r s : Nat) (w : World) (h : okC p q r s 0 = true) (hx : p + q + r + s = 0) :
    Calls Tryz.prog 51 #[.agg #[.int .i64 (p : Nat), .int .i64 (q : Nat), .int .i64 (r : Nat), .int .i64 (s : Nat), .int .i64 0]] w fun e w' => e = .returned (.tuple #[.string (bs (textL p q r s 0)), .int .i64 0]) ∧ Below w.heap.size w w' := by
  have d1 : (!okC p q r s 0) = false := by rw [h]; rfl
  have HK := Lib.hid h
  obtain ⟨⟨⟨p0, p1⟩, ⟨q0, q1⟩, ⟨r0, r1⟩, ⟨s0, s1⟩⟩, x0, x1⟩ := (okC_iff _ _ _ _ _).1 h
  clear h p0 q0 r0 s0 x0
  have i0 := ix0 p q r s; have i1 := ix1 p q r s; have i2 := ix2 p q r s; have i3 := ix3 p q r s
  obtain ⟨n, hn⟩ : ∃ n, numL p q r s 0 = n := ⟨_, rfl⟩
  have hd : Lib.decDigits 0 = n := by rw [← hn]; unfold numL; rw [if_pos (Or.inr hx)]
  have HN := Lib.hid hn
  have HI := Tryz.strconv_Itoa_small 0 (by omega)
  rw [hd] at HI
  have HV : ∀ w, Calls Tryz.prog 67 #[.agg #[.int .i64 (p : Nat), .int .i64 (q : Nat), .int .i64 (r : Nat), .int .i64 (s : Nat), .int .i64 0]] w fun e w' => e = .returned (.int .i64 0) ∧ Below w.heap.size w w' :=
    fun w => (Value_yes p q r s 0 w HK.out).mono fun e w' ⟨h1, h2⟩ => ⟨h1.trans (ret_int (by omega)), h2⟩
  clear hd hn hx
  go_enter Tryz.func51, Tryz.ntmps51
  go_wp2_with fail
  refine (ValidCost_any _ _ _ _ _ _).mono ?_; rintro e w1 ⟨rfl, hb1⟩
  have K1 := (new0 w 26 [.int .i64 (p : Nat), .int .i64 (q : Nat), .int .i64 (r : Nat), .int .i64 (s : Nat), .int .i64 0]).below hb1 (by simp)
  have B1 : Below w.heap.size w w1 := next (by go_grown) hb1
  clear hb1
  obtain ⟨u0, u1, u2, u3, u4, u5⟩ := five K1
  go_wp2_with fail
  refine (HV _).mono ?_; rintro e w2 ⟨rfl, hb2⟩
  have B2 := next B1 hb2
  have K2 := K1.below hb2 K1.lt
  clear u0 u1 u2 u3 u4 u5 hb2
  obtain ⟨u0, u1, u2, u3, u4, u5⟩ := five K2
  go_wp2_with fail
  refine (HI _).mono ?_; rintro e w3 ⟨rfl, rfl⟩
  have B3 := B2
  change Below w.heap.size w w3 at B3
  rw [show (ByteArray.mk n.toArray) = bs n from rfl]
  go_wp2_with fail

  have sA : (bs n).size ≤ 2 := by rw [bs_size, ← HN.out]; unfold numL; split; (exact dec_len 0 (by omega)); simp
  generalize hA : bs n = A at *
  have HA := Lib.hid hA
  clear hA
  have s0 := rp_size 69 p; have s1 := rp_size 84 q; have s2 := rp_size 76 r; have s3 := rp_size 83 s
  have b0 := cat_run A (rp 69 p) (by omega)
  have b1 := cat_run (A ++ rp 69 p) (rp 84 q) (by rw [ByteArray.size_append]; omega)
  have b2 := cat_run (A ++ rp 69 p ++ rp 84 q) (rp 76 r) (by rw [ByteArray.size_append, ByteArray.size_append]; omega)
  have b3 := cat_run (A ++ rp 69 p ++ rp 84 q ++ rp 76 r) (rp 83 s) (by rw [ByteArray.size_append, ByteArray.size_append, ByteArray.size_append]; omega)
  clear s0 s1 s2 s3 sA
  refine wp_loop_rounds 5 ?_
  rw [rounds_succ]
  go_wp2_with (go_at_call 68; refine (rep_at _ 69 _ _ rfl (by omega)).mono ?_; rintro e w4 ⟨rfl, hb4⟩; have B4 := next B3 hb4; clear hb4)
  rw [rounds_succ]
  go_wp2_with (go_at_call 68; refine (rep_at _ 84 _ _ rfl (by omega)).mono ?_; rintro e w5 ⟨rfl, hb5⟩; have B5 := next B4 hb5; clear hb5)
  rw [rounds_succ]
  go_wp2_with (go_at_call 68; refine (rep_at _ 76 _ _ rfl (by omega)).mono ?_; rintro e w6 ⟨rfl, hb6⟩; have B6 := next B5 hb6; clear hb6)
  rw [rounds_succ]
  go_wp2_with (go_at_call 68; refine (rep_at _ 83 _ _ rfl (by omega)).mono ?_; rintro e w7 ⟨rfl, hb7⟩; have B7 := next B6 hb7; clear hb7)
  rw [rounds_succ]
  go_wp2_with fail
  go_ret2
  exact ⟨ret_se (by rw [← HA.out, text_eq p q r s 0 n HN.out]), B7⟩

 
set_option maxRecDepth 100000 in
set_option maxHeartbeats 2000000 in
theorem Text_let (p q r s : Nat) (w : World) (h : okC p q r s 0 = true) (hx : 0 < p + q + r + s) :
    Calls Tryz.prog 51 #[.agg #[.int .i64 (p : Nat), .int .i64 (q : Nat), .int .i64 (r : Nat), .int .i64 (s : Nat), .int .i64 0]] w fun e w' => e = .returned (.tuple #[.string (bs (textL p q r s 0)), .int .i64 0]) ∧ Below w.heap.size w w' := by
  have d1 : (!okC p q r s 0) = false := by rw [h]; rfl
  have HK := Lib.hid h
  obtain ⟨⟨⟨p0, p1⟩, ⟨q0, q1⟩, ⟨r0, r1⟩, ⟨s0, s1⟩⟩, x0, x1⟩ := (okC_iff _ _ _ _ _).1 h
  clear h p0 q0 r0 s0 x0
  have i0 := ix0 p q r s; have i1 := ix1 p q r s; have i2 := ix2 p q r s; have i3 := ix3 p q r s
  obtain ⟨n, hn⟩ : ∃ n, numL p q r s 0 = n := ⟨_, rfl⟩
  have hd : ([] : List UInt8) = n := by rw [← hn]; unfold numL; rw [if_neg (by omega)]
  have HN := Lib.hid hn
  obtain ⟨v, hv⟩ : ∃ v : Int, (p : Int) + q + r + s + 0 = v := ⟨_, rfl⟩
  have hne : (v == 0) = false := by rw [beq_eq_false_iff_ne]; omega
  have HV : ∀ w, Calls Tryz.prog 67 #[.agg #[.int .i64 (p : Nat), .int .i64 (q : Nat), .int .i64 (r : Nat), .int .i64 (s : Nat), .int .i64 0]] w fun e w' => e = .returned (.int .i64 v) ∧ Below w.heap.size w w' :=
    fun w => (Value_yes p q r s 0 w HK.out).mono fun e w' ⟨h1, h2⟩ => ⟨h1.trans (ret_int hv), h2⟩
  have HD := Lib.hid hd
  clear hd hn hx hv
  go_enter Tryz.func51, Tryz.ntmps51
  go_wp2_with fail
  refine (ValidCost_any _ _ _ _ _ _).mono ?_; rintro e w1 ⟨rfl, hb1⟩
  have K1 := (new0 w 26 [.int .i64 (p : Nat), .int .i64 (q : Nat), .int .i64 (r : Nat), .int .i64 (s : Nat), .int .i64 0]).below hb1 (by simp)
  have B1 : Below w.heap.size w w1 := next (by go_grown) hb1
  clear hb1
  obtain ⟨u0, u1, u2, u3, u4, u5⟩ := five K1
  go_wp2_with fail
  refine (HV _).mono ?_; rintro e w3 ⟨rfl, hb3⟩
  have B3 := next B1 hb3
  have K3 := K1.below hb3 K1.lt
  clear u0 u1 u2 u3 u4 u5 hb3
  obtain ⟨u0, u1, u2, u3, u4, u5⟩ := five K3
  go_wp2_with fail
  rw [show (ByteArray.mk #[]) = bs n from by rw [← HD.out]; rfl]

  have sA : (bs n).size ≤ 2 := by rw [bs_size, ← HN.out]; unfold numL; split; (exact dec_len 0 (by omega)); simp
  generalize hA : bs n = A at *
  have HA := Lib.hid hA
  clear hA
  have s0 := rp_size 69 p; have s1 := rp_size 84 q; have s2 := rp_size 76 r; have s3 := rp_size 83 s
  have b0 := cat_run A (rp 69 p) (by omega)
  have b1 := cat_run (A ++ rp 69 p) (rp 84 q) (by rw [ByteArray.size_append]; omega)
  have b2 := cat_run (A ++ rp 69 p ++ rp 84 q) (rp 76 r) (by rw [ByteArray.size_append, ByteArray.size_append]; omega)
  have b3 := cat_run (A ++ rp 69 p ++ rp 84 q ++ rp 76 r) (rp 83 s) (by rw [ByteArray.size_append, ByteArray.size_append, ByteArray.size_append]; omega)
  clear s0 s1 s2 s3 sA
  refine wp_loop_rounds 5 ?_
  rw [rounds_succ]
  go_wp2_with (go_at_call 68; refine (rep_at _ 69 _ _ rfl (by omega)).mono ?_; rintro e w4 ⟨rfl, hb4⟩; have B4 := next B3 hb4; clear hb4)
  rw [rounds_succ]
  go_wp2_with (go_at_call 68; refine (rep_at _ 84 _ _ rfl (by omega)).mono ?_; rintro e w5 ⟨rfl, hb5⟩; have B5 := next B4 hb5; clear hb5)
  rw [rounds_succ]
  go_wp2_with (go_at_call 68; refine (rep_at _ 76 _ _ rfl (by omega)).mono ?_; rintro e w6 ⟨rfl, hb6⟩; have B6 := next B5 hb6; clear hb6)
  rw [rounds_succ]
  go_wp2_with (go_at_call 68; refine (rep_at _ 83 _ _ rfl (by omega)).mono ?_; rintro e w7 ⟨rfl, hb7⟩; have B7 := next B6 hb7; clear hb7)
  rw [rounds_succ]
  go_wp2_with fail
  go_ret2
  exact ⟨ret_se (by rw [← HA.out, text_eq p q r s 0 n HN.out]), B7⟩


theorem Text_yes (p q r s x : Nat) (w : World) (h : okC p q r s x = true) :
    Calls Tryz.prog 51 #[.agg #[.int .i64 (p : Nat), .int .i64 (q : Nat), .int .i64 (r : Nat), .int .i64 (s : Nat), .int .i64 (x : Nat)]] w fun e w' => e = .returned (.tuple #[.string (bs (textL p q r s x)), .int .i64 0]) ∧ Below w.heap.size w w' := by
  by_cases hx : 0 < x
  · exact Text_num p q r s x w h hx
  · obtain rfl : x = 0 := by omega
    by_cases h0 : p + q + r + s = 0
    · exact Text_zero p q r s w h h0
    · exact Text_let p q r s w h (by omega)

end Go.Proofs.YtlhnnjllbcglcaaGreatDoor.maFn
