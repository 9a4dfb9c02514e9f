/- ManaTexts and ManaParses. -/
import Derived.Test.YthnndmojijnbnaaDoorMaKnown
import Derived.Test.YthnndmojijnbnaaDoorMaRText
import Derived.Test.YthnndmojijnbnaaDoorMaRParse
namespace Go.Proofs.YthnndmojijnbnaaDoor.maFn
open Go.ChangeShapes Go.WideShapes Go.ChangeAt Go.RowKit drMem
set_option linter.unusedVariables false

theorem let_at (k : Nat) (hk : k < 4) : ∀ w, (Instr.slice 9 (.string ⟨#[69, 84, 76, 83]⟩) (some (.int .i64 (k : Int))) (some (.int .i64 ((k : Int) + 1))) none).run Tryd.prog w = .ok (.string (bs [lc k])) w := fun w => by
  rw [run_slice_string w 9 _ .i64 .i64 (k : Int) ((k : Int) + 1) Tryd.underlying9 (by omega) (by omega) (by show (k : Int) + 1 ≤ ((4 : Nat) : Int); omega)]
  have : k = 0 ∨ k = 1 ∨ k = 2 ∨ k = 3 := by omega
  rcases this with rfl | rfl | rfl | rfl <;> rfl


set_option maxRecDepth 100000 in
set_option maxHeartbeats 4000000 in
theorem texts_0_y (p q r s x : Nat) (w : World) (hE : E w) (hk : okC p q r s x = true) :
    Calls Tryd.prog 5 #[.agg #[.int .i64 (p : Nat), .int .i64 (q : Nat), .int .i64 (r : Nat), .int .i64 (s : Nat), .int .i64 (x : Nat)], .int .i64 0] w fun z w' => z = .returned (.bool true) ∧ Below w.heap.size w w' := by
  have HE := Lib.hid hE
  have d1 : (!okC p q r s x) = false := by rw [hk]; rfl
  have HK := Lib.hid hk
  clear hE hk

  have HLt := fun w => (Letter_yes 0 w (by decide)).mono fun e w' (h : _ ∧ _) => And.intro (h.1.trans (ret_se (show letB 0 = bs [69] from rfl))) h.2
  have e1 := let_at 0 (by omega)
  rw [show lc 0 = 69 from rfl] at e1
  replace e1 : ∀ w, (Instr.slice 9 (.string ⟨#[69, 84, 76, 83]⟩) (some (.int .i64 0)) (some (.int .i64 1)) none).run Tryd.prog w = .ok (.string (bs [69])) w := e1

  go_enter Tryd.func5, Tryd.ntmps5
  go_wp2_with (go_at_call 23; refine (HLt _).mono ?_; rintro z w' ⟨rfl, rfl⟩)
  refine (rValidCost_any _ _ _ _ _ _).mono ?_; rintro e w1 ⟨rfl, hb1⟩
  have T1 := (new0 _ 25 [.int .i64 (p : Nat), .int .i64 (q : Nat), .int .i64 (r : Nat), .int .i64 (s : Nat), .int .i64 (x : Nat)]).below hb1 (by simp)
  have B1 : Below w.heap.size w w1 := next (by go_grown) hb1
  clear hb1
  go_wp2_with fail
  have T1' : has w1.drew w.heap.size 25 [.int .i64 (p : Nat), .int .i64 (q : Nat), .int .i64 (r : Nat), .int .i64 (s : Nat), .int .i64 (x : Nat)] := T1
  have B1' : Below w.heap.size w w1.drew := B1.drew
  obtain ⟨t0, t1, t2, t3, t4, t5⟩ := five T1
  go_region_held3 (fun w' => w'.cell? ⟨w.heap.size, 0, none⟩ = some (.int .i64 (p : Nat)) ∧ w'.cell? ⟨w.heap.size, 1, none⟩ = some (.int .i64 (q : Nat)) ∧ w'.cell? ⟨w.heap.size, 2, none⟩ = some (.int .i64 (r : Nat)) ∧ w'.cell? ⟨w.heap.size, 3, none⟩ = some (.int .i64 (s : Nat)) ∧ w'.cell? ⟨w.heap.size, 4, none⟩ = some (.int .i64 (x : Nat)) ∧ has w' w.heap.size 25 [.int .i64 (p : Nat), .int .i64 (q : Nat), .int .i64 (r : Nat), .int .i64 (s : Nat), .int .i64 (x : Nat)] ∧ Below w.heap.size w w') (first | assumption | (refine ⟨?_, ?_, ?_, ?_, ?_, ?_, ?_⟩ <;> first | assumption | go_keep)) (first | (go_at_call 25; (with_reducible refine (rText_yes _ _ _ _ _ _ HK.out).mono ?_); rintro z wa ⟨rfl, hbwa⟩; have Twa := T1'.below hbwa T1'.lt; have Bwa := next B1' hbwa; clear hbwa; obtain ⟨t0, t1, t2, t3, t4, t5⟩ := five Twa) | (go_at_call 24; (with_reducible refine (texts_true _ _ _ _ _ _ _ (fun w => Text_yes _ _ _ _ _ w HK.out) _).mono ?_); rintro z wb ⟨rfl, hbwb⟩; have Twb := Twa.below hbwb Twa.lt; have Bwb := next Bwa hbwb; clear hbwb; obtain ⟨t0, t1, t2, t3, t4, t5⟩ := five Twb) | (go_at_call 17; (with_reducible refine (known_true _ (HE.out.below Bwb)).mono ?_); rintro z wc ⟨rfl, hbwc⟩; have Twc := Twb.below hbwc Twb.lt; have Bwc := next Bwb hbwc; clear hbwc; obtain ⟨t0, t1, t2, t3, t4, t5⟩ := five Twc))
  all_goals
    go_wp2_with fail
    go_ret
    exact ⟨rfl, Bwc⟩

set_option maxRecDepth 100000 in
set_option maxHeartbeats 4000000 in
theorem texts_0_n (p q r s x : Int) (w : World) (hE : E w) (hk : okC p q r s x = false) :
    Calls Tryd.prog 5 #[.agg #[.int .i64 p, .int .i64 q, .int .i64 r, .int .i64 s, .int .i64 x], .int .i64 0] w fun z w' => z = .returned (.bool true) ∧ Below w.heap.size w w' := by
  have HE := Lib.hid hE
  have d1 : (!okC p q r s x) = true := by rw [hk]; rfl
  have HK := Lib.hid hk
  clear hE hk

  have HLt := fun w => (Letter_yes 0 w (by decide)).mono fun e w' (h : _ ∧ _) => And.intro (h.1.trans (ret_se (show letB 0 = bs [69] from rfl))) h.2
  have e1 := let_at 0 (by omega)
  rw [show lc 0 = 69 from rfl] at e1
  replace e1 : ∀ w, (Instr.slice 9 (.string ⟨#[69, 84, 76, 83]⟩) (some (.int .i64 0)) (some (.int .i64 1)) none).run Tryd.prog w = .ok (.string (bs [69])) w := e1

  go_enter Tryd.func5, Tryd.ntmps5
  go_wp2_with (go_at_call 23; refine (HLt _).mono ?_; rintro z w' ⟨rfl, rfl⟩)
  refine (rValidCost_any _ _ _ _ _ _).mono ?_; rintro e w1 ⟨rfl, hb1⟩
  have T1 := (new0 _ 25 [.int .i64 p, .int .i64 q, .int .i64 r, .int .i64 s, .int .i64 x]).below hb1 (by simp)
  have B1 : Below w.heap.size w w1 := next (by go_grown) hb1
  clear hb1
  obtain ⟨t0, t1, t2, t3, t4, t5⟩ := five T1
  go_wp2_with fail
  refine (texts_true _ _ _ _ _ _ _ (fun w => Text_no _ _ _ _ _ w HK.out) _).mono ?_; rintro z w2 ⟨rfl, hb2⟩
  have B2 := next B1 hb2
  clear hb2 t0 t1 t2 t3 t4 t5 T1
  go_wp2_with fail
  refine (known_true _ (HE.out.below B2)).mono ?_; rintro z w3 ⟨rfl, hb3⟩
  go_wp2_with fail
  go_ret
  exact ⟨rfl, next B2 hb3⟩

set_option maxRecDepth 100000 in
set_option maxHeartbeats 4000000 in
theorem texts_1_y (p q r s x : Nat) (w : World) (hE : E w) (hk : okC p q r s x = true) :
    Calls Tryd.prog 5 #[.agg #[.int .i64 (p : Nat), .int .i64 (q : Nat), .int .i64 (r : Nat), .int .i64 (s : Nat), .int .i64 (x : Nat)], .int .i64 1] w fun z w' => z = .returned (.bool true) ∧ Below w.heap.size w w' := by
  have HE := Lib.hid hE
  have d1 : (!okC p q r s x) = false := by rw [hk]; rfl
  have HK := Lib.hid hk
  clear hE hk

  have HLt := fun w => (Letter_yes 1 w (by decide)).mono fun e w' (h : _ ∧ _) => And.intro (h.1.trans (ret_se (show letB 1 = bs [84] from rfl))) h.2
  have e1 := let_at 1 (by omega)
  rw [show lc 1 = 84 from rfl] at e1
  replace e1 : ∀ w, (Instr.slice 9 (.string ⟨#[69, 84, 76, 83]⟩) (some (.int .i64 1)) (some (.int .i64 2)) none).run Tryd.prog w = .ok (.string (bs [84])) w := e1

  go_enter Tryd.func5, Tryd.ntmps5
  go_wp2_with (go_at_call 23; refine (HLt _).mono ?_; rintro z w' ⟨rfl, rfl⟩)
  refine (rValidCost_any _ _ _ _ _ _).mono ?_; rintro e w1 ⟨rfl, hb1⟩
  have T1 := (new0 _ 25 [.int .i64 (p : Nat), .int .i64 (q : Nat), .int .i64 (r : Nat), .int .i64 (s : Nat), .int .i64 (x : Nat)]).below hb1 (by simp)
  have B1 : Below w.heap.size w w1 := next (by go_grown) hb1
  clear hb1
  go_wp2_with fail
  have T1' : has w1.drew w.heap.size 25 [.int .i64 (p : Nat), .int .i64 (q : Nat), .int .i64 (r : Nat), .int .i64 (s : Nat), .int .i64 (x : Nat)] := T1
  have B1' : Below w.heap.size w w1.drew := B1.drew
  obtain ⟨t0, t1, t2, t3, t4, t5⟩ := five T1
  go_region_held3 (fun w' => w'.cell? ⟨w.heap.size, 0, none⟩ = some (.int .i64 (p : Nat)) ∧ w'.cell? ⟨w.heap.size, 1, none⟩ = some (.int .i64 (q : Nat)) ∧ w'.cell? ⟨w.heap.size, 2, none⟩ = some (.int .i64 (r : Nat)) ∧ w'.cell? ⟨w.heap.size, 3, none⟩ = some (.int .i64 (s : Nat)) ∧ w'.cell? ⟨w.heap.size, 4, none⟩ = some (.int .i64 (x : Nat)) ∧ has w' w.heap.size 25 [.int .i64 (p : Nat), .int .i64 (q : Nat), .int .i64 (r : Nat), .int .i64 (s : Nat), .int .i64 (x : Nat)] ∧ Below w.heap.size w w') (first | assumption | (refine ⟨?_, ?_, ?_, ?_, ?_, ?_, ?_⟩ <;> first | assumption | go_keep)) (first | (go_at_call 25; (with_reducible refine (rText_yes _ _ _ _ _ _ HK.out).mono ?_); rintro z wa ⟨rfl, hbwa⟩; have Twa := T1'.below hbwa T1'.lt; have Bwa := next B1' hbwa; clear hbwa; obtain ⟨t0, t1, t2, t3, t4, t5⟩ := five Twa) | (go_at_call 24; (with_reducible refine (texts_true _ _ _ _ _ _ _ (fun w => Text_yes _ _ _ _ _ w HK.out) _).mono ?_); rintro z wb ⟨rfl, hbwb⟩; have Twb := Twa.below hbwb Twa.lt; have Bwb := next Bwa hbwb; clear hbwb; obtain ⟨t0, t1, t2, t3, t4, t5⟩ := five Twb) | (go_at_call 17; (with_reducible refine (known_true _ (HE.out.below Bwb)).mono ?_); rintro z wc ⟨rfl, hbwc⟩; have Twc := Twb.below hbwc Twb.lt; have Bwc := next Bwb hbwc; clear hbwc; obtain ⟨t0, t1, t2, t3, t4, t5⟩ := five Twc))
  all_goals
    go_wp2_with fail
    go_ret
    exact ⟨rfl, Bwc⟩

set_option maxRecDepth 100000 in
set_option maxHeartbeats 4000000 in
theorem texts_1_n (p q r s x : Int) (w : World) (hE : E w) (hk : okC p q r s x = false) :
    Calls Tryd.prog 5 #[.agg #[.int .i64 p, .int .i64 q, .int .i64 r, .int .i64 s, .int .i64 x], .int .i64 1] w fun z w' => z = .returned (.bool true) ∧ Below w.heap.size w w' := by
  have HE := Lib.hid hE
  have d1 : (!okC p q r s x) = true := by rw [hk]; rfl
  have HK := Lib.hid hk
  clear hE hk

  have HLt := fun w => (Letter_yes 1 w (by decide)).mono fun e w' (h : _ ∧ _) => And.intro (h.1.trans (ret_se (show letB 1 = bs [84] from rfl))) h.2
  have e1 := let_at 1 (by omega)
  rw [show lc 1 = 84 from rfl] at e1
  replace e1 : ∀ w, (Instr.slice 9 (.string ⟨#[69, 84, 76, 83]⟩) (some (.int .i64 1)) (some (.int .i64 2)) none).run Tryd.prog w = .ok (.string (bs [84])) w := e1

  go_enter Tryd.func5, Tryd.ntmps5
  go_wp2_with (go_at_call 23; refine (HLt _).mono ?_; rintro z w' ⟨rfl, rfl⟩)
  refine (rValidCost_any _ _ _ _ _ _).mono ?_; rintro e w1 ⟨rfl, hb1⟩
  have T1 := (new0 _ 25 [.int .i64 p, .int .i64 q, .int .i64 r, .int .i64 s, .int .i64 x]).below hb1 (by simp)
  have B1 : Below w.heap.size w w1 := next (by go_grown) hb1
  clear hb1
  obtain ⟨t0, t1, t2, t3, t4, t5⟩ := five T1
  go_wp2_with fail
  refine (texts_true _ _ _ _ _ _ _ (fun w => Text_no _ _ _ _ _ w HK.out) _).mono ?_; rintro z w2 ⟨rfl, hb2⟩
  have B2 := next B1 hb2
  clear hb2 t0 t1 t2 t3 t4 t5 T1
  go_wp2_with fail
  refine (known_true _ (HE.out.below B2)).mono ?_; rintro z w3 ⟨rfl, hb3⟩
  go_wp2_with fail
  go_ret
  exact ⟨rfl, next B2 hb3⟩

set_option maxRecDepth 100000 in
set_option maxHeartbeats 4000000 in
theorem texts_2_y (p q r s x : Nat) (w : World) (hE : E w) (hk : okC p q r s x = true) :
    Calls Tryd.prog 5 #[.agg #[.int .i64 (p : Nat), .int .i64 (q : Nat), .int .i64 (r : Nat), .int .i64 (s : Nat), .int .i64 (x : Nat)], .int .i64 2] w fun z w' => z = .returned (.bool true) ∧ Below w.heap.size w w' := by
  have HE := Lib.hid hE
  have d1 : (!okC p q r s x) = false := by rw [hk]; rfl
  have HK := Lib.hid hk
  clear hE hk

  have HLt := fun w => (Letter_yes 2 w (by decide)).mono fun e w' (h : _ ∧ _) => And.intro (h.1.trans (ret_se (show letB 2 = bs [76] from rfl))) h.2
  have e1 := let_at 2 (by omega)
  rw [show lc 2 = 76 from rfl] at e1
  replace e1 : ∀ w, (Instr.slice 9 (.string ⟨#[69, 84, 76, 83]⟩) (some (.int .i64 2)) (some (.int .i64 3)) none).run Tryd.prog w = .ok (.string (bs [76])) w := e1

  go_enter Tryd.func5, Tryd.ntmps5
  go_wp2_with (go_at_call 23; refine (HLt _).mono ?_; rintro z w' ⟨rfl, rfl⟩)
  refine (rValidCost_any _ _ _ _ _ _).mono ?_; rintro e w1 ⟨rfl, hb1⟩
  have T1 := (new0 _ 25 [.int .i64 (p : Nat), .int .i64 (q : Nat), .int .i64 (r : Nat), .int .i64 (s : Nat), .int .i64 (x : Nat)]).below hb1 (by simp)
  have B1 : Below w.heap.size w w1 := next (by go_grown) hb1
  clear hb1
  go_wp2_with fail
  have T1' : has w1.drew w.heap.size 25 [.int .i64 (p : Nat), .int .i64 (q : Nat), .int .i64 (r : Nat), .int .i64 (s : Nat), .int .i64 (x : Nat)] := T1
  have B1' : Below w.heap.size w w1.drew := B1.drew
  obtain ⟨t0, t1, t2, t3, t4, t5⟩ := five T1
  go_region_held3 (fun w' => w'.cell? ⟨w.heap.size, 0, none⟩ = some (.int .i64 (p : Nat)) ∧ w'.cell? ⟨w.heap.size, 1, none⟩ = some (.int .i64 (q : Nat)) ∧ w'.cell? ⟨w.heap.size, 2, none⟩ = some (.int .i64 (r : Nat)) ∧ w'.cell? ⟨w.heap.size, 3, none⟩ = some (.int .i64 (s : Nat)) ∧ w'.cell? ⟨w.heap.size, 4, none⟩ = some (.int .i64 (x : Nat)) ∧ has w' w.heap.size 25 [.int .i64 (p : Nat), .int .i64 (q : Nat), .int .i64 (r : Nat), .int .i64 (s : Nat), .int .i64 (x : Nat)] ∧ Below w.heap.size w w') (first | assumption | (refine ⟨?_, ?_, ?_, ?_, ?_, ?_, ?_⟩ <;> first | assumption | go_keep)) (first | (go_at_call 25; (with_reducible refine (rText_yes _ _ _ _ _ _ HK.out).mono ?_); rintro z wa ⟨rfl, hbwa⟩; have Twa := T1'.below hbwa T1'.lt; have Bwa := next B1' hbwa; clear hbwa; obtain ⟨t0, t1, t2, t3, t4, t5⟩ := five Twa) | (go_at_call 24; (with_reducible refine (texts_true _ _ _ _ _ _ _ (fun w => Text_yes _ _ _ _ _ w HK.out) _).mono ?_); rintro z wb ⟨rfl, hbwb⟩; have Twb := Twa.below hbwb Twa.lt; have Bwb := next Bwa hbwb; clear hbwb; obtain ⟨t0, t1, t2, t3, t4, t5⟩ := five Twb) | (go_at_call 17; (with_reducible refine (known_true _ (HE.out.below Bwb)).mono ?_); rintro z wc ⟨rfl, hbwc⟩; have Twc := Twb.below hbwc Twb.lt; have Bwc := next Bwb hbwc; clear hbwc; obtain ⟨t0, t1, t2, t3, t4, t5⟩ := five Twc))
  all_goals
    go_wp2_with fail
    go_ret
    exact ⟨rfl, Bwc⟩

set_option maxRecDepth 100000 in
set_option maxHeartbeats 4000000 in
theorem texts_2_n (p q r s x : Int) (w : World) (hE : E w) (hk : okC p q r s x = false) :
    Calls Tryd.prog 5 #[.agg #[.int .i64 p, .int .i64 q, .int .i64 r, .int .i64 s, .int .i64 x], .int .i64 2] w fun z w' => z = .returned (.bool true) ∧ Below w.heap.size w w' := by
  have HE := Lib.hid hE
  have d1 : (!okC p q r s x) = true := by rw [hk]; rfl
  have HK := Lib.hid hk
  clear hE hk

  have HLt := fun w => (Letter_yes 2 w (by decide)).mono fun e w' (h : _ ∧ _) => And.intro (h.1.trans (ret_se (show letB 2 = bs [76] from rfl))) h.2
  have e1 := let_at 2 (by omega)
  rw [show lc 2 = 76 from rfl] at e1
  replace e1 : ∀ w, (Instr.slice 9 (.string ⟨#[69, 84, 76, 83]⟩) (some (.int .i64 2)) (some (.int .i64 3)) none).run Tryd.prog w = .ok (.string (bs [76])) w := e1

  go_enter Tryd.func5, Tryd.ntmps5
  go_wp2_with (go_at_call 23; refine (HLt _).mono ?_; rintro z w' ⟨rfl, rfl⟩)
  refine (rValidCost_any _ _ _ _ _ _).mono ?_; rintro e w1 ⟨rfl, hb1⟩
  have T1 := (new0 _ 25 [.int .i64 p, .int .i64 q, .int .i64 r, .int .i64 s, .int .i64 x]).below hb1 (by simp)
  have B1 : Below w.heap.size w w1 := next (by go_grown) hb1
  clear hb1
  obtain ⟨t0, t1, t2, t3, t4, t5⟩ := five T1
  go_wp2_with fail
  refine (texts_true _ _ _ _ _ _ _ (fun w => Text_no _ _ _ _ _ w HK.out) _).mono ?_; rintro z w2 ⟨rfl, hb2⟩
  have B2 := next B1 hb2
  clear hb2 t0 t1 t2 t3 t4 t5 T1
  go_wp2_with fail
  refine (known_true _ (HE.out.below B2)).mono ?_; rintro z w3 ⟨rfl, hb3⟩
  go_wp2_with fail
  go_ret
  exact ⟨rfl, next B2 hb3⟩

set_option maxRecDepth 100000 in
set_option maxHeartbeats 4000000 in
theorem texts_3_y (p q r s x : Nat) (w : World) (hE : E w) (hk : okC p q r s x = true) :
    Calls Tryd.prog 5 #[.agg #[.int .i64 (p : Nat), .int .i64 (q : Nat), .int .i64 (r : Nat), .int .i64 (s : Nat), .int .i64 (x : Nat)], .int .i64 3] w fun z w' => z = .returned (.bool true) ∧ Below w.heap.size w w' := by
  have HE := Lib.hid hE
  have d1 : (!okC p q r s x) = false := by rw [hk]; rfl
  have HK := Lib.hid hk
  clear hE hk

  have HLt := fun w => (Letter_yes 3 w (by decide)).mono fun e w' (h : _ ∧ _) => And.intro (h.1.trans (ret_se (show letB 3 = bs [83] from rfl))) h.2
  have e1 := let_at 3 (by omega)
  rw [show lc 3 = 83 from rfl] at e1
  replace e1 : ∀ w, (Instr.slice 9 (.string ⟨#[69, 84, 76, 83]⟩) (some (.int .i64 3)) (some (.int .i64 4)) none).run Tryd.prog w = .ok (.string (bs [83])) w := e1

  go_enter Tryd.func5, Tryd.ntmps5
  go_wp2_with (go_at_call 23; refine (HLt _).mono ?_; rintro z w' ⟨rfl, rfl⟩)
  refine (rValidCost_any _ _ _ _ _ _).mono ?_; rintro e w1 ⟨rfl, hb1⟩
  have T1 := (new0 _ 25 [.int .i64 (p : Nat), .int .i64 (q : Nat), .int .i64 (r : Nat), .int .i64 (s : Nat), .int .i64 (x : Nat)]).below hb1 (by simp)
  have B1 : Below w.heap.size w w1 := next (by go_grown) hb1
  clear hb1
  go_wp2_with fail
  have T1' : has w1.drew w.heap.size 25 [.int .i64 (p : Nat), .int .i64 (q : Nat), .int .i64 (r : Nat), .int .i64 (s : Nat), .int .i64 (x : Nat)] := T1
  have B1' : Below w.heap.size w w1.drew := B1.drew
  obtain ⟨t0, t1, t2, t3, t4, t5⟩ := five T1
  go_region_held3 (fun w' => w'.cell? ⟨w.heap.size, 0, none⟩ = some (.int .i64 (p : Nat)) ∧ w'.cell? ⟨w.heap.size, 1, none⟩ = some (.int .i64 (q : Nat)) ∧ w'.cell? ⟨w.heap.size, 2, none⟩ = some (.int .i64 (r : Nat)) ∧ w'.cell? ⟨w.heap.size, 3, none⟩ = some (.int .i64 (s : Nat)) ∧ w'.cell? ⟨w.heap.size, 4, none⟩ = some (.int .i64 (x : Nat)) ∧ has w' w.heap.size 25 [.int .i64 (p : Nat), .int .i64 (q : Nat), .int .i64 (r : Nat), .int .i64 (s : Nat), .int .i64 (x : Nat)] ∧ Below w.heap.size w w') (first | assumption | (refine ⟨?_, ?_, ?_, ?_, ?_, ?_, ?_⟩ <;> first | assumption | go_keep)) (first | (go_at_call 25; (with_reducible refine (rText_yes _ _ _ _ _ _ HK.out).mono ?_); rintro z wa ⟨rfl, hbwa⟩; have Twa := T1'.below hbwa T1'.lt; have Bwa := next B1' hbwa; clear hbwa; obtain ⟨t0, t1, t2, t3, t4, t5⟩ := five Twa) | (go_at_call 24; (with_reducible refine (texts_true _ _ _ _ _ _ _ (fun w => Text_yes _ _ _ _ _ w HK.out) _).mono ?_); rintro z wb ⟨rfl, hbwb⟩; have Twb := Twa.below hbwb Twa.lt; have Bwb := next Bwa hbwb; clear hbwb; obtain ⟨t0, t1, t2, t3, t4, t5⟩ := five Twb) | (go_at_call 17; (with_reducible refine (known_true _ (HE.out.below Bwb)).mono ?_); rintro z wc ⟨rfl, hbwc⟩; have Twc := Twb.below hbwc Twb.lt; have Bwc := next Bwb hbwc; clear hbwc; obtain ⟨t0, t1, t2, t3, t4, t5⟩ := five Twc))
  all_goals
    go_wp2_with fail
    go_ret
    exact ⟨rfl, Bwc⟩

set_option maxRecDepth 100000 in
set_option maxHeartbeats 4000000 in
theorem texts_3_n (p q r s x : Int) (w : World) (hE : E w) (hk : okC p q r s x = false) :
    Calls Tryd.prog 5 #[.agg #[.int .i64 p, .int .i64 q, .int .i64 r, .int .i64 s, .int .i64 x], .int .i64 3] w fun z w' => z = .returned (.bool true) ∧ Below w.heap.size w w' := by
  have HE := Lib.hid hE
  have d1 : (!okC p q r s x) = true := by rw [hk]; rfl
  have HK := Lib.hid hk
  clear hE hk

  have HLt := fun w => (Letter_yes 3 w (by decide)).mono fun e w' (h : _ ∧ _) => And.intro (h.1.trans (ret_se (show letB 3 = bs [83] from rfl))) h.2
  have e1 := let_at 3 (by omega)
  rw [show lc 3 = 83 from rfl] at e1
  replace e1 : ∀ w, (Instr.slice 9 (.string ⟨#[69, 84, 76, 83]⟩) (some (.int .i64 3)) (some (.int .i64 4)) none).run Tryd.prog w = .ok (.string (bs [83])) w := e1

  go_enter Tryd.func5, Tryd.ntmps5
  go_wp2_with (go_at_call 23; refine (HLt _).mono ?_; rintro z w' ⟨rfl, rfl⟩)
  refine (rValidCost_any _ _ _ _ _ _).mono ?_; rintro e w1 ⟨rfl, hb1⟩
  have T1 := (new0 _ 25 [.int .i64 p, .int .i64 q, .int .i64 r, .int .i64 s, .int .i64 x]).below hb1 (by simp)
  have B1 : Below w.heap.size w w1 := next (by go_grown) hb1
  clear hb1
  obtain ⟨t0, t1, t2, t3, t4, t5⟩ := five T1
  go_wp2_with fail
  refine (texts_true _ _ _ _ _ _ _ (fun w => Text_no _ _ _ _ _ w HK.out) _).mono ?_; rintro z w2 ⟨rfl, hb2⟩
  have B2 := next B1 hb2
  clear hb2 t0 t1 t2 t3 t4 t5 T1
  go_wp2_with fail
  refine (known_true _ (HE.out.below B2)).mono ?_; rintro z w3 ⟨rfl, hb3⟩
  go_wp2_with fail
  go_ret
  exact ⟨rfl, next B2 hb3⟩

set_option maxRecDepth 100000 in
set_option maxHeartbeats 4000000 in
theorem texts_n_y (p q r s x : Nat) (k : Int) (h0 : k < 0 ∨ ¬ k < 0 ∧ 3 < k) (w : World) (hE : E w) (hk : okC p q r s x = true) :
    Calls Tryd.prog 5 #[.agg #[.int .i64 (p : Nat), .int .i64 (q : Nat), .int .i64 (r : Nat), .int .i64 (s : Nat), .int .i64 (x : Nat)], .int .i64 k] w fun z w' => z = .returned (.bool true) ∧ Below w.heap.size w w' := by
  have HE := Lib.hid hE
  have d1 : (!okC p q r s x) = false := by rw [hk]; rfl
  have HK := Lib.hid hk
  clear hE hk

  have HLt := Letter_no k w (by rcases h0 with h | h <;> (simp [okN]; omega))
  rcases h0 with h0 | ⟨h0, h0'⟩
  all_goals
    go_enter Tryd.func5, Tryd.ntmps5
    go_wp2_with (go_at_call 23; refine (Letter_no _ _ (by simp [okN]; omega)).mono ?_; rintro z w' ⟨rfl, rfl⟩)
    refine (rValidCost_any _ _ _ _ _ _).mono ?_; rintro e w1 ⟨rfl, hb1⟩
    have T1 := (new0 _ 25 [.int .i64 (p : Nat), .int .i64 (q : Nat), .int .i64 (r : Nat), .int .i64 (s : Nat), .int .i64 (x : Nat)]).below hb1 (by simp)
    have B1 : Below w.heap.size w w1 := next (by go_grown) hb1
    clear hb1
    go_wp2_with fail
    have T1' : has w1.drew w.heap.size 25 [.int .i64 (p : Nat), .int .i64 (q : Nat), .int .i64 (r : Nat), .int .i64 (s : Nat), .int .i64 (x : Nat)] := T1
    have B1' : Below w.heap.size w w1.drew := B1.drew
    obtain ⟨t0, t1, t2, t3, t4, t5⟩ := five T1
    go_region_held3 (fun w' => w'.cell? ⟨w.heap.size, 0, none⟩ = some (.int .i64 (p : Nat)) ∧ w'.cell? ⟨w.heap.size, 1, none⟩ = some (.int .i64 (q : Nat)) ∧ w'.cell? ⟨w.heap.size, 2, none⟩ = some (.int .i64 (r : Nat)) ∧ w'.cell? ⟨w.heap.size, 3, none⟩ = some (.int .i64 (s : Nat)) ∧ w'.cell? ⟨w.heap.size, 4, none⟩ = some (.int .i64 (x : Nat)) ∧ has w' w.heap.size 25 [.int .i64 (p : Nat), .int .i64 (q : Nat), .int .i64 (r : Nat), .int .i64 (s : Nat), .int .i64 (x : Nat)] ∧ Below w.heap.size w w') (first | assumption | (refine ⟨?_, ?_, ?_, ?_, ?_, ?_, ?_⟩ <;> first | assumption | go_keep)) (first | (go_at_call 25; (with_reducible refine (rText_yes _ _ _ _ _ _ HK.out).mono ?_); rintro z wa ⟨rfl, hbwa⟩; have Twa := T1'.below hbwa T1'.lt; have Bwa := next B1' hbwa; clear hbwa; obtain ⟨t0, t1, t2, t3, t4, t5⟩ := five Twa) | (go_at_call 24; (with_reducible refine (texts_true _ _ _ _ _ _ _ (fun w => Text_yes _ _ _ _ _ w HK.out) _).mono ?_); rintro z wb ⟨rfl, hbwb⟩; have Twb := Twa.below hbwb Twa.lt; have Bwb := next Bwa hbwb; clear hbwb; obtain ⟨t0, t1, t2, t3, t4, t5⟩ := five Twb) | (go_at_call 17; (with_reducible refine (known_true _ (HE.out.below Bwb)).mono ?_); rintro z wc ⟨rfl, hbwc⟩; have Twc := Twb.below hbwc Twb.lt; have Bwc := next Bwb hbwc; clear hbwc; obtain ⟨t0, t1, t2, t3, t4, t5⟩ := five Twc))
    all_goals
      go_wp2_with fail
      go_ret
      exact ⟨rfl, Bwc⟩

set_option maxRecDepth 100000 in
set_option maxHeartbeats 4000000 in
theorem texts_n_n (p q r s x : Int) (k : Int) (h0 : k < 0 ∨ ¬ k < 0 ∧ 3 < k) (w : World) (hE : E w) (hk : okC p q r s x = false) :
    Calls Tryd.prog 5 #[.agg #[.int .i64 p, .int .i64 q, .int .i64 r, .int .i64 s, .int .i64 x], .int .i64 k] w fun z w' => z = .returned (.bool true) ∧ Below w.heap.size w w' := by
  have HE := Lib.hid hE
  have d1 : (!okC p q r s x) = true := by rw [hk]; rfl
  have HK := Lib.hid hk
  clear hE hk

  have HLt := Letter_no k w (by rcases h0 with h | h <;> (simp [okN]; omega))
  rcases h0 with h0 | ⟨h0, h0'⟩
  all_goals
    go_enter Tryd.func5, Tryd.ntmps5
    go_wp2_with (go_at_call 23; refine (Letter_no _ _ (by simp [okN]; omega)).mono ?_; rintro z w' ⟨rfl, rfl⟩)
    refine (rValidCost_any _ _ _ _ _ _).mono ?_; rintro e w1 ⟨rfl, hb1⟩
    have T1 := (new0 _ 25 [.int .i64 p, .int .i64 q, .int .i64 r, .int .i64 s, .int .i64 x]).below hb1 (by simp)
    have B1 : Below w.heap.size w w1 := next (by go_grown) hb1
    clear hb1
    obtain ⟨t0, t1, t2, t3, t4, t5⟩ := five T1
    go_wp2_with fail
    refine (texts_true _ _ _ _ _ _ _ (fun w => Text_no _ _ _ _ _ w HK.out) _).mono ?_; rintro z w2 ⟨rfl, hb2⟩
    have B2 := next B1 hb2
    clear hb2 t0 t1 t2 t3 t4 t5 T1
    go_wp2_with fail
    refine (known_true _ (HE.out.below B2)).mono ?_; rintro z w3 ⟨rfl, hb3⟩
    go_wp2_with fail
    go_ret
    exact ⟨rfl, next B2 hb3⟩

theorem texts_law (p q r s x k : Int) (w : World) (hE : E w) :
    Calls Tryd.prog 5 #[.agg #[.int .i64 p, .int .i64 q, .int .i64 r, .int .i64 s, .int .i64 x], .int .i64 k] w fun z w' => z = .returned (.bool true) ∧ Below w.heap.size w w' := by
  by_cases hk : okC p q r s x = true
  · obtain ⟨⟨⟨p0, _⟩, ⟨q0, _⟩, ⟨r0, _⟩, ⟨s0, _⟩⟩, x0, _⟩ := (okC_iff _ _ _ _ _).1 hk
    obtain ⟨p, rfl⟩ := Int.eq_ofNat_of_zero_le p0
    obtain ⟨q, rfl⟩ := Int.eq_ofNat_of_zero_le q0
    obtain ⟨r, rfl⟩ := Int.eq_ofNat_of_zero_le r0
    obtain ⟨s, rfl⟩ := Int.eq_ofNat_of_zero_le s0
    obtain ⟨x, rfl⟩ := Int.eq_ofNat_of_zero_le x0
    have h : k = 0 ∨ k = 1 ∨ k = 2 ∨ k = 3 ∨ (k < 0 ∨ ¬ k < 0 ∧ 3 < k) := by omega
    rcases h with rfl | rfl | rfl | rfl | h
    · exact texts_0_y p q r s x w hE hk
    · exact texts_1_y p q r s x w hE hk
    · exact texts_2_y p q r s x w hE hk
    · exact texts_3_y p q r s x w hE hk
    · exact texts_n_y p q r s x k h w hE hk
  · have hk : okC p q r s x = false := by simpa using hk
    have h : k = 0 ∨ k = 1 ∨ k = 2 ∨ k = 3 ∨ (k < 0 ∨ ¬ k < 0 ∧ 3 < k) := by omega
    rcases h with rfl | rfl | rfl | rfl | h
    · exact texts_0_n p q r s x w hE hk
    · exact texts_1_n p q r s x w hE hk
    · exact texts_2_n p q r s x w hE hk
    · exact texts_3_n p q r s x w hE hk
    · exact texts_n_n p q r s x k h w hE hk

theorem good_of {s : ByteArray} {p q r t x : Nat} (hk : okC p q r t x = true) (he : bs (textL p q r t x) = s) : good s := by
  subst he
  have hb := (okC_iff _ _ _ _ _).1 hk
  obtain ⟨h1, h2, h3, h4, h5, h6⟩ := read_text p q r t x (by omega)
  unfold good
  rw [bs_list, h1, h2, h3, h4, h5]
  exact ⟨h6, hk, rfl⟩

set_option maxRecDepth 100000 in
set_option maxHeartbeats 4000000 in
theorem parses_law (s : ByteArray) (w : World) (hs : s.size ≤ 9223372036854775807) (hE : E w) :
    Calls Tryd.prog 6 #[.string s] w fun z w' => z = .returned (.bool true) ∧ Below w.heap.size w w' := by
  have HE := Lib.hid hE
  by_cases hl : 200 < s.size
  · clear hE
    go_enter Tryd.func6, Tryd.ntmps6
    go_wp2_with fail
    refine (known_true _ HE.out).mono ?_; rintro z w1 ⟨rfl, hb1⟩
    go_wp2_with fail
    go_ret
    exact ⟨rfl, hb1⟩
  · have HR := rParse_any s w (by omega)
    by_cases hg : good s
    · have H : ∀ w, E w → Calls Tryd.prog 37 #[.string s] w fun e w' => e = .returned (.tuple #[.agg #[.int .i64 (cn s.data.toList 0 : Nat), .int .i64 (cn s.data.toList 1 : Nat), .int .i64 (cn s.data.toList 2 : Nat), .int .i64 (cn s.data.toList 3 : Nat), .int .i64 (rdX s.data.toList : Nat)], .int .i64 0]) ∧ Below w.heap.size w w' := by
        intro w hw
        have := Parse_yes _ _ _ _ _ hg.2.1 w hw
        rw [hg.2.2] at this
        exact this
      have HG := Lib.hid hg
      clear hE hg
      go_enter Tryd.func6, Tryd.ntmps6
      go_wp2_with fail
      refine HR.mono ?_; rintro z w1 ⟨hb1, hy, hn⟩
      obtain rfl := hy HG.out
      have B1 := Lib.hid hb1
      clear hy hn hb1 HR
      go_wp2_with fail
      refine (parses_true _ _ _ _ _ _ _ H _ (HE.out.below (by have b := B1.out; have hz := b.size; go_grown))).mono ?_; rintro z w2 ⟨rfl, hb2⟩
      have B2 : Below w.heap.size w w2 := next (by have b := B1.out; have hz := b.size; go_grown) hb2
      clear hb2
      go_wp2_with fail
      refine (known_true _ (HE.out.below B2)).mono ?_; rintro z w3 ⟨rfl, hb3⟩
      go_wp2_with fail
      go_ret
      exact ⟨rfl, next B2 hb3⟩
    · have H := Parse_no s (by omega) (fun p q r t x h1 h2 => hg (good_of h1 h2))
      have HG := Lib.hid hg
      clear hE hg
      go_enter Tryd.func6, Tryd.ntmps6
      go_wp2_with fail
      refine HR.mono ?_; rintro z w1 ⟨hb1, hy, hn⟩
      obtain rfl := hn HG.out
      have B1 := Lib.hid hb1
      clear hy hn hb1 HR
      go_wp2_with fail
      refine (parses_true _ _ _ _ _ _ _ H _ (HE.out.below (by have b := B1.out; have hz := b.size; go_grown))).mono ?_; rintro z w2 ⟨rfl, hb2⟩
      have B2 : Below w.heap.size w w2 := next (by have b := B1.out; have hz := b.size; go_grown) hb2
      clear hb2
      go_wp2_with fail
      refine (known_true _ (HE.out.below B2)).mono ?_; rintro z w3 ⟨rfl, hb3⟩
      go_wp2_with fail
      go_ret
      exact ⟨rfl, next B2 hb3⟩

end Go.Proofs.YthnndmojijnbnaaDoor.maFn
