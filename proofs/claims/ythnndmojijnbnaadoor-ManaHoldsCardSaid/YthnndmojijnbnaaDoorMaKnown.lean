/- The examples of the chapter hold: the walk. -/
import Derived.Test.YthnndmojijnbnaaDoorMaKnownF
namespace Go.Proofs.YthnndmojijnbnaaDoor.maFn
open Go.ChangeShapes Go.WideShapes Go.ChangeAt Go.RowKit drMem
set_option linter.unusedVariables false

set_option maxRecDepth 100000 in
set_option maxHeartbeats 8000000 in
theorem known_true (w : World) (hE : E w) :
    Calls Tryd.prog 17 #[] w fun z w' => z = .returned (.bool true) ∧ Below w.heap.size w w' := by
  have HE := Lib.hid hE
  clear hE
  have hn1 := neC_run 0 1 0 0 2 0 1 0 0 2
  have hn2 := neC_run 0 0 0 0 0 0 0 0 0 0
  rw [show eq5 0 1 0 0 2 0 1 0 0 2 = true by decide] at hn1
  rw [show eq5 0 0 0 0 0 0 0 0 0 0 = true by decide] at hn2
  go_enter Tryd.func17, Tryd.ntmps17

  go_wp2_with fail
  refine (kTot _).mono ?_; rintro z w1 ⟨rfl, hb1⟩
  have T1 := ((new0 w 25 [.int .i64 0, .int .i64 1, .int .i64 0, .int .i64 0, .int .i64 0]).alloc _).below hb1 (by simp; omega)
  have N1 := (new1 w _ 25 [.int .i64 0, .int .i64 0, .int .i64 0, .int .i64 0, .int .i64 0]).below hb1 (by simp)
  have B1 : Below w.heap.size w w1 := next (by go_grown) hb1
  clear hb1
  go_wp2_with fail
  refine (kVal _).mono ?_; rintro z w2 ⟨rfl, hb2⟩
  have T2 := T1.below hb2 T1.lt; have N2 := N1.below hb2 N1.lt; have B2 := next B1 hb2
  clear T1 N1 B1 hb2
  go_wp2_with fail
  refine (kA1 _).mono ?_; rintro z w3 ⟨rfl, hb3⟩
  have T3 := T2.below hb3 T2.lt; have N3 := N2.below hb3 N2.lt; have B3 := next B2 hb3
  clear T2 N2 B2 hb3
  go_wp2_with fail
  refine (kA2 _).mono ?_; rintro z w4 ⟨rfl, hb4⟩
  have T4 := T3.below hb4 T3.lt; have N4 := N3.below hb4 N3.lt; have B4 := next B3 hb4
  clear T3 N3 B3 hb4
  go_wp2_with fail
  refine (kP1 _).mono ?_; rintro z w5 ⟨rfl, hb5⟩
  have T5 := T4.below hb5 T4.lt; have N5 := N4.below hb5 N4.lt; have B5 := next B4 hb5
  clear T4 N4 B4 hb5
  go_wp2_with fail
  refine (kP2 _).mono ?_; rintro z w6 ⟨rfl, hb6⟩
  have T6 := T5.below hb6 T5.lt; have N6 := N5.below hb6 N5.lt; have B6 := next B5 hb6
  clear T5 N5 B5 hb6
  go_wp2_with fail
  refine (kP3 _).mono ?_; rintro z w7 ⟨rfl, hb7⟩
  have T7 := T6.below hb7 T6.lt; have N7 := N6.below hb7 N6.lt; have B7 := next B6 hb7
  clear T6 N6 B6 hb7
  go_wp2_with fail
  have T' : has w7.drew (w.heap.size) 25 [.int .i64 0, .int .i64 1, .int .i64 0, .int .i64 0, .int .i64 0] := T7
  have N' : has w7.drew (w.heap.size + 1) 25 [.int .i64 0, .int .i64 0, .int .i64 0, .int .i64 0, .int .i64 0] := N7
  have B' : Below w.heap.size w w7.drew := B7.drew
  obtain ⟨t0, t1, t2, t3, t4, t5⟩ := five T7
  obtain ⟨n0, n1, n2, n3, n4, n5⟩ := five N7
  go_region_held3 (fun w' => w'.cell? ⟨w.heap.size, 0, none⟩ = some (.int .i64 0) ∧ w'.cell? ⟨w.heap.size, 1, none⟩ = some (.int .i64 1) ∧ w'.cell? ⟨w.heap.size, 2, none⟩ = some (.int .i64 0) ∧ w'.cell? ⟨w.heap.size, 3, none⟩ = some (.int .i64 0) ∧ w'.cell? ⟨w.heap.size, 4, none⟩ = some (.int .i64 0) ∧ w'.cell? ⟨w.heap.size + 1, 0, none⟩ = some (.int .i64 0) ∧ w'.cell? ⟨w.heap.size + 1, 1, none⟩ = some (.int .i64 0) ∧ w'.cell? ⟨w.heap.size + 1, 2, none⟩ = some (.int .i64 0) ∧ w'.cell? ⟨w.heap.size + 1, 3, none⟩ = some (.int .i64 0) ∧ w'.cell? ⟨w.heap.size + 1, 4, none⟩ = some (.int .i64 0) ∧ has w' (w.heap.size) 25 [.int .i64 0, .int .i64 1, .int .i64 0, .int .i64 0, .int .i64 0] ∧ has w' (w.heap.size + 1) 25 [.int .i64 0, .int .i64 0, .int .i64 0, .int .i64 0, .int .i64 0] ∧ Below w.heap.size w w') (first | assumption | (refine ⟨?_, ?_, ?_, ?_, ?_, ?_, ?_, ?_, ?_, ?_, ?_, ?_, ?_⟩ <;> first | assumption | go_keep)) (first | (go_at_call 21; (with_reducible refine (kC _).mono ?_); rintro z wa ⟨rfl, hbwa⟩; have Twa := T'.below hbwa T'.lt; have Nwa := N'.below hbwa N'.lt; have Bwa := next B' hbwa; obtain ⟨t0, t1, t2, t3, t4, t5⟩ := five Twa; obtain ⟨n0, n1, n2, n3, n4, n5⟩ := five Nwa; clear hbwa) | (go_at_call 20; (with_reducible refine (kP4 _).mono ?_); rintro z wb ⟨rfl, hbwb⟩; have Twb := Twa.below hbwb Twa.lt; have Nwb := Nwa.below hbwb Nwa.lt; have Bwb := next Bwa hbwb; obtain ⟨t0, t1, t2, t3, t4, t5⟩ := five Twb; obtain ⟨n0, n1, n2, n3, n4, n5⟩ := five Nwb; clear hbwb) | (go_at_call 22; first | (go_at_call 22; (with_reducible refine (kM1 _).mono ?_); rintro z wc ⟨rfl, hbwc⟩; have Twc := Twb.below hbwc Twb.lt; have Nwc := Nwb.below hbwc Nwb.lt; have Bwc := next Bwb hbwc; obtain ⟨t0, t1, t2, t3, t4, t5⟩ := five Twc; obtain ⟨n0, n1, n2, n3, n4, n5⟩ := five Nwc; clear hbwc) | (go_at_call 22; (with_reducible refine (kM2 _).mono ?_); rintro z wd ⟨rfl, hbwd⟩; have Twd := Twc.below hbwd Twc.lt; have Nwd := Nwc.below hbwd Nwc.lt; have Bwd := next Bwc hbwd; obtain ⟨t0, t1, t2, t3, t4, t5⟩ := five Twd; obtain ⟨n0, n1, n2, n3, n4, n5⟩ := five Nwd; clear hbwd)))
  have T20 := Twd; have N20 := Nwd; have B20 := Bwd
  clear hn1 hn2 Twa Twb Twc Twd Nwa Nwb Nwc Nwd Bwa Bwb Bwc Bwd T' N' B'
  clear t0 t1 t2 t3 t4 t5 n0 n1 n2 n3 n4 n5
  obtain ⟨t0, t1, t2, t3, t4, t5⟩ := five T20
  obtain ⟨n0, n1, n2, n3, n4, n5⟩ := five N20
  go_wp2_with fail
  refine (kT1 _).mono ?_; rintro z w21 ⟨rfl, hb21⟩
  have T21 := T20.below hb21 T20.lt; have N21 := N20.below hb21 N20.lt; have B21 := next B20 hb21
  clear T20 N20 B20 hb21
  clear t0 t1 t2 t3 t4 t5 n0 n1 n2 n3 n4 n5
  obtain ⟨t0, t1, t2, t3, t4, t5⟩ := five T21
  obtain ⟨n0, n1, n2, n3, n4, n5⟩ := five N21
  go_wp2_with fail
  refine (kT2 _).mono ?_; rintro z w22 ⟨rfl, hb22⟩
  have T22 := T21.below hb22 T21.lt; have N22 := N21.below hb22 N21.lt; have B22 := next B21 hb22
  clear T21 N21 B21 hb22
  clear t0 t1 t2 t3 t4 t5 n0 n1 n2 n3 n4 n5
  obtain ⟨t0, t1, t2, t3, t4, t5⟩ := five T22
  obtain ⟨n0, n1, n2, n3, n4, n5⟩ := five N22
  go_wp2_with fail
  refine (kT3 _).mono ?_; rintro z w23 ⟨rfl, hb23⟩
  have T23 := T22.below hb23 T22.lt; have N23 := N22.below hb23 N22.lt; have B23 := next B22 hb23
  clear T22 N22 B22 hb23
  clear t0 t1 t2 t3 t4 t5 n0 n1 n2 n3 n4 n5
  obtain ⟨t0, t1, t2, t3, t4, t5⟩ := five T23
  obtain ⟨n0, n1, n2, n3, n4, n5⟩ := five N23
  go_wp2_with fail
  refine (kR1 _ (HE.out.below B23)).mono ?_; rintro z w24 ⟨rfl, hb24⟩
  have T24 := T23.below hb24 T23.lt; have N24 := N23.below hb24 N23.lt; have B24 := next B23 hb24
  clear T23 N23 B23 hb24
  clear t0 t1 t2 t3 t4 t5 n0 n1 n2 n3 n4 n5
  obtain ⟨t0, t1, t2, t3, t4, t5⟩ := five T24
  obtain ⟨n0, n1, n2, n3, n4, n5⟩ := five N24
  go_wp2_with fail
  refine (kR2 _ (HE.out.below B24)).mono ?_; rintro z w25 ⟨rfl, hb25⟩
  have T25 := T24.below hb25 T24.lt; have N25 := N24.below hb25 N24.lt; have B25 := next B24 hb25
  clear T24 N24 B24 hb25
  clear t0 t1 t2 t3 t4 t5 n0 n1 n2 n3 n4 n5
  obtain ⟨t0, t1, t2, t3, t4, t5⟩ := five T25
  obtain ⟨n0, n1, n2, n3, n4, n5⟩ := five N25
  go_wp2_with fail
  refine (kR3 _ (HE.out.below B25)).mono ?_; rintro z w26 ⟨rfl, hb26⟩
  have T26 := T25.below hb26 T25.lt; have N26 := N25.below hb26 N25.lt; have B26 := next B25 hb26
  clear T25 N25 B25 hb26
  clear t0 t1 t2 t3 t4 t5 n0 n1 n2 n3 n4 n5
  obtain ⟨t0, t1, t2, t3, t4, t5⟩ := five T26
  obtain ⟨n0, n1, n2, n3, n4, n5⟩ := five N26
  go_wp2_with fail
  refine (kR4 _ (HE.out.below B26)).mono ?_; rintro z w27 ⟨rfl, hb27⟩
  have T27 := T26.below hb27 T26.lt; have N27 := N26.below hb27 N26.lt; have B27 := next B26 hb27
  clear T26 N26 B26 hb27
  go_wp2_with fail
  go_ret
  exact ⟨rfl, B27⟩
end Go.Proofs.YthnndmojijnbnaaDoor.maFn
