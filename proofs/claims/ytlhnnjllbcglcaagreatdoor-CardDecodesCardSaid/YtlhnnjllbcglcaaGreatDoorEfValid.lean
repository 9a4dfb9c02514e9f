/- Which effects are valid. -/
import Derived.Test.YtlhnnjllbcglcaaGreatDoorEfEq
import Derived.Outline
import Derived.Deep.RegionHeld3
namespace Go.Proofs.YtlhnnjllbcglcaaGreatDoor.efFn
open Go.ChangeShapes Go.WideShapes Go.ChangeAt Go.RowKit drMem
set_option linter.unusedVariables false

theorem new0 (w : World) (t : TypeId) (cs : List Value) : has (w.alloc (.cells cs.toArray t)) w.heap.size t cs := has.new w t cs
theorem five {w : World} {g : Nat} {t : TypeId} {a b c d e : Value} (h : has w g t [a, b, c, d, e]) :
    w.cell? ⟨g, 0, none⟩ = some a ∧ w.cell? ⟨g, 1, none⟩ = some b ∧ w.cell? ⟨g, 2, none⟩ = some c ∧ w.cell? ⟨g, 3, none⟩ = some d ∧ w.cell? ⟨g, 4, none⟩ = some e ∧ ∀ i, w.frozen? ⟨g, i, none⟩ = false :=
  ⟨h.cell 0, h.cell 1, h.cell 2, h.cell 3, h.cell 4, h.free⟩

abbrev eV (c t n m k : Int) : Value := .agg #[.int .i64 c, .int .i64 t, .int .i64 n, .int .i64 m, .int .i64 k]
abbrev eL (c t n m k : Int) : List Value := [.int .i64 c, .int .i64 t, .int .i64 n, .int .i64 m, .int .i64 k]

theorem ta_ra (nm : ByteArray) (k a b c x y z : Int) : ∀ w, (Instr.typeAssert (raV nm k a b c x y z) 109 112 true).run Tryz.prog w = .ok (.tuple #[raV nm k a b c x y z, .bool true]) w := fun _ => by kernel_rfl
theorem ta_so (nm : ByteArray) (k a b c x y z : Int) : ∀ w, (Instr.typeAssert (soV nm k a b c x y z) 109 112 true).run Tryz.prog w = .ok (.tuple #[soV nm k a b c x y z, .bool true]) w := fun _ => by kernel_rfl
theorem least_some {l : List String} (h : l ≠ []) : ∃ m, Instr.least l = some m := by
  cases l with
  | nil => exact absurd rfl h
  | cons a r => exact ⟨_, rfl⟩
theorem part_some (p : String → Bool) (f : String → String) {L : List String} (h : L ≠ []) : ∃ m, (Instr.least (L.partition p).2 <|> Instr.least ((L.partition p).1.map f)) = some m := by
  simp only [List.partition_eq_filter_filter]
  by_cases he : L.filter (not ∘ p) = []
  · have hu : L.filter p ≠ [] := by
      intro hu
      cases L with
      | nil => exact h rfl
      | cons a r =>
        cases hc : p a with
        | true => simp [List.filter, hc] at hu
        | false => simp [List.filter, hc] at he
    obtain ⟨m, hm⟩ := least_some (l := (L.filter p).map f) (by simpa using hu)
    refine ⟨m, ?_⟩
    rw [he, hm]; rfl
  · obtain ⟨m, hm⟩ := least_some he
    refine ⟨m, ?_⟩
    rw [hm]; rfl
theorem missing_some {want : Array (String × TypeId)} {got : Array Method} (h : ((want.toList.filter fun (name, sig) => !got.any fun m => m.name == name && m.sig == sig).map (·.1)) ≠ []) : ∃ m, Instr.missingMethod want got = some m := by
  unfold Instr.missingMethod
  exact part_some _ _ h
theorem zeroNum (w : World) : (zeroValue 112).run Tryz.prog w = .ok .nilIface w := by kernel_rfl
theorem missPl : ∃ m, Instr.missingMethod #[("zeitnot/effect.fits", 139), ("zeitnot/effect.mentions", 146)] Tryz.t141.methods = some m := missing_some (by
  rw [show ((#[("zeitnot/effect.fits", 139), ("zeitnot/effect.mentions", 146)].toList.filter fun ((name : String), (sig : Nat)) => !Tryz.t141.methods.any fun m => m.name == name && m.sig == sig).map (·.1)) = ["zeitnot/effect.fits", "zeitnot/effect.mentions"] by kernel_rfl]
  simp)
theorem ta_pl (nm : ByteArray) (k : Int) : ∀ w, (Instr.typeAssert (plV nm k) 109 112 true).run Tryz.prog w = .ok (.tuple #[.nilIface, .bool false]) w := by
  intro w
  unfold Instr.typeAssert
  simp [go_sem]
  obtain ⟨m, hm⟩ := missPl
  rw [hm]
  simp [go_sem]
theorem na_ra (nm : ByteArray) (k a b c x y z : Int) : ∀ w, (nilAhead 279 143 (.agg #[.string nm, .int .u64 k, .int .i64 a, .int .i64 b, .int .i64 c, .int .i64 x, .int .i64 y, .int .i64 z]) "zeitnot/effect.fits").run Tryz.prog w = .ok (some false) w := fun _ => by kernel_rfl
theorem na_so (nm : ByteArray) (k a b c x y z : Int) : ∀ w, (nilAhead 279 145 (.agg #[.string nm, .int .u64 k, .int .i64 a, .int .i64 b, .int .i64 c, .int .i64 x, .int .i64 y, .int .i64 z]) "zeitnot/effect.fits").run Tryz.prog w = .ok (some false) w := fun _ => by kernel_rfl

set_option maxRecDepth 100000 in
set_option maxHeartbeats 2000000 in
theorem Valid_pl (c t n m k : Int) (nm : ByteArray) (kk : Int) (k0 : 0 ≤ kk) (k1 : kk < 128) (hr : ruleV c = plV nm kk) (w : World) :
    Calls Tryz.prog 71 #[eV c t n m k] w fun e w' => e = .returned (.bool (aimB kk t && eq3 n m k 0 0 0)) ∧ Below w.heap.size w w' := by
  have HR := ruleOf_any c
  rw [hr] at HR
  have HA := fun w => aims_any nm kk t w k0 k1
  have HN := fun w => numbersOf_any c t n m k w
  have HE := eqN_run n m k 0 0 0
  have TA := ta_pl nm kk
  clear hr
  cases ha : aimB kk t
  all_goals
    rw [ha] at HA
    go_enter Tryz.func71, Tryz.ntmps71
    go_wp2_with fail
    refine (HR _).mono ?_; rintro e w' ⟨rfl, hw⟩
    subst hw
    go_wp2_with fail
    refine (HA _).mono ?_; rintro e w1 ⟨rfl, hb1⟩
    have M1 := (new0 w 51 (eL c t n m k)).below hb1 (by simp)
    have B1 : Below w.heap.size w w1 := next (by go_grown) hb1
    clear hb1
    obtain ⟨u0, u1, u2, u3, u4, u5⟩ := five M1
    go_wp2_with fail
  · go_ret
    exact ⟨rfl, B1⟩
  · refine (HN _).mono ?_; rintro e w2 ⟨rfl, hb2⟩
    have B2 := next B1 hb2
    go_wp2_with fail
    go_ret
    exact ⟨rfl, B2⟩

set_option maxRecDepth 100000 in
set_option maxHeartbeats 2000000 in
theorem Valid_ra (c t n m k : Int) (nm : ByteArray) (kk x0 x1 x2 y0 y1 y2 : Int) (k0 : 0 ≤ kk) (k1 : kk < 128) (hr : ruleV c = raV nm kk x0 x1 x2 y0 y1 y2) (w : World) :
    Calls Tryz.prog 71 #[eV c t n m k] w fun e w' => e = .returned (.bool (aimB kk t && fitB x0 x1 x2 y0 y1 y2 n m k)) ∧ Below w.heap.size w w' := by
  have HR := ruleOf_any c
  rw [hr] at HR
  have HA := fun w => aims_any nm kk t w k0 k1
  have HN := fun w => numbersOf_any c t n m k w
  have HF := fun w => fits_any nm kk x0 x1 x2 y0 y1 y2 n m k w
  have TA := ta_ra nm kk x0 x1 x2 y0 y1 y2
  have NA := na_ra nm kk x0 x1 x2 y0 y1 y2
  clear hr
  cases ha : aimB kk t
  all_goals
    rw [ha] at HA
    go_enter Tryz.func71, Tryz.ntmps71
    go_wp2_with fail
    refine (HR _).mono ?_; rintro e w' ⟨rfl, hw⟩
    subst hw
    go_wp2_with fail
    refine (HA _).mono ?_; rintro e w1 ⟨rfl, hb1⟩
    have M1 := (new0 w 51 (eL c t n m k)).below hb1 (by simp)
    have B1 : Below w.heap.size w w1 := next (by go_grown) hb1
    clear hb1
    obtain ⟨u0, u1, u2, u3, u4, u5⟩ := five M1
    go_wp2_with fail
  · go_ret
    exact ⟨rfl, B1⟩
  · have M' : has w1.drew w.heap.size 51 (eL c t n m k) := M1
    have B' : Below w.heap.size w w1.drew := B1.drew
    go_region_held3 (fun w' => w'.cell? ⟨w.heap.size, 0, none⟩ = some (.int .i64 c) ∧ w'.cell? ⟨w.heap.size, 1, none⟩ = some (.int .i64 t) ∧ w'.cell? ⟨w.heap.size, 2, none⟩ = some (.int .i64 n) ∧ w'.cell? ⟨w.heap.size, 3, none⟩ = some (.int .i64 m) ∧ w'.cell? ⟨w.heap.size, 4, none⟩ = some (.int .i64 k) ∧ Below w.heap.size w w') (first | assumption | (refine ⟨?_, ?_, ?_, ?_, ?_, ?_⟩ <;> first | assumption | go_keep)) (first | (go_at_call 74; (with_reducible refine (HN _).mono ?_); rintro e wa ⟨rfl, hba⟩; have Ma := M'.below hba M'.lt; have Ba := next B' hba; clear hba; obtain ⟨u0, u1, u2, u3, u4, u5⟩ := five Ma) | (go_at_call 129; (with_reducible refine (HF _).mono ?_); rintro e wb ⟨rfl, hbb⟩; have Mb := Ma.below hbb Ma.lt; have Bb := next Ba hbb; clear hbb; obtain ⟨u0, u1, u2, u3, u4, u5⟩ := five Mb))
    all_goals
      go_wp2
      go_ret
      exact ⟨rfl, by assumption⟩

set_option maxRecDepth 100000 in
set_option maxHeartbeats 2000000 in
theorem Valid_so (c t n m k : Int) (nm : ByteArray) (kk x0 x1 x2 y0 y1 y2 : Int) (k0 : 0 ≤ kk) (k1 : kk < 128) (hr : ruleV c = soV nm kk x0 x1 x2 y0 y1 y2) (w : World) :
    Calls Tryz.prog 71 #[eV c t n m k] w fun e w' => e = .returned (.bool (aimB kk t && (!eq3 n m k 0 0 0 && fitB x0 x1 x2 y0 y1 y2 n m k))) ∧ Below w.heap.size w w' := by
  have HR := ruleOf_any c
  rw [hr] at HR
  have HA := fun w => aims_any nm kk t w k0 k1
  have HN := fun w => numbersOf_any c t n m k w
  have HF := fun w => some_fits_any nm kk x0 x1 x2 y0 y1 y2 n m k w
  have TA := ta_so nm kk x0 x1 x2 y0 y1 y2
  have NA := na_so nm kk x0 x1 x2 y0 y1 y2
  clear hr
  cases ha : aimB kk t
  all_goals
    rw [ha] at HA
    go_enter Tryz.func71, Tryz.ntmps71
    go_wp2_with fail
    refine (HR _).mono ?_; rintro e w' ⟨rfl, hw⟩
    subst hw
    go_wp2_with fail
    refine (HA _).mono ?_; rintro e w1 ⟨rfl, hb1⟩
    have M1 := (new0 w 51 (eL c t n m k)).below hb1 (by simp)
    have B1 : Below w.heap.size w w1 := next (by go_grown) hb1
    clear hb1
    obtain ⟨u0, u1, u2, u3, u4, u5⟩ := five M1
    go_wp2_with fail
  · go_ret
    exact ⟨rfl, B1⟩
  · have M' : has w1.drew w.heap.size 51 (eL c t n m k) := M1
    have B' : Below w.heap.size w w1.drew := B1.drew
    go_region_held3 (fun w' => w'.cell? ⟨w.heap.size, 0, none⟩ = some (.int .i64 c) ∧ w'.cell? ⟨w.heap.size, 1, none⟩ = some (.int .i64 t) ∧ w'.cell? ⟨w.heap.size, 2, none⟩ = some (.int .i64 n) ∧ w'.cell? ⟨w.heap.size, 3, none⟩ = some (.int .i64 m) ∧ w'.cell? ⟨w.heap.size, 4, none⟩ = some (.int .i64 k) ∧ Below w.heap.size w w') (first | assumption | (refine ⟨?_, ?_, ?_, ?_, ?_, ?_⟩ <;> first | assumption | go_keep)) (first | (go_at_call 74; (with_reducible refine (HN _).mono ?_); rintro e wa ⟨rfl, hba⟩; have Ma := M'.below hba M'.lt; have Ba := next B' hba; clear hba; obtain ⟨u0, u1, u2, u3, u4, u5⟩ := five Ma) | (go_at_call 132; (with_reducible refine (HF _).mono ?_); rintro e wb ⟨rfl, hbb⟩; have Mb := Ma.below hbb Ma.lt; have Bb := next Ba hbb; clear hbb; obtain ⟨u0, u1, u2, u3, u4, u5⟩ := five Mb))
    all_goals
      go_wp2
      go_ret
      exact ⟨rfl, by assumption⟩


/- what an effect of a code may be -/
def kd (c : Int) : Int := if c = 1 then 62 else if c = 2 ∨ c = 3 ∨ c = 4 then 17 else if c = 5 ∨ c = 6 ∨ c = 11 then 14 else if c = 7 then 64 else if c = 8 ∨ c = 9 then 15 else if c = 10 ∨ c = 12 then 1 else 0
def okN (c n m k : Int) : Bool :=
  if c = 1 ∨ c = 3 ∨ c = 4 then decide (1 ≤ n ∧ n ≤ 99 ∧ m = 0 ∧ k = 0)
  else if c = 2 then decide (1 ≤ n ∧ n ≤ 7 ∧ m = 0 ∧ k = 0)
  else if c = 8 then decide (0 ≤ n ∧ n ≤ 9 ∧ 0 ≤ m ∧ m ≤ 9 ∧ 0 < n + m ∧ k = 0)
  else if c = 9 then decide (1 ≤ n ∧ n ≤ 9 ∧ m = 0 ∧ k = 0)
  else if c = 10 then decide (0 ≤ n ∧ n ≤ 9 ∧ 1 ≤ m ∧ m ≤ 9 ∧ k = 0)
  else if c = 12 then decide (1 ≤ n ∧ n ≤ 9 ∧ m = 0 ∧ 0 ≤ k ∧ k ≤ 3)
  else decide (n = 0 ∧ m = 0 ∧ k = 0)
def okE (c t n m k : Int) : Bool := aimB (kd c) t && okN c n m k
theorem inB_iff (a x n : Int) : inB a x n = true ↔ a ≤ n ∧ n = cl n x := by simp [inB]
theorem fit_pl (n m k : Int) : eq3 n m k 0 0 0 = decide (n = 0 ∧ m = 0 ∧ k = 0) := by
  rw [Bool.eq_iff_iff, eq3_iff, decide_eq_true_eq]
theorem fit_ra (x0 x1 x2 y0 y1 y2 n m k : Int) (p : Prop) [Decidable p] (h : (x0 ≤ n ∧ n = cl n y0) ∧ (x1 ≤ m ∧ m = cl m y1) ∧ (x2 ≤ k ∧ k = cl k y2) ↔ p) : fitB x0 x1 x2 y0 y1 y2 n m k = decide p := by
  rw [Bool.eq_iff_iff, decide_eq_true_eq, ← h]
  simp [fitB, inB_iff]
theorem fit_so (x0 x1 x2 y0 y1 y2 n m k : Int) (p : Prop) [Decidable p] (h : ¬ (n = 0 ∧ m = 0 ∧ k = 0) ∧ (x0 ≤ n ∧ n = cl n y0) ∧ (x1 ≤ m ∧ m = cl m y1) ∧ (x2 ≤ k ∧ k = cl k y2) ↔ p) : (!eq3 n m k 0 0 0 && fitB x0 x1 x2 y0 y1 y2 n m k) = decide p := by
  rw [Bool.eq_iff_iff, decide_eq_true_eq, ← h]
  simp [fitB, inB_iff, eq3]
  intros; omega
theorem Valid_any (c t n m k : Int) (w : World) :
    Calls Tryz.prog 71 #[eV c t n m k] w fun e w' => e = .returned (.bool (okE c t n m k)) ∧ Below w.heap.size w w' := by
  have RA : ∀ nm kk x0 x1 x2 y0 y1 y2, 0 ≤ kk → kk < 128 → ruleV c = raV nm kk x0 x1 x2 y0 y1 y2 → kd c = kk → fitB x0 x1 x2 y0 y1 y2 n m k = okN c n m k → Calls Tryz.prog 71 #[eV c t n m k] w fun e w' => e = .returned (.bool (okE c t n m k)) ∧ Below w.heap.size w w' := fun nm kk x0 x1 x2 y0 y1 y2 h0 h1 hr hk hf => by
    unfold okE; rw [hk, ← hf]
    exact Valid_ra c t n m k nm kk x0 x1 x2 y0 y1 y2 h0 h1 hr w
  have PL : ∀ nm kk, 0 ≤ kk → kk < 128 → ruleV c = plV nm kk → kd c = kk → eq3 n m k 0 0 0 = okN c n m k → Calls Tryz.prog 71 #[eV c t n m k] w fun e w' => e = .returned (.bool (okE c t n m k)) ∧ Below w.heap.size w w' := fun nm kk h0 h1 hr hk hf => by
    unfold okE; rw [hk, ← hf]
    exact Valid_pl c t n m k nm kk h0 h1 hr w
  rcases codes c with rfl | rfl | rfl | rfl | rfl | rfl | rfl | rfl | rfl | rfl | rfl | rfl | h
  · exact RA _ _ _ _ _ _ _ _ (by omega) (by omega) ruleV_1 rfl (fit_ra _ _ _ _ _ _ _ _ _ _ (by unfold cl; omega))
  · exact RA _ _ _ _ _ _ _ _ (by omega) (by omega) ruleV_2 rfl (fit_ra _ _ _ _ _ _ _ _ _ _ (by unfold cl; omega))
  · exact RA _ _ _ _ _ _ _ _ (by omega) (by omega) ruleV_3 rfl (fit_ra _ _ _ _ _ _ _ _ _ _ (by unfold cl; omega))
  · exact RA _ _ _ _ _ _ _ _ (by omega) (by omega) ruleV_4 rfl (fit_ra _ _ _ _ _ _ _ _ _ _ (by unfold cl; omega))
  · exact PL _ _ (by omega) (by omega) ruleV_5 rfl (fit_pl _ _ _)
  · exact PL _ _ (by omega) (by omega) ruleV_6 rfl (fit_pl _ _ _)
  · exact PL _ _ (by omega) (by omega) ruleV_7 rfl (fit_pl _ _ _)
  · have hf : (!eq3 n m k 0 0 0 && fitB 0 0 0 9 9 0 n m k) = okN 8 n m k := fit_so _ _ _ _ _ _ _ _ _ _ (by unfold cl; omega)
    unfold okE; rw [show kd 8 = 15 from rfl, ← hf]
    exact Valid_so 8 t n m k _ _ _ _ _ _ _ _ (by omega) (by omega) ruleV_8 w
  · exact RA _ _ _ _ _ _ _ _ (by omega) (by omega) ruleV_9 rfl (fit_ra _ _ _ _ _ _ _ _ _ _ (by unfold cl; omega))
  · exact RA _ _ _ _ _ _ _ _ (by omega) (by omega) ruleV_10 rfl (fit_ra _ _ _ _ _ _ _ _ _ _ (by unfold cl; omega))
  · exact PL _ _ (by omega) (by omega) ruleV_11 rfl (fit_pl _ _ _)
  · exact RA _ _ _ _ _ _ _ _ (by omega) (by omega) ruleV_12 rfl (fit_ra _ _ _ _ _ _ _ _ _ _ (by unfold cl; omega))
  · refine PL _ _ (by omega) (by omega) (ruleV_no c h) ?_ ?_
    · unfold kd
      rw [if_neg (by omega), if_neg (by omega), if_neg (by omega), if_neg (by omega), if_neg (by omega), if_neg (by omega)]
    · unfold okN
      rw [if_neg (by omega), if_neg (by omega), if_neg (by omega), if_neg (by omega), if_neg (by omega), if_neg (by omega)]
      exact fit_pl _ _ _
end Go.Proofs.YtlhnnjllbcglcaaGreatDoor.efFn
