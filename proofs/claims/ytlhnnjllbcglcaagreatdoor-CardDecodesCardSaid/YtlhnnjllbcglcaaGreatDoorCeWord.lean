/- The words of numbers: what package effect's written returns. -/
import Derived.Test.YtlhnnjllbcglcaaGreatDoorCeKind
import Derived.Test.YtlhnnjllbcglcaaGreatDoorShelf
import Derived.Test.YtlhnnjllbcglcaaGreatDoorCeRDec
import Derived.Maps.AppendAt
namespace Go.Proofs.YtlhnnjllbcglcaaGreatDoor.efFn
open Go.ChangeShapes Go.WideShapes Go.ChangeAt Go.RowKit drMem
set_option linter.unusedVariables false

/- the decimal digits of a number of at most 99 -/
def tab (x : Nat) : List UInt8 := if x < 10 then [UInt8.ofNat (48 + x)] else [UInt8.ofNat (48 + x / 10), UInt8.ofNat (48 + x % 10)]
theorem dec_tab (x : Nat) (h : x ≤ 99) : Lib.decDigits x = tab x := by
  unfold Lib.decDigits tab
  split
  · rfl
  · unfold Lib.decDigits
    rw [dif_pos (by omega)]
    rfl
theorem tab_len (x : Nat) : (tab x).length ≤ 2 := by unfold tab; split <;> simp
def letW (r : Nat) : List UInt8 := if r = 0 then [69] else if r = 1 then [84] else if r = 2 then [76] else [83]
theorem Itoa_at (p : Nat) (w : World) (h : p ≤ 99) : Calls Tryz.prog 34 #[.int .i64 (p : Int)] w fun e w' => e = .returned (.string (bs (tab p))) ∧ w = w' :=
  (Tryz.strconv_Itoa_small p (by omega) w).mono fun e w' ⟨h1, h2⟩ => ⟨by rw [h1, dec_tab p h]; rfl, h2.symm⟩
theorem infoS : (Tryz.prog.info? 9).map (fun i => (i.zero, i.size, i.bytes)) = some (some (.string ⟨#[]⟩), 1, 16) := by kernel_rfl
def ss (l : List ByteArray) : List Value := l.map Value.string
theorem ss_len (l : List ByteArray) : (ss l).length = l.length := by simp [ss]
theorem ss_one (l : List ByteArray) : ∀ u ∈ ss l, u.oneCell' = true := by intro u hu; obtain ⟨x, _, rfl⟩ := List.mem_map.1 hu; rfl
/- a list of strings that comes back, in memory of its own -/
def strPost (l : List ByteArray) (w : World) (e : Ending) (w' : World) : Prop := ∃ g c, e = .returned (.slice (some ⟨g, 0, none⟩) l.length c) ∧ (∀ j u, (ss l)[j]? = some u → w'.cell? ⟨g, j, none⟩ = some u) ∧ g < w'.heap.size ∧ w.heap.size ≤ g ∧ l.length ≤ c ∧ Below w.heap.size w w'
theorem own_str {w W : World} {v : Value} {n : Nat} {l : List ByteArray} (h : W.ownsRow w.heap.size 9 1 v n (ss l)) (hn : 0 < n) (hb : Below w.heap.size w W) :
    ∃ g c, v = .slice (some ⟨g, 0, none⟩) n c ∧ (∀ j u, (ss l)[j]? = some u → W.cell? ⟨g, j, none⟩ = some u) ∧ g < W.heap.size ∧ w.heap.size ≤ g ∧ n ≤ c := by
  have hl := h.1
  rcases h.2 with ⟨_, h3⟩ | ⟨g, cap, cur, h2, hbg, hh, hcap, _⟩
  · omega
  · refine ⟨g, cap, h2, ?_, ?_, hbg, hcap⟩
    · intro j u hu
      have hj := (List.getElem?_eq_some_iff.1 hu).1
      subst h2
      rw [h.cellAt j (by omega)]; exact hu
    · exact (Array.getElem?_eq_some_iff.1 hh).1

set_option maxRecDepth 100000 in
set_option maxHeartbeats 8000000 in
theorem wr_A (nm : ByteArray) (kk a b c x : Int) (p q r : Nat) (w : World) (hx : 0 < x) (hp : p ≤ 99) (hq : q ≤ 99) (hr : r ≤ 3) :
    Calls Tryz.prog 73 #[.agg #[.int .i64 (p : Int), .int .i64 (q : Int), .int .i64 (r : Int)], raV nm kk a b c x 0 0] w (strPost [bs (tab p)] w) := by
  obtain ⟨i0, hi, hz0, hz1, hz2⟩ := info_parts infoS
  have HM0 : ∀ w, Calls Tryz.prog 130 #[.agg #[.string nm, .int .u64 kk, .int .i64 a, .int .i64 b, .int .i64 c, .int .i64 x, .int .i64 0, .int .i64 0], .int .i64 0] w fun e w' => e = .returned (.bool true) ∧ Below w.heap.size w w' := fun w =>
    (mentions_any nm kk a b c x 0 0 w 0 (by omega)).mono fun e w' ⟨h1, h2⟩ => ⟨h1.trans (ret_bool (by simp; exact hx)), h2⟩
  have HM1 : ∀ w, Calls Tryz.prog 130 #[.agg #[.string nm, .int .u64 kk, .int .i64 a, .int .i64 b, .int .i64 c, .int .i64 x, .int .i64 0, .int .i64 0], .int .i64 1] w fun e w' => e = .returned (.bool false) ∧ Below w.heap.size w w' := fun w =>
    (mentions_any nm kk a b c x 0 0 w 1 (by omega)).mono fun e w' ⟨h1, h2⟩ => ⟨h1.trans (ret_bool (by simp)), h2⟩
  have HM2 : ∀ w, Calls Tryz.prog 130 #[.agg #[.string nm, .int .u64 kk, .int .i64 a, .int .i64 b, .int .i64 c, .int .i64 x, .int .i64 0, .int .i64 0], .int .i64 2] w fun e w' => e = .returned (.bool false) ∧ Below w.heap.size w w' := fun w =>
    (mentions_any nm kk a b c x 0 0 w 2 (by omega)).mono fun e w' ⟨h1, h2⟩ => ⟨h1.trans (ret_bool (by simp)), h2⟩
  have i0' := ix0 (p : Int) q r; have i1' := ix1 (p : Int) q r; have i2' := ix2 (p : Int) q r
  go_enter Tryz.func73, Tryz.ntmps73
  go_wp2_with fail
  have B0 : Below w.heap.size w _ := ((Below.refl w.heap.size w).alloc (Nat.le_refl _) (.cells #[.int .i64 (p : Int), .int .i64 (q : Int), .int .i64 (r : Int)] 116)).alloc (by simp) (.cells #[] 9)
  have O0 := World.ownsRow_lit (base := w.heap.size) (e := 9) (size := 1) (w.alloc (.cells #[.int .i64 (p : Int), .int .i64 (q : Int), .int .i64 (r : Int)] 116)) #[] 0 (by simp) (by unfold maxLen; omega) rfl
  obtain ⟨W0, hW0⟩ : ∃ W, ((w.alloc (.cells #[.int .i64 (p : Int), .int .i64 (q : Int), .int .i64 (r : Int)] 116)).alloc (.cells #[] 9)) = W := ⟨_, rfl⟩
  have zW0 : W0.heap.size = w.heap.size + 1 + 1 := by rw [← hW0]; simp
  rw [hW0] at B0 O0 ⊢
  clear hW0
  have O0' : W0.ownsRow w.heap.size 9 1 (.slice (some ⟨w.heap.size + 1, 0, none⟩) 0 0) 0 (ss []) := by simpa [ss] using O0
  clear O0
  refine wp_loop_rounds 4 ?_
  rw [rounds_succ]
  go_wp2_with fail
  refine (HM0 _).mono ?_; rintro e m0 ⟨rfl, hm0⟩
  have Bm0 := next B0 hm0
  have Om0 := own_below O0' hm0
  have zm0 := Bm0.size
  go_wp2_with (first | (go_at_call 34; refine (Itoa_at p _ (by omega)).mono ?_; rintro e w' ⟨rfl, rfl⟩) | (at_builtin; refine wpList_append_own _ rfl _ _ 63 rfl w.heap.size 9 i0 (.string ⟨#[]⟩) 1 16 Tryz.underlying63 hi hz0 hz1 hz2 rfl (by decide) _ 0 _ rfl (Om0.alloc _) ⟨m0.heap.size, 0, none⟩ 1 1 [.string (bs (tab p))] rfl rfl (cell_one_new _ _ _) (by simp [Value.oneCell']) (by unfold maxLen; omega) (by omega) (by simp; omega) ?_; intro v0 n0 hown hgrow _; have Bn0 := below_own (Bm0.alloc zm0 _) (Om0.alloc _) hgrow (by simp; omega); have On0 : n0.ownsRow w.heap.size 9 1 v0 1 (ss [bs (tab p)]) := hown; clear hown hgrow))
  rw [rounds_succ]
  go_wp2_with fail
  refine (HM1 _).mono ?_; rintro e m1 ⟨rfl, hm1⟩
  have Bm1 := next Bn0 hm1
  have Om1 := own_below On0 hm1
  have zm1 := Bm1.size
  go_wp2_with fail
  rw [rounds_succ]
  go_wp2_with fail
  refine (HM2 _).mono ?_; rintro e m2 ⟨rfl, hm2⟩
  have Bm2 := next Bm1 hm2
  have Om2 := own_below Om1 hm2
  have zm2 := Bm2.size
  go_wp2_with fail
  rw [rounds_succ]
  go_wp2_with fail
  go_ret
  obtain ⟨g, cc, rfl, h1, h2, h3, h4⟩ := own_str Om2 (by omega) Bm2
  exact ⟨g, cc, rfl, h1, h2, h3, h4, Bm2⟩

set_option maxRecDepth 100000 in
set_option maxHeartbeats 8000000 in
theorem wr_B (nm : ByteArray) (kk a b c x y : Int) (p q r : Nat) (w : World) (hx : 0 < x) (hy : 0 < y) (hp : p ≤ 99) (hq : q ≤ 99) (hr : r ≤ 3) :
    Calls Tryz.prog 73 #[.agg #[.int .i64 (p : Int), .int .i64 (q : Int), .int .i64 (r : Int)], raV nm kk a b c x y 0] w (strPost [bs (tab p), bs (tab q)] w) := by
  obtain ⟨i0, hi, hz0, hz1, hz2⟩ := info_parts infoS
  have HM0 : ∀ w, Calls Tryz.prog 130 #[.agg #[.string nm, .int .u64 kk, .int .i64 a, .int .i64 b, .int .i64 c, .int .i64 x, .int .i64 y, .int .i64 0], .int .i64 0] w fun e w' => e = .returned (.bool true) ∧ Below w.heap.size w w' := fun w =>
    (mentions_any nm kk a b c x y 0 w 0 (by omega)).mono fun e w' ⟨h1, h2⟩ => ⟨h1.trans (ret_bool (by simp; exact hx)), h2⟩
  have HM1 : ∀ w, Calls Tryz.prog 130 #[.agg #[.string nm, .int .u64 kk, .int .i64 a, .int .i64 b, .int .i64 c, .int .i64 x, .int .i64 y, .int .i64 0], .int .i64 1] w fun e w' => e = .returned (.bool true) ∧ Below w.heap.size w w' := fun w =>
    (mentions_any nm kk a b c x y 0 w 1 (by omega)).mono fun e w' ⟨h1, h2⟩ => ⟨h1.trans (ret_bool (by simp; exact hy)), h2⟩
  have HM2 : ∀ w, Calls Tryz.prog 130 #[.agg #[.string nm, .int .u64 kk, .int .i64 a, .int .i64 b, .int .i64 c, .int .i64 x, .int .i64 y, .int .i64 0], .int .i64 2] w fun e w' => e = .returned (.bool false) ∧ Below w.heap.size w w' := fun w =>
    (mentions_any nm kk a b c x y 0 w 2 (by omega)).mono fun e w' ⟨h1, h2⟩ => ⟨h1.trans (ret_bool (by simp)), h2⟩
  have i0' := ix0 (p : Int) q r; have i1' := ix1 (p : Int) q r; have i2' := ix2 (p : Int) q r
  go_enter Tryz.func73, Tryz.ntmps73
  go_wp2_with fail
  have B0 : Below w.heap.size w _ := ((Below.refl w.heap.size w).alloc (Nat.le_refl _) (.cells #[.int .i64 (p : Int), .int .i64 (q : Int), .int .i64 (r : Int)] 116)).alloc (by simp) (.cells #[] 9)
  have O0 := World.ownsRow_lit (base := w.heap.size) (e := 9) (size := 1) (w.alloc (.cells #[.int .i64 (p : Int), .int .i64 (q : Int), .int .i64 (r : Int)] 116)) #[] 0 (by simp) (by unfold maxLen; omega) rfl
  obtain ⟨W0, hW0⟩ : ∃ W, ((w.alloc (.cells #[.int .i64 (p : Int), .int .i64 (q : Int), .int .i64 (r : Int)] 116)).alloc (.cells #[] 9)) = W := ⟨_, rfl⟩
  have zW0 : W0.heap.size = w.heap.size + 1 + 1 := by rw [← hW0]; simp
  rw [hW0] at B0 O0 ⊢
  clear hW0
  have O0' : W0.ownsRow w.heap.size 9 1 (.slice (some ⟨w.heap.size + 1, 0, none⟩) 0 0) 0 (ss []) := by simpa [ss] using O0
  clear O0
  refine wp_loop_rounds 4 ?_
  rw [rounds_succ]
  go_wp2_with fail
  refine (HM0 _).mono ?_; rintro e m0 ⟨rfl, hm0⟩
  have Bm0 := next B0 hm0
  have Om0 := own_below O0' hm0
  have zm0 := Bm0.size
  go_wp2_with (first | (go_at_call 34; refine (Itoa_at p _ (by omega)).mono ?_; rintro e w' ⟨rfl, rfl⟩) | (at_builtin; refine wpList_append_own _ rfl _ _ 63 rfl w.heap.size 9 i0 (.string ⟨#[]⟩) 1 16 Tryz.underlying63 hi hz0 hz1 hz2 rfl (by decide) _ 0 _ rfl (Om0.alloc _) ⟨m0.heap.size, 0, none⟩ 1 1 [.string (bs (tab p))] rfl rfl (cell_one_new _ _ _) (by simp [Value.oneCell']) (by unfold maxLen; omega) (by omega) (by simp; omega) ?_; intro v0 n0 hown hgrow _; have Bn0 := below_own (Bm0.alloc zm0 _) (Om0.alloc _) hgrow (by simp; omega); have On0 : n0.ownsRow w.heap.size 9 1 v0 1 (ss [bs (tab p)]) := hown; clear hown hgrow))
  rw [rounds_succ]
  go_wp2_with fail
  refine (HM1 _).mono ?_; rintro e m1 ⟨rfl, hm1⟩
  have Bm1 := next Bn0 hm1
  have Om1 := own_below On0 hm1
  have zm1 := Bm1.size
  go_wp2_with (first | (go_at_call 34; refine (Itoa_at q _ (by omega)).mono ?_; rintro e w' ⟨rfl, rfl⟩) | (at_builtin; refine wpList_append_own _ rfl _ _ 63 rfl w.heap.size 9 i0 (.string ⟨#[]⟩) 1 16 Tryz.underlying63 hi hz0 hz1 hz2 rfl (by decide) _ 1 _ rfl (Om1.alloc _) ⟨m1.heap.size, 0, none⟩ 1 1 [.string (bs (tab q))] rfl rfl (cell_one_new _ _ _) (by simp [Value.oneCell']) (by unfold maxLen; omega) (by omega) (by simp; omega) ?_; intro v1 n1 hown hgrow _; have Bn1 := below_own (Bm1.alloc zm1 _) (Om1.alloc _) hgrow (by simp; omega); have On1 : n1.ownsRow w.heap.size 9 1 v1 2 (ss [bs (tab p), bs (tab q)]) := hown; clear hown hgrow))
  rw [rounds_succ]
  go_wp2_with fail
  refine (HM2 _).mono ?_; rintro e m2 ⟨rfl, hm2⟩
  have Bm2 := next Bn1 hm2
  have Om2 := own_below On1 hm2
  have zm2 := Bm2.size
  go_wp2_with fail
  rw [rounds_succ]
  go_wp2_with fail
  go_ret
  obtain ⟨g, cc, rfl, h1, h2, h3, h4⟩ := own_str Om2 (by omega) Bm2
  exact ⟨g, cc, rfl, h1, h2, h3, h4, Bm2⟩

set_option maxRecDepth 100000 in
set_option maxHeartbeats 8000000 in
theorem wr_C0 (nm : ByteArray) (kk a b c x z : Int) (p q : Nat) (w : World) (hx : 0 < x) (hz : 0 < z) (hp : p ≤ 99) (hq : q ≤ 99) :
    Calls Tryz.prog 73 #[.agg #[.int .i64 (p : Int), .int .i64 (q : Int), .int .i64 0], raV nm kk a b c x 0 z] w (strPost [bs (tab p), bs (letW 0)] w) := by
  obtain ⟨i0, hi, hz0, hz1, hz2⟩ := info_parts infoS
  have HM0 : ∀ w, Calls Tryz.prog 130 #[.agg #[.string nm, .int .u64 kk, .int .i64 a, .int .i64 b, .int .i64 c, .int .i64 x, .int .i64 0, .int .i64 z], .int .i64 0] w fun e w' => e = .returned (.bool true) ∧ Below w.heap.size w w' := fun w =>
    (mentions_any nm kk a b c x 0 z w 0 (by omega)).mono fun e w' ⟨h1, h2⟩ => ⟨h1.trans (ret_bool (by simp; exact hx)), h2⟩
  have HM1 : ∀ w, Calls Tryz.prog 130 #[.agg #[.string nm, .int .u64 kk, .int .i64 a, .int .i64 b, .int .i64 c, .int .i64 x, .int .i64 0, .int .i64 z], .int .i64 1] w fun e w' => e = .returned (.bool false) ∧ Below w.heap.size w w' := fun w =>
    (mentions_any nm kk a b c x 0 z w 1 (by omega)).mono fun e w' ⟨h1, h2⟩ => ⟨h1.trans (ret_bool (by simp)), h2⟩
  have HM2 : ∀ w, Calls Tryz.prog 130 #[.agg #[.string nm, .int .u64 kk, .int .i64 a, .int .i64 b, .int .i64 c, .int .i64 x, .int .i64 0, .int .i64 z], .int .i64 2] w fun e w' => e = .returned (.bool true) ∧ Below w.heap.size w w' := fun w =>
    (mentions_any nm kk a b c x 0 z w 2 (by omega)).mono fun e w' ⟨h1, h2⟩ => ⟨h1.trans (ret_bool (by simp; exact hz)), h2⟩
  have i0' := ix0 (p : Int) q 0; have i1' := ix1 (p : Int) q 0; have i2' := ix2 (p : Int) q 0
  go_enter Tryz.func73, Tryz.ntmps73
  go_wp2_with fail
  have B0 : Below w.heap.size w _ := ((Below.refl w.heap.size w).alloc (Nat.le_refl _) (.cells #[.int .i64 (p : Int), .int .i64 (q : Int), .int .i64 0] 116)).alloc (by simp) (.cells #[] 9)
  have O0 := World.ownsRow_lit (base := w.heap.size) (e := 9) (size := 1) (w.alloc (.cells #[.int .i64 (p : Int), .int .i64 (q : Int), .int .i64 0] 116)) #[] 0 (by simp) (by unfold maxLen; omega) rfl
  obtain ⟨W0, hW0⟩ : ∃ W, ((w.alloc (.cells #[.int .i64 (p : Int), .int .i64 (q : Int), .int .i64 0] 116)).alloc (.cells #[] 9)) = W := ⟨_, rfl⟩
  have zW0 : W0.heap.size = w.heap.size + 1 + 1 := by rw [← hW0]; simp
  rw [hW0] at B0 O0 ⊢
  clear hW0
  have O0' : W0.ownsRow w.heap.size 9 1 (.slice (some ⟨w.heap.size + 1, 0, none⟩) 0 0) 0 (ss []) := by simpa [ss] using O0
  clear O0
  refine wp_loop_rounds 4 ?_
  rw [rounds_succ]
  go_wp2_with fail
  refine (HM0 _).mono ?_; rintro e m0 ⟨rfl, hm0⟩
  have Bm0 := next B0 hm0
  have Om0 := own_below O0' hm0
  have zm0 := Bm0.size
  go_wp2_with (first | (go_at_call 34; refine (Itoa_at p _ (by omega)).mono ?_; rintro e w' ⟨rfl, rfl⟩) | (at_builtin; refine wpList_append_own _ rfl _ _ 63 rfl w.heap.size 9 i0 (.string ⟨#[]⟩) 1 16 Tryz.underlying63 hi hz0 hz1 hz2 rfl (by decide) _ 0 _ rfl (Om0.alloc _) ⟨m0.heap.size, 0, none⟩ 1 1 [.string (bs (tab p))] rfl rfl (cell_one_new _ _ _) (by simp [Value.oneCell']) (by unfold maxLen; omega) (by omega) (by simp; omega) ?_; intro v0 n0 hown hgrow _; have Bn0 := below_own (Bm0.alloc zm0 _) (Om0.alloc _) hgrow (by simp; omega); have On0 : n0.ownsRow w.heap.size 9 1 v0 1 (ss [bs (tab p)]) := hown; clear hown hgrow))
  rw [rounds_succ]
  go_wp2_with fail
  refine (HM1 _).mono ?_; rintro e m1 ⟨rfl, hm1⟩
  have Bm1 := next Bn0 hm1
  have Om1 := own_below On0 hm1
  have zm1 := Bm1.size
  go_wp2_with fail
  rw [rounds_succ]
  go_wp2_with fail
  refine (HM2 _).mono ?_; rintro e m2 ⟨rfl, hm2⟩
  have Bm2 := next Bm1 hm2
  have Om2 := own_below Om1 hm2
  have zm2 := Bm2.size
  go_wp2_with (first | (at_builtin; refine wpList_append_own _ rfl _ _ 63 rfl w.heap.size 9 i0 (.string ⟨#[]⟩) 1 16 Tryz.underlying63 hi hz0 hz1 hz2 rfl (by decide) _ 1 _ rfl (Om2.alloc _) ⟨m2.heap.size, 0, none⟩ 1 1 [.string _] rfl rfl (cell_one_new _ _ _) (by simp [Value.oneCell']) (by unfold maxLen; omega) (by omega) (by simp; omega) ?_; intro v2 n2 hown hgrow _; have Bn2 := below_own (Bm2.alloc zm2 _) (Om2.alloc _) hgrow (by simp; omega); have On2 : n2.ownsRow w.heap.size 9 1 v2 2 (ss [bs (tab p), _]) := hown; clear hown hgrow))
  rw [rounds_succ]
  go_wp2_with fail
  go_ret
  obtain ⟨g, cc, rfl, h1, h2, h3, h4⟩ := own_str On2 (by omega) Bn2
  exact ⟨g, cc, rfl, h1, h2, h3, h4, Bn2⟩

set_option maxRecDepth 100000 in
set_option maxHeartbeats 8000000 in
theorem wr_C1 (nm : ByteArray) (kk a b c x z : Int) (p q : Nat) (w : World) (hx : 0 < x) (hz : 0 < z) (hp : p ≤ 99) (hq : q ≤ 99) :
    Calls Tryz.prog 73 #[.agg #[.int .i64 (p : Int), .int .i64 (q : Int), .int .i64 1], raV nm kk a b c x 0 z] w (strPost [bs (tab p), bs (letW 1)] w) := by
  obtain ⟨i0, hi, hz0, hz1, hz2⟩ := info_parts infoS
  have HM0 : ∀ w, Calls Tryz.prog 130 #[.agg #[.string nm, .int .u64 kk, .int .i64 a, .int .i64 b, .int .i64 c, .int .i64 x, .int .i64 0, .int .i64 z], .int .i64 0] w fun e w' => e = .returned (.bool true) ∧ Below w.heap.size w w' := fun w =>
    (mentions_any nm kk a b c x 0 z w 0 (by omega)).mono fun e w' ⟨h1, h2⟩ => ⟨h1.trans (ret_bool (by simp; exact hx)), h2⟩
  have HM1 : ∀ w, Calls Tryz.prog 130 #[.agg #[.string nm, .int .u64 kk, .int .i64 a, .int .i64 b, .int .i64 c, .int .i64 x, .int .i64 0, .int .i64 z], .int .i64 1] w fun e w' => e = .returned (.bool false) ∧ Below w.heap.size w w' := fun w =>
    (mentions_any nm kk a b c x 0 z w 1 (by omega)).mono fun e w' ⟨h1, h2⟩ => ⟨h1.trans (ret_bool (by simp)), h2⟩
  have HM2 : ∀ w, Calls Tryz.prog 130 #[.agg #[.string nm, .int .u64 kk, .int .i64 a, .int .i64 b, .int .i64 c, .int .i64 x, .int .i64 0, .int .i64 z], .int .i64 2] w fun e w' => e = .returned (.bool true) ∧ Below w.heap.size w w' := fun w =>
    (mentions_any nm kk a b c x 0 z w 2 (by omega)).mono fun e w' ⟨h1, h2⟩ => ⟨h1.trans (ret_bool (by simp; exact hz)), h2⟩
  have i0' := ix0 (p : Int) q 1; have i1' := ix1 (p : Int) q 1; have i2' := ix2 (p : Int) q 1
  go_enter Tryz.func73, Tryz.ntmps73
  go_wp2_with fail
  have B0 : Below w.heap.size w _ := ((Below.refl w.heap.size w).alloc (Nat.le_refl _) (.cells #[.int .i64 (p : Int), .int .i64 (q : Int), .int .i64 1] 116)).alloc (by simp) (.cells #[] 9)
  have O0 := World.ownsRow_lit (base := w.heap.size) (e := 9) (size := 1) (w.alloc (.cells #[.int .i64 (p : Int), .int .i64 (q : Int), .int .i64 1] 116)) #[] 0 (by simp) (by unfold maxLen; omega) rfl
  obtain ⟨W0, hW0⟩ : ∃ W, ((w.alloc (.cells #[.int .i64 (p : Int), .int .i64 (q : Int), .int .i64 1] 116)).alloc (.cells #[] 9)) = W := ⟨_, rfl⟩
  have zW0 : W0.heap.size = w.heap.size + 1 + 1 := by rw [← hW0]; simp
  rw [hW0] at B0 O0 ⊢
  clear hW0
  have O0' : W0.ownsRow w.heap.size 9 1 (.slice (some ⟨w.heap.size + 1, 0, none⟩) 0 0) 0 (ss []) := by simpa [ss] using O0
  clear O0
  refine wp_loop_rounds 4 ?_
  rw [rounds_succ]
  go_wp2_with fail
  refine (HM0 _).mono ?_; rintro e m0 ⟨rfl, hm0⟩
  have Bm0 := next B0 hm0
  have Om0 := own_below O0' hm0
  have zm0 := Bm0.size
  go_wp2_with (first | (go_at_call 34; refine (Itoa_at p _ (by omega)).mono ?_; rintro e w' ⟨rfl, rfl⟩) | (at_builtin; refine wpList_append_own _ rfl _ _ 63 rfl w.heap.size 9 i0 (.string ⟨#[]⟩) 1 16 Tryz.underlying63 hi hz0 hz1 hz2 rfl (by decide) _ 0 _ rfl (Om0.alloc _) ⟨m0.heap.size, 0, none⟩ 1 1 [.string (bs (tab p))] rfl rfl (cell_one_new _ _ _) (by simp [Value.oneCell']) (by unfold maxLen; omega) (by omega) (by simp; omega) ?_; intro v0 n0 hown hgrow _; have Bn0 := below_own (Bm0.alloc zm0 _) (Om0.alloc _) hgrow (by simp; omega); have On0 : n0.ownsRow w.heap.size 9 1 v0 1 (ss [bs (tab p)]) := hown; clear hown hgrow))
  rw [rounds_succ]
  go_wp2_with fail
  refine (HM1 _).mono ?_; rintro e m1 ⟨rfl, hm1⟩
  have Bm1 := next Bn0 hm1
  have Om1 := own_below On0 hm1
  have zm1 := Bm1.size
  go_wp2_with fail
  rw [rounds_succ]
  go_wp2_with fail
  refine (HM2 _).mono ?_; rintro e m2 ⟨rfl, hm2⟩
  have Bm2 := next Bm1 hm2
  have Om2 := own_below Om1 hm2
  have zm2 := Bm2.size
  go_wp2_with (first | (at_builtin; refine wpList_append_own _ rfl _ _ 63 rfl w.heap.size 9 i0 (.string ⟨#[]⟩) 1 16 Tryz.underlying63 hi hz0 hz1 hz2 rfl (by decide) _ 1 _ rfl (Om2.alloc _) ⟨m2.heap.size, 0, none⟩ 1 1 [.string _] rfl rfl (cell_one_new _ _ _) (by simp [Value.oneCell']) (by unfold maxLen; omega) (by omega) (by simp; omega) ?_; intro v2 n2 hown hgrow _; have Bn2 := below_own (Bm2.alloc zm2 _) (Om2.alloc _) hgrow (by simp; omega); have On2 : n2.ownsRow w.heap.size 9 1 v2 2 (ss [bs (tab p), _]) := hown; clear hown hgrow))
  rw [rounds_succ]
  go_wp2_with fail
  go_ret
  obtain ⟨g, cc, rfl, h1, h2, h3, h4⟩ := own_str On2 (by omega) Bn2
  exact ⟨g, cc, rfl, h1, h2, h3, h4, Bn2⟩

set_option maxRecDepth 100000 in
set_option maxHeartbeats 8000000 in
theorem wr_C2 (nm : ByteArray) (kk a b c x z : Int) (p q : Nat) (w : World) (hx : 0 < x) (hz : 0 < z) (hp : p ≤ 99) (hq : q ≤ 99) :
    Calls Tryz.prog 73 #[.agg #[.int .i64 (p : Int), .int .i64 (q : Int), .int .i64 2], raV nm kk a b c x 0 z] w (strPost [bs (tab p), bs (letW 2)] w) := by
  obtain ⟨i0, hi, hz0, hz1, hz2⟩ := info_parts infoS
  have HM0 : ∀ w, Calls Tryz.prog 130 #[.agg #[.string nm, .int .u64 kk, .int .i64 a, .int .i64 b, .int .i64 c, .int .i64 x, .int .i64 0, .int .i64 z], .int .i64 0] w fun e w' => e = .returned (.bool true) ∧ Below w.heap.size w w' := fun w =>
    (mentions_any nm kk a b c x 0 z w 0 (by omega)).mono fun e w' ⟨h1, h2⟩ => ⟨h1.trans (ret_bool (by simp; exact hx)), h2⟩
  have HM1 : ∀ w, Calls Tryz.prog 130 #[.agg #[.string nm, .int .u64 kk, .int .i64 a, .int .i64 b, .int .i64 c, .int .i64 x, .int .i64 0, .int .i64 z], .int .i64 1] w fun e w' => e = .returned (.bool false) ∧ Below w.heap.size w w' := fun w =>
    (mentions_any nm kk a b c x 0 z w 1 (by omega)).mono fun e w' ⟨h1, h2⟩ => ⟨h1.trans (ret_bool (by simp)), h2⟩
  have HM2 : ∀ w, Calls Tryz.prog 130 #[.agg #[.string nm, .int .u64 kk, .int .i64 a, .int .i64 b, .int .i64 c, .int .i64 x, .int .i64 0, .int .i64 z], .int .i64 2] w fun e w' => e = .returned (.bool true) ∧ Below w.heap.size w w' := fun w =>
    (mentions_any nm kk a b c x 0 z w 2 (by omega)).mono fun e w' ⟨h1, h2⟩ => ⟨h1.trans (ret_bool (by simp; exact hz)), h2⟩
  have i0' := ix0 (p : Int) q 2; have i1' := ix1 (p : Int) q 2; have i2' := ix2 (p : Int) q 2
  go_enter Tryz.func73, Tryz.ntmps73
  go_wp2_with fail
  have B0 : Below w.heap.size w _ := ((Below.refl w.heap.size w).alloc (Nat.le_refl _) (.cells #[.int .i64 (p : Int), .int .i64 (q : Int), .int .i64 2] 116)).alloc (by simp) (.cells #[] 9)
  have O0 := World.ownsRow_lit (base := w.heap.size) (e := 9) (size := 1) (w.alloc (.cells #[.int .i64 (p : Int), .int .i64 (q : Int), .int .i64 2] 116)) #[] 0 (by simp) (by unfold maxLen; omega) rfl
  obtain ⟨W0, hW0⟩ : ∃ W, ((w.alloc (.cells #[.int .i64 (p : Int), .int .i64 (q : Int), .int .i64 2] 116)).alloc (.cells #[] 9)) = W := ⟨_, rfl⟩
  have zW0 : W0.heap.size = w.heap.size + 1 + 1 := by rw [← hW0]; simp
  rw [hW0] at B0 O0 ⊢
  clear hW0
  have O0' : W0.ownsRow w.heap.size 9 1 (.slice (some ⟨w.heap.size + 1, 0, none⟩) 0 0) 0 (ss []) := by simpa [ss] using O0
  clear O0
  refine wp_loop_rounds 4 ?_
  rw [rounds_succ]
  go_wp2_with fail
  refine (HM0 _).mono ?_; rintro e m0 ⟨rfl, hm0⟩
  have Bm0 := next B0 hm0
  have Om0 := own_below O0' hm0
  have zm0 := Bm0.size
  go_wp2_with (first | (go_at_call 34; refine (Itoa_at p _ (by omega)).mono ?_; rintro e w' ⟨rfl, rfl⟩) | (at_builtin; refine wpList_append_own _ rfl _ _ 63 rfl w.heap.size 9 i0 (.string ⟨#[]⟩) 1 16 Tryz.underlying63 hi hz0 hz1 hz2 rfl (by decide) _ 0 _ rfl (Om0.alloc _) ⟨m0.heap.size, 0, none⟩ 1 1 [.string (bs (tab p))] rfl rfl (cell_one_new _ _ _) (by simp [Value.oneCell']) (by unfold maxLen; omega) (by omega) (by simp; omega) ?_; intro v0 n0 hown hgrow _; have Bn0 := below_own (Bm0.alloc zm0 _) (Om0.alloc _) hgrow (by simp; omega); have On0 : n0.ownsRow w.heap.size 9 1 v0 1 (ss [bs (tab p)]) := hown; clear hown hgrow))
  rw [rounds_succ]
  go_wp2_with fail
  refine (HM1 _).mono ?_; rintro e m1 ⟨rfl, hm1⟩
  have Bm1 := next Bn0 hm1
  have Om1 := own_below On0 hm1
  have zm1 := Bm1.size
  go_wp2_with fail
  rw [rounds_succ]
  go_wp2_with fail
  refine (HM2 _).mono ?_; rintro e m2 ⟨rfl, hm2⟩
  have Bm2 := next Bm1 hm2
  have Om2 := own_below Om1 hm2
  have zm2 := Bm2.size
  go_wp2_with (first | (at_builtin; refine wpList_append_own _ rfl _ _ 63 rfl w.heap.size 9 i0 (.string ⟨#[]⟩) 1 16 Tryz.underlying63 hi hz0 hz1 hz2 rfl (by decide) _ 1 _ rfl (Om2.alloc _) ⟨m2.heap.size, 0, none⟩ 1 1 [.string _] rfl rfl (cell_one_new _ _ _) (by simp [Value.oneCell']) (by unfold maxLen; omega) (by omega) (by simp; omega) ?_; intro v2 n2 hown hgrow _; have Bn2 := below_own (Bm2.alloc zm2 _) (Om2.alloc _) hgrow (by simp; omega); have On2 : n2.ownsRow w.heap.size 9 1 v2 2 (ss [bs (tab p), _]) := hown; clear hown hgrow))
  rw [rounds_succ]
  go_wp2_with fail
  go_ret
  obtain ⟨g, cc, rfl, h1, h2, h3, h4⟩ := own_str On2 (by omega) Bn2
  exact ⟨g, cc, rfl, h1, h2, h3, h4, Bn2⟩

set_option maxRecDepth 100000 in
set_option maxHeartbeats 8000000 in
theorem wr_C3 (nm : ByteArray) (kk a b c x z : Int) (p q : Nat) (w : World) (hx : 0 < x) (hz : 0 < z) (hp : p ≤ 99) (hq : q ≤ 99) :
    Calls Tryz.prog 73 #[.agg #[.int .i64 (p : Int), .int .i64 (q : Int), .int .i64 3], raV nm kk a b c x 0 z] w (strPost [bs (tab p), bs (letW 3)] w) := by
  obtain ⟨i0, hi, hz0, hz1, hz2⟩ := info_parts infoS
  have HM0 : ∀ w, Calls Tryz.prog 130 #[.agg #[.string nm, .int .u64 kk, .int .i64 a, .int .i64 b, .int .i64 c, .int .i64 x, .int .i64 0, .int .i64 z], .int .i64 0] w fun e w' => e = .returned (.bool true) ∧ Below w.heap.size w w' := fun w =>
    (mentions_any nm kk a b c x 0 z w 0 (by omega)).mono fun e w' ⟨h1, h2⟩ => ⟨h1.trans (ret_bool (by simp; exact hx)), h2⟩
  have HM1 : ∀ w, Calls Tryz.prog 130 #[.agg #[.string nm, .int .u64 kk, .int .i64 a, .int .i64 b, .int .i64 c, .int .i64 x, .int .i64 0, .int .i64 z], .int .i64 1] w fun e w' => e = .returned (.bool false) ∧ Below w.heap.size w w' := fun w =>
    (mentions_any nm kk a b c x 0 z w 1 (by omega)).mono fun e w' ⟨h1, h2⟩ => ⟨h1.trans (ret_bool (by simp)), h2⟩
  have HM2 : ∀ w, Calls Tryz.prog 130 #[.agg #[.string nm, .int .u64 kk, .int .i64 a, .int .i64 b, .int .i64 c, .int .i64 x, .int .i64 0, .int .i64 z], .int .i64 2] w fun e w' => e = .returned (.bool true) ∧ Below w.heap.size w w' := fun w =>
    (mentions_any nm kk a b c x 0 z w 2 (by omega)).mono fun e w' ⟨h1, h2⟩ => ⟨h1.trans (ret_bool (by simp; exact hz)), h2⟩
  have i0' := ix0 (p : Int) q 3; have i1' := ix1 (p : Int) q 3; have i2' := ix2 (p : Int) q 3
  go_enter Tryz.func73, Tryz.ntmps73
  go_wp2_with fail
  have B0 : Below w.heap.size w _ := ((Below.refl w.heap.size w).alloc (Nat.le_refl _) (.cells #[.int .i64 (p : Int), .int .i64 (q : Int), .int .i64 3] 116)).alloc (by simp) (.cells #[] 9)
  have O0 := World.ownsRow_lit (base := w.heap.size) (e := 9) (size := 1) (w.alloc (.cells #[.int .i64 (p : Int), .int .i64 (q : Int), .int .i64 3] 116)) #[] 0 (by simp) (by unfold maxLen; omega) rfl
  obtain ⟨W0, hW0⟩ : ∃ W, ((w.alloc (.cells #[.int .i64 (p : Int), .int .i64 (q : Int), .int .i64 3] 116)).alloc (.cells #[] 9)) = W := ⟨_, rfl⟩
  have zW0 : W0.heap.size = w.heap.size + 1 + 1 := by rw [← hW0]; simp
  rw [hW0] at B0 O0 ⊢
  clear hW0
  have O0' : W0.ownsRow w.heap.size 9 1 (.slice (some ⟨w.heap.size + 1, 0, none⟩) 0 0) 0 (ss []) := by simpa [ss] using O0
  clear O0
  refine wp_loop_rounds 4 ?_
  rw [rounds_succ]
  go_wp2_with fail
  refine (HM0 _).mono ?_; rintro e m0 ⟨rfl, hm0⟩
  have Bm0 := next B0 hm0
  have Om0 := own_below O0' hm0
  have zm0 := Bm0.size
  go_wp2_with (first | (go_at_call 34; refine (Itoa_at p _ (by omega)).mono ?_; rintro e w' ⟨rfl, rfl⟩) | (at_builtin; refine wpList_append_own _ rfl _ _ 63 rfl w.heap.size 9 i0 (.string ⟨#[]⟩) 1 16 Tryz.underlying63 hi hz0 hz1 hz2 rfl (by decide) _ 0 _ rfl (Om0.alloc _) ⟨m0.heap.size, 0, none⟩ 1 1 [.string (bs (tab p))] rfl rfl (cell_one_new _ _ _) (by simp [Value.oneCell']) (by unfold maxLen; omega) (by omega) (by simp; omega) ?_; intro v0 n0 hown hgrow _; have Bn0 := below_own (Bm0.alloc zm0 _) (Om0.alloc _) hgrow (by simp; omega); have On0 : n0.ownsRow w.heap.size 9 1 v0 1 (ss [bs (tab p)]) := hown; clear hown hgrow))
  rw [rounds_succ]
  go_wp2_with fail
  refine (HM1 _).mono ?_; rintro e m1 ⟨rfl, hm1⟩
  have Bm1 := next Bn0 hm1
  have Om1 := own_below On0 hm1
  have zm1 := Bm1.size
  go_wp2_with fail
  rw [rounds_succ]
  go_wp2_with fail
  refine (HM2 _).mono ?_; rintro e m2 ⟨rfl, hm2⟩
  have Bm2 := next Bm1 hm2
  have Om2 := own_below Om1 hm2
  have zm2 := Bm2.size
  go_wp2_with (first | (at_builtin; refine wpList_append_own _ rfl _ _ 63 rfl w.heap.size 9 i0 (.string ⟨#[]⟩) 1 16 Tryz.underlying63 hi hz0 hz1 hz2 rfl (by decide) _ 1 _ rfl (Om2.alloc _) ⟨m2.heap.size, 0, none⟩ 1 1 [.string _] rfl rfl (cell_one_new _ _ _) (by simp [Value.oneCell']) (by unfold maxLen; omega) (by omega) (by simp; omega) ?_; intro v2 n2 hown hgrow _; have Bn2 := below_own (Bm2.alloc zm2 _) (Om2.alloc _) hgrow (by simp; omega); have On2 : n2.ownsRow w.heap.size 9 1 v2 2 (ss [bs (tab p), _]) := hown; clear hown hgrow))
  rw [rounds_succ]
  go_wp2_with fail
  go_ret
  obtain ⟨g, cc, rfl, h1, h2, h3, h4⟩ := own_str On2 (by omega) Bn2
  exact ⟨g, cc, rfl, h1, h2, h3, h4, Bn2⟩

theorem wr_C (nm : ByteArray) (kk a b c x z : Int) (p q r : Nat) (w : World) (hx : 0 < x) (hz : 0 < z) (hp : p ≤ 99) (hq : q ≤ 99) (hr : r ≤ 3) :
    Calls Tryz.prog 73 #[.agg #[.int .i64 (p : Int), .int .i64 (q : Int), .int .i64 (r : Int)], raV nm kk a b c x 0 z] w (strPost [bs (tab p), bs (letW r)] w) := by
  obtain rfl | rfl | rfl | rfl : r = 0 ∨ r = 1 ∨ r = 2 ∨ r = 3 := by omega
  · exact wr_C0 nm kk a b c x z p q w hx hz hp hq
  · exact wr_C1 nm kk a b c x z p q w hx hz hp hq
  · exact wr_C2 nm kk a b c x z p q w hx hz hp hq
  · exact wr_C3 nm kk a b c x z p q w hx hz hp hq

set_option maxRecDepth 100000 in
set_option maxHeartbeats 8000000 in
theorem wr_S (nm : ByteArray) (kk a b c x y : Int) (p q r : Nat) (w : World) (hx : 0 < x) (hy : 0 < y) (hp : p ≤ 99) (hq : q ≤ 99) (hr : r ≤ 3) :
    Calls Tryz.prog 73 #[.agg #[.int .i64 (p : Int), .int .i64 (q : Int), .int .i64 (r : Int)], soV nm kk a b c x y 0] w (strPost [bs (tab p), bs (tab q)] w) := by
  obtain ⟨i0, hi, hz0, hz1, hz2⟩ := info_parts infoS
  have HM0 : ∀ w, Calls Tryz.prog 130 #[.agg #[.string nm, .int .u64 kk, .int .i64 a, .int .i64 b, .int .i64 c, .int .i64 x, .int .i64 y, .int .i64 0], .int .i64 0] w fun e w' => e = .returned (.bool true) ∧ Below w.heap.size w w' := fun w =>
    (mentions_any nm kk a b c x y 0 w 0 (by omega)).mono fun e w' ⟨h1, h2⟩ => ⟨h1.trans (ret_bool (by simp; exact hx)), h2⟩
  have HM1 : ∀ w, Calls Tryz.prog 130 #[.agg #[.string nm, .int .u64 kk, .int .i64 a, .int .i64 b, .int .i64 c, .int .i64 x, .int .i64 y, .int .i64 0], .int .i64 1] w fun e w' => e = .returned (.bool true) ∧ Below w.heap.size w w' := fun w =>
    (mentions_any nm kk a b c x y 0 w 1 (by omega)).mono fun e w' ⟨h1, h2⟩ => ⟨h1.trans (ret_bool (by simp; exact hy)), h2⟩
  have HM2 : ∀ w, Calls Tryz.prog 130 #[.agg #[.string nm, .int .u64 kk, .int .i64 a, .int .i64 b, .int .i64 c, .int .i64 x, .int .i64 y, .int .i64 0], .int .i64 2] w fun e w' => e = .returned (.bool false) ∧ Below w.heap.size w w' := fun w =>
    (mentions_any nm kk a b c x y 0 w 2 (by omega)).mono fun e w' ⟨h1, h2⟩ => ⟨h1.trans (ret_bool (by simp)), h2⟩
  have i0' := ix0 (p : Int) q r; have i1' := ix1 (p : Int) q r; have i2' := ix2 (p : Int) q r
  go_enter Tryz.func73, Tryz.ntmps73
  go_wp2_with fail
  have B0 : Below w.heap.size w _ := ((Below.refl w.heap.size w).alloc (Nat.le_refl _) (.cells #[.int .i64 (p : Int), .int .i64 (q : Int), .int .i64 (r : Int)] 116)).alloc (by simp) (.cells #[] 9)
  have O0 := World.ownsRow_lit (base := w.heap.size) (e := 9) (size := 1) (w.alloc (.cells #[.int .i64 (p : Int), .int .i64 (q : Int), .int .i64 (r : Int)] 116)) #[] 0 (by simp) (by unfold maxLen; omega) rfl
  obtain ⟨W0, hW0⟩ : ∃ W, ((w.alloc (.cells #[.int .i64 (p : Int), .int .i64 (q : Int), .int .i64 (r : Int)] 116)).alloc (.cells #[] 9)) = W := ⟨_, rfl⟩
  have zW0 : W0.heap.size = w.heap.size + 1 + 1 := by rw [← hW0]; simp
  rw [hW0] at B0 O0 ⊢
  clear hW0
  have O0' : W0.ownsRow w.heap.size 9 1 (.slice (some ⟨w.heap.size + 1, 0, none⟩) 0 0) 0 (ss []) := by simpa [ss] using O0
  clear O0
  refine wp_loop_rounds 4 ?_
  rw [rounds_succ]
  go_wp2_with fail
  refine (HM0 _).mono ?_; rintro e m0 ⟨rfl, hm0⟩
  have Bm0 := next B0 hm0
  have Om0 := own_below O0' hm0
  have zm0 := Bm0.size
  go_wp2_with (first | (go_at_call 34; refine (Itoa_at p _ (by omega)).mono ?_; rintro e w' ⟨rfl, rfl⟩) | (at_builtin; refine wpList_append_own _ rfl _ _ 63 rfl w.heap.size 9 i0 (.string ⟨#[]⟩) 1 16 Tryz.underlying63 hi hz0 hz1 hz2 rfl (by decide) _ 0 _ rfl (Om0.alloc _) ⟨m0.heap.size, 0, none⟩ 1 1 [.string (bs (tab p))] rfl rfl (cell_one_new _ _ _) (by simp [Value.oneCell']) (by unfold maxLen; omega) (by omega) (by simp; omega) ?_; intro v0 n0 hown hgrow _; have Bn0 := below_own (Bm0.alloc zm0 _) (Om0.alloc _) hgrow (by simp; omega); have On0 : n0.ownsRow w.heap.size 9 1 v0 1 (ss [bs (tab p)]) := hown; clear hown hgrow))
  rw [rounds_succ]
  go_wp2_with fail
  refine (HM1 _).mono ?_; rintro e m1 ⟨rfl, hm1⟩
  have Bm1 := next Bn0 hm1
  have Om1 := own_below On0 hm1
  have zm1 := Bm1.size
  go_wp2_with (first | (go_at_call 34; refine (Itoa_at q _ (by omega)).mono ?_; rintro e w' ⟨rfl, rfl⟩) | (at_builtin; refine wpList_append_own _ rfl _ _ 63 rfl w.heap.size 9 i0 (.string ⟨#[]⟩) 1 16 Tryz.underlying63 hi hz0 hz1 hz2 rfl (by decide) _ 1 _ rfl (Om1.alloc _) ⟨m1.heap.size, 0, none⟩ 1 1 [.string (bs (tab q))] rfl rfl (cell_one_new _ _ _) (by simp [Value.oneCell']) (by unfold maxLen; omega) (by omega) (by simp; omega) ?_; intro v1 n1 hown hgrow _; have Bn1 := below_own (Bm1.alloc zm1 _) (Om1.alloc _) hgrow (by simp; omega); have On1 : n1.ownsRow w.heap.size 9 1 v1 2 (ss [bs (tab p), bs (tab q)]) := hown; clear hown hgrow))
  rw [rounds_succ]
  go_wp2_with fail
  refine (HM2 _).mono ?_; rintro e m2 ⟨rfl, hm2⟩
  have Bm2 := next Bn1 hm2
  have Om2 := own_below On1 hm2
  have zm2 := Bm2.size
  go_wp2_with fail
  rw [rounds_succ]
  go_wp2_with fail
  go_ret
  obtain ⟨g, cc, rfl, h1, h2, h3, h4⟩ := own_str Om2 (by omega) Bm2
  exact ⟨g, cc, rfl, h1, h2, h3, h4, Bm2⟩

end Go.Proofs.YtlhnnjllbcglcaaGreatDoor.efFn
