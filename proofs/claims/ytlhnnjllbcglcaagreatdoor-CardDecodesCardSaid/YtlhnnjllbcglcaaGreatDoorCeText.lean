/- The text of an effect: what Text returns. -/
import Derived.Test.YtlhnnjllbcglcaaGreatDoorCeTMath
namespace Go.Proofs.YtlhnnjllbcglcaaGreatDoor.efFn
open Go.ChangeShapes Go.WideShapes Go.ChangeAt Go.RowKit drMem
set_option linter.unusedVariables false

/- the words of keywords, of occasions -/
def kcL (k : Nat) : List UInt8 := if k = 0 then [115, 119, 105, 102, 116] else if k = 1 then [102, 108, 121, 105, 110, 103] else if k = 2 then [119, 97, 116, 99, 104, 102, 117, 108] else [100, 101, 97, 100, 108, 121]
def whL (k : Nat) : List UInt8 := if k = 0 then [] else if k = 1 then [100, 105, 101, 115] else if k = 2 then [97, 116, 116, 97, 99, 107, 115] else [117, 112, 107, 101, 101, 112]
/- what the packages' variables hold -/
structure G (w : World) : Prop where
  kw : ∃ t f, w.heap[2]? = some (.cells #[.string (bs (kwL 0)), .string (bs (kwL 1)), .string (bs (kwL 2)), .string (bs (kwL 3)), .string (bs (kwL 4)), .string (bs (kwL 5)), .string (bs (kwL 6))] t f)
  kc : ∃ t f, w.heap[0]? = some (.cells #[.string (bs (kcL 0)), .string (bs (kcL 1)), .string (bs (kcL 2)), .string (bs (kcL 3))] t f)
  wh : ∃ t f, w.heap[1]? = some (.cells #[.string (bs (whL 0)), .string (bs (whL 1)), .string (bs (whL 2)), .string (bs (whL 3))] t f)
theorem var_below {w w' : World} {g : Nat} {cs : Array Value} (h : ∃ t f, w.heap[g]? = some (.cells cs t f)) (hb : Below w.heap.size w w') : ∃ t f, w'.heap[g]? = some (.cells cs t f) := by
  obtain ⟨t, f, h1⟩ := h
  exact ⟨t, f, (hb.block _ (Array.getElem?_eq_some_iff.1 h1).1).trans h1⟩
theorem G.below {w w' : World} (h : G w) (hb : Below w.heap.size w w') : G w' := ⟨var_below h.kw hb, var_below h.kc hb, var_below h.wh hb⟩
theorem var_cell {w : World} {g : Nat} {cs : Array Value} (h : ∃ t f, w.heap[g]? = some (.cells cs t f)) (i : Nat) : w.cell? ⟨g, i, none⟩ = cs[i]? := by
  obtain ⟨t, f, h1⟩ := h
  exact cell_of_row w g i _ _ _ h1
theorem kw_at {w : World} (h : G w) (t : Int) (h0 : 0 ≤ t) (h1 : t ≤ 6) : w.cell? ⟨2, t.toNat, none⟩ = some (.string (bs (kwL t))) := by
  have hc := var_cell h.kw
  rcases kindsR t h0 h1 with rfl | rfl | rfl | rfl | rfl | rfl | rfl
  · exact hc 0
  · exact hc 1
  · exact hc 2
  · exact hc 3
  · exact hc 4
  · exact hc 5
  · exact hc 6
theorem G.kl {w : World} (h : G w) : 2 < w.heap.size := by
  obtain ⟨_, _, h1⟩ := h.kw
  exact (Array.getElem?_eq_some_iff.1 h1).1
def joinS (l : List ByteArray) : ByteArray := bs (Lib.join (l.map fun x => x.data.toList) [32])
theorem Join_at (l : List ByteArray) (g c : Nat) (x : ByteArray) (w : World) (hx : x = ⟨#[32]⟩) (h : ∀ j u, (ss l)[j]? = some u → w.cell? ⟨g, j, none⟩ = some u) (hg : g < w.heap.size) (hc : l.length ≤ c) (hl : l.length ≤ 10) (hlen : (Lib.join (l.map fun x => x.data.toList) [32]).length ≤ 1000) :
    Calls Tryz.prog 36 #[.slice (some ⟨g, 0, none⟩) l.length c, .string x] w fun e w' => e = .returned (.string (joinS l)) ∧ Below w.heap.size w w' := by
  subst hx
  exact Tryz.strings_Join g 0 c l ⟨#[32]⟩ w (fun j x hx => by rw [Nat.zero_add]; exact h j _ (by simp [ss, hx])) hg (by omega) hc (by show (Lib.join (l.map fun x => x.data.toList) [32]).length ≤ _; omega)
theorem word_at (nm : ByteArray) (k : Int) (w : World) : Calls Tryz.prog 128 #[.agg #[.string nm, .int .u64 k]] w fun r w' => r = .returned (.string nm) ∧ Below w.heap.size w w' := word_any nm k w

theorem own_has {w w' : World} {g B n : Nat} {t t' : TypeId} {size : Nat} {v : Value} {xs cs : List Value} (hg : w.grownBy w' v.ownBlock) (ho : w.ownsRow B t' size v n xs) (hm : has w g t cs) (hne : t ≠ t') : has w' g t cs := by
  refine (hg.block g hm.lt ?_).trans hm
  rcases ho.2 with ⟨h1, _⟩ | ⟨gq, cq, uq, h1, _, h3, _⟩
  · rw [h1]; simp [Value.ownBlock]
  · rw [h1]
    simp only [Value.ownBlock]
    intro e
    cases e
    rw [show w.heap[g]? = _ from hm] at h3
    cases h3
    exact hne rfl
theorem Text_no (c t n m k : Int) (w : World) (h : okE c t n m k = false) :
    Calls Tryz.prog 54 #[eV c t n m k] w fun e w' => e = .returned (.tuple #[.string ⟨#[]⟩, .int .i64 2]) ∧ Below w.heap.size w w' := by
  have HV := Valid_any c t n m k
  rw [h] at HV
  go_enter Tryz.func54, Tryz.ntmps54
  go_wp2_with fail
  refine (HV _).mono ?_; rintro e w1 ⟨rfl, hb1⟩
  have B1 : Below w.heap.size w w1 := next (by go_grown) hb1
  go_wp2_with fail
  go_ret2
  exact ⟨rfl, B1⟩

set_option maxRecDepth 100000 in
set_option maxHeartbeats 8000000 in
theorem Text_pl (c t n m k : Int) (nm : ByteArray) (kk : Int) (w : World) (hG : G w) (hr : ruleV c = plV nm kk) (hv : okE c t n m k = true) (ht : t ≠ 0) (h0 : 0 ≤ t) (h6 : t ≤ 6)
    (hlen : (Lib.join ((nm :: [bs (kwL t)]).map fun x => x.data.toList) [32]).length ≤ 1000) :
    Calls Tryz.prog 54 #[eV c t n m k] w fun e w' => e = .returned (.tuple #[.string (joinS (nm :: [bs (kwL t)])), .int .i64 0]) ∧ Below w.heap.size w w' := by
  obtain ⟨i0, hi, hz0, hz1, hz2⟩ := info_parts infoS
  have HV := Valid_any c t n m k
  rw [hv] at HV
  have HR := ruleOf_any c
  rw [hr] at HR
  have TA := ta_pl nm kk
  have HG := Lib.hid hG
  have hne : (t != 0) = true := by simpa using ht
  have ht7 : t < 7 := by omega
  have HKW : Hid (∀ W, G W → W.cell? ⟨2, t.toNat, none⟩ = some (.string (bs (kwL t)))) := Lib.hid fun W hW => kw_at hW t h0 h6
  clear ht h6
  have HLEN := Lib.hid hlen
  clear hr hv hG hlen
  go_enter Tryz.func54, Tryz.ntmps54
  go_wp2_with fail
  refine (HV _).mono ?_; rintro e w1 ⟨rfl, hb1⟩
  have M1 := (new0 w 51 (eL c t n m k)).below hb1 (by simp)
  have B1 : Below w.heap.size w w1 := next (by go_grown) hb1
  clear hb1
  obtain ⟨u0, u1, u2, u3, u4, u5⟩ := five M1
  go_wp2_with fail
  refine (HR _).mono ?_; rintro e w' ⟨rfl, hw⟩
  subst hw
  go_wp2_with fail
  refine (word_at _ _ _).mono ?_; rintro e w2 ⟨rfl, hb2⟩
  have M2 := M1.below hb2 M1.lt
  have B2 := next B1 hb2
  clear u0 u1 u2 u3 u4 u5 hb2 M1
  obtain ⟨u0, u1, u2, u3, u4, u5⟩ := five M2
  have zw := B2.size
  have zm := M2.lt
  have O3 : (w2.alloc (.cells #[.string nm] 9)).ownsRow w.heap.size 9 1 (.slice (some ⟨w2.heap.size, 0, none⟩) 1 1) 1 (ss [nm]) := World.ownsRow_lit (base := w.heap.size) (e := 9) (size := 1) w2 #[.string nm] 1 zw (by unfold maxLen; omega) rfl
  have HB3 := Lib.hid (B2.alloc zw (.cells #[.string nm] 9))
  have HM3 := Lib.hid (M2.alloc (.cells #[.string nm] 9))
  have HO3 := Lib.hid O3
  clear O3
  have hkw2 := HKW.out _ (HG.out.below B2)
  have hk20 : 2 < w2.heap.size := (HG.out.below B2).kl
  go_wp2_with (first | (at_builtin; refine wpList_append_own _ rfl _ _ 63 rfl w.heap.size 9 i0 (.string ⟨#[]⟩) 1 16 Tryz.underlying63 hi hz0 hz1 hz2 rfl (by decide) _ 1 _ rfl (HO3.out.alloc _) ⟨w2.heap.size + 1, 0, none⟩ 1 1 [.string (bs (kwL t))] rfl rfl (by have := cell_one_new (w2.alloc (.cells #[.string nm] 9)) (.string (bs (kwL t))) 9; simpa using this) (by simp [Value.oneCell']) (by unfold maxLen; omega) (by omega) (by simp; omega) ?_; intro v7 w7 hown hgrow _; have HB7 := Lib.hid (below_own (HB3.out.alloc HB3.out.size _) (HO3.out.alloc _) hgrow (by simp; omega)); have HO7 : Hid (w7.ownsRow w.heap.size 9 1 v7 (1 + 1) (ss ([nm] ++ [bs (kwL t)]))) := Lib.hid (by simpa [ss] using hown); clear hown hgrow; obtain ⟨g7, c7, rfl, hs7, hg7, _, hc7⟩ := own_str HO7.out (by omega) HB7.out; have HS7 := Lib.hid hs7; clear hs7))
  have HJ := Join_at ([nm] ++ [bs (kwL t)]) g7 c7 _ _ rfl HS7.out hg7 (by simp; omega) (by simp; try omega) (by simpa using HLEN.out)
  have hlen7 : ([nm] ++ [bs (kwL t)]).length = 1 + 1 := by simp
  rw [hlen7] at HJ
  refine HJ.mono ?_; rintro e w8 ⟨rfl, hb8⟩
  go_wp2_with fail
  go_ret2
  exact ⟨rfl, next HB7.out hb8⟩

set_option maxRecDepth 100000 in
set_option maxHeartbeats 8000000 in
theorem Text_ra0 (c t n m k : Int) (nm : ByteArray) (kk x0 x1 x2 y0 y1 y2 : Int) (L : List ByteArray) (hL : 1 ≤ L.length ∧ L.length ≤ 2) (w : World) (hG : G w) (hr : ruleV c = raV nm kk x0 x1 x2 y0 y1 y2) (hv : okE c t n m k = true) (ht : t = 0)
    (HW : ∀ w, Calls Tryz.prog 73 #[.agg #[.int .i64 n, .int .i64 m, .int .i64 k], raV nm kk x0 x1 x2 y0 y1 y2] w (strPost L w))
    (hlen : (Lib.join ((nm :: L).map fun x => x.data.toList) [32]).length ≤ 1000) :
    Calls Tryz.prog 54 #[eV c t n m k] w fun e w' => e = .returned (.tuple #[.string (joinS (nm :: L)), .int .i64 0]) ∧ Below w.heap.size w w' := by
  obtain ⟨i0, hi, hz0, hz1, hz2⟩ := info_parts infoS
  have HV := Valid_any c t n m k
  rw [hv] at HV
  have HR := ruleOf_any c
  rw [hr] at HR
  have TA := ta_ra nm kk x0 x1 x2 y0 y1 y2
  have HN := fun w => numbersOf_any c t n m k w
  obtain ⟨hL1, hL2⟩ := hL
  have HG := Lib.hid hG
  subst ht
  have HLEN := Lib.hid hlen
  clear hr hv hG hlen
  go_enter Tryz.func54, Tryz.ntmps54
  go_wp2_with fail
  refine (HV _).mono ?_; rintro e w1 ⟨rfl, hb1⟩
  have M1 := (new0 w 51 (eL c 0 n m k)).below hb1 (by simp)
  have B1 : Below w.heap.size w w1 := next (by go_grown) hb1
  clear hb1
  obtain ⟨u0, u1, u2, u3, u4, u5⟩ := five M1
  go_wp2_with fail
  refine (HR _).mono ?_; rintro e w' ⟨rfl, hw⟩
  subst hw
  go_wp2_with fail
  refine (word_at _ _ _).mono ?_; rintro e w2 ⟨rfl, hb2⟩
  have M2 := M1.below hb2 M1.lt
  have B2 := next B1 hb2
  clear u0 u1 u2 u3 u4 u5 hb2 M1
  obtain ⟨u0, u1, u2, u3, u4, u5⟩ := five M2
  have zw := B2.size
  have zm := M2.lt
  have O3 : (w2.alloc (.cells #[.string nm] 9)).ownsRow w.heap.size 9 1 (.slice (some ⟨w2.heap.size, 0, none⟩) 1 1) 1 (ss [nm]) := World.ownsRow_lit (base := w.heap.size) (e := 9) (size := 1) w2 #[.string nm] 1 zw (by unfold maxLen; omega) rfl
  have HB3 := Lib.hid (B2.alloc zw (.cells #[.string nm] 9))
  have HM3 := Lib.hid (M2.alloc (.cells #[.string nm] 9))
  have HO3 := Lib.hid O3
  clear O3
  go_wp2_with fail
  refine (HN _).mono ?_; rintro e w4 ⟨rfl, hb4⟩
  have M4 := HM3.out.below hb4 HM3.out.lt
  have B4 := next HB3.out hb4
  have O4 := own_below HO3.out hb4
  clear u0 u1 u2 u3 u4 u5 hb4
  obtain ⟨u0, u1, u2, u3, u4, u5⟩ := five M4
  go_wp2_with fail
  refine (HW _).mono ?_; rintro e w5 ⟨g5, c5, rfl, hs5, hg5, hgw5, hc5, hb5⟩
  have HM5 := Lib.hid (M4.below hb5 M4.lt)
  have HB5 := Lib.hid (next B4 hb5)
  have HO5 := Lib.hid (own_below O4 hb5)
  have z5 := HB5.out.size
  have HS5 := Lib.hid hs5
  clear u0 u1 u2 u3 u4 u5 hb5 hs5 M4 B4 O4
  go_wp2_with (at_builtin; refine wpList_append_own _ rfl _ _ 63 rfl w.heap.size 9 i0 (.string ⟨#[]⟩) 1 16 Tryz.underlying63 hi hz0 hz1 hz2 rfl (by decide) _ 1 _ rfl HO5.out ⟨g5, 0, none⟩ L.length c5 (ss L) rfl (by rw [ss_len, Nat.mul_one]) (fun j u hu => by rw [addr_add, Nat.zero_add]; exact HS5.out j u hu) (ss_one L) (by unfold maxLen; omega) (by omega) z5 ?_; intro v6 w6 hown hgrow _; have HB6 := Lib.hid (below_own HB5.out HO5.out hgrow z5); have M6 := own_has hgrow HO5.out HM5.out (by decide); have HM6 := Lib.hid M6; have HO6 : Hid (w6.ownsRow w.heap.size 9 1 v6 (1 + L.length) (ss (nm :: L))) := Lib.hid hown; clear hown hgrow; obtain ⟨u0, u1, u2, u3, u4, u5⟩ := five M6; have z6 := HB6.out.size; have zm6 := M6.lt)
  all_goals obtain ⟨g7, c7, rfl, hs7, hg7, _, hc7⟩ := own_str HO6.out (by omega) HB6.out
  have HS7 := Lib.hid hs7; clear hs7
  go_wp2_with fail
  have HJ := Join_at (nm :: L) g7 c7 _ _ rfl HS7.out hg7 (by simp; omega) (by simp; try omega) (by simpa using HLEN.out)
  have hlen7 : (nm :: L).length = (1 + L.length) := by simp; try omega
  rw [hlen7] at HJ
  refine HJ.mono ?_; rintro e w8 ⟨rfl, hb8⟩
  go_wp2_with fail
  go_ret2
  exact ⟨rfl, next HB6.out hb8⟩

set_option maxRecDepth 100000 in
set_option maxHeartbeats 8000000 in
theorem Text_ra1 (c t n m k : Int) (nm : ByteArray) (kk x0 x1 x2 y0 y1 y2 : Int) (L : List ByteArray) (hL : 1 ≤ L.length ∧ L.length ≤ 2) (w : World) (hG : G w) (hr : ruleV c = raV nm kk x0 x1 x2 y0 y1 y2) (hv : okE c t n m k = true) (ht : t ≠ 0) (h0 : 0 ≤ t) (h6 : t ≤ 6)
    (HW : ∀ w, Calls Tryz.prog 73 #[.agg #[.int .i64 n, .int .i64 m, .int .i64 k], raV nm kk x0 x1 x2 y0 y1 y2] w (strPost L w))
    (hlen : (Lib.join ((nm :: (L ++ [bs (kwL t)])).map fun x => x.data.toList) [32]).length ≤ 1000) :
    Calls Tryz.prog 54 #[eV c t n m k] w fun e w' => e = .returned (.tuple #[.string (joinS (nm :: (L ++ [bs (kwL t)]))), .int .i64 0]) ∧ Below w.heap.size w w' := by
  obtain ⟨i0, hi, hz0, hz1, hz2⟩ := info_parts infoS
  have HV := Valid_any c t n m k
  rw [hv] at HV
  have HR := ruleOf_any c
  rw [hr] at HR
  have TA := ta_ra nm kk x0 x1 x2 y0 y1 y2
  have HN := fun w => numbersOf_any c t n m k w
  obtain ⟨hL1, hL2⟩ := hL
  have HG := Lib.hid hG
  have hne : (t != 0) = true := by simpa using ht
  have ht7 : t < 7 := by omega
  have HKW : Hid (∀ W, G W → W.cell? ⟨2, t.toNat, none⟩ = some (.string (bs (kwL t)))) := Lib.hid fun W hW => kw_at hW t h0 h6
  clear ht h6
  have HLEN := Lib.hid hlen
  clear hr hv hG hlen
  go_enter Tryz.func54, Tryz.ntmps54
  go_wp2_with fail
  refine (HV _).mono ?_; rintro e w1 ⟨rfl, hb1⟩
  have M1 := (new0 w 51 (eL c t n m k)).below hb1 (by simp)
  have B1 : Below w.heap.size w w1 := next (by go_grown) hb1
  clear hb1
  obtain ⟨u0, u1, u2, u3, u4, u5⟩ := five M1
  go_wp2_with fail
  refine (HR _).mono ?_; rintro e w' ⟨rfl, hw⟩
  subst hw
  go_wp2_with fail
  refine (word_at _ _ _).mono ?_; rintro e w2 ⟨rfl, hb2⟩
  have M2 := M1.below hb2 M1.lt
  have B2 := next B1 hb2
  clear u0 u1 u2 u3 u4 u5 hb2 M1
  obtain ⟨u0, u1, u2, u3, u4, u5⟩ := five M2
  have zw := B2.size
  have zm := M2.lt
  have O3 : (w2.alloc (.cells #[.string nm] 9)).ownsRow w.heap.size 9 1 (.slice (some ⟨w2.heap.size, 0, none⟩) 1 1) 1 (ss [nm]) := World.ownsRow_lit (base := w.heap.size) (e := 9) (size := 1) w2 #[.string nm] 1 zw (by unfold maxLen; omega) rfl
  have HB3 := Lib.hid (B2.alloc zw (.cells #[.string nm] 9))
  have HM3 := Lib.hid (M2.alloc (.cells #[.string nm] 9))
  have HO3 := Lib.hid O3
  clear O3
  go_wp2_with fail
  refine (HN _).mono ?_; rintro e w4 ⟨rfl, hb4⟩
  have M4 := HM3.out.below hb4 HM3.out.lt
  have B4 := next HB3.out hb4
  have O4 := own_below HO3.out hb4
  clear u0 u1 u2 u3 u4 u5 hb4
  obtain ⟨u0, u1, u2, u3, u4, u5⟩ := five M4
  go_wp2_with fail
  refine (HW _).mono ?_; rintro e w5 ⟨g5, c5, rfl, hs5, hg5, hgw5, hc5, hb5⟩
  have HM5 := Lib.hid (M4.below hb5 M4.lt)
  have HB5 := Lib.hid (next B4 hb5)
  have HO5 := Lib.hid (own_below O4 hb5)
  have z5 := HB5.out.size
  have HS5 := Lib.hid hs5
  clear u0 u1 u2 u3 u4 u5 hb5 hs5 M4 B4 O4
  go_wp2_with (first | (at_builtin; refine wpList_append_own _ rfl _ _ 63 rfl w.heap.size 9 i0 (.string ⟨#[]⟩) 1 16 Tryz.underlying63 hi hz0 hz1 hz2 rfl (by decide) _ 1 _ rfl HO5.out ⟨g5, 0, none⟩ L.length c5 (ss L) rfl (by rw [ss_len, Nat.mul_one]) (fun j u hu => by rw [addr_add, Nat.zero_add]; exact HS5.out j u hu) (ss_one L) (by unfold maxLen; omega) (by omega) z5 ?_; intro v6 w6 hown hgrow _; have HB6 := Lib.hid (below_own HB5.out HO5.out hgrow z5); have M6 := own_has hgrow HO5.out HM5.out (by decide); have HM6 := Lib.hid M6; have HO6 : Hid (w6.ownsRow w.heap.size 9 1 v6 (1 + L.length) (ss (nm :: L))) := Lib.hid hown; clear hown hgrow; obtain ⟨u0, u1, u2, u3, u4, u5⟩ := five M6; have z6 := HB6.out.size; have zm6 := M6.lt; have hkw6 := HKW.out _ (HG.out.below HB6.out); have hk60 : 2 < w6.heap.size := (HG.out.below HB6.out).kl) | (at_builtin; refine wpList_append_own _ rfl _ _ 63 rfl w.heap.size 9 i0 (.string ⟨#[]⟩) 1 16 Tryz.underlying63 hi hz0 hz1 hz2 rfl (by decide) _ (1 + L.length) _ rfl (HO6.out.alloc _) ⟨w6.heap.size, 0, none⟩ 1 1 [.string (bs (kwL t))] rfl rfl (by have := cell_one_new w6 (.string (bs (kwL t))) 9; simpa using this) (by simp [Value.oneCell']) (by unfold maxLen; omega) (by omega) (by simp; omega) ?_; intro v7 w7 hown hgrow _; have HB7 := Lib.hid (below_own (HB6.out.alloc HB6.out.size _) (HO6.out.alloc _) hgrow (by simp; omega)); have HO7 : Hid (w7.ownsRow w.heap.size 9 1 v7 ((1 + L.length) + 1) (ss ((nm :: L) ++ [bs (kwL t)]))) := Lib.hid (by simpa [ss] using hown); clear hown hgrow; obtain ⟨g7, c7, rfl, hs7, hg7, _, hc7⟩ := own_str HO7.out (by omega) HB7.out; have HS7 := Lib.hid hs7; clear hs7))
  have HJ := Join_at ((nm :: L) ++ [bs (kwL t)]) g7 c7 _ _ rfl HS7.out hg7 (by simp; omega) (by simp; try omega) (by simpa using HLEN.out)
  have hlen7 : ((nm :: L) ++ [bs (kwL t)]).length = (1 + L.length) + 1 := by simp; try omega
  rw [hlen7] at HJ
  refine HJ.mono ?_; rintro e w8 ⟨rfl, hb8⟩
  go_wp2_with fail
  go_ret2
  exact ⟨rfl, next HB7.out hb8⟩

set_option maxRecDepth 100000 in
set_option maxHeartbeats 8000000 in
theorem Text_so0 (c t n m k : Int) (nm : ByteArray) (kk x0 x1 x2 y0 y1 y2 : Int) (L : List ByteArray) (hL : 1 ≤ L.length ∧ L.length ≤ 2) (w : World) (hG : G w) (hr : ruleV c = soV nm kk x0 x1 x2 y0 y1 y2) (hv : okE c t n m k = true) (ht : t = 0)
    (HW : ∀ w, Calls Tryz.prog 73 #[.agg #[.int .i64 n, .int .i64 m, .int .i64 k], soV nm kk x0 x1 x2 y0 y1 y2] w (strPost L w))
    (hlen : (Lib.join ((nm :: L).map fun x => x.data.toList) [32]).length ≤ 1000) :
    Calls Tryz.prog 54 #[eV c t n m k] w fun e w' => e = .returned (.tuple #[.string (joinS (nm :: L)), .int .i64 0]) ∧ Below w.heap.size w w' := by
  obtain ⟨i0, hi, hz0, hz1, hz2⟩ := info_parts infoS
  have HV := Valid_any c t n m k
  rw [hv] at HV
  have HR := ruleOf_any c
  rw [hr] at HR
  have TA := ta_so nm kk x0 x1 x2 y0 y1 y2
  have HN := fun w => numbersOf_any c t n m k w
  obtain ⟨hL1, hL2⟩ := hL
  have HG := Lib.hid hG
  subst ht
  have HLEN := Lib.hid hlen
  clear hr hv hG hlen
  go_enter Tryz.func54, Tryz.ntmps54
  go_wp2_with fail
  refine (HV _).mono ?_; rintro e w1 ⟨rfl, hb1⟩
  have M1 := (new0 w 51 (eL c 0 n m k)).below hb1 (by simp)
  have B1 : Below w.heap.size w w1 := next (by go_grown) hb1
  clear hb1
  obtain ⟨u0, u1, u2, u3, u4, u5⟩ := five M1
  go_wp2_with fail
  refine (HR _).mono ?_; rintro e w' ⟨rfl, hw⟩
  subst hw
  go_wp2_with fail
  refine (word_at _ _ _).mono ?_; rintro e w2 ⟨rfl, hb2⟩
  have M2 := M1.below hb2 M1.lt
  have B2 := next B1 hb2
  clear u0 u1 u2 u3 u4 u5 hb2 M1
  obtain ⟨u0, u1, u2, u3, u4, u5⟩ := five M2
  have zw := B2.size
  have zm := M2.lt
  have O3 : (w2.alloc (.cells #[.string nm] 9)).ownsRow w.heap.size 9 1 (.slice (some ⟨w2.heap.size, 0, none⟩) 1 1) 1 (ss [nm]) := World.ownsRow_lit (base := w.heap.size) (e := 9) (size := 1) w2 #[.string nm] 1 zw (by unfold maxLen; omega) rfl
  have HB3 := Lib.hid (B2.alloc zw (.cells #[.string nm] 9))
  have HM3 := Lib.hid (M2.alloc (.cells #[.string nm] 9))
  have HO3 := Lib.hid O3
  clear O3
  go_wp2_with fail
  refine (HN _).mono ?_; rintro e w4 ⟨rfl, hb4⟩
  have M4 := HM3.out.below hb4 HM3.out.lt
  have B4 := next HB3.out hb4
  have O4 := own_below HO3.out hb4
  clear u0 u1 u2 u3 u4 u5 hb4
  obtain ⟨u0, u1, u2, u3, u4, u5⟩ := five M4
  go_wp2_with fail
  refine (HW _).mono ?_; rintro e w5 ⟨g5, c5, rfl, hs5, hg5, hgw5, hc5, hb5⟩
  have HM5 := Lib.hid (M4.below hb5 M4.lt)
  have HB5 := Lib.hid (next B4 hb5)
  have HO5 := Lib.hid (own_below O4 hb5)
  have z5 := HB5.out.size
  have HS5 := Lib.hid hs5
  clear u0 u1 u2 u3 u4 u5 hb5 hs5 M4 B4 O4
  go_wp2_with (at_builtin; refine wpList_append_own _ rfl _ _ 63 rfl w.heap.size 9 i0 (.string ⟨#[]⟩) 1 16 Tryz.underlying63 hi hz0 hz1 hz2 rfl (by decide) _ 1 _ rfl HO5.out ⟨g5, 0, none⟩ L.length c5 (ss L) rfl (by rw [ss_len, Nat.mul_one]) (fun j u hu => by rw [addr_add, Nat.zero_add]; exact HS5.out j u hu) (ss_one L) (by unfold maxLen; omega) (by omega) z5 ?_; intro v6 w6 hown hgrow _; have HB6 := Lib.hid (below_own HB5.out HO5.out hgrow z5); have M6 := own_has hgrow HO5.out HM5.out (by decide); have HM6 := Lib.hid M6; have HO6 : Hid (w6.ownsRow w.heap.size 9 1 v6 (1 + L.length) (ss (nm :: L))) := Lib.hid hown; clear hown hgrow; obtain ⟨u0, u1, u2, u3, u4, u5⟩ := five M6; have z6 := HB6.out.size; have zm6 := M6.lt)
  all_goals obtain ⟨g7, c7, rfl, hs7, hg7, _, hc7⟩ := own_str HO6.out (by omega) HB6.out
  have HS7 := Lib.hid hs7; clear hs7
  go_wp2_with fail
  have HJ := Join_at (nm :: L) g7 c7 _ _ rfl HS7.out hg7 (by simp; omega) (by simp; try omega) (by simpa using HLEN.out)
  have hlen7 : (nm :: L).length = (1 + L.length) := by simp; try omega
  rw [hlen7] at HJ
  refine HJ.mono ?_; rintro e w8 ⟨rfl, hb8⟩
  go_wp2_with fail
  go_ret2
  exact ⟨rfl, next HB6.out hb8⟩

set_option maxRecDepth 100000 in
set_option maxHeartbeats 8000000 in
theorem Text_so1 (c t n m k : Int) (nm : ByteArray) (kk x0 x1 x2 y0 y1 y2 : Int) (L : List ByteArray) (hL : 1 ≤ L.length ∧ L.length ≤ 2) (w : World) (hG : G w) (hr : ruleV c = soV nm kk x0 x1 x2 y0 y1 y2) (hv : okE c t n m k = true) (ht : t ≠ 0) (h0 : 0 ≤ t) (h6 : t ≤ 6)
    (HW : ∀ w, Calls Tryz.prog 73 #[.agg #[.int .i64 n, .int .i64 m, .int .i64 k], soV nm kk x0 x1 x2 y0 y1 y2] w (strPost L w))
    (hlen : (Lib.join ((nm :: (L ++ [bs (kwL t)])).map fun x => x.data.toList) [32]).length ≤ 1000) :
    Calls Tryz.prog 54 #[eV c t n m k] w fun e w' => e = .returned (.tuple #[.string (joinS (nm :: (L ++ [bs (kwL t)]))), .int .i64 0]) ∧ Below w.heap.size w w' := by
  obtain ⟨i0, hi, hz0, hz1, hz2⟩ := info_parts infoS
  have HV := Valid_any c t n m k
  rw [hv] at HV
  have HR := ruleOf_any c
  rw [hr] at HR
  have TA := ta_so nm kk x0 x1 x2 y0 y1 y2
  have HN := fun w => numbersOf_any c t n m k w
  obtain ⟨hL1, hL2⟩ := hL
  have HG := Lib.hid hG
  have hne : (t != 0) = true := by simpa using ht
  have ht7 : t < 7 := by omega
  have HKW : Hid (∀ W, G W → W.cell? ⟨2, t.toNat, none⟩ = some (.string (bs (kwL t)))) := Lib.hid fun W hW => kw_at hW t h0 h6
  clear ht h6
  have HLEN := Lib.hid hlen
  clear hr hv hG hlen
  go_enter Tryz.func54, Tryz.ntmps54
  go_wp2_with fail
  refine (HV _).mono ?_; rintro e w1 ⟨rfl, hb1⟩
  have M1 := (new0 w 51 (eL c t n m k)).below hb1 (by simp)
  have B1 : Below w.heap.size w w1 := next (by go_grown) hb1
  clear hb1
  obtain ⟨u0, u1, u2, u3, u4, u5⟩ := five M1
  go_wp2_with fail
  refine (HR _).mono ?_; rintro e w' ⟨rfl, hw⟩
  subst hw
  go_wp2_with fail
  refine (word_at _ _ _).mono ?_; rintro e w2 ⟨rfl, hb2⟩
  have M2 := M1.below hb2 M1.lt
  have B2 := next B1 hb2
  clear u0 u1 u2 u3 u4 u5 hb2 M1
  obtain ⟨u0, u1, u2, u3, u4, u5⟩ := five M2
  have zw := B2.size
  have zm := M2.lt
  have O3 : (w2.alloc (.cells #[.string nm] 9)).ownsRow w.heap.size 9 1 (.slice (some ⟨w2.heap.size, 0, none⟩) 1 1) 1 (ss [nm]) := World.ownsRow_lit (base := w.heap.size) (e := 9) (size := 1) w2 #[.string nm] 1 zw (by unfold maxLen; omega) rfl
  have HB3 := Lib.hid (B2.alloc zw (.cells #[.string nm] 9))
  have HM3 := Lib.hid (M2.alloc (.cells #[.string nm] 9))
  have HO3 := Lib.hid O3
  clear O3
  go_wp2_with fail
  refine (HN _).mono ?_; rintro e w4 ⟨rfl, hb4⟩
  have M4 := HM3.out.below hb4 HM3.out.lt
  have B4 := next HB3.out hb4
  have O4 := own_below HO3.out hb4
  clear u0 u1 u2 u3 u4 u5 hb4
  obtain ⟨u0, u1, u2, u3, u4, u5⟩ := five M4
  go_wp2_with fail
  refine (HW _).mono ?_; rintro e w5 ⟨g5, c5, rfl, hs5, hg5, hgw5, hc5, hb5⟩
  have HM5 := Lib.hid (M4.below hb5 M4.lt)
  have HB5 := Lib.hid (next B4 hb5)
  have HO5 := Lib.hid (own_below O4 hb5)
  have z5 := HB5.out.size
  have HS5 := Lib.hid hs5
  clear u0 u1 u2 u3 u4 u5 hb5 hs5 M4 B4 O4
  go_wp2_with (first | (at_builtin; refine wpList_append_own _ rfl _ _ 63 rfl w.heap.size 9 i0 (.string ⟨#[]⟩) 1 16 Tryz.underlying63 hi hz0 hz1 hz2 rfl (by decide) _ 1 _ rfl HO5.out ⟨g5, 0, none⟩ L.length c5 (ss L) rfl (by rw [ss_len, Nat.mul_one]) (fun j u hu => by rw [addr_add, Nat.zero_add]; exact HS5.out j u hu) (ss_one L) (by unfold maxLen; omega) (by omega) z5 ?_; intro v6 w6 hown hgrow _; have HB6 := Lib.hid (below_own HB5.out HO5.out hgrow z5); have M6 := own_has hgrow HO5.out HM5.out (by decide); have HM6 := Lib.hid M6; have HO6 : Hid (w6.ownsRow w.heap.size 9 1 v6 (1 + L.length) (ss (nm :: L))) := Lib.hid hown; clear hown hgrow; obtain ⟨u0, u1, u2, u3, u4, u5⟩ := five M6; have z6 := HB6.out.size; have zm6 := M6.lt; have hkw6 := HKW.out _ (HG.out.below HB6.out); have hk60 : 2 < w6.heap.size := (HG.out.below HB6.out).kl) | (at_builtin; refine wpList_append_own _ rfl _ _ 63 rfl w.heap.size 9 i0 (.string ⟨#[]⟩) 1 16 Tryz.underlying63 hi hz0 hz1 hz2 rfl (by decide) _ (1 + L.length) _ rfl (HO6.out.alloc _) ⟨w6.heap.size, 0, none⟩ 1 1 [.string (bs (kwL t))] rfl rfl (by have := cell_one_new w6 (.string (bs (kwL t))) 9; simpa using this) (by simp [Value.oneCell']) (by unfold maxLen; omega) (by omega) (by simp; omega) ?_; intro v7 w7 hown hgrow _; have HB7 := Lib.hid (below_own (HB6.out.alloc HB6.out.size _) (HO6.out.alloc _) hgrow (by simp; omega)); have HO7 : Hid (w7.ownsRow w.heap.size 9 1 v7 ((1 + L.length) + 1) (ss ((nm :: L) ++ [bs (kwL t)]))) := Lib.hid (by simpa [ss] using hown); clear hown hgrow; obtain ⟨g7, c7, rfl, hs7, hg7, _, hc7⟩ := own_str HO7.out (by omega) HB7.out; have HS7 := Lib.hid hs7; clear hs7))
  have HJ := Join_at ((nm :: L) ++ [bs (kwL t)]) g7 c7 _ _ rfl HS7.out hg7 (by simp; omega) (by simp; try omega) (by simpa using HLEN.out)
  have hlen7 : ((nm :: L) ++ [bs (kwL t)]).length = (1 + L.length) + 1 := by simp; try omega
  rw [hlen7] at HJ
  refine HJ.mono ?_; rintro e w8 ⟨rfl, hb8⟩
  go_wp2_with fail
  go_ret2
  exact ⟨rfl, next HB7.out hb8⟩

end Go.Proofs.YtlhnnjllbcglcaaGreatDoor.efFn
