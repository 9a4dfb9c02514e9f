/- Joined texts: CaEncB CaEncZ CaEncO CaEnc -/
import Derived.Test.YtlhnnjllbcglcaaGreatDoorCaBytes
/- The bytes of a card: what Encode returns. -/
namespace Go.Proofs.YtlhnnjllbcglcaaGreatDoor.caFn
open Go.ChangeShapes Go.WideShapes Go.ChangeAt Go.RowKit drMem efFn
set_option linter.unusedVariables false

def encPostC (l : List UInt8) (w : World) (e : Ending) (w' : World) : Prop := ∃ sp n cap, e = .returned (.tuple #[.slice sp n cap, .int .i64 0]) ∧ BsAt w' sp n l ∧ n ≤ cap ∧ Below w.heap.size w w'
def byPost (l : List UInt8) (w : World) (e : Ending) (w' : World) : Prop := ∃ b off n cap, e = .returned (.slice (some ⟨b, off, none⟩) n cap) ∧ l.length = n ∧ b < w'.heap.size ∧ (∀ j u, (bys l)[j]? = some u → w'.cell? ⟨b, off + j, none⟩ = some u) ∧ Below w.heap.size w w'
theorem effectBytes_any (sp : Option Addr) (n cap : Nat) (l : List Ef) (w : World) (h : EfsAt w sp n l) (ha : allB l = true) :
    Calls Tryz.prog 32 #[.slice sp n cap] w (byPost (encB l) w) := by
  have HE := Encode_yes sp n cap l w h ha
  go_enter Tryz.func32, Tryz.ntmps32
  go_wp2_with fail
  refine HE.mono ?_; rintro e w1 ⟨sp, n', cap', rfl, hB, hb1⟩
  have HX := Lib.hid hB
  have HB := Lib.hid hb1
  clear hB hb1
  go_wp2_with fail
  go_ret
  obtain ⟨b, off, rfl, hl, hc⟩ := HX.out.c (by rw [bys_len, encB_len]; omega)
  exact ⟨b, off, n', cap', rfl, HX.out.n, hl, hc, HB.out⟩
set_option maxRecDepth 100000 in
theorem Encode_no (s : ByteArray) (kd a b c d x m p t k : Int) (es : Option Addr) (en ec : Nat) (ts : Option Addr) (tn tc : Nat) (r : Int) (e : List Ef) (l : List Tr) (w : World) (h : CdAt w es en e ts tn l) (htc : tn ≤ tc) (ho : okCd ⟨s.data.toList, kd, a, b, c, d, x, m, p, t, k, e, l, r⟩ = false) :
    Calls Tryz.prog 20 #[cV s kd a b c d x m p t k es en ec ts tn tc r] w fun v w' => v = .returned (.tuple #[.slice none 0 0, .int .i64 2]) ∧ Below w.heap.size w w' := by
  have B0 : Below w.heap.size w (w.alloc (.cells #[.string s, .int .i64 kd, .int .i64 a, .int .i64 b, .int .i64 c, .int .i64 d, .int .i64 x, .int .i64 m, .int .i64 p, .int .i64 t, .int .i64 k, .slice es en ec, .slice ts tn tc, .int .i64 r] 32)) := (Below.refl _ _).alloc (Nat.le_refl _) _
  have HV := ValidV_any s kd a b c d x m p t k es en ec ts tn tc r e l _ (h.below B0 (Nat.le_refl _)) htc
  rw [ho] at HV
  have HB0 := Lib.hid B0
  clear h B0
  go_enter Tryz.func20, Tryz.ntmps20
  go_wp2_with fail
  refine HV.mono ?_; rintro v w1 ⟨rfl, hb⟩
  have HB1 := Lib.hid (next HB0.out hb)
  clear hb
  go_wp2_with fail
  go_ret2
  exact ⟨rfl, HB1.out⟩

end Go.Proofs.YtlhnnjllbcglcaaGreatDoor.caFn

/- The bytes of a card: what Encode returns, without triggers. -/
namespace Go.Proofs.YtlhnnjllbcglcaaGreatDoor.caFn
open Go.ChangeShapes Go.WideShapes Go.ChangeAt Go.RowKit drMem efFn
set_option linter.unusedVariables false

set_option maxRecDepth 100000 in
set_option maxHeartbeats 16000000 in
theorem Encode_0 (s : ByteArray) (kd a b c d x m p t k : Int) (es : Option Addr) (en ec : Nat) (ts : Option Addr) (tn tc : Nat) (r : Int) (e : List Ef) (l : List Tr) (w : World) (h : CdAt w es en e ts tn l) (h0 : tn = 0) (htc : tn ≤ tc) (ho : okCd ⟨s.data.toList, kd, a, b, c, d, x, m, p, t, k, e, l, r⟩ = true) :
    Calls Tryz.prog 20 #[cV s kd a b c d x m p t k es en ec ts tn tc r] w (encPostC (cdB ⟨s.data.toList, kd, a, b, c, d, x, m, p, t, k, e, l, r⟩) w) := by
  obtain ⟨i0, hi, hz0, hz1, hz2⟩ := info_parts infoB
  have q0 := maFn.ix0 a b c d; have q1 := maFn.ix1 a b c d; have q2 := maFn.ix2 a b c d; have q3 := maFn.ix3 a b c d
  have B0 : Below w.heap.size w (w.alloc (.cells #[.string s, .int .i64 kd, .int .i64 a, .int .i64 b, .int .i64 c, .int .i64 d, .int .i64 x, .int .i64 m, .int .i64 p, .int .i64 t, .int .i64 k, .slice es en ec, .slice ts tn tc, .int .i64 r] 32)) := (Below.refl _ _).alloc (Nat.le_refl _) _
  have HV := ValidV_any s kd a b c d x m p t k es en ec ts tn tc r e l _ (h.below B0 (Nat.le_refl _)) htc
  rw [ho] at HV
  obtain ⟨⟨nm0, nm1⟩, kd0, ra0, a0, b0, c0, d0, x0, m0, p0, t0, k0, eA, tr0, tw0⟩ := okCd_bd ho
  dsimp only at nm0 nm1 kd0 ra0 a0 b0 c0 d0 x0 m0 p0 t0 k0 eA tr0 tw0
  rw [list_len] at nm0 nm1
  have hln := h.t.n
  have hle := h.e.n
  rw [hln] at tr0
  have en4 : en ≤ 4 := by have := (all_bd eA).1; omega
  have HW := Lib.hid tw0
  have HLN := Lib.hid hln
  have HLE := Lib.hid hle
  have HD := Lib.hid (show cdB ⟨s.data.toList, kd, a, b, c, d, x, m, p, t, k, e, l, r⟩ = ((((((([u8 kd, u8 r, u8 s.size] ++ s.data.toList) ++ [u8 a]) ++ [u8 b]) ++ [u8 c]) ++ [u8 d]) ++ [u8 x, u8 m, u8 p, u8 t, u8 k]) ++ encB e) ++ [u8 tn] ++ trBy l by unfold cdB; rw [list_len, hln])
  have HH := Lib.hid h
  have HB0 := Lib.hid B0
  have HM0 := Lib.hid (new0 w 32 (cL s kd a b c d x m p t k es en ec ts tn tc r))
  clear h B0 ho tw0 hln hle
  have hd0 : ¬ (0 : Int) < (tn : Int) := by omega
  have H00 := Lib.hid h0
  clear h0
  have v_kd : IntKind.u8.wrap kd = kd := by rw [IntKind.wrap_u8]; omega
  have v_r : IntKind.u8.wrap r = r := by rw [IntKind.wrap_u8]; omega
  have v_a : IntKind.u8.wrap a = a := by rw [IntKind.wrap_u8]; omega
  have v_b : IntKind.u8.wrap b = b := by rw [IntKind.wrap_u8]; omega
  have v_c : IntKind.u8.wrap c = c := by rw [IntKind.wrap_u8]; omega
  have v_d : IntKind.u8.wrap d = d := by rw [IntKind.wrap_u8]; omega
  have v_x : IntKind.u8.wrap x = x := by rw [IntKind.wrap_u8]; omega
  have v_m : IntKind.u8.wrap m = m := by rw [IntKind.wrap_u8]; omega
  have v_p : IntKind.u8.wrap p = p := by rw [IntKind.wrap_u8]; omega
  have v_t : IntKind.u8.wrap t = t := by rw [IntKind.wrap_u8]; omega
  have v_k : IntKind.u8.wrap k = k := by rw [IntKind.wrap_u8]; omega
  have v_s : IntKind.u8.wrap (s.size : Int) = s.size := by rw [IntKind.wrap_u8]; omega
  have v_n : IntKind.u8.wrap (tn : Int) = tn := by rw [IntKind.wrap_u8]; omega
  have g_kd := Lib.hid (u8_of kd kd0.1 kd0.2)
  have g_r := Lib.hid (u8_of r ra0.1 ra0.2)
  have g_a := Lib.hid (u8_of a a0.1 a0.2)
  have g_b := Lib.hid (u8_of b b0.1 b0.2)
  have g_c := Lib.hid (u8_of c c0.1 c0.2)
  have g_d := Lib.hid (u8_of d d0.1 d0.2)
  have g_x := Lib.hid (u8_of x x0.1 x0.2)
  have g_m := Lib.hid (u8_of m m0.1 m0.2)
  have g_p := Lib.hid (u8_of p p0.1 p0.2)
  have g_t := Lib.hid (u8_of t t0.1 t0.2)
  have g_k := Lib.hid (u8_of k k0.1 k0.2)
  have g_s := Lib.hid (u8_of (s.size : Int) (by omega) (by omega))
  have g_n := Lib.hid (u8_of (tn : Int) (by omega) (by omega))
  go_enter Tryz.func20, Tryz.ntmps20
  go_wp2_with fail
  refine HV.mono ?_; rintro v w1 ⟨rfl, hb⟩
  have HM1 := Lib.hid (HM0.out.below hb HM0.out.lt)
  have HB1 := Lib.hid (next HB0.out hb)
  clear hb
  obtain ⟨u0, u1, -, -, -, -, -, -, -, -, -, -, -, u13, -⟩ := card14 HM1.out
  have HS0 : Hid (ES w 32 (cL s kd a b c d x m p t k es en ec ts tn tc r) (w1.alloc (.cells #[.int .u8 kd, .int .u8 r, .int .u8 (s.size : Int)] 5)) (.slice (some ⟨w1.heap.size, 0, none⟩) 3 3) 3 [u8 kd, u8 r, u8 s.size]) := Lib.hid ⟨by
    have h1 := World.ownsRow_lit (base := w.heap.size) (e := 5) (size := 1) w1 #[.int .u8 kd, .int .u8 r, .int .u8 (s.size : Int)] 3 HB1.out.size (by unfold maxLen; omega) rfl
    simpa [bys, g_kd.out, g_r.out, g_s.out] using h1, HB1.out.alloc HB1.out.size _, HM1.out.alloc _⟩
  have uu0 := HM1.out.alloc (.cells #[.int .u8 kd, .int .u8 r, .int .u8 (s.size : Int)] 5)
  have ux : (w1.alloc (.cells #[.int .u8 kd, .int .u8 r, .int .u8 (s.size : Int)] 5)).cell? ⟨w.heap.size, 0, none⟩ = some (.string s) := uu0.cell 0
  clear uu0
  have z0 := HS0.out.hb.size
  go_wp2_with (at_builtin; refine Lib.wpList_append_own_string _ rfl _ _ 38 9 rfl w.heap.size 5 i0 Tryz.underlying38 Tryz.underlying9 hi hz0 hz1 hz2 _ 3 _ rfl HS0.out.own s rfl (by unfold maxLen; omega) (by omega) z0 ?_; intro v2 w2 hown hgrow _; have HS1 : Hid (ES w 32 (cL s kd a b c d x m p t k es en ec ts tn tc r) w2 v2 (3 + s.size) ([u8 kd, u8 r, u8 s.size] ++ s.data.toList)) := Lib.hid (HS0.out.app (by decide) hown hgrow (by rw [bys_app]; rfl)); clear hown hgrow; obtain ⟨-, -, u2, u3, u4, u5, -, -, -, -, -, -, -, -, -⟩ := card14 HS1.out.box)
  refine wp_loop_rounds 5 ?_
  rw [rounds_succ]
  have HA1 := Lib.hid (HS1.out.alloc (.cells #[.int .u8 a] 5))
  have z1 := HA1.out.hb.size
  go_wp2_with (at_builtin; refine wpList_append_own _ rfl _ _ 38 rfl w.heap.size 5 i0 (.int .u8 0) 1 1 Tryz.underlying38 hi hz0 hz1 hz2 rfl (by decide) _ (3 + s.size) _ rfl HA1.out.own ⟨w2.heap.size, 0, none⟩ 1 1 [.int .u8 a] rfl rfl (fun j u hu => by rw [addr_add, Nat.zero_add]; exact ((new0 w2 5 [.int .u8 a]).cell j).trans hu) (by simp [Value.oneCell']) (by unfold maxLen; omega) (by omega) z1 ?_; intro v3 w3 hown hgrow _; have HS2 : Hid (ES w 32 (cL s kd a b c d x m p t k es en ec ts tn tc r) w3 v3 (3 + s.size + 1) (([u8 kd, u8 r, u8 s.size] ++ s.data.toList) ++ [u8 a])) := Lib.hid (HA1.out.app (by decide) hown hgrow (by rw [show ([.int .u8 a] : List Value) = bys [u8 a] by simp only [bys, List.map_cons, List.map_nil, g_a.out], ← bys_app])); clear hown hgrow; skip)
  rw [rounds_succ]
  have HA2 := Lib.hid (HS2.out.alloc (.cells #[.int .u8 b] 5))
  have z2 := HA2.out.hb.size
  go_wp2_with (at_builtin; refine wpList_append_own _ rfl _ _ 38 rfl w.heap.size 5 i0 (.int .u8 0) 1 1 Tryz.underlying38 hi hz0 hz1 hz2 rfl (by decide) _ (3 + s.size + 1) _ rfl HA2.out.own ⟨w3.heap.size, 0, none⟩ 1 1 [.int .u8 b] rfl rfl (fun j u hu => by rw [addr_add, Nat.zero_add]; exact ((new0 w3 5 [.int .u8 b]).cell j).trans hu) (by simp [Value.oneCell']) (by unfold maxLen; omega) (by omega) z2 ?_; intro v4 w4 hown hgrow _; have HS3 : Hid (ES w 32 (cL s kd a b c d x m p t k es en ec ts tn tc r) w4 v4 (3 + s.size + 1 + 1) ((([u8 kd, u8 r, u8 s.size] ++ s.data.toList) ++ [u8 a]) ++ [u8 b])) := Lib.hid (HA2.out.app (by decide) hown hgrow (by rw [show ([.int .u8 b] : List Value) = bys [u8 b] by simp only [bys, List.map_cons, List.map_nil, g_b.out], ← bys_app])); clear hown hgrow; skip)
  rw [rounds_succ]
  have HA3 := Lib.hid (HS3.out.alloc (.cells #[.int .u8 c] 5))
  have z3 := HA3.out.hb.size
  go_wp2_with (at_builtin; refine wpList_append_own _ rfl _ _ 38 rfl w.heap.size 5 i0 (.int .u8 0) 1 1 Tryz.underlying38 hi hz0 hz1 hz2 rfl (by decide) _ (3 + s.size + 1 + 1) _ rfl HA3.out.own ⟨w4.heap.size, 0, none⟩ 1 1 [.int .u8 c] rfl rfl (fun j u hu => by rw [addr_add, Nat.zero_add]; exact ((new0 w4 5 [.int .u8 c]).cell j).trans hu) (by simp [Value.oneCell']) (by unfold maxLen; omega) (by omega) z3 ?_; intro v5 w5 hown hgrow _; have HS4 : Hid (ES w 32 (cL s kd a b c d x m p t k es en ec ts tn tc r) w5 v5 (3 + s.size + 1 + 1 + 1) (((([u8 kd, u8 r, u8 s.size] ++ s.data.toList) ++ [u8 a]) ++ [u8 b]) ++ [u8 c])) := Lib.hid (HA3.out.app (by decide) hown hgrow (by rw [show ([.int .u8 c] : List Value) = bys [u8 c] by simp only [bys, List.map_cons, List.map_nil, g_c.out], ← bys_app])); clear hown hgrow; skip)
  rw [rounds_succ]
  have HA4 := Lib.hid (HS4.out.alloc (.cells #[.int .u8 d] 5))
  have z4 := HA4.out.hb.size
  go_wp2_with (at_builtin; refine wpList_append_own _ rfl _ _ 38 rfl w.heap.size 5 i0 (.int .u8 0) 1 1 Tryz.underlying38 hi hz0 hz1 hz2 rfl (by decide) _ (3 + s.size + 1 + 1 + 1) _ rfl HA4.out.own ⟨w5.heap.size, 0, none⟩ 1 1 [.int .u8 d] rfl rfl (fun j u hu => by rw [addr_add, Nat.zero_add]; exact ((new0 w5 5 [.int .u8 d]).cell j).trans hu) (by simp [Value.oneCell']) (by unfold maxLen; omega) (by omega) z4 ?_; intro v6 w6 hown hgrow _; have HS5 : Hid (ES w 32 (cL s kd a b c d x m p t k es en ec ts tn tc r) w6 v6 (3 + s.size + 1 + 1 + 1 + 1) ((((([u8 kd, u8 r, u8 s.size] ++ s.data.toList) ++ [u8 a]) ++ [u8 b]) ++ [u8 c]) ++ [u8 d])) := Lib.hid (HA4.out.app (by decide) hown hgrow (by rw [show ([.int .u8 d] : List Value) = bys [u8 d] by simp only [bys, List.map_cons, List.map_nil, g_d.out], ← bys_app])); clear hown hgrow; skip)
  obtain ⟨-, -, -, -, -, -, u6, u7, u8', u9, u10, -, -, -, -⟩ := card14 HS5.out.box
  rw [rounds_succ]
  have HA5 := Lib.hid (HS5.out.alloc (.cells #[.int .u8 x, .int .u8 m, .int .u8 p, .int .u8 t, .int .u8 k] 5))
  have z5 := HA5.out.hb.size
  go_wp2_with (at_builtin; refine wpList_append_own _ rfl _ _ 38 rfl w.heap.size 5 i0 (.int .u8 0) 1 1 Tryz.underlying38 hi hz0 hz1 hz2 rfl (by decide) _ (3 + s.size + 1 + 1 + 1 + 1) _ rfl HA5.out.own ⟨w6.heap.size, 0, none⟩ 5 5 [.int .u8 x, .int .u8 m, .int .u8 p, .int .u8 t, .int .u8 k] rfl rfl (fun j u hu => by rw [addr_add, Nat.zero_add]; exact ((new0 w6 5 [.int .u8 x, .int .u8 m, .int .u8 p, .int .u8 t, .int .u8 k]).cell j).trans hu) (by simp [Value.oneCell']) (by unfold maxLen; omega) (by omega) z5 ?_; intro v7 w7 hown hgrow _; have HS6 : Hid (ES w 32 (cL s kd a b c d x m p t k es en ec ts tn tc r) w7 v7 (3 + s.size + 1 + 1 + 1 + 1 + 5) (((((([u8 kd, u8 r, u8 s.size] ++ s.data.toList) ++ [u8 a]) ++ [u8 b]) ++ [u8 c]) ++ [u8 d]) ++ [u8 x, u8 m, u8 p, u8 t, u8 k])) := Lib.hid (HA5.out.app (by decide) hown hgrow (by rw [show ([.int .u8 x, .int .u8 m, .int .u8 p, .int .u8 t, .int .u8 k] : List Value) = bys [u8 x, u8 m, u8 p, u8 t, u8 k] by simp only [bys, List.map_cons, List.map_nil, g_x.out, g_m.out, g_p.out, g_t.out, g_k.out], ← bys_app])); clear hown hgrow; obtain ⟨-, -, -, -, -, -, -, -, -, -, -, u11, -, -, -⟩ := card14 HS6.out.box)
  have HEB := effectBytes_any es en ec e w7 (HH.out.e.below HS6.out.hb (Nat.le_refl _)) eA
  go_wp2_with fail
  refine HEB.mono ?_; rintro v w8 ⟨b9, o9, n9, c9, rfl, hl9, hb9, hc9, hbb⟩
  have HS7 := Lib.hid (HS6.out.below hbb)
  rw [encB_len, HLE.out] at hl9
  have HC9 := Lib.hid hc9
  clear hbb hc9
  have z7 := HS7.out.hb.size
  go_wp2_with (first | (at_builtin; refine wpList_append_own _ rfl _ _ 38 rfl w.heap.size 5 i0 (.int .u8 0) 1 1 Tryz.underlying38 hi hz0 hz1 hz2 rfl (by decide) _ (3 + s.size + 1 + 1 + 1 + 1 + 5) _ rfl HS7.out.own ⟨b9, o9, none⟩ n9 c9 (bys (encB e)) rfl (by rw [bys_len, encB_len, HLE.out, hl9, Nat.mul_one]) (fun j u hu => by rw [addr_add]; exact HC9.out j u hu) (bys_one _) (by unfold maxLen; omega) (by omega) z7 ?_; intro v9 w9 hown hgrow _; have HS8 : Hid (ES w 32 (cL s kd a b c d x m p t k es en ec ts tn tc r) w9 v9 (3 + s.size + 1 + 1 + 1 + 1 + 5 + n9) ((((((([u8 kd, u8 r, u8 s.size] ++ s.data.toList) ++ [u8 a]) ++ [u8 b]) ++ [u8 c]) ++ [u8 d]) ++ [u8 x, u8 m, u8 p, u8 t, u8 k]) ++ encB e)) := Lib.hid (HS7.out.app (by decide) hown hgrow (bys_app _ _).symm); clear hown hgrow; obtain ⟨-, -, -, -, -, -, -, -, -, -, -, -, u12, -, -⟩ := card14 HS8.out.box; have HA8 := Lib.hid (HS8.out.alloc (.cells #[.int .u8 (tn : Int)] 5)); have z8 := HA8.out.hb.size) | (at_builtin; refine wpList_append_own _ rfl _ _ 38 rfl w.heap.size 5 i0 (.int .u8 0) 1 1 Tryz.underlying38 hi hz0 hz1 hz2 rfl (by decide) _ (3 + s.size + 1 + 1 + 1 + 1 + 5 + n9) _ rfl HA8.out.own ⟨w9.heap.size, 0, none⟩ 1 1 [.int .u8 (tn : Int)] rfl rfl (fun j u hu => by rw [addr_add, Nat.zero_add]; exact ((new0 w9 5 [.int .u8 (tn : Int)]).cell j).trans hu) (by simp [Value.oneCell']) (by unfold maxLen; omega) (by omega) z8 ?_; intro v10 w10 hown hgrow _; have HS9 : Hid (ES w 32 (cL s kd a b c d x m p t k es en ec ts tn tc r) w10 v10 (3 + s.size + 1 + 1 + 1 + 1 + 5 + n9 + 1) (((((((([u8 kd, u8 r, u8 s.size] ++ s.data.toList) ++ [u8 a]) ++ [u8 b]) ++ [u8 c]) ++ [u8 d]) ++ [u8 x, u8 m, u8 p, u8 t, u8 k]) ++ encB e) ++ [u8 tn])) := Lib.hid (HA8.out.app (by decide) hown hgrow (by rw [show ([.int .u8 (tn : Int)] : List Value) = bys [u8 tn] by simp only [bys, List.map_cons, List.map_nil, g_n.out], ← bys_app])); clear hown hgrow; obtain ⟨-, -, -, -, -, -, -, -, -, -, -, -, u12, -, -⟩ := card14 HS9.out.box))
  refine wp_loop_rounds 1 ?_
  rw [rounds_succ]
  go_wp2_with fail
  go_ret2
  obtain ⟨sp, cp, rfl, hB, hcp⟩ := HS9.out.form (by omega)
  refine ⟨_, _, _, rfl, ?_, hcp, HS9.out.hb⟩
  rw [HD.out, show trBy l = [] by rw [List.eq_nil_of_length_eq_zero (HLN.out.trans H00.out)]; rfl, List.append_nil]
  exact hB
end Go.Proofs.YtlhnnjllbcglcaaGreatDoor.caFn

/- The bytes of a card: what Encode returns, with triggers. -/
namespace Go.Proofs.YtlhnnjllbcglcaaGreatDoor.caFn
open Go.ChangeShapes Go.WideShapes Go.ChangeAt Go.RowKit drMem efFn
set_option linter.unusedVariables false

set_option maxRecDepth 100000 in
set_option maxHeartbeats 16000000 in
theorem Encode_1 (s : ByteArray) (kd a b c d x m p t k : Int) (es : Option Addr) (en ec : Nat) (tb toff : Nat) (tn tc : Nat) (r : Int) (e : List Ef) (l : List Tr) (w : World) (h : CdAt w es en e (some ⟨tb, toff, none⟩) tn l) (h0 : 0 < tn) (htc : tn ≤ tc) (ho : okCd ⟨s.data.toList, kd, a, b, c, d, x, m, p, t, k, e, l, r⟩ = true) :
    Calls Tryz.prog 20 #[cV s kd a b c d x m p t k es en ec (some ⟨tb, toff, none⟩) tn tc r] w (encPostC (cdB ⟨s.data.toList, kd, a, b, c, d, x, m, p, t, k, e, l, r⟩) w) := by
  obtain ⟨i0, hi, hz0, hz1, hz2⟩ := info_parts infoB
  have q0 := maFn.ix0 a b c d; have q1 := maFn.ix1 a b c d; have q2 := maFn.ix2 a b c d; have q3 := maFn.ix3 a b c d
  have B0 : Below w.heap.size w (w.alloc (.cells #[.string s, .int .i64 kd, .int .i64 a, .int .i64 b, .int .i64 c, .int .i64 d, .int .i64 x, .int .i64 m, .int .i64 p, .int .i64 t, .int .i64 k, .slice es en ec, .slice (some ⟨tb, toff, none⟩) tn tc, .int .i64 r] 32)) := (Below.refl _ _).alloc (Nat.le_refl _) _
  have HV := ValidV_any s kd a b c d x m p t k es en ec (some ⟨tb, toff, none⟩) tn tc r e l _ (h.below B0 (Nat.le_refl _)) htc
  rw [ho] at HV
  obtain ⟨⟨nm0, nm1⟩, kd0, ra0, a0, b0, c0, d0, x0, m0, p0, t0, k0, eA, tr0, tw0⟩ := okCd_bd ho
  dsimp only at nm0 nm1 kd0 ra0 a0 b0 c0 d0 x0 m0 p0 t0 k0 eA tr0 tw0
  rw [list_len] at nm0 nm1
  have hln := h.t.n
  have hle := h.e.n
  rw [hln] at tr0
  have en4 : en ≤ 4 := by have := (all_bd eA).1; omega
  have HW := Lib.hid tw0
  have HLN := Lib.hid hln
  have HLE := Lib.hid hle
  have HD := Lib.hid (show cdB ⟨s.data.toList, kd, a, b, c, d, x, m, p, t, k, e, l, r⟩ = ((((((([u8 kd, u8 r, u8 s.size] ++ s.data.toList) ++ [u8 a]) ++ [u8 b]) ++ [u8 c]) ++ [u8 d]) ++ [u8 x, u8 m, u8 p, u8 t, u8 k]) ++ encB e) ++ [u8 tn] ++ trBy l by unfold cdB; rw [list_len, hln])
  have HH := Lib.hid h
  have HB0 := Lib.hid B0
  have HM0 := Lib.hid (new0 w 32 (cL s kd a b c d x m p t k es en ec (some ⟨tb, toff, none⟩) tn tc r))
  clear h B0 ho tw0 hln hle
  have v_kd : IntKind.u8.wrap kd = kd := by rw [IntKind.wrap_u8]; omega
  have v_r : IntKind.u8.wrap r = r := by rw [IntKind.wrap_u8]; omega
  have v_a : IntKind.u8.wrap a = a := by rw [IntKind.wrap_u8]; omega
  have v_b : IntKind.u8.wrap b = b := by rw [IntKind.wrap_u8]; omega
  have v_c : IntKind.u8.wrap c = c := by rw [IntKind.wrap_u8]; omega
  have v_d : IntKind.u8.wrap d = d := by rw [IntKind.wrap_u8]; omega
  have v_x : IntKind.u8.wrap x = x := by rw [IntKind.wrap_u8]; omega
  have v_m : IntKind.u8.wrap m = m := by rw [IntKind.wrap_u8]; omega
  have v_p : IntKind.u8.wrap p = p := by rw [IntKind.wrap_u8]; omega
  have v_t : IntKind.u8.wrap t = t := by rw [IntKind.wrap_u8]; omega
  have v_k : IntKind.u8.wrap k = k := by rw [IntKind.wrap_u8]; omega
  have v_s : IntKind.u8.wrap (s.size : Int) = s.size := by rw [IntKind.wrap_u8]; omega
  have v_n : IntKind.u8.wrap (tn : Int) = tn := by rw [IntKind.wrap_u8]; omega
  have g_kd := Lib.hid (u8_of kd kd0.1 kd0.2)
  have g_r := Lib.hid (u8_of r ra0.1 ra0.2)
  have g_a := Lib.hid (u8_of a a0.1 a0.2)
  have g_b := Lib.hid (u8_of b b0.1 b0.2)
  have g_c := Lib.hid (u8_of c c0.1 c0.2)
  have g_d := Lib.hid (u8_of d d0.1 d0.2)
  have g_x := Lib.hid (u8_of x x0.1 x0.2)
  have g_m := Lib.hid (u8_of m m0.1 m0.2)
  have g_p := Lib.hid (u8_of p p0.1 p0.2)
  have g_t := Lib.hid (u8_of t t0.1 t0.2)
  have g_k := Lib.hid (u8_of k k0.1 k0.2)
  have g_s := Lib.hid (u8_of (s.size : Int) (by omega) (by omega))
  have g_n := Lib.hid (u8_of (tn : Int) (by omega) (by omega))
  go_enter Tryz.func20, Tryz.ntmps20
  go_wp2_with fail
  refine HV.mono ?_; rintro v w1 ⟨rfl, hb⟩
  have HM1 := Lib.hid (HM0.out.below hb HM0.out.lt)
  have HB1 := Lib.hid (next HB0.out hb)
  clear hb
  obtain ⟨u0, u1, -, -, -, -, -, -, -, -, -, -, -, u13, -⟩ := card14 HM1.out
  have HS0 : Hid (ES w 32 (cL s kd a b c d x m p t k es en ec (some ⟨tb, toff, none⟩) tn tc r) (w1.alloc (.cells #[.int .u8 kd, .int .u8 r, .int .u8 (s.size : Int)] 5)) (.slice (some ⟨w1.heap.size, 0, none⟩) 3 3) 3 [u8 kd, u8 r, u8 s.size]) := Lib.hid ⟨by
    have h1 := World.ownsRow_lit (base := w.heap.size) (e := 5) (size := 1) w1 #[.int .u8 kd, .int .u8 r, .int .u8 (s.size : Int)] 3 HB1.out.size (by unfold maxLen; omega) rfl
    simpa [bys, g_kd.out, g_r.out, g_s.out] using h1, HB1.out.alloc HB1.out.size _, HM1.out.alloc _⟩
  have uu0 := HM1.out.alloc (.cells #[.int .u8 kd, .int .u8 r, .int .u8 (s.size : Int)] 5)
  have ux : (w1.alloc (.cells #[.int .u8 kd, .int .u8 r, .int .u8 (s.size : Int)] 5)).cell? ⟨w.heap.size, 0, none⟩ = some (.string s) := uu0.cell 0
  clear uu0
  have z0 := HS0.out.hb.size
  go_wp2_with (at_builtin; refine Lib.wpList_append_own_string _ rfl _ _ 38 9 rfl w.heap.size 5 i0 Tryz.underlying38 Tryz.underlying9 hi hz0 hz1 hz2 _ 3 _ rfl HS0.out.own s rfl (by unfold maxLen; omega) (by omega) z0 ?_; intro v2 w2 hown hgrow _; have HS1 : Hid (ES w 32 (cL s kd a b c d x m p t k es en ec (some ⟨tb, toff, none⟩) tn tc r) w2 v2 (3 + s.size) ([u8 kd, u8 r, u8 s.size] ++ s.data.toList)) := Lib.hid (HS0.out.app (by decide) hown hgrow (by rw [bys_app]; rfl)); clear hown hgrow; obtain ⟨-, -, u2, u3, u4, u5, -, -, -, -, -, -, -, -, -⟩ := card14 HS1.out.box)
  refine wp_loop_rounds 5 ?_
  rw [rounds_succ]
  have HA1 := Lib.hid (HS1.out.alloc (.cells #[.int .u8 a] 5))
  have z1 := HA1.out.hb.size
  go_wp2_with (at_builtin; refine wpList_append_own _ rfl _ _ 38 rfl w.heap.size 5 i0 (.int .u8 0) 1 1 Tryz.underlying38 hi hz0 hz1 hz2 rfl (by decide) _ (3 + s.size) _ rfl HA1.out.own ⟨w2.heap.size, 0, none⟩ 1 1 [.int .u8 a] rfl rfl (fun j u hu => by rw [addr_add, Nat.zero_add]; exact ((new0 w2 5 [.int .u8 a]).cell j).trans hu) (by simp [Value.oneCell']) (by unfold maxLen; omega) (by omega) z1 ?_; intro v3 w3 hown hgrow _; have HS2 : Hid (ES w 32 (cL s kd a b c d x m p t k es en ec (some ⟨tb, toff, none⟩) tn tc r) w3 v3 (3 + s.size + 1) (([u8 kd, u8 r, u8 s.size] ++ s.data.toList) ++ [u8 a])) := Lib.hid (HA1.out.app (by decide) hown hgrow (by rw [show ([.int .u8 a] : List Value) = bys [u8 a] by simp only [bys, List.map_cons, List.map_nil, g_a.out], ← bys_app])); clear hown hgrow; skip)
  rw [rounds_succ]
  have HA2 := Lib.hid (HS2.out.alloc (.cells #[.int .u8 b] 5))
  have z2 := HA2.out.hb.size
  go_wp2_with (at_builtin; refine wpList_append_own _ rfl _ _ 38 rfl w.heap.size 5 i0 (.int .u8 0) 1 1 Tryz.underlying38 hi hz0 hz1 hz2 rfl (by decide) _ (3 + s.size + 1) _ rfl HA2.out.own ⟨w3.heap.size, 0, none⟩ 1 1 [.int .u8 b] rfl rfl (fun j u hu => by rw [addr_add, Nat.zero_add]; exact ((new0 w3 5 [.int .u8 b]).cell j).trans hu) (by simp [Value.oneCell']) (by unfold maxLen; omega) (by omega) z2 ?_; intro v4 w4 hown hgrow _; have HS3 : Hid (ES w 32 (cL s kd a b c d x m p t k es en ec (some ⟨tb, toff, none⟩) tn tc r) w4 v4 (3 + s.size + 1 + 1) ((([u8 kd, u8 r, u8 s.size] ++ s.data.toList) ++ [u8 a]) ++ [u8 b])) := Lib.hid (HA2.out.app (by decide) hown hgrow (by rw [show ([.int .u8 b] : List Value) = bys [u8 b] by simp only [bys, List.map_cons, List.map_nil, g_b.out], ← bys_app])); clear hown hgrow; skip)
  rw [rounds_succ]
  have HA3 := Lib.hid (HS3.out.alloc (.cells #[.int .u8 c] 5))
  have z3 := HA3.out.hb.size
  go_wp2_with (at_builtin; refine wpList_append_own _ rfl _ _ 38 rfl w.heap.size 5 i0 (.int .u8 0) 1 1 Tryz.underlying38 hi hz0 hz1 hz2 rfl (by decide) _ (3 + s.size + 1 + 1) _ rfl HA3.out.own ⟨w4.heap.size, 0, none⟩ 1 1 [.int .u8 c] rfl rfl (fun j u hu => by rw [addr_add, Nat.zero_add]; exact ((new0 w4 5 [.int .u8 c]).cell j).trans hu) (by simp [Value.oneCell']) (by unfold maxLen; omega) (by omega) z3 ?_; intro v5 w5 hown hgrow _; have HS4 : Hid (ES w 32 (cL s kd a b c d x m p t k es en ec (some ⟨tb, toff, none⟩) tn tc r) w5 v5 (3 + s.size + 1 + 1 + 1) (((([u8 kd, u8 r, u8 s.size] ++ s.data.toList) ++ [u8 a]) ++ [u8 b]) ++ [u8 c])) := Lib.hid (HA3.out.app (by decide) hown hgrow (by rw [show ([.int .u8 c] : List Value) = bys [u8 c] by simp only [bys, List.map_cons, List.map_nil, g_c.out], ← bys_app])); clear hown hgrow; skip)
  rw [rounds_succ]
  have HA4 := Lib.hid (HS4.out.alloc (.cells #[.int .u8 d] 5))
  have z4 := HA4.out.hb.size
  go_wp2_with (at_builtin; refine wpList_append_own _ rfl _ _ 38 rfl w.heap.size 5 i0 (.int .u8 0) 1 1 Tryz.underlying38 hi hz0 hz1 hz2 rfl (by decide) _ (3 + s.size + 1 + 1 + 1) _ rfl HA4.out.own ⟨w5.heap.size, 0, none⟩ 1 1 [.int .u8 d] rfl rfl (fun j u hu => by rw [addr_add, Nat.zero_add]; exact ((new0 w5 5 [.int .u8 d]).cell j).trans hu) (by simp [Value.oneCell']) (by unfold maxLen; omega) (by omega) z4 ?_; intro v6 w6 hown hgrow _; have HS5 : Hid (ES w 32 (cL s kd a b c d x m p t k es en ec (some ⟨tb, toff, none⟩) tn tc r) w6 v6 (3 + s.size + 1 + 1 + 1 + 1) ((((([u8 kd, u8 r, u8 s.size] ++ s.data.toList) ++ [u8 a]) ++ [u8 b]) ++ [u8 c]) ++ [u8 d])) := Lib.hid (HA4.out.app (by decide) hown hgrow (by rw [show ([.int .u8 d] : List Value) = bys [u8 d] by simp only [bys, List.map_cons, List.map_nil, g_d.out], ← bys_app])); clear hown hgrow; skip)
  obtain ⟨-, -, -, -, -, -, u6, u7, u8', u9, u10, -, -, -, -⟩ := card14 HS5.out.box
  rw [rounds_succ]
  have HA5 := Lib.hid (HS5.out.alloc (.cells #[.int .u8 x, .int .u8 m, .int .u8 p, .int .u8 t, .int .u8 k] 5))
  have z5 := HA5.out.hb.size
  go_wp2_with (at_builtin; refine wpList_append_own _ rfl _ _ 38 rfl w.heap.size 5 i0 (.int .u8 0) 1 1 Tryz.underlying38 hi hz0 hz1 hz2 rfl (by decide) _ (3 + s.size + 1 + 1 + 1 + 1) _ rfl HA5.out.own ⟨w6.heap.size, 0, none⟩ 5 5 [.int .u8 x, .int .u8 m, .int .u8 p, .int .u8 t, .int .u8 k] rfl rfl (fun j u hu => by rw [addr_add, Nat.zero_add]; exact ((new0 w6 5 [.int .u8 x, .int .u8 m, .int .u8 p, .int .u8 t, .int .u8 k]).cell j).trans hu) (by simp [Value.oneCell']) (by unfold maxLen; omega) (by omega) z5 ?_; intro v7 w7 hown hgrow _; have HS6 : Hid (ES w 32 (cL s kd a b c d x m p t k es en ec (some ⟨tb, toff, none⟩) tn tc r) w7 v7 (3 + s.size + 1 + 1 + 1 + 1 + 5) (((((([u8 kd, u8 r, u8 s.size] ++ s.data.toList) ++ [u8 a]) ++ [u8 b]) ++ [u8 c]) ++ [u8 d]) ++ [u8 x, u8 m, u8 p, u8 t, u8 k])) := Lib.hid (HA5.out.app (by decide) hown hgrow (by rw [show ([.int .u8 x, .int .u8 m, .int .u8 p, .int .u8 t, .int .u8 k] : List Value) = bys [u8 x, u8 m, u8 p, u8 t, u8 k] by simp only [bys, List.map_cons, List.map_nil, g_x.out, g_m.out, g_p.out, g_t.out, g_k.out], ← bys_app])); clear hown hgrow; obtain ⟨-, -, -, -, -, -, -, -, -, -, -, u11, -, -, -⟩ := card14 HS6.out.box)
  have HEB := effectBytes_any es en ec e w7 (HH.out.e.below HS6.out.hb (Nat.le_refl _)) eA
  go_wp2_with fail
  refine HEB.mono ?_; rintro v w8 ⟨b9, o9, n9, c9, rfl, hl9, hb9, hc9, hbb⟩
  have HS7 := Lib.hid (HS6.out.below hbb)
  rw [encB_len, HLE.out] at hl9
  have HC9 := Lib.hid hc9
  clear hbb hc9
  have z7 := HS7.out.hb.size
  go_wp2_with (first | (at_builtin; refine wpList_append_own _ rfl _ _ 38 rfl w.heap.size 5 i0 (.int .u8 0) 1 1 Tryz.underlying38 hi hz0 hz1 hz2 rfl (by decide) _ (3 + s.size + 1 + 1 + 1 + 1 + 5) _ rfl HS7.out.own ⟨b9, o9, none⟩ n9 c9 (bys (encB e)) rfl (by rw [bys_len, encB_len, HLE.out, hl9, Nat.mul_one]) (fun j u hu => by rw [addr_add]; exact HC9.out j u hu) (bys_one _) (by unfold maxLen; omega) (by omega) z7 ?_; intro v9 w9 hown hgrow _; have HS8 : Hid (ES w 32 (cL s kd a b c d x m p t k es en ec (some ⟨tb, toff, none⟩) tn tc r) w9 v9 (3 + s.size + 1 + 1 + 1 + 1 + 5 + n9) ((((((([u8 kd, u8 r, u8 s.size] ++ s.data.toList) ++ [u8 a]) ++ [u8 b]) ++ [u8 c]) ++ [u8 d]) ++ [u8 x, u8 m, u8 p, u8 t, u8 k]) ++ encB e)) := Lib.hid (HS7.out.app (by decide) hown hgrow (bys_app _ _).symm); clear hown hgrow; obtain ⟨-, -, -, -, -, -, -, -, -, -, -, -, u12, -, -⟩ := card14 HS8.out.box; have HA8 := Lib.hid (HS8.out.alloc (.cells #[.int .u8 (tn : Int)] 5)); have z8 := HA8.out.hb.size) | (at_builtin; refine wpList_append_own _ rfl _ _ 38 rfl w.heap.size 5 i0 (.int .u8 0) 1 1 Tryz.underlying38 hi hz0 hz1 hz2 rfl (by decide) _ (3 + s.size + 1 + 1 + 1 + 1 + 5 + n9) _ rfl HA8.out.own ⟨w9.heap.size, 0, none⟩ 1 1 [.int .u8 (tn : Int)] rfl rfl (fun j u hu => by rw [addr_add, Nat.zero_add]; exact ((new0 w9 5 [.int .u8 (tn : Int)]).cell j).trans hu) (by simp [Value.oneCell']) (by unfold maxLen; omega) (by omega) z8 ?_; intro v10 w10 hown hgrow _; have HS9 : Hid (ES w 32 (cL s kd a b c d x m p t k es en ec (some ⟨tb, toff, none⟩) tn tc r) w10 v10 (3 + s.size + 1 + 1 + 1 + 1 + 5 + n9 + 1) (((((((([u8 kd, u8 r, u8 s.size] ++ s.data.toList) ++ [u8 a]) ++ [u8 b]) ++ [u8 c]) ++ [u8 d]) ++ [u8 x, u8 m, u8 p, u8 t, u8 k]) ++ encB e) ++ [u8 tn])) := Lib.hid (HA8.out.app (by decide) hown hgrow (by rw [show ([.int .u8 (tn : Int)] : List Value) = bys [u8 tn] by simp only [bys, List.map_cons, List.map_nil, g_n.out], ← bys_app])); clear hown hgrow; obtain ⟨-, -, -, -, -, -, -, -, -, -, -, -, u12, -, -⟩ := card14 HS9.out.box))
  obtain ⟨N, hN⟩ : ∃ N, N = 3 + s.size + 1 + 1 + 1 + 1 + 5 + n9 + 1 := ⟨_, rfl⟩
  have hNb : N ≤ 70 := by omega
  have HSN := HS9
  rw [← hN] at HSN
  clear hN HS9
  obtain ⟨tb', toff', hts, htb, hc⟩ := HH.out.t.c h0
  cases hts
  have C : Hid (∀ k, k < tn → ∃ s m c, TrAt w tb (toff + k * 2) (l.getD k default) s m c) := Lib.hid fun k hk => hc k _ (getT (by rw [HLN.out]; exact hk))
  have HX : Hid (∀ k, k < tn → trBy (l.take (k + 1)) = trBy (l.take k) ++ [u8 (l.getD k default).w] ++ encB (l.getD k default).e) := Lib.hid fun k hk => trBy_succ (by rw [HLN.out]; exact hk)
  have HY : Hid (∀ k, k < tn → (0 ≤ (l.getD k default).w ∧ (l.getD k default).w < 256) ∧ allB (l.getD k default).e = true) := Lib.hid fun k hk => HW.out _ (by rw [List.getD_eq_getElem?_getD, List.getElem?_eq_getElem (by rw [HLN.out]; exact hk)]; exact List.getElem_mem _)
  clear hc
  generalize hpre : (((((((([u8 kd, u8 r, u8 s.size] ++ s.data.toList) ++ [u8 a]) ++ [u8 b]) ++ [u8 c]) ++ [u8 d]) ++ [u8 x, u8 m, u8 p, u8 t, u8 k]) ++ encB e) ++ [u8 tn]) = pre at *
  have HP := Lib.hid hpre
  clear hpre
  go_loopw [4, 73] (fun v i wr => ∃ k9 M : Nat, k9 ≤ tn ∧ M ≤ 70 + 22 * k9 ∧ i = .int .i64 k9 ∧ Hid (ES w 32 (cL s kd a b c d x m p t k es en ec (some ⟨tb, toff, none⟩) tn tc r) wr v M (pre ++ trBy (l.take k9)))) (fun _ i _ => tn - (intOf i).toNat)
  case atStart => exact ⟨0, N, Nat.zero_le _, by omega, rfl, Lib.hid (by rw [List.take_zero, show trBy [] = [] from rfl, List.append_nil]; exact HSN.out)⟩
  case round =>
    obtain ⟨k', M, hk, hM, rfl, HT⟩ := hrel
    by_cases hlt : k' < tn
    · obtain ⟨s', n', c', hat⟩ := C.out k' hlt
      obtain ⟨c0, c1, ce⟩ := hat.below HT.out.hb htb (Nat.le_refl _)
      have HX' := Lib.hid (HX.out k' hlt)
      obtain ⟨⟨w0, w1⟩, hA⟩ := HY.out k' hlt
      generalize l.getD k' default = y at *
      obtain ⟨yw, ye⟩ := y
      dsimp only at c0 c1 ce HX' w0 w1 hA
      have hn5 := ce.n
      have hy4 : n' ≤ 4 := by have := (all_bd hA).1; omega
      have HN5 := Lib.hid hn5
      have v_w : IntKind.u8.wrap yw = yw := by rw [IntKind.wrap_u8]; omega
      have g_w := Lib.hid (u8_of yw w0 w1)
      have HA1 := Lib.hid ((HT.out.alloc (.cells #[.int .i64 yw, .slice s' n' c'] 47)).alloc (.cells #[.int .u8 yw] 5))
      have hm := (new0 wr 47 [.int .i64 yw, .slice s' n' c']).alloc (.cells #[.int .u8 yw] 5)
      have HM5 := Lib.hid hm
      have HU : Hid (has ((wr.alloc (.cells #[.int .i64 yw, .slice s' n' c'] 47)).alloc (.cells #[.int .u8 yw] 5)) (wr.heap.size + 1) 5 [.int .u8 yw]) := Lib.hid (by have := has.new (wr.alloc (.cells #[.int .i64 yw, .slice s' n' c'] 47)) 5 [.int .u8 yw]; simpa using this)
      have z1 := HA1.out.hb.size
      have CW : Hid (∀ W, Below w.heap.size w W → EfsAt W s' n' ye) := Lib.hid fun W hW => hat.e.below hW (Nat.le_refl _)
      clear hat
      have zr := HT.out.hb.size
      clear hm ce hn5
      go_wp2_with (at_builtin; refine wpList_append_own _ rfl _ _ 38 rfl w.heap.size 5 i0 (.int .u8 0) 1 1 Tryz.underlying38 hi hz0 hz1 hz2 rfl (by decide) _ M _ rfl HA1.out.own ⟨wr.heap.size + 1, 0, none⟩ 1 1 [.int .u8 yw] rfl rfl (fun j u hu => by rw [addr_add, Nat.zero_add]; exact (HU.out.cell j).trans hu) (by simp [Value.oneCell']) (by unfold maxLen; omega) (by omega) z1 ?_; intro v5 w5 hown hgrow _; have HT5 : Hid (ES w 32 (cL s kd a b c d x m p t k es en ec (some ⟨tb, toff, none⟩) tn tc r) w5 v5 (M + 1) (pre ++ trBy (l.take k') ++ [efFn.u8 yw])) := Lib.hid (HA1.out.app (by decide) hown hgrow (by rw [show ([.int .u8 yw] : List Value) = bys [efFn.u8 yw] by simp only [bys, List.map_cons, List.map_nil, g_w.out], ← bys_app])); have HM6 := Lib.hid (own_has' hgrow HA1.out.own HM5.out (by decide)); have CE5 : Hid (EfsAt w5 s' n' ye) := Lib.hid (CW.out w5 HT5.out.hb); clear hown hgrow; obtain ⟨x0, x1, x2⟩ := two HM6.out)
      have HEB := effectBytes_any s' n' c' ye w5 CE5.out hA
      go_wp2_with fail
      refine HEB.mono ?_; rintro v w6 ⟨b9, o9, n9, c9, rfl, hl9, hb9, hc9, hbb⟩
      have HT6 := Lib.hid (HT5.out.below hbb)
      rw [encB_len, HN5.out] at hl9
      have HC9 := Lib.hid hc9
      clear hbb hc9 x0 x1 x2
      have z6 := HT6.out.hb.size
      go_wp2_with (at_builtin; refine wpList_append_own _ rfl _ _ 38 rfl w.heap.size 5 i0 (.int .u8 0) 1 1 Tryz.underlying38 hi hz0 hz1 hz2 rfl (by decide) _ (M + 1) _ rfl HT6.out.own ⟨b9, o9, none⟩ n9 c9 (bys (encB ye)) rfl (by rw [bys_len, encB_len, HN5.out, hl9, Nat.mul_one]) (fun j u hu => by rw [addr_add]; exact HC9.out j u hu) (bys_one _) (by unfold maxLen; omega) (by omega) z6 ?_; intro v7 w7 hown hgrow _; have HT7 : Hid (ES w 32 (cL s kd a b c d x m p t k es en ec (some ⟨tb, toff, none⟩) tn tc r) w7 v7 (M + 1 + n9) (pre ++ trBy (l.take k') ++ [efFn.u8 yw] ++ encB ye)) := Lib.hid (HT6.out.app (by decide) hown hgrow (bys_app _ _).symm); clear hown hgrow)
      exact ⟨⟨k' + 1, M + 1 + n9, by omega, by omega, by go_num, Lib.hid (by rw [HX'.out, ← List.append_assoc, ← List.append_assoc]; exact HT7.out)⟩, by simp [intOf]; omega⟩
    · obtain rfl : k' = tn := by omega
      go_wp2_with fail
      go_ret2
      obtain ⟨sp, cp, rfl, hB, hcp⟩ := HT.out.form (by omega)
      refine ⟨_, _, _, rfl, ?_, hcp, HT.out.hb⟩
      rw [HD.out]
      rw [List.take_of_length_le (by rw [HLN.out]; exact Nat.le_refl _)] at hB
      exact hB

end Go.Proofs.YtlhnnjllbcglcaaGreatDoor.caFn

/- The bytes of any card: what Encode returns. -/
namespace Go.Proofs.YtlhnnjllbcglcaaGreatDoor.caFn
open Go.ChangeShapes Go.WideShapes Go.ChangeAt Go.RowKit drMem efFn
set_option linter.unusedVariables false

def cdZ (q : Cd) : List UInt8 × Int := if okCd q = true then (cdB q, 0) else ([], 2)
theorem cdZ_yes {q : Cd} (h : okCd q = true) : cdZ q = (cdB q, 0) := if_pos h
theorem cdZ_no {q : Cd} (h : okCd q = false) : cdZ q = ([], 2) := if_neg (by rw [h]; decide)
theorem EncodeV_any (s : ByteArray) (kd a b c d x m p t k : Int) (es : Option Addr) (en ec : Nat) (ts : Option Addr) (tn tc : Nat) (r : Int) (e : List Ef) (l : List Tr) (w : World) (h : CdAt w es en e ts tn l) (htc : tn ≤ tc) :
    Calls Tryz.prog 20 #[cV s kd a b c d x m p t k es en ec ts tn tc r] w fun v w' => ∃ sp n cap, v = .returned (.tuple #[.slice sp n cap, .int .i64 (cdZ ⟨s.data.toList, kd, a, b, c, d, x, m, p, t, k, e, l, r⟩).2]) ∧ BsAt w' sp n (cdZ ⟨s.data.toList, kd, a, b, c, d, x, m, p, t, k, e, l, r⟩).1 ∧ n ≤ cap ∧ Below w.heap.size w w' := by
  cases ho : okCd ⟨s.data.toList, kd, a, b, c, d, x, m, p, t, k, e, l, r⟩
  · rw [cdZ_no ho]
    exact (Encode_no s kd a b c d x m p t k es en ec ts tn tc r e l w h htc ho).mono fun v w' ⟨h1, h2⟩ => ⟨none, 0, 0, h1, BsAt.nil _ _, Nat.le_refl _, h2⟩
  · rw [cdZ_yes ho]
    rcases Nat.eq_zero_or_pos tn with h0 | h0
    · exact Encode_0 s kd a b c d x m p t k es en ec ts tn tc r e l w h h0 htc ho
    · obtain ⟨tb, toff, rfl, _, _⟩ := h.t.c h0
      exact Encode_1 s kd a b c d x m p t k es en ec tb toff tn tc r e l w h h0 htc ho
end Go.Proofs.YtlhnnjllbcglcaaGreatDoor.caFn
