/- The bytes of lists of effects: what Encode returns. -/
import Derived.Test.YtlhnnjllbcglcaaGreatDoorCeKind
import Derived.Deep.RegionWith
import Derived.OwnWalk
import Derived.Laws.OwnMore
import Derived.Lib.SmallJoins
namespace Go.Proofs.YtlhnnjllbcglcaaGreatDoor.efFn
open Go.ChangeShapes Go.WideShapes Go.ChangeAt Go.RowKit drMem
set_option linter.unusedVariables false

theorem ok_bd {e : Ef} (h : e.ok = true) : e.bd := by
  unfold Ef.ok okE at h
  rw [Bool.and_eq_true] at h
  obtain ⟨h1, h2⟩ := h
  have hc : 1 ≤ e.c ∧ e.c ≤ 12 := by
    by_cases hc : 1 ≤ e.c ∧ e.c ≤ 12
    · exact hc
    · rw [kd_no _ hc, aim_zero] at h1; cases h1
  have ht : 0 ≤ e.t ∧ e.t ≤ 6 := by
    by_cases ht : 0 ≤ e.t ∧ e.t ≤ 6
    · exact ht
    · rw [aim_far _ _ (kd_bd _).1 (kd_bd _).2 ht] at h1; cases h1
  obtain ⟨a, b, c, d, e', f⟩ := okN_bd h2
  exact ⟨hc.1, hc.2, ht.1, ht.2, a, b, c, d, e', f⟩
theorem all_bd {l : List Ef} (h : allB l = true) : l.length ≤ 4 ∧ ∀ e ∈ l, e.bd := by
  unfold allB at h
  rw [Bool.and_eq_true] at h
  refine ⟨of_decide_eq_true h.1, fun e he => ok_bd (List.all_eq_true.1 h.2 e he)⟩
theorem encB_succ {l : List Ef} {k : Nat} (h : k < l.length) : efB (l.take (k + 1)) = efB (l.take k) ++ (l.getD k default).by := by
  have e : l.getD k default = l[k] := by simp [List.getD_eq_getElem?_getD, h]
  rw [e, List.take_succ_eq_append_getElem h]
  simp only [efB, List.flatMap_append, List.flatMap_cons, List.flatMap_nil, List.append_nil]
/- an own row, as a slice whose cells are known -/
theorem own_form {w : World} {base n : Nat} {t : TypeId} {size : Nat} {v : Value} {xs : List Value} (h : w.ownsRow base t size v n xs) :
    ∃ sv cv, v = .slice sv n cv ∧ src w sv xs ∧ n ≤ cv ∧ (sv = none → n = 0 ∧ cv = 0) ∧ ∀ a, sv = some a → base ≤ a.block := by
  have hl := h.1
  rcases h.2 with ⟨h2, h3⟩ | ⟨g, cap, cur, h2, hbg, hh, hcap, _⟩
  · refine ⟨none, 0, by rw [h2, h3], ?_, by omega, fun _ => ⟨h3, rfl⟩, by simp⟩
    intro h4; rw [hl, h3] at h4; omega
  · refine ⟨some ⟨g, 0, none⟩, cap, h2, ?_, hcap, by simp, by rintro a ⟨⟩; exact hbg⟩
    intro h4
    subst h2
    refine ⟨g, 0, rfl, h.lt g rfl |>.2, ?_⟩
    intro j u hu
    have hj := (List.getElem?_eq_some_iff.1 hu).1
    rw [Nat.zero_add, h.cellAt j (by omega)]; exact hu
theorem by_bys {xc xt xn xm xk : Int} (h : (⟨xc, xt, xn, xm, xk⟩ : Ef).bd) : bys (⟨xc, xt, xn, xm, xk⟩ : Ef).by = [.int .u8 xc, .int .u8 xt, .int .u8 xn, .int .u8 xm, .int .u8 xk] := by
  obtain ⟨b0, b1, b2, b3, b4, b5, b6, b7, b8, b9⟩ := h
  dsimp only at b0 b1 b2 b3 b4 b5 b6 b7 b8 b9
  simp only [Ef.by, bys, List.map_cons, List.map_nil]
  rw [u8_of xc (by omega) (by omega), u8_of xt (by omega) (by omega), u8_of xn (by omega) (by omega), u8_of xm (by omega) (by omega), u8_of xk (by omega) (by omega)]
theorem below_own {B : Nat} {a b c : World} {v : Value} {t : TypeId} {size n : Nat} {xs : List Value} (h : Below B a b) (ho : b.ownsRow B t size v n xs) (hg : b.grownBy c v.ownBlock) (hB : B ≤ b.heap.size) : Below B a c :=
  h.grown hg hB (fun k hk => (ho.lt k hk).1)
theorem encB_len (l : List Ef) : (encB l).length = 1 + 5 * l.length := by simp [encB, efB_len]; omega
theorem infoB : (Tryz.prog.info? 5).map (fun i => (i.zero, i.size, i.bytes)) = some (some (.int .u8 0), 1, 1) := by kernel_rfl
theorem infoE : (Tryz.prog.info? 51).map (fun i => (i.zero, i.size, i.bytes)) = some (some (eV 0 0 0 0 0), 5, 40) := by kernel_rfl

def encPost (l : List UInt8) (w : World) (e : Ending) (w' : World) : Prop := ∃ sp n cap, e = .returned (.tuple #[.slice sp n cap, .int .i64 0]) ∧ BsAt w' sp n l ∧ Below w.heap.size w w'
theorem Encode_no (sp : Option Addr) (n cap : Nat) (l : List Ef) (w : World) (h : EfsAt w sp n l) (ha : allB l = false) :
    Calls Tryz.prog 50 #[.slice sp n cap] w fun e w' => e = .returned (.tuple #[.slice none 0 0, .int .i64 2]) ∧ Below w.heap.size w w' := by
  have HA := All_any sp n cap l w h
  rw [ha] at HA
  go_enter Tryz.func50, Tryz.ntmps50
  go_wp2_with fail
  refine HA.mono ?_; rintro e w1 ⟨rfl, hb1⟩
  go_wp2_with fail
  go_ret2
  exact ⟨rfl, hb1⟩

set_option maxRecDepth 100000 in
set_option maxHeartbeats 4000000 in
theorem Encode_yes (sp : Option Addr) (n cap : Nat) (l : List Ef) (w : World) (h : EfsAt w sp n l) (ha : allB l = true) :
    Calls Tryz.prog 50 #[.slice sp n cap] w (encPost (encB l) w) := by
  obtain ⟨i0, hi, hz0, hz1, hz2⟩ := info_parts infoB
  have HA := All_any sp n cap l w h
  rw [ha] at HA
  obtain ⟨h4, hbd⟩ := all_bd ha
  have hn := h.n
  rw [hn] at h4
  have HBD := Lib.hid hbd
  have HN := Lib.hid hn
  have HE := Lib.hid h
  have hm := h.m
  clear ha hbd hn
  go_enter Tryz.func50, Tryz.ntmps50
  go_wp2_with fail
  refine HA.mono ?_; rintro e w1 ⟨rfl, hb1⟩
  clear h
  have hw8 : IntKind.u8.wrap (n : Int) = n := by rw [IntKind.wrap_u8]; omega
  go_wp2_with fail
  have B1 : Below w.heap.size w (w1.alloc (.cells #[.int .u8 (n : Int)] 5)) := hb1.alloc hb1.size _
  have O1 : (w1.alloc (.cells #[.int .u8 (n : Int)] 5)).ownsRow w.heap.size 5 1 (.slice (some ⟨w1.heap.size, 0, none⟩) 1 1) 1 [.int .u8 (n : Int)] := by
    have := World.ownsRow_lit (base := w.heap.size) (e := 5) (size := 1) w1 #[.int .u8 (n : Int)] 1 hb1.size (by unfold maxLen; omega) rfl
    exact this
  have H2 := HE.out.below B1 (Nat.le_refl _)
  obtain ⟨W, hW⟩ : ∃ W, w1.alloc (.cells #[.int .u8 (n : Int)] 5) = W := ⟨_, rfl⟩
  rw [hW] at B1 O1 H2 ⊢
  clear hW hb1
  rcases Nat.eq_zero_or_pos n with h0 | h0
  · subst h0
    refine wp_loop_rounds 1 ?_
    rw [rounds_succ]
    go_wp2
    go_ret2
    have e : encB l = [0] := by rw [List.eq_nil_of_length_eq_zero HN.out]; rfl
    obtain ⟨sv, cv, h1, h2, _⟩ := own_form O1
    cases h1
    exact ⟨_, _, _, rfl, ⟨by rw [e]; rfl, by omega, by rw [e]; exact h2⟩, B1⟩
  · obtain ⟨b, off, rfl, hbl, hc⟩ := HE.out.c h0
    have C : Hid (∀ k, k < n → EfAt w b (off + k * 5) (l.getD k default)) := Lib.hid fun k hk => hc k _ (get_some (by rw [HN.out]; omega))
    have HB : Hid (∀ k, k < n → (l.getD k default).bd) := Lib.hid fun k hk => HBD.out _ (by rw [List.getD_eq_getElem?_getD, List.getElem?_eq_getElem (by rw [HN.out]; exact hk)]; exact List.getElem_mem _)
    have HS : Hid (∀ k, k < n → efB (l.take (k + 1)) = efB (l.take k) ++ (l.getD k default).by) := Lib.hid fun k hk => encB_succ (by rw [HN.out]; exact hk)
    go_loopw [4, 16] (fun v i wr => ∃ k : Nat, k ≤ n ∧ i = .int .i64 k ∧ Hid (wr.ownsRow w.heap.size 5 1 v (1 + 5 * k) (bys (u8 l.length :: efB (l.take k))) ∧ Below w.heap.size w wr)) (fun _ i _ => n - (intOf i).toNat)
    case atStart => exact ⟨0, Nat.zero_le _, rfl, Lib.hid ⟨by
      have e : bys (u8 l.length :: efB (l.take 0)) = [.int .u8 (n : Int)] := by
        simp only [List.take_zero, efB, List.flatMap_nil, bys, List.map_cons, List.map_nil, HN.out]
        rw [u8_of _ (by omega) (by omega)]
      rw [e]; exact O1, B1⟩⟩
    case round =>
      obtain ⟨k, hk, rfl, HT⟩ := hrel
      by_cases hlt : k < n
      · obtain ⟨c0, c1, c2, c3, c4⟩ := (C.out k hlt).below HT.out.2 hbl
        obtain ⟨b0, b1, b2, b3, b4, b5, b6, b7, b8, b9⟩ := HB.out k hlt
        have HX := HS.out k hlt
        have HX' := Lib.hid HX
        clear HX
        generalize l.getD k default = x at *
        obtain ⟨xc, xt, xn, xm, xk⟩ := x
        dsimp only at c0 c1 c2 c3 c4 b0 b1 b2 b3 b4 b5 b6 b7 b8 b9
        have v0 : IntKind.u8.wrap xc = xc := by rw [IntKind.wrap_u8]; omega
        have v1 : IntKind.u8.wrap xt = xt := by rw [IntKind.wrap_u8]; omega
        have v2 : IntKind.u8.wrap xn = xn := by rw [IntKind.wrap_u8]; omega
        have v3 : IntKind.u8.wrap xm = xm := by rw [IntKind.wrap_u8]; omega
        have v4 : IntKind.u8.wrap xk = xk := by rw [IntKind.wrap_u8]; omega
        have HO : Hid (((wr.alloc (.cells #[.int .i64 xc, .int .i64 xt, .int .i64 xn, .int .i64 xm, .int .i64 xk] 51)).alloc (.cells #[.int .u8 xc, .int .u8 xt, .int .u8 xn, .int .u8 xm, .int .u8 xk] 5)).ownsRow w.heap.size 5 1 u4 (1 + 5 * k) (bys (u8 l.length :: efB (l.take k)))) := Lib.hid ((HT.out.1.alloc _).alloc _)
        have HBl : Hid (Below w.heap.size w ((wr.alloc (.cells #[.int .i64 xc, .int .i64 xt, .int .i64 xn, .int .i64 xm, .int .i64 xk] 51)).alloc (.cells #[.int .u8 xc, .int .u8 xt, .int .u8 xn, .int .u8 xm, .int .u8 xk] 5))) := Lib.hid ((HT.out.2.alloc HT.out.2.size _).alloc (by have := HT.out.2.size; simp; omega) _)
        have HC : Hid (has ((wr.alloc (.cells #[.int .i64 xc, .int .i64 xt, .int .i64 xn, .int .i64 xm, .int .i64 xk] 51)).alloc (.cells #[.int .u8 xc, .int .u8 xt, .int .u8 xn, .int .u8 xm, .int .u8 xk] 5)) (wr.heap.size + 1) 5 [.int .u8 xc, .int .u8 xt, .int .u8 xn, .int .u8 xm, .int .u8 xk]) := Lib.hid (by have := has.new (wr.alloc (.cells #[.int .i64 xc, .int .i64 xt, .int .i64 xn, .int .i64 xm, .int .i64 xk] 51)) 5 [.int .u8 xc, .int .u8 xt, .int .u8 xn, .int .u8 xm, .int .u8 xk]; simpa using this)
        have HY := Lib.hid (by_bys (xc := xc) (xt := xt) (xn := xn) (xm := xm) (xk := xk) ⟨b0, b1, b2, b3, b4, b5, b6, b7, b8, b9⟩)
        have hsz := HT.out.2.size
        go_wp2_with (at_builtin; refine wpList_append_own _ rfl _ _ 38 rfl w.heap.size 5 i0 (.int .u8 0) 1 1 Tryz.underlying38 hi hz0 hz1 hz2 rfl (by decide) _ _ _ rfl HO.out ⟨wr.heap.size + 1, 0, none⟩ 5 5 [.int .u8 xc, .int .u8 xt, .int .u8 xn, .int .u8 xm, .int .u8 xk] rfl rfl (fun j u hu => by rw [addr_add, Nat.zero_add]; exact (HC.out.cell j).trans hu) (by simp [Value.oneCell']) (by unfold maxLen; omega) (by omega) (by simp; omega) ?_; intro v' w2 hown' hgrow _; have HO2 := Lib.hid hown'; have HG := Lib.hid hgrow; clear hown' hgrow)
        refine ⟨⟨k + 1, by omega, by go_num, Lib.hid ⟨?_, below_own HBl.out HO.out HG.out (by simp; omega)⟩⟩, by simp [intOf]; omega⟩
        have e : bys (u8 l.length :: efB (l.take (k + 1))) = bys (u8 l.length :: efB (l.take k)) ++ [.int .u8 xc, .int .u8 xt, .int .u8 xn, .int .u8 xm, .int .u8 xk] := by
          rw [HX'.out, ← HY.out, ← bys_app]; rfl
        rw [e]
        exact HO2.out
      · obtain rfl : k = n := by omega
        obtain ⟨sv, cv, rfl, hsv, _⟩ := own_form HT.out.1
        have HV := Lib.hid hsv
        clear hsv
        go_wp2
        go_ret2
        have e : u8 l.length :: efB (l.take k) = encB l := by rw [List.take_of_length_le (by rw [HN.out]; exact Nat.le_refl _)]; rfl
        have hv := HV.out
        rw [e] at hv
        exact ⟨_, _, _, rfl, ⟨by rw [encB_len, HN.out], by omega, hv⟩, HT.out.2⟩
end Go.Proofs.YtlhnnjllbcglcaaGreatDoor.efFn
