/- The bytes of lists of effects: what the reference's Encode returns. -/
import Derived.Test.YtfdolapiikgebaaDoorEfEnc
import Derived.Deep.AppendLies
namespace Go.Proofs.YtfdolapiikgebaaDoor.efFn
open Go.ChangeShapes Go.WideShapes Go.ChangeAt Go.RowKit drMem
set_option linter.unusedVariables false

def rencPost (l : List UInt8) (w : World) (e : Ending) (w' : World) : Prop := ∃ sp n cap, e = .returned (.slice sp n cap) ∧ BsAt w' sp n l ∧ Below w.heap.size w w'
set_option maxRecDepth 100000 in
set_option maxHeartbeats 4000000 in
theorem rEncode_yes (sp : Option Addr) (n cap : Nat) (l : List Ef) (w : World) (h : EfsAt w sp n l) (ha : allB l = true) :
    Calls Tryd.prog 17 #[.slice sp n cap] w (rencPost (encB l) w) := by
  obtain ⟨i0, hi, hz0, hz1, hz2⟩ := info_parts infoB
  obtain ⟨h4, hbd⟩ := all_bd ha
  have hn := h.n
  rw [hn] at h4
  have HBD := Lib.hid hbd
  have HN := Lib.hid hn
  have HE := Lib.hid h
  have hm := h.m
  clear ha hbd hn h
  have hw8 : IntKind.u8.wrap (n : Int) = n := by rw [IntKind.wrap_u8]; omega
  go_enter Tryd.func17, Tryd.ntmps17
  go_wp2_with fail
  have B1 : Below w.heap.size w (w.alloc (.cells #[.int .u8 (n : Int)] 5)) := (Below.refl _ _).alloc (Nat.le_refl _) _
  have O1 : (w.alloc (.cells #[.int .u8 (n : Int)] 5)).ownsRow w.heap.size 5 1 (.slice (some ⟨w.heap.size, 0, none⟩) 1 1) 1 [.int .u8 (n : Int)] := by
    have := World.ownsRow_lit (base := w.heap.size) (e := 5) (size := 1) w #[.int .u8 (n : Int)] 1 (Nat.le_refl _) (by unfold maxLen; omega) rfl
    exact this
  obtain ⟨W, hW⟩ : ∃ W, w.alloc (.cells #[.int .u8 (n : Int)] 5) = W := ⟨_, rfl⟩
  rw [hW] at B1 O1 ⊢
  clear hW
  rcases Nat.eq_zero_or_pos n with h0 | h0
  · subst h0
    refine wp_loop_rounds 1 ?_
    rw [rounds_succ]
    go_wp2
    go_ret
    have e : encB l = [0] := by rw [List.eq_nil_of_length_eq_zero HN.out]; rfl
    obtain ⟨sv, cv, h1, h2, _⟩ := own_form O1
    cases h1
    exact ⟨_, _, _, rfl, ⟨by rw [e]; rfl, by omega, by rw [e]; exact h2⟩, B1⟩
  · obtain ⟨b, off, rfl, hbl, hc⟩ := HE.out.c h0
    have C : Hid (∀ k, k < n → EfAt w b (off + k * 5) (l.getD k default)) := Lib.hid fun k hk => hc k _ (get_some (by rw [HN.out]; omega))
    have HB : Hid (∀ k, k < n → (l.getD k default).bd) := Lib.hid fun k hk => HBD.out _ (by rw [List.getD_eq_getElem?_getD, List.getElem?_eq_getElem (by rw [HN.out]; exact hk)]; exact List.getElem_mem _)
    have HS : Hid (∀ k, k < n → efB (l.take (k + 1)) = efB (l.take k) ++ (l.getD k default).by) := Lib.hid fun k hk => encB_succ (by rw [HN.out]; exact hk)
    go_loopw [3, 4] (fun v i wr => ∃ k : Nat, k ≤ n ∧ i = .int .i64 k ∧ Hid (wr.ownsRow w.heap.size 5 1 v (1 + 5 * k) (bys (u8 l.length :: efB (l.take k))) ∧ Below w.heap.size w wr)) (fun _ i _ => n - (intOf i).toNat)
    case atStart => exact ⟨0, Nat.zero_le _, rfl, Lib.hid ⟨by
      have e : bys (u8 l.length :: efB (l.take 0)) = [.int .u8 (n : Int)] := by
        simp only [List.take_zero, efB, List.flatMap_nil, bys, List.map_cons, List.map_nil, HN.out]
        rw [u8_of _ (by omega) (by omega)]
      rw [e]; exact O1, B1⟩⟩
    case round =>
      obtain ⟨k, hk, rfl, HT⟩ := hrel
      by_cases hlt : k < n
      · have HC0 := Lib.hid (C.out k hlt)
        obtain ⟨c0, c1, c2, c3, c4⟩ := HC0.out.below HT.out.2 hbl
        obtain ⟨b0, b1, b2, b3, b4, b5, b6, b7, b8, b9⟩ := HB.out k hlt
        have HX := HS.out k hlt
        have HX' := Lib.hid HX
        clear HX
        generalize l.getD k default = x at *
        obtain ⟨xc, xt, xn, xm, xk⟩ := x
        dsimp only at c0 c1 c2 c3 c4 b0 b1 b2 b3 b4 b5 b6 b7 b8 b9
        have v0 : IntKind.u8.wrap xc = xc := by rw [IntKind.wrap_u8]; omega
        have v1 : IntKind.u8.wrap xt = xt := by rw [IntKind.wrap_u8]; omega
        have v2 : IntKind.u8.wrap xn = xn := by rw [IntKind.wrap_u8]; omega
        have v3 : IntKind.u8.wrap xm = xm := by rw [IntKind.wrap_u8]; omega
        have v4 : IntKind.u8.wrap xk = xk := by rw [IntKind.wrap_u8]; omega
        have HY := Lib.hid (by_bys (xc := xc) (xt := xt) (xn := xn) (xm := xm) (xk := xk) ⟨b0, b1, b2, b3, b4, b5, b6, b7, b8, b9⟩)
        have hsz := HT.out.2.size
        go_wp2_with fail
        have CE : Hid (EfAt w b (off + k * 5) ⟨xc, xt, xn, xm, xk⟩) := Lib.hid HC0.out
        have HO : Hid ((wr.alloc (.cells #[.int .u8 xc, .int .u8 xt, .int .u8 xn, .int .u8 xm, .int .u8 xk] 5)).drew.ownsRow w.heap.size 5 1 u3 (1 + 5 * k) (bys (u8 l.length :: efB (l.take k)))) := Lib.hid (HT.out.1.alloc _).drew
        have HBl : Hid (Below w.heap.size w (wr.alloc (.cells #[.int .u8 xc, .int .u8 xt, .int .u8 xn, .int .u8 xm, .int .u8 xk] 5)).drew) := Lib.hid (HT.out.2.alloc hsz _).drew
        go_region_held3 (fun w' => w'.cell? ⟨b, off + k * 5, none⟩ = some (.int .i64 xc) ∧ w'.cell? ⟨b, off + k * 5 + 1, none⟩ = some (.int .i64 xt) ∧ w'.cell? ⟨b, off + k * 5 + 2, none⟩ = some (.int .i64 xn) ∧ w'.cell? ⟨b, off + k * 5 + 3, none⟩ = some (.int .i64 xm) ∧ w'.cell? ⟨b, off + k * 5 + 4, none⟩ = some (.int .i64 xk)) (first | assumption | (exact ⟨by assumption, by assumption, by assumption, by assumption, by assumption⟩) | (exact ⟨(CE.out.below HBl.out hbl).c0, (CE.out.below HBl.out hbl).c1, (CE.out.below HBl.out hbl).c2, (CE.out.below HBl.out hbl).c3, (CE.out.below HBl.out hbl).c4⟩) | (exact ⟨c0, c1, c2, c3, c4⟩) | (refine ⟨?_, ?_, ?_, ?_, ?_⟩ <;> first | assumption | go_keep)) ((refine step_append_lies _ (by rfl) _ _ _ (by rfl) w.heap.size 5 i0 (.int .u8 0) 1 1 Tryd.underlying36 hi hz0 hz1 hz2 rfl (by omega) u3 (1 + 5 * k) (bys (u8 l.length :: efB (l.take k))) (by rfl) HO.out ⟨wr.heap.size, 0, none⟩ 5 5 [.int .u8 xc, .int .u8 xt, .int .u8 xn, .int .u8 xm, .int .u8 xk] (by rfl) (by rfl) (World.news_of_block (cs := #[.int .u8 xc, .int .u8 xt, .int .u8 xn, .int .u8 xm, .int .u8 xk]) (t := 5) (fr := (0, 0)) (heap_alloc_new wr _)) (by simp [Value.oneCell']) (by omega) (by unfold maxLen; omega) (by omega) (by simp; omega) (wr.heap.size + 1) (by simp) ?_; intro g cap' w2 hown' hgrow _ _; have HO2 := Lib.hid hown'; have HB2 := Lib.hid (below_own HBl.out HO.out hgrow (by simp; omega)); clear hown' hgrow; obtain ⟨c0, c1, c2, c3, c4⟩ := CE.out.below HB2.out hbl))
        go_wp2
        refine ⟨⟨k + 1, by omega, by go_num, Lib.hid ⟨?_, HB2.out⟩⟩, by simp [intOf]; omega⟩
        have e : bys (u8 l.length :: efB (l.take (k + 1))) = bys (u8 l.length :: efB (l.take k)) ++ [.int .u8 xc, .int .u8 xt, .int .u8 xn, .int .u8 xm, .int .u8 xk] := by
          rw [HX'.out, ← HY.out, ← bys_app]; rfl
        rw [e]
        exact HO2.out
      · obtain rfl : k = n := by omega
        obtain ⟨sv, cv, rfl, hsv, _⟩ := own_form HT.out.1
        have HV := Lib.hid hsv
        clear hsv
        go_wp2
        go_ret
        have e : u8 l.length :: efB (l.take k) = encB l := by rw [List.take_of_length_le (by rw [HN.out]; exact Nat.le_refl _)]; rfl
        have hv := HV.out
        rw [e] at hv
        exact ⟨_, _, _, rfl, ⟨by rw [encB_len, HN.out], by omega, hv⟩, HT.out.2⟩
end Go.Proofs.YtfdolapiikgebaaDoor.efFn
