/- The list that bytes begin with: what the reference's Decode returns. -/
import Derived.Test.YtfdolapiikgebaaDoorEfREnc
namespace Go.Proofs.YtfdolapiikgebaaDoor.efFn
open Go.ChangeShapes Go.WideShapes Go.ChangeAt Go.RowKit drMem
set_option linter.unusedVariables false

def byAt (l : List UInt8) (j : Nat) : Int := ((l.getD j 0).toNat : Int)
theorem byAt_bd (l : List UInt8) (j : Nat) : 0 ≤ byAt l j ∧ byAt l j < 256 := by
  unfold byAt
  have := (l.getD j 0).toNat_lt
  omega
/- the effect number i behind the first byte -/
def efAt (l : List UInt8) (i : Nat) : Ef := ⟨byAt l (1 + 5 * i), byAt l (1 + 5 * i + 1), byAt l (1 + 5 * i + 2), byAt l (1 + 5 * i + 3), byAt l (1 + 5 * i + 4)⟩
def decL (l : List UInt8) (n : Nat) : List Ef := (List.range n).map (efAt l)
theorem decL_len (l : List UInt8) (n : Nat) : (decL l n).length = n := by simp [decL]
theorem decL_succ (l : List UInt8) (n : Nat) : decL l (n + 1) = decL l n ++ [efAt l n] := by simp [decL, List.range_succ]
theorem efAt_wf (l : List UInt8) (i : Nat) : (efAt l i).wf := by
  have h := byAt_bd l
  unfold efAt
  refine ⟨?_, ?_, ?_, ?_, ?_⟩ <;> (dsimp only [i64ok]; have := h (1 + 5 * i); have := h (1 + 5 * i + 1); have := h (1 + 5 * i + 2); have := h (1 + 5 * i + 3); have := h (1 + 5 * i + 4); omega)
theorem decL_wf (l : List UInt8) (n : Nat) : ∀ e ∈ decL l n, e.wf := by
  intro e he
  obtain ⟨i, _, rfl⟩ := List.mem_map.1 he
  exact efAt_wf l i
def nB (l : List UInt8) : Nat := (l.getD 0 0).toNat
def decR (l : List UInt8) : List Ef × Nat × Nat :=
  if l.length = 0 then ([], 0, 4)
  else if 4 < nB l then ([], 0, 6)
  else if l.length < 1 + 5 * nB l then ([], 0, 4)
  else if (decL l (nB l)).all Ef.ok then (decL l (nB l), 1 + 5 * nB l, 0) else ([], 0, 6)
theorem decR_0 {l : List UInt8} (h : l.length = 0) : decR l = ([], 0, 4) := by unfold decR; rw [if_pos h]
theorem decR_1 {l : List UInt8} (h : 0 < l.length) (h1 : 4 < nB l) : decR l = ([], 0, 6) := by unfold decR; rw [if_neg (by omega), if_pos h1]
theorem decR_2 {l : List UInt8} (h : 0 < l.length) (h1 : ¬ 4 < nB l) (h2 : l.length < 1 + 5 * nB l) : decR l = ([], 0, 4) := by unfold decR; rw [if_neg (by omega), if_neg h1, if_pos h2]
theorem decR_3 {l : List UInt8} (h : 0 < l.length) (h1 : ¬ 4 < nB l) (h2 : ¬ l.length < 1 + 5 * nB l) (h3 : (decL l (nB l)).all Ef.ok = false) : decR l = ([], 0, 6) := by
  unfold decR; rw [if_neg (by omega), if_neg h1, if_neg h2, h3]; rfl
theorem decR_4 {l : List UInt8} (h : 0 < l.length) (h1 : ¬ 4 < nB l) (h2 : ¬ l.length < 1 + 5 * nB l) (h3 : (decL l (nB l)).all Ef.ok = true) : decR l = (decL l (nB l), 1 + 5 * nB l, 0) := by
  unfold decR; rw [if_neg (by omega), if_neg h1, if_neg h2, h3]; rfl
def decPost (r : List Ef × Nat × Nat) (w : World) (e : Ending) (w' : World) : Prop :=
  ∃ sp cap, e = .returned (.tuple #[.slice sp r.1.length cap, .int .i64 (r.2.1 : Nat), .int .i64 (r.2.2 : Nat)]) ∧ EfsAt w' sp r.1.length r.1 ∧ Below w.heap.size w w'
theorem decPost_no {w w' : World} {k : Nat} {l : List UInt8} (h : decR l = ([], 0, k)) (hb : Below w.heap.size w w') : decPost (decR l) w (.returned (.tuple #[.slice none 0 0, .int .i64 0, .int .i64 (k : Nat)])) w' := by
  rw [h]
  exact ⟨none, 0, rfl, EfsAt.nil _ _, hb⟩
/- the cells of bytes -/
theorem BsAt.at {w : World} {b off len : Nat} {l : List UInt8} (h : src w (some ⟨b, off, none⟩) (bys l)) (j : Nat) (hj : j < l.length) : w.cell? ⟨b, off + j, none⟩ = some (.int .u8 (byAt l j)) := by
  obtain ⟨b', o', e, _, hc⟩ := h (by rw [bys_len]; omega)
  cases e
  have := hc j _ (bys_get l j hj)
  rw [this]
  simp [byAt, List.getD_eq_getElem?_getD, hj]

theorem own_below {w w' : World} {base n : Nat} {t : TypeId} {size : Nat} {v : Value} {xs : List Value} (h : w.ownsRow base t size v n xs) (hb : Below w.heap.size w w') : w'.ownsRow base t size v n xs :=
  h.kept (grown_of_below hb none) (by
    cases hv : v.ownBlock with
    | none => exact .inl rfl
    | some k => exact .inr (by simp))
set_option maxRecDepth 100000 in
set_option maxHeartbeats 4000000 in
theorem rDecode_any (sp : Option Addr) (n cap : Nat) (l : List UInt8) (w : World) (h : BsAt w sp n l) (hcap : n ≤ cap) :
    Calls Tryd.prog 18 #[.slice sp n cap] w (decPost (decR l) w) := by
  obtain ⟨i0, hi, hz0, hz1, hz2⟩ := info_parts infoE
  have hn := h.n
  have hm := h.m
  rcases Nat.eq_zero_or_pos n with h0 | h0
  · subst h0
    have H := Lib.hid (decR_0 hn)
    clear hn hm h
    go_enter Tryd.func18, Tryd.ntmps18
    go_wp2
    go_ret3
    exact decPost_no H.out (Below.refl _ _)
  · have hc := h.c
    obtain ⟨b, off, rfl, hbl, hc0⟩ := hc (by rw [bys_len, hn]; exact h0)
    have C : Hid (∀ j, j < n → w.cell? ⟨b, off + j, none⟩ = some (.int .u8 (byAt l j))) := Lib.hid fun j hj => BsAt.at (len := 0) hc j (by omega)
    have c0 := C.out 0 h0
    rw [Nat.add_zero] at c0
    have hN : byAt l 0 = (nB l : Int) := rfl
    have HL := Lib.hid hn
    clear hc h hc0
    have hN8 : nB l < 256 := (l.getD 0 0).toNat_lt
    obtain ⟨N, hNN⟩ : ∃ N, nB l = N := ⟨_, rfl⟩
    rw [hN, hNN] at c0
    rw [hNN] at hN8
    have HN := Lib.hid hNN
    clear hN hNN
    have hlen : decide ((n : Int) = 0) = false := decide_eq_false (by omega)
    have hne : ((n : Int) == 0) = false := by rw [beq_eq_false_iff_ne]; omega
    by_cases h4 : 4 < N
    · have H := Lib.hid (decR_1 (l := l) (by rw [HL.out]; exact h0) (by rw [HN.out]; exact h4))
      clear hn
      go_enter Tryd.func18, Tryd.ntmps18
      go_wp2
      all_goals first | (exfalso; omega) | skip
      go_ret3
      exact decPost_no H.out (Below.refl _ _)
    · by_cases h5 : n < 1 + 5 * N
      · have H := Lib.hid (decR_2 (l := l) (by rw [HL.out]; exact h0) (by rw [HN.out]; exact h4) (by rw [HL.out, HN.out]; exact h5))
        clear hn
        go_enter Tryd.func18, Tryd.ntmps18
        go_wp2
        all_goals first | (exfalso; omega) | skip
        go_ret3
        exact decPost_no H.out (Below.refl _ _)
      · clear hn
        go_enter Tryd.func18, Tryd.ntmps18
        go_wp2
        all_goals first | (exfalso; omega) | skip
        have hok := fun i => efAt_wf l i
        have HS := Lib.hid (decL_succ l)
        have hlt9 : N ≤ 4 := by omega
        go_loopw [6, 7] (fun v i wr => ∃ k : Nat, k ≤ N ∧ i = .int .i64 k ∧ Hid (wr.ownsRow w.heap.size 28 5 v k (efC (decL l k)) ∧ Below w.heap.size w wr ∧ (decL l k).all Ef.ok = true)) (fun _ i _ => N - (intOf i).toNat)
        case atStart => exact ⟨0, Nat.zero_le _, rfl, Lib.hid ⟨World.ownsRow_nil _ _ _ _, Below.refl _ _, rfl⟩⟩
        case round =>
          obtain ⟨k, hk, rfl, HT⟩ := hrel
          by_cases hlt : k < N
          · have d0 := (HT.out.2.1.cell (p := ⟨b, off + (1 + 5 * k), none⟩) hbl).trans (C.out (1 + 5 * k) (by omega))
            have d1 := (HT.out.2.1.cell (p := ⟨b, off + (1 + 5 * k + 1), none⟩) hbl).trans (C.out (1 + 5 * k + 1) (by omega))
            have d2 := (HT.out.2.1.cell (p := ⟨b, off + (1 + 5 * k + 2), none⟩) hbl).trans (C.out (1 + 5 * k + 2) (by omega))
            have d3 := (HT.out.2.1.cell (p := ⟨b, off + (1 + 5 * k + 3), none⟩) hbl).trans (C.out (1 + 5 * k + 3) (by omega))
            have d4 := (HT.out.2.1.cell (p := ⟨b, off + (1 + 5 * k + 4), none⟩) hbl).trans (C.out (1 + 5 * k + 4) (by omega))
            have e0 : IntKind.i64.wrap (5 * (k : Int)) = 5 * k := IntWalk.i64_in _ (by omega)
            have e1 : IntKind.i64.wrap (1 + 5 * (k : Int)) = ((1 + 5 * k : Nat) : Int) := by rw [IntWalk.i64_in _ (by omega)]; omega
            go_wp2
            all_goals first | (exfalso; omega) | skip
            have eOff : ∀ j, off + (1 + 5 * k) + j = off + (1 + 5 * k + j) := fun j => by omega
            rw [← eOff] at d1 d2 d3 d4
            have hm5 : 5 ≤ n - (1 + 5 * k) := by omega
            have HE0 := Lib.hid (show efAt l k = ⟨byAt l (1 + 5 * k), byAt l (1 + 5 * k + 1), byAt l (1 + 5 * k + 2), byAt l (1 + 5 * k + 3), byAt l (1 + 5 * k + 4)⟩ from rfl)
            have g0 := byAt_bd l (1 + 5 * k)
            have g1 := byAt_bd l (1 + 5 * k + 1)
            have g2 := byAt_bd l (1 + 5 * k + 2)
            have g3 := byAt_bd l (1 + 5 * k + 3)
            have g4 := byAt_bd l (1 + 5 * k + 4)
            generalize byAt l (1 + 5 * k) = y0 at *
            generalize byAt l (1 + 5 * k + 1) = y1 at *
            generalize byAt l (1 + 5 * k + 2) = y2 at *
            generalize byAt l (1 + 5 * k + 3) = y3 at *
            generalize byAt l (1 + 5 * k + 4) = y4 at *
            clear e0 e1 eOff
            generalize off + (1 + 5 * k) = o at *
            generalize n - (1 + 5 * k) = m at *
            have m0 : (0 : Int) < (m : Int) := by omega
            have m0n : 0 < m := by omega
            have m1 : (1 : Int) < (m : Int) := by omega
            have m2 : (2 : Int) < (m : Int) := by omega
            have m3 : (3 : Int) < (m : Int) := by omega
            have m4 : (4 : Int) < (m : Int) := by omega
            obtain ⟨g0, g0'⟩ := g0
            obtain ⟨g1, g1'⟩ := g1
            obtain ⟨g2, g2'⟩ := g2
            obtain ⟨g3, g3'⟩ := g3
            obtain ⟨g4, g4'⟩ := g4
            have v0 : IntKind.i64.wrap y0 = y0 := IntWalk.i64_in _ (by omega)
            have v1 : IntKind.i64.wrap y1 = y1 := IntWalk.i64_in _ (by omega)
            have v2 : IntKind.i64.wrap y2 = y2 := IntWalk.i64_in _ (by omega)
            have v3 : IntKind.i64.wrap y3 = y3 := IntWalk.i64_in _ (by omega)
            have v4 : IntKind.i64.wrap y4 = y4 := IntWalk.i64_in _ (by omega)
            go_region_held3 (fun w' => w'.cell? ⟨b, o, none⟩ = some (.int .u8 y0) ∧ w'.cell? ⟨b, o + 1, none⟩ = some (.int .u8 y1) ∧ w'.cell? ⟨b, o + 2, none⟩ = some (.int .u8 y2) ∧ w'.cell? ⟨b, o + 3, none⟩ = some (.int .u8 y3) ∧ w'.cell? ⟨b, o + 4, none⟩ = some (.int .u8 y4)) (first | assumption | (exact ⟨by assumption, by assumption, by assumption, by assumption, by assumption⟩) | (refine ⟨?_, ?_, ?_, ?_, ?_⟩ <;> first | assumption | go_keep)) (fail)
            have E1 : has (wr.alloc (.cells #[.int .i64 y0, .int .i64 y1, .int .i64 y2, .int .i64 y3, .int .i64 y4] 28)).drew wr.heap.size 28 (eL y0 y1 y2 y3 y4) := has.new wr _ (eL y0 y1 y2 y3 y4)
            have B1 : Below w.heap.size w (wr.alloc (.cells #[.int .i64 y0, .int .i64 y1, .int .i64 y2, .int .i64 y3, .int .i64 y4] 28)).drew := (HT.out.2.1.alloc HT.out.2.1.size _).drew
            have O1 : (wr.alloc (.cells #[.int .i64 y0, .int .i64 y1, .int .i64 y2, .int .i64 y3, .int .i64 y4] 28)).drew.ownsRow w.heap.size 28 5 u6 k (efC (decL l k)) := (HT.out.1.alloc _).drew
            have z1 : wr.heap.size < (wr.alloc (.cells #[.int .i64 y0, .int .i64 y1, .int .i64 y2, .int .i64 y3, .int .i64 y4] 28)).drew.heap.size := by simp
            have z2 : w.heap.size ≤ wr.heap.size := HT.out.2.1.size
            obtain ⟨W1, hW⟩ : ∃ W, (wr.alloc (.cells #[.int .i64 y0, .int .i64 y1, .int .i64 y2, .int .i64 y3, .int .i64 y4] 28)).drew = W := ⟨_, rfl⟩
            rw [hW] at E1 B1 O1 z1 ⊢
            clear hW
            obtain ⟨u0, u1, u2', u3', u4', u5⟩ := five E1
            have HV := rValid_any y0 y1 y2 y3 y4
            have HLS := Lib.hid (decL_succ l k)
            cases hx : okE y0 y1 y2 y3 y4
            · rw [hx] at HV
              go_wp2_with fail
              refine (HV _).mono ?_; rintro e w2 ⟨rfl, hb2⟩
              have B2 := next B1 hb2
              have H := Lib.hid (decR_3 (l := l) (by rw [HL.out]; exact h0) (by rw [HN.out]; exact h4) (by rw [HL.out, HN.out]; exact h5) (by
                rw [HN.out, List.all_eq_false]
                refine ⟨efAt l k, List.mem_map.2 ⟨k, by simpa using hlt, rfl⟩, ?_⟩
                rw [HE0.out]
                show ¬ okE y0 y1 y2 y3 y4 = true
                rw [hx]; exact Bool.false_ne_true))
              go_wp2
              go_ret3
              exact decPost_no H.out B2
            · rw [hx] at HV
              go_wp2_with fail
              refine (HV _).mono ?_; rintro e w2 ⟨rfl, hb2⟩
              have B2 := next B1 hb2
              have E2 := E1.below hb2 z1
              have O2 := own_below O1 hb2
              have z3 := B2.size
              clear u0 u1 u2' u3' u4' u5
              obtain ⟨u0, u1, u2', u3', u4', u5⟩ := five E2
              have HO : Hid ((w2.alloc (.cells #[.int .i64 y0, .int .i64 y1, .int .i64 y2, .int .i64 y3, .int .i64 y4] 28)).ownsRow w.heap.size 28 5 u6 k (efC (decL l k))) := Lib.hid (O2.alloc _)
              have HBl : Hid (Below w.heap.size w (w2.alloc (.cells #[.int .i64 y0, .int .i64 y1, .int .i64 y2, .int .i64 y3, .int .i64 y4] 28))) := Lib.hid (B2.alloc z3 _)
              have HC : Hid (has (w2.alloc (.cells #[.int .i64 y0, .int .i64 y1, .int .i64 y2, .int .i64 y3, .int .i64 y4] 28)) w2.heap.size 28 (eL y0 y1 y2 y3 y4)) := Lib.hid (has.new w2 _ (eL y0 y1 y2 y3 y4))
              clear O2 B2 B1 O1 E1 E2
              go_wp2_with (at_builtin; refine wpList_append_own _ rfl _ _ 22 rfl w.heap.size 28 i0 (eV 0 0 0 0 0) 5 40 Tryd.underlying22 hi hz0 hz1 hz2 rfl (by decide) _ _ _ rfl HO.out ⟨w2.heap.size, 0, none⟩ 1 1 (eL y0 y1 y2 y3 y4) rfl rfl (fun j u hu => by rw [addr_add, Nat.zero_add]; exact (HC.out.cell j).trans hu) (by simp [Value.oneCell']) (by unfold maxLen; omega) (by omega) (by simp; omega) ?_; intro v' w3 hown' hgrow _; have HO2 := Lib.hid hown'; have HG := Lib.hid hgrow; clear hown' hgrow)
              refine ⟨⟨k + 1, by omega, by go_num, Lib.hid ⟨?_, below_own HBl.out HO.out HG.out (by simp; omega), ?_⟩⟩, by simp [intOf]; omega⟩
              · have e : efC (decL l (k + 1)) = efC (decL l k) ++ eL y0 y1 y2 y3 y4 := by
                  rw [HLS.out, efC_app, HE0.out]; rfl
                rw [e]
                exact HO2.out
              · rw [HLS.out, List.all_append, HT.out.2.2, HE0.out]
                show (true && (okE y0 y1 y2 y3 y4 && true)) = true
                rw [hx]; rfl
          · obtain rfl : k = N := by omega
            obtain ⟨sv, cv, rfl, hsv, _⟩ := own_form HT.out.1
            have HV := Lib.hid hsv
            clear hsv
            have H := Lib.hid (decR_4 (l := l) (by rw [HL.out]; exact h0) (by rw [HN.out]; exact h4) (by rw [HL.out, HN.out]; exact h5) (by rw [HN.out]; exact HT.out.2.2))
            go_wp2
            go_ret3
            rw [H.out, HN.out]
            have e := decL_len l k
            refine ⟨sv, cv, ?_, ?_, HT.out.2.1⟩
            · rw [e]; simp
            · have := EfsAt.of_src HV.out (decL_wf l k) (by rw [e]; omega)
              exact this
end Go.Proofs.YtfdolapiikgebaaDoor.efFn
