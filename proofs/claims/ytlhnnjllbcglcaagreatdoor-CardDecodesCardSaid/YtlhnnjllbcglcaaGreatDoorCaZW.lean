/- Joined texts: CeRDc CaRDm CaRDs -/
import Derived.Test.YtlhnnjllbcglcaaGreatDoorCeRDec
import Derived.Test.YtlhnnjllbcglcaaGreatDoorCaZR
import Derived.Test.YtlhnnjllbcglcaaGreatDoorCaZK
/- The list that bytes begin with, by the reference. -/
namespace Go.Proofs.YtlhnnjllbcglcaaGreatDoor.efFn
open Go.ChangeShapes Go.WideShapes Go.ChangeAt Go.RowKit drMem
set_option linter.unusedVariables false

set_option maxRecDepth 100000 in
set_option maxHeartbeats 4000000 in
theorem rDecode_any (sp : Option Addr) (n cap : Nat) (l : List UInt8) (w : World) (h : BsAt w sp n l) (hcap : n ≤ cap) :
    Calls Tryz.prog 26 #[.slice sp n cap] w (decPost (decR l) w) := by
  obtain ⟨i0, hi, hz0, hz1, hz2⟩ := info_parts infoE
  have hn := h.n
  have hm := h.m
  rcases Nat.eq_zero_or_pos n with h0 | h0
  · subst h0
    have H := Lib.hid (decR_0 hn)
    clear hn hm h
    go_enter Tryz.func26, Tryz.ntmps26
    go_wp2
    go_ret3
    exact decPost_no H.out (Below.refl _ _)
  · have hc := h.c
    obtain ⟨b, off, rfl, hbl, hc0⟩ := hc (by rw [bys_len, hn]; exact h0)
    have C : Hid (∀ j, j < n → w.cell? ⟨b, off + j, none⟩ = some (.int .u8 (byAt l j))) := Lib.hid fun j hj => BsAt.at (len := 0) hc j (by omega)
    have c0 := C.out 0 h0
    rw [Nat.add_zero] at c0
    have hN : byAt l 0 = (nB l : Int) := rfl
    have HL := Lib.hid hn
    clear hc h hc0
    have hN8 : nB l < 256 := (l.getD 0 0).toNat_lt
    obtain ⟨N, hNN⟩ : ∃ N, nB l = N := ⟨_, rfl⟩
    rw [hN, hNN] at c0
    rw [hNN] at hN8
    have HN := Lib.hid hNN
    clear hN hNN
    have hlen : decide ((n : Int) = 0) = false := decide_eq_false (by omega)
    have hne : ((n : Int) == 0) = false := by rw [beq_eq_false_iff_ne]; omega
    by_cases h4 : 4 < N
    · have H := Lib.hid (decR_1 (l := l) (by rw [HL.out]; exact h0) (by rw [HN.out]; exact h4))
      clear hn
      go_enter Tryz.func26, Tryz.ntmps26
      go_wp2
      all_goals first | (exfalso; omega) | skip
      go_ret3
      exact decPost_no H.out (Below.refl _ _)
    · by_cases h5 : n < 1 + 5 * N
      · have H := Lib.hid (decR_2 (l := l) (by rw [HL.out]; exact h0) (by rw [HN.out]; exact h4) (by rw [HL.out, HN.out]; exact h5))
        clear hn
        go_enter Tryz.func26, Tryz.ntmps26
        go_wp2
        all_goals first | (exfalso; omega) | skip
        go_ret3
        exact decPost_no H.out (Below.refl _ _)
      · clear hn
        go_enter Tryz.func26, Tryz.ntmps26
        go_wp2
        all_goals first | (exfalso; omega) | skip
        have hok := fun i => efAt_wf l i
        have HS := Lib.hid (decL_succ l)
        have hlt9 : N ≤ 4 := by omega
        go_loopw [6, 7] (fun v i wr => ∃ k : Nat, k ≤ N ∧ i = .int .i64 k ∧ Hid (wr.ownsRow w.heap.size 51 5 v k (efC (decL l k)) ∧ Below w.heap.size w wr ∧ (decL l k).all Ef.ok = true)) (fun _ i _ => N - (intOf i).toNat)
        case atStart => exact ⟨0, Nat.zero_le _, rfl, Lib.hid ⟨World.ownsRow_nil _ _ _ _, Below.refl _ _, rfl⟩⟩
        case round =>
          obtain ⟨k, hk, rfl, HT⟩ := hrel
          by_cases hlt : k < N
          · have d0 := (HT.out.2.1.cell (p := ⟨b, off + (1 + 5 * k), none⟩) hbl).trans (C.out (1 + 5 * k) (by omega))
            have d1 := (HT.out.2.1.cell (p := ⟨b, off + (1 + 5 * k + 1), none⟩) hbl).trans (C.out (1 + 5 * k + 1) (by omega))
            have d2 := (HT.out.2.1.cell (p := ⟨b, off + (1 + 5 * k + 2), none⟩) hbl).trans (C.out (1 + 5 * k + 2) (by omega))
            have d3 := (HT.out.2.1.cell (p := ⟨b, off + (1 + 5 * k + 3), none⟩) hbl).trans (C.out (1 + 5 * k + 3) (by omega))
            have d4 := (HT.out.2.1.cell (p := ⟨b, off + (1 + 5 * k + 4), none⟩) hbl).trans (C.out (1 + 5 * k + 4) (by omega))
            have e0 : IntKind.i64.wrap (5 * (k : Int)) = 5 * k := IntWalk.i64_in _ (by omega)
            have e1 : IntKind.i64.wrap (1 + 5 * (k : Int)) = ((1 + 5 * k : Nat) : Int) := by rw [IntWalk.i64_in _ (by omega)]; omega
            go_wp2
            all_goals first | (exfalso; omega) | skip
            have eOff : ∀ j, off + (1 + 5 * k) + j = off + (1 + 5 * k + j) := fun j => by omega
            rw [← eOff] at d1 d2 d3 d4
            have hm5 : 5 ≤ n - (1 + 5 * k) := by omega
            have HE0 := Lib.hid (show efAt l k = ⟨byAt l (1 + 5 * k), byAt l (1 + 5 * k + 1), byAt l (1 + 5 * k + 2), byAt l (1 + 5 * k + 3), byAt l (1 + 5 * k + 4)⟩ from rfl)
            have g0 := byAt_bd l (1 + 5 * k)
            have g1 := byAt_bd l (1 + 5 * k + 1)
            have g2 := byAt_bd l (1 + 5 * k + 2)
            have g3 := byAt_bd l (1 + 5 * k + 3)
            have g4 := byAt_bd l (1 + 5 * k + 4)
            generalize byAt l (1 + 5 * k) = y0 at *
            generalize byAt l (1 + 5 * k + 1) = y1 at *
            generalize byAt l (1 + 5 * k + 2) = y2 at *
            generalize byAt l (1 + 5 * k + 3) = y3 at *
            generalize byAt l (1 + 5 * k + 4) = y4 at *
            clear e0 e1 eOff
            generalize off + (1 + 5 * k) = o at *
            generalize n - (1 + 5 * k) = m at *
            have m0 : (0 : Int) < (m : Int) := by omega
            have m0n : 0 < m := by omega
            have m1 : (1 : Int) < (m : Int) := by omega
            have m2 : (2 : Int) < (m : Int) := by omega
            have m3 : (3 : Int) < (m : Int) := by omega
            have m4 : (4 : Int) < (m : Int) := by omega
            obtain ⟨g0, g0'⟩ := g0
            obtain ⟨g1, g1'⟩ := g1
            obtain ⟨g2, g2'⟩ := g2
            obtain ⟨g3, g3'⟩ := g3
            obtain ⟨g4, g4'⟩ := g4
            have v0 : IntKind.i64.wrap y0 = y0 := IntWalk.i64_in _ (by omega)
            have v1 : IntKind.i64.wrap y1 = y1 := IntWalk.i64_in _ (by omega)
            have v2 : IntKind.i64.wrap y2 = y2 := IntWalk.i64_in _ (by omega)
            have v3 : IntKind.i64.wrap y3 = y3 := IntWalk.i64_in _ (by omega)
            have v4 : IntKind.i64.wrap y4 = y4 := IntWalk.i64_in _ (by omega)
            go_region_held3 (fun w' => w'.cell? ⟨b, o, none⟩ = some (.int .u8 y0) ∧ w'.cell? ⟨b, o + 1, none⟩ = some (.int .u8 y1) ∧ w'.cell? ⟨b, o + 2, none⟩ = some (.int .u8 y2) ∧ w'.cell? ⟨b, o + 3, none⟩ = some (.int .u8 y3) ∧ w'.cell? ⟨b, o + 4, none⟩ = some (.int .u8 y4)) (first | assumption | (exact ⟨by assumption, by assumption, by assumption, by assumption, by assumption⟩) | (refine ⟨?_, ?_, ?_, ?_, ?_⟩ <;> first | assumption | go_keep)) (fail)
            have E1 : has (wr.alloc (.cells #[.int .i64 y0, .int .i64 y1, .int .i64 y2, .int .i64 y3, .int .i64 y4] 51)).drew wr.heap.size 51 (eL y0 y1 y2 y3 y4) := has.new wr _ (eL y0 y1 y2 y3 y4)
            have B1 : Below w.heap.size w (wr.alloc (.cells #[.int .i64 y0, .int .i64 y1, .int .i64 y2, .int .i64 y3, .int .i64 y4] 51)).drew := (HT.out.2.1.alloc HT.out.2.1.size _).drew
            have O1 : (wr.alloc (.cells #[.int .i64 y0, .int .i64 y1, .int .i64 y2, .int .i64 y3, .int .i64 y4] 51)).drew.ownsRow w.heap.size 51 5 u6 k (efC (decL l k)) := (HT.out.1.alloc _).drew
            have z1 : wr.heap.size < (wr.alloc (.cells #[.int .i64 y0, .int .i64 y1, .int .i64 y2, .int .i64 y3, .int .i64 y4] 51)).drew.heap.size := by simp
            have z2 : w.heap.size ≤ wr.heap.size := HT.out.2.1.size
            obtain ⟨W1, hW⟩ : ∃ W, (wr.alloc (.cells #[.int .i64 y0, .int .i64 y1, .int .i64 y2, .int .i64 y3, .int .i64 y4] 51)).drew = W := ⟨_, rfl⟩
            rw [hW] at E1 B1 O1 z1 ⊢
            clear hW
            obtain ⟨u0, u1, u2', u3', u4', u5⟩ := five E1
            have HV := rValid_any y0 y1 y2 y3 y4
            have HLS := Lib.hid (decL_succ l k)
            cases hx : okE y0 y1 y2 y3 y4
            · rw [hx] at HV
              go_wp2_with fail
              refine (HV _).mono ?_; rintro e w2 ⟨rfl, hb2⟩
              have B2 := next B1 hb2
              have H := Lib.hid (decR_3 (l := l) (by rw [HL.out]; exact h0) (by rw [HN.out]; exact h4) (by rw [HL.out, HN.out]; exact h5) (by
                rw [HN.out, List.all_eq_false]
                refine ⟨efAt l k, List.mem_map.2 ⟨k, by simpa using hlt, rfl⟩, ?_⟩
                rw [HE0.out]
                show ¬ okE y0 y1 y2 y3 y4 = true
                rw [hx]; exact Bool.false_ne_true))
              go_wp2
              go_ret3
              exact decPost_no H.out B2
            · rw [hx] at HV
              go_wp2_with fail
              refine (HV _).mono ?_; rintro e w2 ⟨rfl, hb2⟩
              have B2 := next B1 hb2
              have E2 := E1.below hb2 z1
              have O2 := own_below O1 hb2
              have z3 := B2.size
              clear u0 u1 u2' u3' u4' u5
              obtain ⟨u0, u1, u2', u3', u4', u5⟩ := five E2
              have HO : Hid ((w2.alloc (.cells #[.int .i64 y0, .int .i64 y1, .int .i64 y2, .int .i64 y3, .int .i64 y4] 51)).ownsRow w.heap.size 51 5 u6 k (efC (decL l k))) := Lib.hid (O2.alloc _)
              have HBl : Hid (Below w.heap.size w (w2.alloc (.cells #[.int .i64 y0, .int .i64 y1, .int .i64 y2, .int .i64 y3, .int .i64 y4] 51))) := Lib.hid (B2.alloc z3 _)
              have HC : Hid (has (w2.alloc (.cells #[.int .i64 y0, .int .i64 y1, .int .i64 y2, .int .i64 y3, .int .i64 y4] 51)) w2.heap.size 51 (eL y0 y1 y2 y3 y4)) := Lib.hid (has.new w2 _ (eL y0 y1 y2 y3 y4))
              clear O2 B2 B1 O1 E1 E2
              go_wp2_with (at_builtin; refine wpList_append_own _ rfl _ _ 29 rfl w.heap.size 51 i0 (eV 0 0 0 0 0) 5 40 Tryz.underlying29 hi hz0 hz1 hz2 rfl (by decide) _ _ _ rfl HO.out ⟨w2.heap.size, 0, none⟩ 1 1 (eL y0 y1 y2 y3 y4) rfl rfl (fun j u hu => by rw [addr_add, Nat.zero_add]; exact (HC.out.cell j).trans hu) (by simp [Value.oneCell']) (by unfold maxLen; omega) (by omega) (by simp; omega) ?_; intro v' w3 hown' hgrow _; have HO2 := Lib.hid hown'; have HG := Lib.hid hgrow; clear hown' hgrow)
              refine ⟨⟨k + 1, by omega, by go_num, Lib.hid ⟨?_, below_own HBl.out HO.out HG.out (by simp; omega), ?_⟩⟩, by simp [intOf]; omega⟩
              · have e : efC (decL l (k + 1)) = efC (decL l k) ++ eL y0 y1 y2 y3 y4 := by
                  rw [HLS.out, efC_app, HE0.out]; rfl
                rw [e]
                exact HO2.out
              · rw [HLS.out, List.all_append, HT.out.2.2, HE0.out]
                show (true && (okE y0 y1 y2 y3 y4 && true)) = true
                rw [hx]; rfl
          · obtain rfl : k = N := by omega
            obtain ⟨sv, cv, rfl, hsv, _, _, hso⟩ := own_form HT.out.1
            have HV := Lib.hid hsv
            have HSO := Lib.hid hso
            clear hsv hso
            have H := Lib.hid (decR_4 (l := l) (by rw [HL.out]; exact h0) (by rw [HN.out]; exact h4) (by rw [HL.out, HN.out]; exact h5) (by rw [HN.out]; exact HT.out.2.2))
            go_wp2
            go_ret3
            rw [H.out, HN.out]
            have e := decL_len l k
            refine ⟨sv, cv, ?_, ?_, HT.out.2.1, HSO.out⟩
            · rw [e]; simp
            · have := EfsAt.of_src HV.out (decL_wf l k) (by rw [e]; omega)
              exact this
end Go.Proofs.YtlhnnjllbcglcaaGreatDoor.efFn

/- Decode's parts, as data. -/
namespace Go.Proofs.YtlhnnjllbcglcaaGreatDoor.caFn
open Go.ChangeShapes Go.WideShapes Go.ChangeAt Go.RowKit drMem efFn
set_option linter.unusedVariables false

/- one step at a place of the bytes -/
theorem nb_at {m : Int} {l : List UInt8} {k : Nat} (h : k < l.length) (hm : byAt l k ≤ m) : nb m (l.drop k, 0) = (byAt l k, (l.drop (k + 1), 0)) := by
  have hd : l.drop k = l[k] :: l.drop (k + 1) := List.drop_eq_getElem_cons h
  have hb : byAt l k = (l[k].toNat : Int) := by unfold byAt; simp [List.getD_eq_getElem?_getD, h]
  rw [hb] at hm ⊢
  rw [hd]
  unfold nb
  simp only [List.getD_cons_zero, List.length_cons, List.drop_succ_cons, List.drop_zero]
  rw [if_pos trivial, if_pos (by omega), if_neg (by omega)]
theorem nb_at_bad {m : Int} {l : List UInt8} {k : Nat} (h : k < l.length) (hm : m < byAt l k) : (nb m (l.drop k, 0)).2.2 = 6 := by
  have hd : l.drop k = l[k] :: l.drop (k + 1) := List.drop_eq_getElem_cons h
  have hb : byAt l k = (l[k].toNat : Int) := by unfold byAt; simp [List.getD_eq_getElem?_getD, h]
  rw [hb] at hm
  rw [hd]
  unfold nb
  simp only [List.getD_cons_zero, List.length_cons, List.drop_succ_cons, List.drop_zero]
  rw [if_pos trivial, if_pos (by omega), if_pos hm]
theorem nb_end {m : Int} {l : List UInt8} {k : Nat} (h : l.length ≤ k) : (nb m (l.drop k, 0)).2.2 = 4 := by
  rw [List.drop_of_length_le h]; rfl
theorem tk_at {l : List UInt8} {k n : Nat} (h : k + n ≤ l.length) : tk n (l.drop k, 0) = ((l.drop k).take n, (l.drop (k + n), 0)) := by
  unfold tk
  simp only [List.length_drop, List.drop_drop]
  rw [if_pos trivial, if_pos (by omega)]
theorem tk_end {l : List UInt8} {k n : Nat} (h : l.length < k + n) (hk : k ≤ l.length) : (tk n (l.drop k, 0)).2.2 = 4 := by
  unfold tk
  simp only [List.length_drop]
  rw [if_pos trivial, if_neg (by omega)]
/- an error stays -/
theorem nb_er {m : Int} {s : Rd} {e : Int} (h : s.2 = e) (he : e ≠ 0) : (nb m s).2.2 = e := by
  obtain ⟨l, e'⟩ := s; obtain rfl : e' = e := h; unfold nb; simp only [if_neg he]
theorem tk_er {n : Nat} {s : Rd} {e : Int} (h : s.2 = e) (he : e ≠ 0) : (tk n s).2.2 = e := by
  obtain ⟨l, e'⟩ := s; obtain rfl : e' = e := h; unfold tk; simp only [if_neg he]
theorem efR_er {s : Rd} {e : Int} (h : s.2 = e) (he : e ≠ 0) : (efR s).2.2 = e := by
  obtain ⟨l, e'⟩ := s; obtain rfl : e' = e := h; unfold efR; simp only [if_neg he]
theorem trS_er {s : Rd} {e : Int} (h : s.2 = e) (he : e ≠ 0) : ∀ k, (trS s k).2 = e
  | 0 => h
  | k + 1 => efR_er (nb_er (trS_er h he k) he) he
theorem decC_er {l : List UInt8} {e : Int} (h : (cdR (l, 0)).2.2 = e) (he : e ≠ 0) : decC l = (zeroCd, 0, e) := by
  unfold decC deV
  rw [h, if_pos he]
/- an error at some step is the error of all -/
theorem cdR_er {l : List UInt8} {e : Int} (he : e ≠ 0) :
    (((nb 32 (nb 255 (nb 255 (l, 0)).2).2).2.2 = e) → (cdR (l, 0)).2.2 = e) := by
  intro h
  unfold cdR
  dsimp only
  exact trS_er (nb_er (efR_er (nb_er (nb_er (nb_er (nb_er (nb_er (nb_er (nb_er (nb_er (nb_er (tk_er h he) he) he) he) he) he) he) he) he) he) he) he) he _
/- the parts of bytes that are long enough -/
def hd9 (l : List UInt8) (a : Nat) (nm : List UInt8) (ef : List Ef) (tr : List Tr) : Cd :=
  ⟨nm, byAt l 0, byAt l a, byAt l (a + 1), byAt l (a + 2), byAt l (a + 3), byAt l (a + 4), byAt l (a + 5), byAt l (a + 6), byAt l (a + 7), byAt l (a + 8), ef, tr, byAt l 1⟩
theorem by255 (l : List UInt8) (k : Nat) : byAt l k ≤ 255 := by have := (byAt_bd l k).2; omega
theorem cdR_long {l : List UInt8} {n : Nat} (h3 : 3 ≤ l.length) (hn : byAt l 2 = n) (hn32 : n ≤ 32) (hl : 3 + n + 9 ≤ l.length) :
    cdR (l, 0) = (hd9 l (3 + n) ((l.drop 3).take n) (efR (l.drop (3 + n + 9), 0)).1 (trL (nb 2 (efR (l.drop (3 + n + 9), 0)).2).2 (nb 2 (efR (l.drop (3 + n + 9), 0)).2).1.toNat), trS (nb 2 (efR (l.drop (3 + n + 9), 0)).2).2 (nb 2 (efR (l.drop (3 + n + 9), 0)).2).1.toNat) := by
  have e1 : nb 255 (l, 0) = (byAt l 0, (l.drop 1, 0)) := nb_at (l := l) (k := 0) (by omega) (by255 _ _)
  have e2 : nb 255 (l.drop 1, 0) = (byAt l 1, (l.drop 2, 0)) := nb_at (by omega) (by255 _ _)
  have e3 : nb 32 (l.drop 2, 0) = (byAt l 2, (l.drop 3, 0)) := nb_at (by omega) (by omega)
  have e4 : tk n (l.drop 3, 0) = ((l.drop 3).take n, (l.drop (3 + n), 0)) := tk_at (by omega)
  have e5 : nb 255 (l.drop (3 + n), 0) = (byAt l (3 + n), (l.drop (3 + n + 1), 0)) := nb_at (by omega) (by255 _ _)
  have e6 : nb 255 (l.drop (3 + n + 1), 0) = (byAt l (3 + n + 1), (l.drop (3 + n + 2), 0)) := nb_at (by omega) (by255 _ _)
  have e7 : nb 255 (l.drop (3 + n + 2), 0) = (byAt l (3 + n + 2), (l.drop (3 + n + 3), 0)) := nb_at (by omega) (by255 _ _)
  have e8 : nb 255 (l.drop (3 + n + 3), 0) = (byAt l (3 + n + 3), (l.drop (3 + n + 4), 0)) := nb_at (by omega) (by255 _ _)
  have e9 : nb 255 (l.drop (3 + n + 4), 0) = (byAt l (3 + n + 4), (l.drop (3 + n + 5), 0)) := nb_at (by omega) (by255 _ _)
  have e10 : nb 255 (l.drop (3 + n + 5), 0) = (byAt l (3 + n + 5), (l.drop (3 + n + 6), 0)) := nb_at (by omega) (by255 _ _)
  have e11 : nb 255 (l.drop (3 + n + 6), 0) = (byAt l (3 + n + 6), (l.drop (3 + n + 7), 0)) := nb_at (by omega) (by255 _ _)
  have e12 : nb 255 (l.drop (3 + n + 7), 0) = (byAt l (3 + n + 7), (l.drop (3 + n + 8), 0)) := nb_at (by omega) (by255 _ _)
  have e13 : nb 255 (l.drop (3 + n + 8), 0) = (byAt l (3 + n + 8), (l.drop (3 + n + 9), 0)) := nb_at (by omega) (by255 _ _)
  have et : (byAt l 2).toNat = n := by omega
  unfold cdR
  simp only [e1, e2, e3, et, e4, e5, e6, e7, e8, e9, e10, e11, e12, e13]
  rfl
theorem cdR_mid {l : List UInt8} {n : Nat} (h3 : 3 ≤ l.length) (hn : byAt l 2 = n) (hn32 : n ≤ 32) (hl : l.length < 3 + n + 9) : (cdR (l, 0)).2.2 = 4 := by
  have e1 : nb 255 (l, 0) = (byAt l 0, (l.drop 1, 0)) := nb_at (l := l) (k := 0) (by omega) (by255 _ _)
  have e2 : nb 255 (l.drop 1, 0) = (byAt l 1, (l.drop 2, 0)) := nb_at (by omega) (by255 _ _)
  have e3 : nb 32 (l.drop 2, 0) = (byAt l 2, (l.drop 3, 0)) := nb_at (by omega) (by omega)
  have et : (byAt l 2).toNat = n := by omega
  unfold cdR
  simp only [e1, e2, e3, et]
  -- the name, then nine numbers: the state behind each is an error 4, or stands at the place
  have k4 : (tk n (l.drop 3, 0)).2.2 = 4 ∨ (tk n (l.drop 3, 0)).2 = (l.drop (3 + n), 0) ∧ 3 + n ≤ l.length := by
    by_cases h : 3 + n ≤ l.length
    · exact .inr ⟨by rw [tk_at h], h⟩
    · exact .inl (tk_end (by omega) (by omega))
  have step : ∀ (s : Rd) (k : Nat), (s.2 = 4 ∨ s = (l.drop k, 0) ∧ k ≤ l.length) → ((nb 255 s).2.2 = 4 ∨ (nb 255 s).2 = (l.drop (k + 1), 0) ∧ k + 1 ≤ l.length) := by
    intro s k h
    rcases h with h | ⟨rfl, hk⟩
    · exact .inl (nb_er h (by decide))
    · by_cases h2 : k < l.length
      · exact .inr ⟨by rw [nb_at h2 (by255 _ _)], h2⟩
      · exact .inl (nb_end (by omega))
  have k5 := step _ _ k4
  have k6 := step _ _ k5
  have k7 := step _ _ k6
  have k8 := step _ _ k7
  have k9 := step _ _ k8
  have k10 := step _ _ k9
  have k11 := step _ _ k10
  have k12 := step _ _ k11
  have k13 := step _ _ k12
  rcases k13 with k13 | ⟨_, k13⟩
  · exact trS_er (nb_er (efR_er k13 (by decide)) (by decide)) (by decide) _
  · omega
theorem cdR_bad {l : List UInt8} (h3 : 3 ≤ l.length) (hn : 32 < byAt l 2) : (cdR (l, 0)).2.2 = 6 := by
  have e1 : nb 255 (l, 0) = (byAt l 0, (l.drop 1, 0)) := nb_at (l := l) (k := 0) (by omega) (by255 _ _)
  have e2 : nb 255 (l.drop 1, 0) = (byAt l 1, (l.drop 2, 0)) := nb_at (by omega) (by255 _ _)
  refine cdR_er (by decide) ?_
  rw [e1, e2]
  exact nb_at_bad (by omega) hn
theorem cdR_few {l : List UInt8} (h3 : l.length < 3) : (cdR (l, 0)).2.2 = 4 := by
  refine cdR_er (by decide) ?_
  match l, h3 with
  | [], _ => rfl
  | [a], _ =>
    have e1 : nb 255 ([a], 0) = (byAt [a] 0, ([a].drop 1, 0)) := nb_at (l := [a]) (k := 0) (by simp) (by255 _ _)
    rw [e1]
    exact nb_er (nb_end (k := 1) (by simp)) (by decide)
  | [a, b], _ =>
    have e1 : nb 255 ([a, b], 0) = (byAt [a, b] 0, ([a, b].drop 1, 0)) := nb_at (l := [a, b]) (k := 0) (by simp) (by255 _ _)
    have e2 : nb 255 ([a, b].drop 1, 0) = (byAt [a, b] 1, ([a, b].drop 2, 0)) := nb_at (by simp) (by255 _ _)
    rw [e1, e2]
    exact nb_end (k := 2) (by simp)

end Go.Proofs.YtlhnnjllbcglcaaGreatDoor.caFn

/- Decode's card and triggers in memory; what its parts are. -/
namespace Go.Proofs.YtlhnnjllbcglcaaGreatDoor.caFn
open Go.ChangeShapes Go.WideShapes Go.ChangeAt Go.RowKit drMem efFn
set_option linter.unusedVariables false

section
variable {W W' w : World} {sp es : Option Addr} {n en : Nat} {v v' : Value} {l ef : List Ef} {B : Nat} {xs : List Tx} {cs : List Value} {ts : List Tr}
structure DP (w : World) (es : Option Addr) (en : Nat) (ef : List Ef) (cs : List Value) (ts : List Tr) (W : World) (v : Value) (xs : List Tx) : Prop where
  r : has W w.heap.size 32 zeroL
  z : has W (w.heap.size + 1) 32 zeroL
  c : has W (w.heap.size + 2) 32 cs
  b : Below w.heap.size w W
  own : W.ownsRow (w.heap.size + 3) 47 2 v ts.length (txC xs)
  ef : EfsX W (w.heap.size + 3) v.ownBlock es en ef
  n : xs.length = ts.length
  x : ∀ j, j < ts.length → (xs.getD j default).w = (ts.getD j default).w ∧ EfsX W (w.heap.size + 3) v.ownBlock (xs.getD j default).s (xs.getD j default).n (ts.getD j default).e
theorem EfsX.below {vb : Option Nat} (h : EfsX W B vb sp n l) (hb : Below W.heap.size W W') : EfsX W' B vb sp n l := ⟨h.1.below hb (Nat.le_refl _), h.2⟩
theorem DP.below (h : DP w es en ef cs ts W v xs) (hb : Below W.heap.size W W') : DP w es en ef cs ts W' v xs :=
  ⟨h.r.below hb h.r.lt, h.z.below hb h.z.lt, h.c.below hb h.c.lt, next h.b hb, own_below h.own hb, h.ef.below hb, h.n, fun j hj => ⟨(h.x j hj).1, (h.x j hj).2.below hb⟩⟩
theorem DP.alloc (h : DP w es en ef cs ts W v xs) (o : Obj) : DP w es en ef cs ts (W.alloc o) v xs := h.below ((Below.refl _ W).alloc (Nat.le_refl _) o)
theorem DP.drew (h : DP w es en ef cs ts W v xs) : DP w es en ef cs ts W.drew v xs := h.below (Below.refl _ _).drew
theorem DP.app (h : DP w es en ef cs ts W v xs) {x : Tx} {t : Tr} {g' cap : Nat} (hw : x.w = t.w) (he : EfsX W (w.heap.size + 3) v.ownBlock x.s x.n t.e)
    (hown : W'.ownsRow (w.heap.size + 3) 47 2 (.slice (some ⟨g', 0, none⟩) (ts.length + 1) cap) (ts.length + 1) (txC xs ++ x.l)) (hW : W.grownBy W' v.ownBlock) (hat : v.ownBlock = some g' ∨ g' = W.heap.size)
    (hi : ∃ u, cs[12]? = some u ∧ ∀ y, u ≠ .int .i64 y) :
    DP w es en ef (cs.set 12 (.slice (some ⟨g', 0, none⟩) (ts.length + 1) cap)) (ts ++ [t]) (W'.setCell ⟨w.heap.size + 2, 12, none⟩ (.slice (some ⟨g', 0, none⟩) (ts.length + 1) cap)) (.slice (some ⟨g', 0, none⟩) (ts.length + 1) cap) (xs ++ [x]) := by
  obtain ⟨u, hu, hu64⟩ := hi
  have hR : has W' w.heap.size 32 zeroL := own_has' hW h.own h.r (by decide)
  have hZ : has W' (w.heap.size + 1) 32 zeroL := own_has' hW h.own h.z (by decide)
  have hC : has W' (w.heap.size + 2) 32 cs := own_has' hW h.own h.c (by decide)
  have hS := grown_set W' ⟨w.heap.size + 2, 12, none⟩ (.slice (some ⟨g', 0, none⟩) (ts.length + 1) cap)
  have hB1 : Below w.heap.size w W' := h.b.grown hW h.b.size (fun q hq => by have := (h.own.lt q hq).1; omega)
  have hown2 := hown.kept hS (.inr (by
    intro e
    have e' : w.heap.size + 2 = g' := (Option.some.inj e).symm
    rcases hown.2 with ⟨h4, _⟩ | ⟨g2, c2, cur, h4, _, h6, _⟩
    · cases h4
    · cases h4
      rw [← e', show W'.heap[w.heap.size + 2]? = _ from hC] at h6
      simp at h6))
  have hk : W'.cell? ⟨w.heap.size + 2, 12, none⟩ = some u := (hC.cell 12).trans hu
  have key : ∀ {sp : Option Addr} {n : Nat} {l : List Ef}, EfsX W (w.heap.size + 3) v.ownBlock sp n l → EfsX (W'.setCell ⟨w.heap.size + 2, 12, none⟩ (.slice (some ⟨g', 0, none⟩) (ts.length + 1) cap)) (w.heap.size + 3) (some g') sp n l := fun hx => (hx.app hW hat).put _ _ u hk hu64
  refine ⟨hR.grown hS (by intro e; have := Option.some.inj e; dsimp only at this; omega), hZ.grown hS (by intro e; have := Option.some.inj e; dsimp only at this; omega), hC.put 12 _, hB1.grown hS hB1.size (fun q hq => by cases hq; dsimp only; omega), ?_, key h.ef, by simp [h.n], fun j hj => ?_⟩
  · rw [List.length_append, List.length_singleton, txC_app, show txC [x] = x.l by simp [txC]]
    exact hown2
  · have hl : j < ts.length ∨ j = ts.length := by simp at hj; omega
    rcases hl with hl | hl
    · have e1 : (xs ++ [x]).getD j default = xs.getD j default := by simp only [List.getD_eq_getElem?_getD]; rw [List.getElem?_append_left (by rw [h.n]; exact hl)]
      have e2 : (ts ++ [t]).getD j default = ts.getD j default := by simp only [List.getD_eq_getElem?_getD]; rw [List.getElem?_append_left hl]
      rw [e1, e2]
      exact ⟨(h.x j hl).1, key (h.x j hl).2⟩
    · subst hl
      have e1 : (xs ++ [x]).getD ts.length default = x := by rw [← h.n]; simp [List.getD_eq_getElem?_getD]
      have e2 : (ts ++ [t]).getD ts.length default = t := by simp [List.getD_eq_getElem?_getD]
      rw [e1, e2]
      exact ⟨hw, key he⟩
/- what the triggers are, in this world and when the result's block is filled -/
theorem DP.now (h : DP w es en ef cs ts W v xs) (hm : ts.length ≤ 1000) (hv : ∀ t ∈ ts, i64ok t.w) : ∃ sp c, v = .slice sp ts.length c ∧ CdAt W es en ef sp ts.length ts ∧ ts.length ≤ c := by
  obtain ⟨sp, c, h1, h2, h3⟩ := trs_of h.own h.n (fun j hj => ⟨(h.x j hj).1, (h.x j hj).2.1⟩) hm hv
  exact ⟨sp, c, h1, ⟨h.ef.1, h2⟩, h3⟩
theorem DP.cd {st : Option Addr} {sn sc : Nat} (h : DP w es en ef cs ts W (.slice st sn sc) xs) (hm : ts.length ≤ 1000) (hv : ∀ t ∈ ts, i64ok t.w) : CdAt W es en ef st sn ts := by
  obtain ⟨sp, c, h1, h2, h3⟩ := h.now hm hv
  cases h1
  exact h2
theorem DP.fin {st : Option Addr} {sn sc : Nat} (h : DP w es en ef cs ts W (.slice st sn sc) xs) (hW : W.grownBy W' (some w.heap.size)) (hm : ts.length ≤ 1000) (hv : ∀ t ∈ ts, i64ok t.w) :
    CdAt W' es en ef st sn ts ∧ Below w.heap.size w W' := by
  have hown := h.own.kept hW (by
    rcases h.own.2 with ⟨h4, _⟩ | ⟨g2, c2, cur, h4, _, h6, _⟩
    · left; rw [h4]; rfl
    · right
      rw [h4]
      intro e
      have e' : g2 = w.heap.size := Option.some.inj e
      rw [e', show W.heap[w.heap.size]? = _ from h.r] at h6
      simp at h6)
  have key : ∀ {sp : Option Addr} {n : Nat} {l : List Ef}, EfsX W (w.heap.size + 3) (Value.slice st sn sc).ownBlock sp n l → EfsAt W' sp n l := fun hx => EfsAt.grownTo hx.1 hW (fun a ha h0 => by have := hx.2.2 a ha h0; intro e; have := Option.some.inj e; omega)
  obtain ⟨sp, c, h1, h2, h3⟩ := trs_of hown h.n (fun j hj => ⟨(h.x j hj).1, key (h.x j hj).2⟩) hm hv
  cases h1
  exact ⟨⟨key h.ef, h2⟩, below_new h.b hW (Nat.le_refl _)⟩
end
/- the parts, as places in the bytes -/
theorem decR_sz {l : List UInt8} (h : (decR l).2.2 = 0) : (decR l).2.1 ≤ l.length := by
  by_cases h0 : l.length = 0
  · rw [decR_0 h0] at h; cases h
  by_cases h1 : 4 < nB l
  · rw [decR_1 (by omega) h1] at h; cases h
  by_cases h2 : l.length < 1 + 5 * nB l
  · rw [decR_2 (by omega) h1 h2] at h; cases h
  cases h3 : (decL l (nB l)).all Ef.ok
  · rw [decR_3 (by omega) h1 h2 h3] at h; cases h
  · rw [decR_4 (by omega) h1 h2 h3]; dsimp only; omega
theorem efR_at {l : List UInt8} {k sz er : Nat} {e : List Ef} (h : decR (l.drop k) = (e, sz, er)) : efR (l.drop k, 0) = (e, (l.drop (k + sz), (er : Int))) := by
  unfold efR
  simp only [h, List.drop_drop]
  rfl
theorem trS_stuck {s : Rd} {e : Int} {k : Nat} (h : (trS s k).2 = e) (he : e ≠ 0) : ∀ m, (trS s (k + m)).2 = e
  | 0 => h
  | m + 1 => efR_er (nb_er (trS_stuck h he m) he) he
theorem trS_stuck' {s : Rd} {e : Int} {k m : Nat} (h : (trS s k).2 = e) (he : e ≠ 0) (hk : k ≤ m) : (trS s m).2 = e := by
  obtain ⟨d, rfl⟩ : ∃ d, m = k + d := ⟨m - k, by omega⟩
  exact trS_stuck h he d
section
variable {l : List UInt8} {n N A C : Nat} {e : List Ef} {sz er : Nat}
/- the effects and what is behind them -/
theorem cdE (hA : 3 + N = A) (hC : A + 9 = C) (hr : decR (l.drop C) = (e, sz, er)) (q : cdR (l, 0) = (hd9 l (3 + N) ((l.drop 3).take N) (efR (l.drop (3 + N + 9), 0)).1 (trL (nb 2 (efR (l.drop (3 + N + 9), 0)).2).2 (nb 2 (efR (l.drop (3 + N + 9), 0)).2).1.toNat), trS (nb 2 (efR (l.drop (3 + N + 9), 0)).2).2 (nb 2 (efR (l.drop (3 + N + 9), 0)).2).1.toNat)) :
    cdR (l, 0) = (hd9 l A ((l.drop 3).take N) e (trL (nb 2 (l.drop (C + sz), (er : Int))).2 (nb 2 (l.drop (C + sz), (er : Int))).1.toNat), trS (nb 2 (l.drop (C + sz), (er : Int))).2 (nb 2 (l.drop (C + sz), (er : Int))).1.toNat) := by
  rw [hA, hC, efR_at hr] at q
  exact q
variable {nm : List UInt8} {D M : Nat}
theorem cdE_er (q : cdR (l, 0) = (hd9 l A nm e (trL (nb 2 (l.drop D, (er : Int))).2 (nb 2 (l.drop D, (er : Int))).1.toNat), trS (nb 2 (l.drop D, (er : Int))).2 (nb 2 (l.drop D, (er : Int))).1.toNat)) (h : er ≠ 0) : decC l = (zeroCd, 0, (er : Int)) :=
  decC_er (by rw [q]; exact trS_er (nb_er rfl (by omega)) (by omega) _) (by omega)
theorem cdE_end (q : cdR (l, 0) = (hd9 l A nm e (trL (nb 2 (l.drop D, ((0 : Nat) : Int))).2 (nb 2 (l.drop D, ((0 : Nat) : Int))).1.toNat), trS (nb 2 (l.drop D, ((0 : Nat) : Int))).2 (nb 2 (l.drop D, ((0 : Nat) : Int))).1.toNat)) (h : l.length ≤ D) : decC l = (zeroCd, 0, 4) :=
  decC_er (by rw [q]; exact trS_er (nb_end h) (by decide) _) (by decide)
theorem cdE_bad (q : cdR (l, 0) = (hd9 l A nm e (trL (nb 2 (l.drop D, ((0 : Nat) : Int))).2 (nb 2 (l.drop D, ((0 : Nat) : Int))).1.toNat), trS (nb 2 (l.drop D, ((0 : Nat) : Int))).2 (nb 2 (l.drop D, ((0 : Nat) : Int))).1.toNat)) (h : D < l.length) (h2 : 2 < byAt l D) : decC l = (zeroCd, 0, 6) :=
  decC_er (by rw [q]; exact trS_er (nb_at_bad h h2) (by decide) _) (by decide)
theorem cdE_go (q : cdR (l, 0) = (hd9 l A nm e (trL (nb 2 (l.drop D, ((0 : Nat) : Int))).2 (nb 2 (l.drop D, ((0 : Nat) : Int))).1.toNat), trS (nb 2 (l.drop D, ((0 : Nat) : Int))).2 (nb 2 (l.drop D, ((0 : Nat) : Int))).1.toNat)) (h : D < l.length) (hM : byAt l D = M) (h2 : M ≤ 2) :
    cdR (l, 0) = (hd9 l A nm e (trL (l.drop (D + 1), 0) M), trS (l.drop (D + 1), 0) M) := by
  have e1 : nb 2 (l.drop D, ((0 : Nat) : Int)) = (byAt l D, (l.drop (D + 1), 0)) := nb_at h (by omega)
  rw [e1] at q
  dsimp only at q
  rw [show (byAt l D).toNat = M by omega] at q
  exact q
/- a round of the triggers -/
variable {s : Rd} {k T : Nat}
theorem tr_end (hs : trS s k = (l.drop T, 0)) (h : l.length ≤ T) (hk : k < M) : (trS s M).2 = 4 :=
  trS_stuck' (k := k + 1) (by simp only [trS, hs]; exact efR_er (nb_end h) (by decide)) (by decide) hk
theorem tr_step (hs : trS s k = (l.drop T, 0)) (h : T < l.length) (hr : decR (l.drop (T + 1)) = (e, sz, er)) : trS s (k + 1) = (l.drop (T + 1 + sz), (er : Int)) ∧ trL s (k + 1) = trL s k ++ [⟨byAt l T, e⟩] := by
  have e1 : nb 255 (l.drop T, 0) = (byAt l T, (l.drop (T + 1), 0)) := nb_at h (by255 _ _)
  simp only [trS, trL, hs, e1, efR_at hr]
  exact ⟨trivial, trivial⟩
theorem tr_er (hs : trS s k = (l.drop T, 0)) (h : T < l.length) (hr : decR (l.drop (T + 1)) = (e, sz, er)) (he : er ≠ 0) (hk : k < M) : (trS s M).2 = (er : Int) :=
  trS_stuck' (k := k + 1) (by rw [(tr_step hs h hr).1]) (by omega) hk
theorem decC_end {q : Cd} (h : cdR (l, 0) = (q, trS s M)) (hs : trS s M = (l.drop T, 0)) (hT : T ≤ l.length) : decC l = if okCd q = true then (q, (T : Int), 0) else (zeroCd, 0, 6) := by
  unfold decC deV
  rw [h, hs]
  dsimp only
  rw [if_neg (by simp), List.length_drop]
  rw [show (l.length : Int) - ((l.length - T : Nat) : Int) = T by omega]
end
end Go.Proofs.YtlhnnjllbcglcaaGreatDoor.caFn
