/- The list that bytes begin with: what Decode returns, room behind the first byte. -/
import Derived.Test.YtlhnnjllbcglcaaGreatDoorCeDecK
namespace Go.Proofs.YtlhnnjllbcglcaaGreatDoor.efFn
open Go.ChangeShapes Go.WideShapes Go.ChangeAt Go.RowKit Go.Shelf drMem
set_option linter.unusedVariables false
attribute [local go_sem] Oper.semAt_some

set_option maxRecDepth 100000 in
set_option maxHeartbeats 16000000 in
theorem Decode_B (sp : Option Addr) (n cap : Nat) (l : List UInt8) (w : World) (h : BsAt w sp n l) (hcap : n ≤ cap) (h0 : 0 < n) (h4x : ¬ 4 < nB l) (h5x : ¬ n < 1 + 5 * nB l) (hc1 : ¬ cap = 1) :
    Calls Tryz.prog 77 #[.slice sp n cap] w (decPost (decR l) w) := by
  obtain ⟨i0, hi, hz0, hz1, hz2⟩ := info_parts infoE
  have hn := h.n
  have hm := h.m
  have hc := h.c
  obtain ⟨b, off, rfl, hbl, hc0⟩ := hc (by rw [bys_len, h.n]; exact h0)
  have C : Hid (∀ j, j < n → w.cell? ⟨b, off + j, none⟩ = some (.int .u8 (byAt l j))) := Lib.hid fun j hj => BsAt.at (len := 0) hc j (by omega)
  have c0 := C.out 0 h0
  rw [Nat.add_zero] at c0
  have hN : byAt l 0 = (nB l : Int) := rfl
  have HL := Lib.hid hn
  clear hc h hc0
  have hN8 : nB l < 256 := (l.getD 0 0).toNat_lt
  obtain ⟨N, hNN⟩ : ∃ N, nB l = N := ⟨_, rfl⟩
  rw [hN, hNN] at c0
  rw [hNN] at hN8
  have HN := Lib.hid hNN
  rw [hNN] at h4x h5x
  clear hN hNN
  have hlen : decide ((n : Int) = 0) = false := decide_eq_false (by omega)
  have hne : ((n : Int) == 0) = false := by rw [beq_eq_false_iff_ne]; omega
  have h4 := h4x
  have h5 := h5x
  clear h4x h5x hn
  have hcap1 : 1 < cap := by omega
  refine (callsIn_wide (n := 4)).1 ?_
  refine callsIn_of_wp_marks Tryz.func77 rfl trivial ?_ rfl
  simp only [Tryz.ntmps77, List.size_toArray, List.length_cons, List.length_nil, Nat.reduceAdd, Nat.reduceSub, Array.replicate_succ, Array.replicate_zero, List.push_toArray, List.append_toArray, List.nil_append, List.cons_append]
  gi_wp2_with (refine ⟨trivial, ?_⟩; gi_at_call 96; refine (callsIn_wide.2 (Chunk_any _ _ _ _)).mono ?_; rintro e w1 ⟨rfl, hw1⟩; have HW1 := Lib.hid hw1; clear hw1)
  all_goals first | (exfalso; omega) | skip
  have zW : w1.heap.size = w.heap.size + 3 := by rw [HW1.out]; simp
  have bO : Boxed w1 w.heap.size 29 (.slice none 0 0) := by rw [HW1.out]; exact ((Boxed.new w 29 (.slice none 0 0)).alloc _).alloc _
  have hB1 : Below w.heap.size w w1 := by rw [HW1.out]; exact (((Below.refl _ w).alloc (Nat.le_refl _) _).alloc (by simp) _).alloc (by simp; omega) _
  have q1c : w1.cell? ⟨w.heap.size + 1, 0, none⟩ = some (.slice (some ⟨b, off + 1, none⟩) (5 * N) (cap - 1)) := by rw [HW1.out]; first | (simp [go_sem]; done) | (simp [go_sem]; omega)
  have q2c : w1.cell? ⟨w.heap.size + 1 + 1, 0, none⟩ = some (.int .i64 5) := by rw [HW1.out]; simp [go_sem]
  have HC : Hid (∀ x, x < N → ∀ j, j < 5 → w1.cell? ⟨b, off + 1 + 5 * x + j, none⟩ = some (.int .u8 (byAt l (1 + 5 * x + j)))) := Lib.hid fun x hx j hj => by
    have := C.out (1 + 5 * x + j) (by omega)
    rw [show off + 1 + 5 * x + j = off + (1 + 5 * x + j) by omega]
    exact (hB1.cell (p := ⟨b, _, none⟩) hbl).trans this
  have HB1 := Lib.hid hB1
  clear hB1
  refine' wpIn_rangeFunc_ownG rfl (by omega) (gf := 108) (lb := #[.pointer (some ⟨w.heap.size + 1, 0, none⟩), .pointer (some ⟨w.heap.size + 1 + 1, 0, none⟩)]) rfl trivial (enters_of Tryz.func108 (by kernel_rfl) rfl)
    (chunk_stops 3 (by omega) (w.heap.size + 1) (w.heap.size + 1 + 1) b (off + 1) N (cap - 1) w1.heap.size w.heap.size w1 (by omega) (by omega) (by omega) (by omega) (by omega) (by omega) (Nat.le_refl _) q1c q2c)
    (fun h k => h.trans k) (fun W l o o' hl _ _ _ => KF.ofPut W l o o' hl) (Below.refl _ _) (fun _ => rfl)
    (fun pre W => (∃ v, Boxed W w.heap.size 29 v ∧ W.ownsRow w1.heap.size 51 5 v pre.length (efC (pre.map fun x => efAt l x.1)) ∧ True) ∧ KF w1.heap.size w.heap.size w1 W)
    (fun _ _ _ => False)
    (OwnFrom.and (Own.from (holdsRow_own w1.heap.size w.heap.size 29 51 5 (fun pre : List (Ix N) => pre.length) (fun pre : List (Ix N) => efC (pre.map fun x => efAt l x.1)) (fun _ _ => True)) _) (KF.own rfl))
    (fun _ _ _ _ _ hs _ _ => hs)
    ⟨⟨_, bO, World.ownsRow_nil _ _ _ _, trivial⟩, KF.refl _ _ _⟩
    (a₁ := _) ?assign ?body ?done ?stop
  case assign =>
    intro l' x W K hK
    gi_wp2
    exact hK
  case body =>
    rintro l' pre x W ⟨⟨v, hv, hrow, _⟩, hK0⟩ hlt
    have hg0 : ∀ j, j < 5 → W.cell? ⟨b, off + 1 + 5 * x.1 + j, none⟩ = some (.int .u8 (byAt l (1 + 5 * x.1 + j))) := fun j hj => (hK0.cell (by omega) (by omega)).trans (HC.out x.1 x.2 j hj)
    have HEO := Lib.hid (effectOf_any b (off + 1 + 5 * x.1) 5 _ _ _ _ _ W.drew (hg0 0 (by omega)) (hg0 1 (by omega)) (hg0 2 (by omega)) (hg0 3 (by omega)) (hg0 4 (by omega)) (by have := hK0.size; show b < W.heap.size; omega) (byAt_bd l _) (byAt_bd l _) (byAt_bd l _) (byAt_bd l _) (byAt_bd l _))
    have HLN : Hid (efC (pre.map fun x => efAt l x.1) ++ eL (byAt l (1 + 5 * x.1 + 0)) (byAt l (1 + 5 * x.1 + 1)) (byAt l (1 + 5 * x.1 + 2)) (byAt l (1 + 5 * x.1 + 3)) (byAt l (1 + 5 * x.1 + 4)) = efC ((pre ++ [x]).map fun x => efAt l x.1)) := Lib.hid (by rw [List.map_append, efC_app]; rfl)
    have hzD : w1.heap.size ≤ W.heap.size := hK0.size
    have HZD := Lib.hid hzD
    have hlen9 : pre.length ≤ 4 := by omega
    clear hg0
    generalize byAt l (1 + 5 * x.1 + 0) = y0 at HEO HLN
    generalize byAt l (1 + 5 * x.1 + 1) = y1 at HEO HLN
    generalize byAt l (1 + 5 * x.1 + 2) = y2 at HEO HLN
    generalize byAt l (1 + 5 * x.1 + 3) = y3 at HEO HLN
    generalize byAt l (1 + 5 * x.1 + 4) = y4 at HEO HLN
    have hvD : Boxed W.drew w.heap.size 29 v := hv
    have HRD : Hid (W.drew.ownsRow w1.heap.size 51 5 v pre.length (efC (pre.map fun x => efAt l x.1))) := Lib.hid hrow.drew
    have HKD : Hid (KeepsOthers W W.drew) := Lib.hid (ko_below ((Below.refl _ W).drew))
    have HFD : Hid (KF w1.heap.size w.heap.size W W.drew) := Lib.hid (KF.of_below ((Below.refl _ W).drew) hzD)
    have HK0 := Lib.hid hK0
    have hzD2 : w1.heap.size ≤ W.drew.heap.size := hzD
    have hcD := hvD.cell
    clear hv hrow hK0
    gi_wp2_with fail
    refine wpIn_region_any (by kernel_rfl) ?_
    (try (change wpAnyIn _ _ _ _ _ _ _ _ _ (World.drew _)))
    refine wpAnyIn_ready (rs := [0, 1]) (by kernel_rfl) (by simp) ?_
    refine AllReadyIn.cons (o := _) rfl (fun K hK => ?_) (AllReadyIn.cons (o := _) rfl (fun K hK => ?_) AllReadyIn.nil)
    · skip
      go_simp
      first | (refine hK _ _ ?_; clear hK K) | skip
      try simp only [go_sem]
      refine wpAnyIn_ready (rs := [1]) (by kernel_rfl) (by simp) ?_
      refine AllReadyIn.cons (o := _) rfl (fun K hK => ?_) AllReadyIn.nil
      go_simp
      first | (refine hK _ _ ?_; clear hK K) | skip
      try simp only [go_sem]
      refine wpAnyIn_ready (rs := [2]) (by kernel_rfl) (by simp) ?_
      refine AllReadyIn.cons (o := _) rfl (fun K hK => ?_) AllReadyIn.nil
      go_simp
      gi_wp2_with (refine ⟨trivial, ?_⟩; gi_at_call 97; refine (CallsIn.inRound l' (callsIn_wide.2 HEO.out)).mono ?_; rintro e w2 ⟨rfl, hb2⟩; have HB2 := Lib.hid hb2; clear hb2; have hv2 : Boxed w2 w.heap.size 29 v := (HB2.out.block w.heap.size hvD.lt).trans hvD; have hc2 := hv2.cell)
      first | (refine hK _ _ ?_; clear hK K) | skip
      try simp only [go_sem]
      refine wpAnyIn_ready (rs := [3]) (by kernel_rfl) (by simp) ?_
      refine AllReadyIn.cons (o := _) rfl (fun K hK => ?_) AllReadyIn.nil
      have hv3 : Boxed (w2.alloc (.cells #[.int .i64 y0, .int .i64 y1, .int .i64 y2, .int .i64 y3, .int .i64 y4] 51)) w.heap.size 29 v := hv2.alloc _
      have hc3 := hv3.cell
      go_simp
      first | (refine hK _ _ ?_; clear hK K) | skip
      try simp only [go_sem]
      refine wpAnyIn_ready (rs := [4]) (by kernel_rfl) (by simp) ?_
      refine AllReadyIn.cons (o := _) rfl (fun K hK => ?_) AllReadyIn.nil
      refine stepIn_append _ (by rfl) _ _ 29 (by rfl) w1.heap.size 51 i0 (eV 0 0 0 0 0) 5 40 Tryz.underlying29 hi hz0 hz1 hz2 rfl (by decide) v pre.length _ (by rfl) ((own_below HRD.out HB2.out).alloc _) ⟨w2.heap.size, 0, none⟩ 1 1 (eL y0 y1 y2 y3 y4) (by rfl) (by rfl) (fun j u hu => by rw [addr_add, Nat.zero_add]; exact ((has.new w2 51 (eL y0 y1 y2 y3 y4)).cell j).trans hu) (by simp [Value.oneCell']) (by unfold maxLen; omega) (by omega) (by have := HB2.out.size; simp; omega) ?_
      intro v' w3 hown' hgrow
      obtain ⟨gg, cc, rfl⟩ := ownsRow_succ hown'
      obtain ⟨hq1, hq2, hq3, hq4, hq5⟩ := appK hv2 (by decide) (own_below HRD.out HB2.out) (by have := HB2.out.size; omega) hown' hgrow
      have HQ2 := Lib.hid hq2; have HQ3 := Lib.hid hq3; have HQ4 := Lib.hid hq4; have HQ5 := Lib.hid hq5; have hc4 := hq1.cell; have hf4 := hq1.frozen
      clear hown' hgrow hq2 hq3 hq4 hq5
      first | (refine hK _ _ ?_; clear hK K) | skip
      try simp only [go_sem]
      refine wpAnyIn_ready (rs := [5]) (by kernel_rfl) (by simp) ?_
      refine AllReadyIn.cons (o := _) rfl (fun K hK => ?_) AllReadyIn.nil
      go_simp
      first | (refine hK _ _ ?_; clear hK K) | skip
      try simp only [go_sem]
      refine wpAnyIn_done (by kernel_rfl) ?_ _
      have KO := ((ko_below HB2.out).trans HQ4.out)
      exact ⟨((HKD.out.trans KO)).from _, (HFD.out.trans (KF.of_below HB2.out (by have := HZD.out; omega))).trans HQ5.out, ⟨_, HQ2.out, by rw [List.length_append, ← HLN.out]; exact HQ3.out, trivial⟩, HK0.out.trans ((HFD.out.trans (KF.of_below HB2.out (by have := HZD.out; omega))).trans HQ5.out)⟩
    · skip
      go_simp
      first | (refine hK _ _ ?_; clear hK K) | skip
      try simp only [go_sem]
      refine wpAnyIn_ready (rs := [0, 2]) (by kernel_rfl) (by simp) ?_
      refine AllReadyIn.cons (o := _) rfl (fun K hK => ?_) (AllReadyIn.cons (o := _) rfl (fun K hK => ?_) AllReadyIn.nil)
      · skip
        go_simp
        first | (refine hK _ _ ?_; clear hK K) | skip
        try simp only [go_sem]
        refine wpAnyIn_ready (rs := [2]) (by kernel_rfl) (by simp) ?_
        refine AllReadyIn.cons (o := _) rfl (fun K hK => ?_) AllReadyIn.nil
        go_simp
        gi_wp2_with (refine ⟨trivial, ?_⟩; gi_at_call 97; refine (CallsIn.inRound l' (callsIn_wide.2 HEO.out)).mono ?_; rintro e w2 ⟨rfl, hb2⟩; have HB2 := Lib.hid hb2; clear hb2; have hv2 : Boxed w2 w.heap.size 29 v := (HB2.out.block w.heap.size hvD.lt).trans hvD; have hc2 := hv2.cell)
        first | (refine hK _ _ ?_; clear hK K) | skip
        try simp only [go_sem]
        refine wpAnyIn_ready (rs := [3]) (by kernel_rfl) (by simp) ?_
        refine AllReadyIn.cons (o := _) rfl (fun K hK => ?_) AllReadyIn.nil
        have hv3 : Boxed (w2.alloc (.cells #[.int .i64 y0, .int .i64 y1, .int .i64 y2, .int .i64 y3, .int .i64 y4] 51)) w.heap.size 29 v := hv2.alloc _
        have hc3 := hv3.cell
        go_simp
        first | (refine hK _ _ ?_; clear hK K) | skip
        try simp only [go_sem]
        refine wpAnyIn_ready (rs := [4]) (by kernel_rfl) (by simp) ?_
        refine AllReadyIn.cons (o := _) rfl (fun K hK => ?_) AllReadyIn.nil
        refine stepIn_append _ (by rfl) _ _ 29 (by rfl) w1.heap.size 51 i0 (eV 0 0 0 0 0) 5 40 Tryz.underlying29 hi hz0 hz1 hz2 rfl (by decide) v pre.length _ (by rfl) ((own_below HRD.out HB2.out).alloc _) ⟨w2.heap.size, 0, none⟩ 1 1 (eL y0 y1 y2 y3 y4) (by rfl) (by rfl) (fun j u hu => by rw [addr_add, Nat.zero_add]; exact ((has.new w2 51 (eL y0 y1 y2 y3 y4)).cell j).trans hu) (by simp [Value.oneCell']) (by unfold maxLen; omega) (by omega) (by have := HB2.out.size; simp; omega) ?_
        intro v' w3 hown' hgrow
        obtain ⟨gg, cc, rfl⟩ := ownsRow_succ hown'
        obtain ⟨hq1, hq2, hq3, hq4, hq5⟩ := appK hv2 (by decide) (own_below HRD.out HB2.out) (by have := HB2.out.size; omega) hown' hgrow
        have HQ2 := Lib.hid hq2; have HQ3 := Lib.hid hq3; have HQ4 := Lib.hid hq4; have HQ5 := Lib.hid hq5; have hc4 := hq1.cell; have hf4 := hq1.frozen
        clear hown' hgrow hq2 hq3 hq4 hq5
        first | (refine hK _ _ ?_; clear hK K) | skip
        try simp only [go_sem]
        refine wpAnyIn_ready (rs := [5]) (by kernel_rfl) (by simp) ?_
        refine AllReadyIn.cons (o := _) rfl (fun K hK => ?_) AllReadyIn.nil
        go_simp
        first | (refine hK _ _ ?_; clear hK K) | skip
        try simp only [go_sem]
        refine wpAnyIn_done (by kernel_rfl) ?_ _
        have KO := ((ko_below HB2.out).trans HQ4.out)
        exact ⟨((HKD.out.trans KO)).from _, (HFD.out.trans (KF.of_below HB2.out (by have := HZD.out; omega))).trans HQ5.out, ⟨_, HQ2.out, by rw [List.length_append, ← HLN.out]; exact HQ3.out, trivial⟩, HK0.out.trans ((HFD.out.trans (KF.of_below HB2.out (by have := HZD.out; omega))).trans HQ5.out)⟩
      · skip
        go_simp
        gi_wp2_with (refine ⟨trivial, ?_⟩; gi_at_call 97; refine (CallsIn.inRound l' (callsIn_wide.2 HEO.out)).mono ?_; rintro e w2 ⟨rfl, hb2⟩; have HB2 := Lib.hid hb2; clear hb2; have hv2 : Boxed w2 w.heap.size 29 v := (HB2.out.block w.heap.size hvD.lt).trans hvD; have hc2 := hv2.cell)
        first | (refine hK _ _ ?_; clear hK K) | skip
        try simp only [go_sem]
        refine wpAnyIn_ready (rs := [0, 3]) (by kernel_rfl) (by simp) ?_
        refine AllReadyIn.cons (o := _) rfl (fun K hK => ?_) (AllReadyIn.cons (o := _) rfl (fun K hK => ?_) AllReadyIn.nil)
        · skip
          go_simp
          first | (refine hK _ _ ?_; clear hK K) | skip
          try simp only [go_sem]
          refine wpAnyIn_ready (rs := [3]) (by kernel_rfl) (by simp) ?_
          refine AllReadyIn.cons (o := _) rfl (fun K hK => ?_) AllReadyIn.nil
          have hv3 : Boxed (w2.alloc (.cells #[.int .i64 y0, .int .i64 y1, .int .i64 y2, .int .i64 y3, .int .i64 y4] 51)) w.heap.size 29 v := hv2.alloc _
          have hc3 := hv3.cell
          go_simp
          first | (refine hK _ _ ?_; clear hK K) | skip
          try simp only [go_sem]
          refine wpAnyIn_ready (rs := [4]) (by kernel_rfl) (by simp) ?_
          refine AllReadyIn.cons (o := _) rfl (fun K hK => ?_) AllReadyIn.nil
          refine stepIn_append _ (by rfl) _ _ 29 (by rfl) w1.heap.size 51 i0 (eV 0 0 0 0 0) 5 40 Tryz.underlying29 hi hz0 hz1 hz2 rfl (by decide) v pre.length _ (by rfl) ((own_below HRD.out HB2.out).alloc _) ⟨w2.heap.size, 0, none⟩ 1 1 (eL y0 y1 y2 y3 y4) (by rfl) (by rfl) (fun j u hu => by rw [addr_add, Nat.zero_add]; exact ((has.new w2 51 (eL y0 y1 y2 y3 y4)).cell j).trans hu) (by simp [Value.oneCell']) (by unfold maxLen; omega) (by omega) (by have := HB2.out.size; simp; omega) ?_
          intro v' w3 hown' hgrow
          obtain ⟨gg, cc, rfl⟩ := ownsRow_succ hown'
          obtain ⟨hq1, hq2, hq3, hq4, hq5⟩ := appK hv2 (by decide) (own_below HRD.out HB2.out) (by have := HB2.out.size; omega) hown' hgrow
          have HQ2 := Lib.hid hq2; have HQ3 := Lib.hid hq3; have HQ4 := Lib.hid hq4; have HQ5 := Lib.hid hq5; have hc4 := hq1.cell; have hf4 := hq1.frozen
          clear hown' hgrow hq2 hq3 hq4 hq5
          first | (refine hK _ _ ?_; clear hK K) | skip
          try simp only [go_sem]
          refine wpAnyIn_ready (rs := [5]) (by kernel_rfl) (by simp) ?_
          refine AllReadyIn.cons (o := _) rfl (fun K hK => ?_) AllReadyIn.nil
          go_simp
          first | (refine hK _ _ ?_; clear hK K) | skip
          try simp only [go_sem]
          refine wpAnyIn_done (by kernel_rfl) ?_ _
          have KO := ((ko_below HB2.out).trans HQ4.out)
          exact ⟨((HKD.out.trans KO)).from _, (HFD.out.trans (KF.of_below HB2.out (by have := HZD.out; omega))).trans HQ5.out, ⟨_, HQ2.out, by rw [List.length_append, ← HLN.out]; exact HQ3.out, trivial⟩, HK0.out.trans ((HFD.out.trans (KF.of_below HB2.out (by have := HZD.out; omega))).trans HQ5.out)⟩
        · skip
          have hv3 : Boxed (w2.alloc (.cells #[.int .i64 y0, .int .i64 y1, .int .i64 y2, .int .i64 y3, .int .i64 y4] 51)) w.heap.size 29 v := hv2.alloc _
          have hc3 := hv3.cell
          go_simp
          first | (refine hK _ _ ?_; clear hK K) | skip
          try simp only [go_sem]
          refine wpAnyIn_ready (rs := [0]) (by kernel_rfl) (by simp) ?_
          refine AllReadyIn.cons (o := _) rfl (fun K hK => ?_) AllReadyIn.nil
          go_simp
          first | (refine hK _ _ ?_; clear hK K) | skip
          try simp only [go_sem]
          refine wpAnyIn_ready (rs := [4]) (by kernel_rfl) (by simp) ?_
          refine AllReadyIn.cons (o := _) rfl (fun K hK => ?_) AllReadyIn.nil
          refine stepIn_append _ (by rfl) _ _ 29 (by rfl) w1.heap.size 51 i0 (eV 0 0 0 0 0) 5 40 Tryz.underlying29 hi hz0 hz1 hz2 rfl (by decide) v pre.length _ (by rfl) ((own_below HRD.out HB2.out).alloc _) ⟨w2.heap.size, 0, none⟩ 1 1 (eL y0 y1 y2 y3 y4) (by rfl) (by rfl) (fun j u hu => by rw [addr_add, Nat.zero_add]; exact ((has.new w2 51 (eL y0 y1 y2 y3 y4)).cell j).trans hu) (by simp [Value.oneCell']) (by unfold maxLen; omega) (by omega) (by have := HB2.out.size; simp; omega) ?_
          intro v' w3 hown' hgrow
          obtain ⟨gg, cc, rfl⟩ := ownsRow_succ hown'
          obtain ⟨hq1, hq2, hq3, hq4, hq5⟩ := appK hv2 (by decide) (own_below HRD.out HB2.out) (by have := HB2.out.size; omega) hown' hgrow
          have HQ2 := Lib.hid hq2; have HQ3 := Lib.hid hq3; have HQ4 := Lib.hid hq4; have HQ5 := Lib.hid hq5; have hc4 := hq1.cell; have hf4 := hq1.frozen
          clear hown' hgrow hq2 hq3 hq4 hq5
          first | (refine hK _ _ ?_; clear hK K) | skip
          try simp only [go_sem]
          refine wpAnyIn_ready (rs := [5]) (by kernel_rfl) (by simp) ?_
          refine AllReadyIn.cons (o := _) rfl (fun K hK => ?_) AllReadyIn.nil
          go_simp
          first | (refine hK _ _ ?_; clear hK K) | skip
          try simp only [go_sem]
          refine wpAnyIn_done (by kernel_rfl) ?_ _
          have KO := ((ko_below HB2.out).trans HQ4.out)
          exact ⟨((HKD.out.trans KO)).from _, (HFD.out.trans (KF.of_below HB2.out (by have := HZD.out; omega))).trans HQ5.out, ⟨_, HQ2.out, by rw [List.length_append, ← HLN.out]; exact HQ3.out, trivial⟩, HK0.out.trans ((HFD.out.trans (KF.of_below HB2.out (by have := HZD.out; omega))).trans HQ5.out)⟩
  case done =>
    rintro D ys W hD rfl ⟨⟨v, hv, hrow, _⟩, hK0⟩ hKd
    have e1 : (ixs N N).map (fun x => efAt l x.1) = decL l N := by
      have := congrArg (List.map (efAt l)) (ixs_map N N (Nat.le_refl _))
      simpa [decL, List.map_map, Function.comp_def] using this
    have e2 := ixs_len N N (Nat.le_refl _)
    have e3 := decL_len l N
    rw [e1] at hrow
    rw [e2] at hrow
    obtain ⟨sv, cv, rfl, hsv, _, _, hsb⟩ := own_form hrow
    have HSB := Lib.hid hsb
    have HSV : Hid (∀ b', (0 < N ∧ sv = some ⟨b', 0, none⟩ ∨ 0 < N ∧ ∃ o', sv = some ⟨b', o', none⟩) → w1.heap.size ≤ b' ∧ b' ≠ D) := Lib.hid (by
      rintro b' hb'
      obtain ⟨hN0, o', ho'⟩ : 0 < N ∧ ∃ o', sv = some ⟨b', o', none⟩ := by rcases hb' with ⟨h1, h2⟩ | h2; exact ⟨h1, 0, h2⟩; exact h2
      refine ⟨hsb _ ho', ?_⟩
      obtain ⟨b2, o2, e2', _, hcc⟩ := hsv (by rw [efC_len, e3]; omega)
      rw [ho'] at e2'
      cases e2'
      have := hcc 0 _ (List.getElem?_eq_getElem (by rw [efC_len, e3]; omega))
      rintro rfl
      simp [World.cell?, hKd] at this)
    have hBW : Below w.heap.size w W := HB1.out.trans (hK0.below (by omega))
    have hE : EfsAt W sv N (decL l N) := by have := EfsAt.of_src hsv (decL_wf l N) (by rw [e3]; omega); rw [e3] at this; exact this
    have hc := hv.cell
    have hf := hv.frozen
    have hA := All_any sv N cv (decL l N) W hE
    have HA := Lib.hid hA
    have HE := Lib.hid hE
    have HBW := Lib.hid hBW
    have HKd := Lib.hid hKd
    have hvl := hv.lt
    have HV := Lib.hid hv
    clear hA hE hBW hrow hsv hKd hv q1c q2c bO hK0
    have eAll : allB (decL l N) = (decL l N).all Ef.ok := by unfold allB; rw [e3, decide_eq_true (by omega), Bool.true_and]
    cases hx : (decL l N).all Ef.ok
    · rw [eAll, hx] at HA
      have H := Lib.hid (decR_3 (l := l) (by rw [HL.out]; exact h0) (by rw [HN.out]; exact h4) (by rw [HL.out, HN.out]; exact h5) (by rw [HN.out]; exact hx))
      gi_wp2_with (refine ⟨trivial, ?_⟩; gi_at_call 63; refine (callsIn_wide.2 HA.out).mono ?_; rintro e w4 ⟨rfl, hb4⟩; have HB4 := Lib.hid hb4; clear hb4; have hv4 : Boxed w4 w.heap.size 29 (.slice sv N cv) := (HB4.out.block w.heap.size hvl).trans HV.out; have HV4 := Lib.hid hv4; have hc4 := hv4.cell; have hf4 := hv4.frozen; clear hv4)
      have hDW : D < W.heap.size := (Array.getElem?_eq_some_iff.1 HKd.out).1
      have hDG : D ≠ w.heap.size := by omega
      have hK2 : (w4.setCell ⟨w.heap.size, 0, none⟩ (.slice none 0 0)).heap[D]? = some (.deferred (some [])) := (Below.heap_setCell _ _ _ _ hDG).trans ((HB4.out.block D hDW).trans HKd.out)
      have hb6 : Boxed (w4.setCell ⟨w.heap.size, 0, none⟩ (.slice none 0 0)) w.heap.size 29 (.slice none 0 0) := HV4.out.set _
      have hB6 : Below w.heap.size w (w4.setCell ⟨w.heap.size, 0, none⟩ (.slice none 0 0)) := (HBW.out.trans (HB4.out.mono (by have := HBW.out.size; omega))).setCell (p := ⟨w.heap.size, 0, none⟩) (Nat.le_refl _) _
      refine ⟨by simp, .inl ⟨_, _, rfl, run_takeDeferred hK2, ?_⟩⟩
      have hb7 := hb6.kept (grownBy_putObj' _ D (.deferred none)) (fun e => hDG (by cases e; rfl))
      have hB7 := hB6.trans (belowK_b (w := w) (Nat.le_refl _) _ D _ (.deferred none) (by omega) hK2 rfl rfl)
      have hc7 := hb7.cell
      exact ⟨.tuple #[.slice none 0 0, .int .i64 0, .int .i64 6], by simp [results, Tryz.results77, go_sem, hc7], decPost_no H.out hB7⟩
    · rw [eAll, hx] at HA
      have H := Lib.hid (decR_4 (l := l) (by rw [HL.out]; exact h0) (by rw [HN.out]; exact h4) (by rw [HL.out, HN.out]; exact h5) (by rw [HN.out]; exact hx))
      gi_wp2_with (refine ⟨trivial, ?_⟩; gi_at_call 63; refine (callsIn_wide.2 HA.out).mono ?_; rintro e w4 ⟨rfl, hb4⟩; have HB4 := Lib.hid hb4; clear hb4; have hv4 : Boxed w4 w.heap.size 29 (.slice sv N cv) := (HB4.out.block w.heap.size hvl).trans HV.out; have HV4 := Lib.hid hv4; have hc4 := hv4.cell; have hf4 := hv4.frozen; clear hv4)
      have hDW : D < W.heap.size := (Array.getElem?_eq_some_iff.1 HKd.out).1
      have hDG : D ≠ w.heap.size := by omega
      have hK2 : (w4.setCell ⟨w.heap.size, 0, none⟩ (.slice sv N cv)).heap[D]? = some (.deferred (some [])) := (Below.heap_setCell _ _ _ _ hDG).trans ((HB4.out.block D hDW).trans HKd.out)
      have hb6 : Boxed (w4.setCell ⟨w.heap.size, 0, none⟩ (.slice sv N cv)) w.heap.size 29 (.slice sv N cv) := HV4.out.set _
      have hB6 : Below w.heap.size w (w4.setCell ⟨w.heap.size, 0, none⟩ (.slice sv N cv)) := (HBW.out.trans (HB4.out.mono (by have := HBW.out.size; omega))).setCell (p := ⟨w.heap.size, 0, none⟩) (Nat.le_refl _) _
      refine ⟨by simp, .inl ⟨_, _, rfl, run_takeDeferred hK2, ?_⟩⟩
      have hb7 := hb6.kept (grownBy_putObj' _ D (.deferred none)) (fun e => hDG (by cases e; rfl))
      have hB7 := hB6.trans (belowK_b (w := w) (Nat.le_refl _) _ D _ (.deferred none) (by omega) hK2 rfl rfl)
      have hc7 := hb7.cell
      refine ⟨.tuple #[.slice sv N cv, .int .i64 ((1 : Int) + 5 * N), .int .i64 0], by simp [results, Tryz.results77, go_sem, hc7], ?_⟩
      rw [H.out, HN.out]
      refine ⟨sv, cv, ?_, ?_, hB7, fun a ha => Nat.le_trans HB1.out.size (HSB.out a ha)⟩
      · rw [e3]; simp
      · rw [e3]
        exact (HE.out.below HB4.out (Nat.le_refl _)).moved (fun b' hb' => by
          have hbg := HSV.out _ hb'
          exact (World.putObj_heap_other hbg.2).trans (Below.heap_setCell _ _ _ _ (by show b' ≠ w.heap.size; omega))) (by have := HB4.out.size; have h9 := hB7.size; simp [World.putObj, World.setCell] at *; try omega)
  case stop =>
    rintro D c pre W _ _ h _
    exact h.elim
end Go.Proofs.YtlhnnjllbcglcaaGreatDoor.efFn
