/- What the reference's Has, Take, Claim, Release and All return. -/
import Derived.Test.YtefncefmolphfaaDoorIdRef
namespace Go.Proofs.YtefncefmolphfaaDoor.idFn
open Go.ChangeShapes Go.WideShapes Go.ChangeAt Go.RowKit drMem idBits
set_option linter.unusedVariables false

def roPost (n : Nat) (fl' : List Bool) (rest : List Value) (w : World) (e : Ending) (w' : World) : Prop :=
  ∃ q c, e = .returned (.tuple (#[.slice (some ⟨q, 0, none⟩) n c] ++ rest.toArray)) ∧ Rf w' q c fl' ∧ Below w.heap.size w w'
theorem rHas_any (q c n : Nat) (fl : List Bool) (id : Int) (w : World) (h : Rf w q c fl) (hn : fl.length = n) :
    Calls Tryd.prog 27 #[.slice (some ⟨q, 0, none⟩) n c, .int .i64 id] w fun e w' => e = .returned (.bool (hasB fl id)) ∧ w = w' := by
  have hl2 := h.l2
  by_cases h1 : id < 1 ∨ (n : Int) < id
  · have e : hasB fl id = false := by unfold hasB; rw [hn, if_pos h1]
    rw [e]
    rw [hn] at hl2
    clear h hn e
    by_cases h3 : 1 ≤ id
    · have d0 : decide (1 ≤ id) = true := by simpa using h3
      have d1 : decide (id ≤ (n : Int)) = false := by simp; omega
      clear h1 h3
      go_enter Tryd.func27, Tryd.ntmps27
      go_wp2
      go_ret
      exact ⟨rfl, rfl⟩
    · have d0 : decide (1 ≤ id) = false := by simpa using h3
      clear h1 h3
      go_enter Tryd.func27, Tryd.ntmps27
      go_wp2
      go_ret
      exact ⟨rfl, rfl⟩
  · obtain ⟨k, hk⟩ : ∃ k : Nat, id = (k : Int) + 1 := ⟨id.toNat - 1, by omega⟩
    have e : hasB fl id = fl.getD k false := by rw [hk]; exact has_at fl k (by omega)
    have x0 := h.cell k (by omega)
    rw [e]
    have d0 : decide (1 ≤ id) = true := by simp; omega
    have d1 : decide (id ≤ (n : Int)) = true := by simp; omega
    have e1 : id - 1 = (k : Int) := by omega
    have hkn : k < n := by omega
    have b0 : 1 ≤ id := by omega
    have b1 : id ≤ 4096 := by omega
    clear h hn e hk h1 hl2
    go_enter Tryd.func27, Tryd.ntmps27
    go_wp2
    go_ret
    exact ⟨rfl, rfl⟩
set_option maxHeartbeats 1000000 in
theorem rTake_any (q c n : Nat) (fl : List Bool) (w : World) (h : Rf w q c fl) (hn : fl.length = n) :
    Calls Tryd.prog 24 #[.slice (some ⟨q, 0, none⟩) n c] w (roPost n (tkF fl) [.int .i64 (tkV fl), .int .i64 (tkE fl)] w) := by
  have hf := isFF_of fl
  have hl2 := h.l2
  rw [hn] at hl2
  have H := Lib.hid h
  have HN := Lib.hid hn
  have FF := Lib.hid hf
  clear h hn hf
  go_enter Tryd.func24, Tryd.ntmps24
  go_wp2
  go_loop [5] (fun i => ∃ k : Nat, k ≤ n ∧ k ≤ ffOf fl ∧ i = .int .i64 ((k : Int) + 1)) (fun i => n + 1 - (intOf i).toNat)
  case atStart => exact ⟨0, Nat.zero_le _, Nat.zero_le _, rfl⟩
  case round =>
    obtain ⟨k, hk, hkf, rfl⟩ := hrel
    by_cases hlt : k < n
    · have hle : decide ((k : Int) + 1 ≤ (n : Int)) = true := by simp; omega
      have x0 := H.out.cell k (by rw [HN.out]; exact hlt)
      cases hb : fl.getD k false with
      | true =>
        rw [hb] at x0
        have hk1 : k + 1 ≤ ffOf fl := by
          rcases Nat.lt_or_ge k (ffOf fl) with h1 | h1
          · omega
          · have e : k = ffOf fl := by omega
            rw [e, FF.out.2] at hb; cases hb
        clear hb
        go_wp2
        go_round
        case rel => exact ⟨k + 1, by omega, hk1, by go_num⟩
        case measure => simp [intOf]; omega
      | false =>
        rw [hb] at x0
        have hff : ffOf fl = k := by
          rcases Nat.lt_or_ge k (ffOf fl) with h1 | h1
          · rw [FF.out.1 k h1] at hb; cases hb
          · omega
        have t1 : tkV fl = (k : Int) + 1 := by unfold tkV; rw [hff, HN.out, if_pos hlt]
        have t2 : tkE fl = 0 := by unfold tkE; rw [hff, HN.out, if_pos hlt]
        have t3 : tkF fl = fl.set k true := by unfold tkF; rw [hff, HN.out, if_pos hlt]
        rw [t1, t2, t3]
        have HW := Lib.hid (rWith q c n fl k true w H.out HN.out hlt)
        clear hb hff t1 t2 t3 hkf
        go_wp2_with (go_at_call 38; refine HW.out.mono ?_; rintro e w1 ⟨q1, c1, rfl, hr, _, hb⟩; have R := Lib.hid hr; have B := Lib.hid hb; clear hr hb)
        go_ret3
        exact ⟨q1, c1, rfl, R.out, B.out⟩
    · obtain rfl : k = n := by omega
      have hle : decide ((k : Int) + 1 ≤ (k : Int)) = false := by simp; omega
      have hff : ¬ ffOf fl < fl.length := by rw [HN.out]; omega
      have t1 : tkV fl = 0 := by unfold tkV; rw [if_neg hff]
      have t2 : tkE fl = 7 := by unfold tkE; rw [if_neg hff]
      have t3 : tkF fl = fl := by unfold tkF; rw [if_neg hff]
      have T1 := Lib.hid t1
      have T2 := Lib.hid t2
      have T3 := Lib.hid t3
      clear hff t1 t2 t3 hkf
      go_wp2
      go_ret3
      exact ⟨q, c, by rw [T1.out, T2.out]; rfl, by rw [T3.out]; exact H.out, Below.refl _ _⟩
set_option maxHeartbeats 1000000 in
theorem rClaim_any (q c n : Nat) (fl : List Bool) (id : Int) (w : World) (h : Rf w q c fl) (hn : fl.length = n) :
    Calls Tryd.prog 25 #[.slice (some ⟨q, 0, none⟩) n c, .int .i64 id] w (roPost n (clF fl id) [.int .i64 (clE fl id)] w) := by
  have hl2 := h.l2
  rw [hn] at hl2
  have H := Lib.hid h
  by_cases h1 : id < 1 ∨ (n : Int) < id
  · have e1 : clE fl id = 2 := by unfold clE; rw [hn, if_pos h1]
    have e2 : clF fl id = fl := by unfold clF; rw [e1]; rfl
    rw [e1, e2]
    clear h hn e1 e2
    by_cases h3 : id < 1
    · clear h1
      go_enter Tryd.func25, Tryd.ntmps25
      go_wp2
      go_ret2
      exact ⟨q, c, rfl, H.out, Below.refl _ _⟩
    · have d0 : decide (id < 1) = false := by simpa using h3
      have d1 : decide ((n : Int) < id) = true := by simp; omega
      clear h1 h3
      go_enter Tryd.func25, Tryd.ntmps25
      go_wp2
      go_ret2
      exact ⟨q, c, rfl, H.out, Below.refl _ _⟩
  · obtain ⟨k, hk⟩ : ∃ k : Nat, id = (k : Int) + 1 := ⟨id.toNat - 1, by omega⟩
    have hki : id.toNat - 1 = k := by omega
    have hkn : k < n := by omega
    have x0 := h.cell k (by omega)
    have d0 : decide (id < 1) = false := by simp; omega
    have d1 : decide ((n : Int) < id) = false := by simp; omega
    have e0 : id - 1 = (k : Int) := by omega
    have b0 : 1 ≤ id := by omega
    have b1 : id ≤ 4096 := by omega
    have hw := rWith q c n fl k true w h hn hkn
    rw [← hk] at hw
    have HW := Lib.hid hw
    cases hf : fl.getD k false with
    | true =>
      rw [hf] at x0
      have e1 : clE fl id = 11 := by unfold clE; rw [hn, if_neg h1, hki, if_pos hf]
      have e2 : clF fl id = fl := by unfold clF; rw [e1]; rfl
      rw [e1, e2]
      clear h hn e1 e2 hf hki hk h1 hw HW
      go_enter Tryd.func25, Tryd.ntmps25
      go_wp2
      go_ret2
      exact ⟨q, c, rfl, H.out, Below.refl _ _⟩
    | false =>
      rw [hf] at x0
      have e1 : clE fl id = 0 := by unfold clE; rw [hn, if_neg h1, hki, if_neg (by rw [hf]; simp)]
      have e2 : clF fl id = fl.set k true := by unfold clF; rw [e1, hki]; rfl
      rw [e1, e2]
      clear h hn e1 e2 hf hki hk h1 hw
      go_enter Tryd.func25, Tryd.ntmps25
      go_wp2_with (go_at_call 38; refine HW.out.mono ?_; rintro e w1 ⟨q1, c1, rfl, hr, _, hb⟩; have R := Lib.hid hr; have B := Lib.hid hb; clear hr hb)
      go_ret2
      exact ⟨q1, c1, rfl, R.out, B.out⟩
set_option maxHeartbeats 1000000 in
theorem rRelease_any (q c n : Nat) (fl : List Bool) (id : Int) (w : World) (h : Rf w q c fl) (hn : fl.length = n) :
    Calls Tryd.prog 26 #[.slice (some ⟨q, 0, none⟩) n c, .int .i64 id] w (roPost n (frF fl id) [.int .i64 (frE fl id)] w) := by
  have hl2 := h.l2
  rw [hn] at hl2
  have H := Lib.hid h
  by_cases h1 : id < 1 ∨ (n : Int) < id
  · have e1 : frE fl id = 2 := by unfold frE; rw [hn, if_pos h1]
    have e2 : frF fl id = fl := by unfold frF; rw [e1]; rfl
    rw [e1, e2]
    clear h hn e1 e2
    by_cases h3 : id < 1
    · clear h1
      go_enter Tryd.func26, Tryd.ntmps26
      go_wp2
      go_ret2
      exact ⟨q, c, rfl, H.out, Below.refl _ _⟩
    · have d0 : decide (id < 1) = false := by simpa using h3
      have d1 : decide ((n : Int) < id) = true := by simp; omega
      clear h1 h3
      go_enter Tryd.func26, Tryd.ntmps26
      go_wp2
      go_ret2
      exact ⟨q, c, rfl, H.out, Below.refl _ _⟩
  · obtain ⟨k, hk⟩ : ∃ k : Nat, id = (k : Int) + 1 := ⟨id.toNat - 1, by omega⟩
    have hki : id.toNat - 1 = k := by omega
    have hkn : k < n := by omega
    have x0 := h.cell k (by omega)
    have d0 : decide (id < 1) = false := by simp; omega
    have d1 : decide ((n : Int) < id) = false := by simp; omega
    have e0 : id - 1 = (k : Int) := by omega
    have b0 : 1 ≤ id := by omega
    have b1 : id ≤ 4096 := by omega
    have hw := rWith q c n fl k false w h hn hkn
    rw [← hk] at hw
    have HW := Lib.hid hw
    cases hf : fl.getD k false with
    | false =>
      rw [hf] at x0
      have e1 : frE fl id = 9 := by unfold frE; rw [hn, if_neg h1, hki, if_neg (by rw [hf]; simp)]
      have e2 : frF fl id = fl := by unfold frF; rw [e1]; rfl
      rw [e1, e2]
      clear h hn e1 e2 hf hki hk h1 hw HW
      go_enter Tryd.func26, Tryd.ntmps26
      go_wp2
      go_ret2
      exact ⟨q, c, rfl, H.out, Below.refl _ _⟩
    | true =>
      rw [hf] at x0
      have e1 : frE fl id = 0 := by unfold frE; rw [hn, if_neg h1, hki, if_pos hf]
      have e2 : frF fl id = fl.set k false := by unfold frF; rw [e1, hki]; rfl
      rw [e1, e2]
      clear h hn e1 e2 hf hki hk h1 hw
      go_enter Tryd.func26, Tryd.ntmps26
      go_wp2_with (go_at_call 38; refine HW.out.mono ?_; rintro e w1 ⟨q1, c1, rfl, hr, _, hb⟩; have R := Lib.hid hr; have B := Lib.hid hb; clear hr hb)
      go_ret2
      exact ⟨q1, c1, rfl, R.out, B.out⟩
def raPost (fl : List Bool) (w : World) (e : Ending) (w' : World) : Prop := ∃ sv cv, e = .returned (.slice sv (fl.count true) cv) ∧ src w' sv (is (ids fl fl.length)) ∧ (∀ a, sv = some a → w.heap.size ≤ a.block) ∧ Below w.heap.size w w'
set_option maxHeartbeats 2000000 in
theorem rAll_any (q c n : Nat) (fl : List Bool) (w : World) (h : Rf w q c fl) (hn : fl.length = n) :
    Calls Tryd.prog 17 #[.slice (some ⟨q, 0, none⟩) n c] w (raPost fl w) := by
  obtain ⟨i0, hi, hz0, hz1, hz2⟩ := info_parts infoI
  have hl2 := h.l2
  rw [hn] at hl2
  have H := Lib.hid h
  have HN := Lib.hid hn
  have hil : Hid (∀ k, (ids fl k).length ≤ k) := Lib.hid fun k => by
    unfold ids
    rw [List.length_map]
    exact Nat.le_trans (List.length_filter_le _ _) (by simp)
  clear h hn
  go_enter Tryd.func17, Tryd.ntmps17
  go_wp2
  go_loopg [3, 4] n (fun gh v i wx => ∃ (k L : Nat), k ≤ n ∧ gh = n - k ∧ i = .int .i64 ((k : Int) + 1) ∧ Hid ((ids fl k).length = L) ∧ Hid (wx.ownsRow w.heap.size 3 1 v L (is (ids fl k))) ∧ Hid (Below w.heap.size w wx))
  case atStart => exact ⟨0, 0, Nat.zero_le _, rfl, rfl, Lib.hid rfl, Lib.hid (World.ownsRow_nil _ _ _ _), Lib.hid (Below.refl _ _)⟩
  case round =>
    obtain ⟨k, L, hk, rfl, rfl, hL, ho, hb⟩ := hrel
    by_cases hlt : k < n
    · have hle : decide ((k : Int) + 1 ≤ (n : Int)) = true := by simp; omega
      have x0 := (H.out.belowW hb.out).cell k (by rw [HN.out]; exact hlt)
      have hLk : L ≤ k := by have := hil.out k; rw [hL.out] at this; exact this
      cases hf : fl.getD k false with
      | true =>
        rw [hf] at x0
        have e1 := ids_yes hf
        have E1 := Lib.hid e1
        have hb0 := hb.out.size
        have hown := ho.out
        obtain ⟨sv, cv, rfl, _, _, hav⟩ := own_form hown
        have HAV := Lib.hid hav
        clear hf e1 hav
        go_wp2_with (at_builtin; refine wpList_append_own _ rfl _ _ 38 rfl w.heap.size 3 i0 (.int .i64 0) 1 8 Tryd.underlying38 hi hz0 hz1 hz2 rfl (by decide) _ _ _ rfl (hown.alloc _) ⟨wr.heap.size, 0, none⟩ 1 1 [.int .i64 ((k : Int) + 1)] rfl rfl (cell_one_new _ _ _) (by simp [Value.oneCell']) (by unfold maxLen; omega) (by omega) (by simp; omega) ?_; intro v' w1 hown1 hgrow1 _)
        have NO : Hid (w1.ownsRow w.heap.size 3 1 v' (L + 1) (is (ids fl (k + 1)))) := Lib.hid (by rw [E1.out]; unfold is; rw [List.map_append]; exact hown1)
        have NL : Hid ((ids fl (k + 1)).length = L + 1) := Lib.hid (by rw [E1.out, List.length_append, hL.out]; rfl)
        have NB : Hid (Below w.heap.size w w1) := Lib.hid (by
          have hr : ∀ j, (Value.slice sv L cv).ownBlock = some j → w.heap.size ≤ j := by
            intro j hj
            cases sv with
            | none => cases hj
            | some a => cases hj; exact HAV.out a rfl
          exact (hb.out.alloc hb0 _).grown hgrow1 (by simp; omega) hr)
        clear hown1 hgrow1 hown
        go_wp2
        go_roundg (n - (k + 1))
        case measure => go_light; omega
        case rel => go_light; exact ⟨k + 1, L + 1, by omega, rfl, by go_num, NL, NO, NB⟩
      | false =>
        rw [hf] at x0
        have e1 := ids_no hf
        have E1 := Lib.hid e1
        clear hf e1
        go_wp2
        go_roundg (n - (k + 1))
        case measure => go_light; omega
        case rel => go_light; exact ⟨k + 1, L, by omega, rfl, by go_num, by rw [E1.out]; exact hL, by rw [E1.out]; exact ho, hb⟩
    · obtain rfl : k = n := by omega
      have hle : decide ((k : Int) + 1 ≤ (k : Int)) = false := by simp; omega
      obtain ⟨sv, cv, rfl, hsv, _, hbv⟩ := own_form ho.out
      have SV := Lib.hid hsv
      have BV := Lib.hid hbv
      clear hsv hbv ho
      go_wp2
      go_ret
      refine ⟨sv, cv, ?_, by rw [HN.out]; exact SV.out, BV.out, hb.out⟩
      have e : L = fl.count true := by rw [← hL.out, ← HN.out, ids_len]
      rw [← e]; rfl
end Go.Proofs.YtefncefmolphfaaDoor.idFn
