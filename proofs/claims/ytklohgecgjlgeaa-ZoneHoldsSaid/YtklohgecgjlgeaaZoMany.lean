/- The law of a pile of many ids. -/
import Derived.Test.YtklohgecgjlgeaaZoZF
namespace Go.Proofs.Ytklohgecgjlgeaa.zoFn
open Go.ChangeShapes Go.WideShapes Go.ChangeAt Go.RowKit drMem
set_option linter.unusedVariables false
variable {F G : Nat → Prop} {w w' W W' : World} {b gl mb : Nat} {L M : List (List Int)}

/- the law's own list beside the zones -/
structure MS (w : World) (b gl mb : Nat) (L : List (List Int)) (v : Value) (l : List Int) (W : World) : Prop where
  z : ZF (fun k => k < w.heap.size ∨ v.ownBlock = some k) w b gl mb L W
  r : rowAt W v l
  o : ∀ g, v.ownBlock = some g → w.heap.size ≤ g
variable {v v' : Value} {l l' : List Int}
theorem MS.below (h : MS w b gl mb L v l W) (hb : Below W.heap.size W W') : MS w b gl mb L v l W' := ⟨h.z.below hb, h.r.belowW hb, h.o⟩
theorem MS.step (h : MS w b gl mb L v l W) (hz : ZF (fun k => k < w.heap.size ∨ v.ownBlock = some k) w b gl mb M W') (hk : KeepF (fun k => k < w.heap.size ∨ v.ownBlock = some k) W W') : MS w b gl mb M v l W' := ⟨hz, h.r.keepF hk fun g e => .inr e, h.o⟩
/- the list grown by what is appended to it -/
theorem MS.grow (h : MS w b gl mb L v l W) {o : Obj} (hr : rowAt W' v' l') (hg : (W.alloc o).grownBy W' v.ownBlock) (hv : ∀ g, v'.ownBlock = some g → v.ownBlock = some g ∨ (W.alloc o).heap.size ≤ g) : MS w b gl mb L v' l' W' := by
  have h1 := h.below ((Below.refl _ W).alloc (Nat.le_refl _) o)
  have hs := h1.z.f.size
  refine ⟨h1.z.keepG hg (fun g e => ⟨h.o g e, fun _ => .inr e⟩) (fun k hk => ?_) (fun k hk hl => ?_) (fun k hk => .inl hk), hr, fun g e => ?_⟩
  · rcases hk with hk | hk
    · have := hg.size; omega
    · exact hr.lt hk
  · rcases hk with hk | hk
    · exact .inl hk
    · rcases hv k hk with h2 | h2
      · exact .inr h2
      · omega
  · rcases hv g e with h2 | h2
    · exact h.o g h2
    · omega
/- another list in its place, in new blocks -/
theorem MS.anew (h : MS w b gl mb L v l W) (hr : rowAt W' v' l') (hb : Below W.heap.size W W') (hv : ∀ g, v'.ownBlock = some g → W.heap.size ≤ g) : MS w b gl mb L v' l' W' := by
  have hs := h.z.f.size
  refine ⟨h.z.keepB hb (fun k hk => ?_) (fun k hk hl => ?_) (fun k hk => .inl hk), hr, fun g e => by have := hv g e; omega⟩
  · rcases hk with hk | hk
    · have := hb.size; omega
    · exact hr.lt hk
  · rcases hk with hk | hk
    · exact .inl hk
    · have := hv k hk; omega
theorem small_ok {x : Int} (h : 1 ≤ x ∧ x ≤ 4096) : i64ok x := by unfold i64ok; omega
theorem id_ok {x : Int} (h : 1 ≤ x ∧ x ≤ 4096) : okID x = true := by unfold okID; exact decide_eq_true h
def isNil (k : Nat) (v : Value) : Prop := (k = 0 → v = .slice none 0 0) ∧ (0 < k → ∃ g c, v = .slice (some ⟨g, 0, none⟩) k c)
theorem isNil.of {k : Nat} {W : World} {v : Value} {l : List Int} (h : rowAt W v l) (hl : l.length = k) (h0 : 0 < k) : isNil k v := by
  refine ⟨fun e => by omega, fun _ => ?_⟩
  obtain ⟨g, c, rfl, _⟩ := h.pos (by omega)
  exact ⟨g, c, by rw [hl]⟩
theorem MS.news (h : MS w b gl mb L v l W) {k g c : Nat} (e : v = .slice (some ⟨g, 0, none⟩) k c) (o : Obj) : ∀ j u, (is l)[j]? = some u → (W.alloc o).cell? ((⟨g, 0, none⟩ : Addr).add j) = some u := by
  subst e
  exact rowAt.cells (h.r.alloc o)
set_option maxRecDepth 100000 in
set_option maxHeartbeats 8000000 in
theorem many_main (m d : Nat) (w : World) (hm : m ≤ 200) (hd1 : 1 ≤ d) (hd2 : d ≤ 9) :
    Calls Try.prog 4 #[.int .i64 (m : Int), .int .i64 (d : Int)] w (knownPost w) := by
  have q0 : decide ((m : Int) < 0) = false := by simp
  have q1 : decide (200 < (m : Int)) = false := by simp; omega
  have q2 : decide ((d : Int) < 1) = false := by simp; omega
  have q3 : decide (9 < (d : Int)) = false := by simp; omega
  have q4 : ¬ (d : Int) = 0 := by omega
  go_enter Try.func4, Try.ntmps4
  go_wp2_with fail
  refine (New2 w w (Below.refl _ _)).mono ?_
  rintro e w0 ⟨b, gl, mb, rfl, hz⟩
  have hz0 : MS w b gl mb [pile d 0, []] (.slice none 0 0) (pile d 0) w0 := ⟨⟨hz.z.weaken (fun k hk => by rcases hk with hk | hk; exact hk; cases hk), hz.f, fun k hk => .inl hk⟩, rowAt.nil _, fun g e => by cases e⟩
  have Z0 := Lib.hid hz0
  clear hz hz0 q0 q1 q2 q3
  go_wp2
  go_loopg [7, 8] m (fun gh u i wx => ∃ k : Nat, k ≤ m ∧ gh = m - k ∧ i = .int .i64 ((k : Int) + 1) ∧ isNil k u ∧ Hid (MS w b gl mb [pile d k, []] u (pile d k) wx))
  case atStart => exact ⟨0, Nat.zero_le _, rfl, rfl, ⟨fun _ => rfl, fun h => by cases h⟩, Z0⟩
  case round =>
    obtain ⟨k, hk, rfl, rfl, hnil, hs⟩ := hrel
    clear Z0
    obtain ⟨y, hy⟩ : ∃ y, (k : Int) + 1 = y := ⟨_, rfl⟩
    rw [hy]
    by_cases hlt : k < m
    · have hle : decide (y ≤ (m : Int)) = true := by simp; omega
      have hyb : 1 ≤ y ∧ y ≤ 4096 := by omega
      have hnp : y ∉ pile d k := fun h => by have := (pile_mem d k _).1 h; omega
      obtain ⟨f1, f2, f3⟩ := p_ent (id_ok hyb) hnp
      have hlen := pile_len d k
      have LA : Hid ((((y :: pile d k).length : Nat) : Int) = y) := Lib.hid (by rw [List.length_cons, hlen]; omega)
      have LB : Hid ((((pile d k ++ [y]).length : Nat) : Int) = y) := Lib.hid (by rw [List.length_append, hlen]; simp; omega)
      have NI : Hid (Value.int .i64 (y + 1) = .int .i64 (((k + 1 : Nat) : Int) + 1)) := Lib.hid (by rw [← hy]; rfl)
      have hmb := mod_b (d := d) hy
      have HYB := Lib.hid hyb
      have F1 := Lib.hid f1
      have F2 := Lib.hid f2
      have F3 := Lib.hid f3
      have HLEN := Lib.hid hlen
      have HS := hs
      by_cases hmod : (k + 1) % d = 0
      · have HP := Lib.hid (pile_pos hy hmod)
        rw [decide_eq_true hmod] at hmb
        have HIN : Hid (∀ (W : World) (v : Value), rowAt W v (y :: pile d k) → isNil (k + 1) v) := Lib.hid fun W v h => isNil.of h (by rw [List.length_cons, HLEN.out]) (by omega)
        clear hy hnp f1 f2 f3 hlen hmod hs
        by_cases h0 : k = 0
        · have hu := hnil.1 h0
          have HE : Hid (pile d k = []) := Lib.hid (by rw [h0]; rfl)
          subst hu
          clear hnil h0
          have NX : Hid (MS w b gl mb [pile d k, []] (.slice (some ⟨wr.heap.size, 0, none⟩) 1 1) (y :: pile d k) (wr.alloc (.cells #[.int .i64 y] 3))) := Lib.hid (HS.out.anew (by rw [HE.out]; exact rowAt.lit wr [y] (by simp)) ((Below.refl _ _).alloc (Nat.le_refl _) _) (fun g e => by cases e; exact Nat.le_refl _))
          go_wp2_with (at_builtin; refine wpList_app_nil rfl _ _ rfl wr.heap.size y rfl (has.new wr 3 [.int .i64 y]) rfl ?_)
          refine (und_f NX.out.z (small_ok HYB.out) F1.out F3.out).mono ?_
          rintro e w2 ⟨rfl, hz, hk2⟩
          have Z2 := Lib.hid (NX.out.step hz hk2)
          clear hz hk2 NX HS
          go_wp2_with fail
          refine (len_f Z2.out.z (z := 0) (y := y) (by rw [p_len]; exact LA.out)).mono ?_
          rintro e w' ⟨rfl, rfl⟩
          go_wp2
          go_roundg (m - (k + 1))
          case measure => go_light; omega
          case rel => go_light; exact ⟨k + 1, by omega, rfl, NI.out, HIN.out _ _ Z2.out.r, by rw [HP.out]; exact Z2⟩
        · obtain ⟨g, c, hu⟩ := hnil.2 (by omega)
          have NW := Lib.hid (HS.out.news hu (.cells #[.int .i64 y] 3))
          subst hu
          clear hnil
          go_wp2_with (at_builtin; refine wpList_app rfl _ _ rfl (.slice (some ⟨wr.heap.size, 0, none⟩) 1 1) [y] rfl (rowAt.lit wr [y] (by simp)) ⟨g, 0, none⟩ k c (pile d k) rfl HLEN.out NW.out (by simp; omega) ?_; intro v' w2 hr2 hg2 hv2; have NX := Lib.hid (HS.out.anew (v' := v') (l' := y :: pile d k) hr2 (((Below.refl _ wr).alloc (Nat.le_refl _) _).grown hg2 (by simp) (fun j hj => by cases hj; exact Nat.le_refl _)) (fun g e => by rcases hv2 g e with h | h; exact (by cases h; exact Nat.le_refl _); simp at h; omega)); clear hr2 hg2 hv2)
          refine (und_f NX.out.z (small_ok HYB.out) F1.out F3.out).mono ?_
          rintro e w3 ⟨rfl, hz, hk2⟩
          have Z2 := Lib.hid (NX.out.step hz hk2)
          clear hz hk2 NX HS NW
          go_wp2_with fail
          refine (len_f Z2.out.z (z := 0) (y := y) (by rw [p_len]; exact LA.out)).mono ?_
          rintro e w' ⟨rfl, rfl⟩
          go_wp2
          go_roundg (m - (k + 1))
          case measure => go_light; omega
          case rel => go_light; exact ⟨k + 1, by omega, rfl, NI.out, HIN.out _ _ Z2.out.r, by rw [HP.out]; exact Z2⟩
      · have HP := Lib.hid (pile_neg hy hmod)
        rw [decide_eq_false hmod] at hmb
        have HIN : Hid (∀ (W : World) (v : Value), rowAt W v (pile d k ++ [y]) → isNil (k + 1) v) := Lib.hid fun W v h => isNil.of h (by rw [List.length_append, HLEN.out]; rfl) (by omega)
        clear hy hnp f1 f2 f3 hlen hmod hs hnil
        obtain ⟨sp, n0, c0, hsh⟩ := HS.out.r.shape
        subst hsh
        go_wp2_with (at_builtin; refine wpList_app rfl _ _ rfl _ _ rfl (HS.out.r.alloc _) ⟨wr.heap.size, 0, none⟩ 1 1 [y] rfl rfl (cell_one_new _ _ _) (by rw [HLEN.out]; omega) ?_; intro v' w2 hr2 hg2 hv2; have NX := Lib.hid (HS.out.grow hr2 hg2 hv2); clear hr2 hg2 hv2)
        refine (put_f NX.out.z (small_ok HYB.out) F1.out F2.out).mono ?_
        rintro e w3 ⟨rfl, hz, hk2⟩
        have Z2 := Lib.hid (NX.out.step hz hk2)
        clear hz hk2 NX HS
        go_wp2_with fail
        refine (len_f Z2.out.z (z := 0) (y := y) (by rw [p_len]; exact LB.out)).mono ?_
        rintro e w' ⟨rfl, rfl⟩
        go_wp2
        go_roundg (m - (k + 1))
        case measure => go_light; omega
        case rel => go_light; exact ⟨k + 1, by omega, rfl, NI.out, HIN.out _ _ Z2.out.r, by rw [HP.out]; exact Z2⟩
    · obtain rfl : k = m := by omega
      have hle : decide (y ≤ (k : Int)) = false := by simp; omega
      have HS := hs
      clear hs hy hnil hlt
      obtain ⟨sp, c, hsh, _, _⟩ := HS.out.r.form
      rw [pile_len] at hsh
      subst hsh
      go_wp2_with fail
      refine (list_f HS.out.z (z := 0) (l := pile d k) p_l0).mono ?_
      rintro e w2 ⟨v, rfl, hr, ho, hb⟩
      have S2 := Lib.hid (HS.out.below hb)
      have R2 := Lib.hid hr
      clear hr ho hb HS
      go_wp2_with fail
      refine (same_r R2.out S2.out.r (by rw [pile_len]; omega) (by rw [pile_len]; omega)).mono ?_
      rw [idFn.sameB_of rfl]
      rintro e w3 ⟨rfl, n, rfl⟩
      have S3 := Lib.hid (S2.out.below (W' := w2.drewN n) ⟨rfl, rfl, rfl, Nat.le_refl _, fun _ _ => rfl⟩)
      clear S2 R2
      have e0 : IntKind.i64.wrap ((k : Int) - 1) = (k : Int) - 1 := IntWalk.i64_in _ (by omega)
      obtain ⟨w4, hw4⟩ : ∃ w4, w4 = w2.drewN n := ⟨_, rfl⟩
      rw [← hw4] at S3 ⊢
      clear hw4
      go_wp2
      go_loopg [9] k (fun gh i wx => ∃ t : Nat, t ≤ k ∧ t = gh ∧ i = .int .i64 ((t : Int) - 1) ∧ Hid (MS w b gl mb [(pile d k).take t, ((pile d k).drop t).reverse] (.slice sp k c) (pile d k) wx))
      case atStart => exact ⟨k, Nat.le_refl _, rfl, rfl, by rw [List.take_of_length_le (by rw [pile_len]; exact Nat.le_refl _), List.drop_of_length_le (by rw [pile_len]; exact Nat.le_refl _)]; exact S3⟩
      case round =>
        obtain ⟨t, ht, rfl, rfl, hs⟩ := hrel
        clear S3 e0 hle
        rcases Nat.eq_zero_or_pos t with h0 | h0
        · subst h0
          have HS := hs
          rw [List.take_zero, List.drop_zero] at HS
          clear hs
          go_wp2_with fail
          refine (list_f HS.out.z (z := 1) (l := (pile d k).reverse) p_l1).mono ?_
          rintro e w5 ⟨v1, rfl, hr, ho, hb⟩
          have S5 := Lib.hid (HS.out.below hb)
          have R5 := Lib.hid hr
          clear hr ho hb HS
          go_wp2_with fail
          refine (back_any S5.out.r (by rw [pile_len]; omega)).mono ?_
          rintro e w6 ⟨v2, rfl, hr, ho, hb⟩
          have S6 := Lib.hid (S5.out.below hb)
          have R6 := Lib.hid hr
          have R7 := Lib.hid (R5.out.belowW hb)
          clear hr ho hb S5 R5
          go_wp2_with fail
          refine (same_r R7.out R6.out (by rw [List.length_reverse, pile_len]; omega) (by rw [List.length_reverse, pile_len]; omega)).mono ?_
          rw [idFn.sameB_of rfl]
          rintro e w7 ⟨rfl, n2, rfl⟩
          have S7 := Lib.hid (S6.out.below (W' := w6.drewN n2) ⟨rfl, rfl, rfl, Nat.le_refl _, fun _ _ => rfl⟩)
          clear S6 R6 R7
          go_wp2_with fail
          refine (len_f S7.out.z (z := 0) (y := 0) (by rw [p_len]; rfl)).mono ?_
          rintro e w' ⟨rfl, rfl⟩
          go_wp2_with fail
          refine (known_in S7.out.z.f).mono ?_
          rintro e w' ⟨rfl, hb⟩
          go_wp2
          go_ret
          exact ⟨rfl, hb⟩
        · obtain ⟨j, rfl⟩ : ∃ j, t = j + 1 := ⟨t - 1, by omega⟩
          obtain ⟨g, c', hv, hg, hc⟩ := hs.out.r.pos (by rw [pile_len]; omega)
          obtain rfl : sp = some ⟨g, 0, none⟩ := by rw [pile_len] at hv; cases hv; rfl
          have hjl : j < (pile d k).length := by rw [pile_len]; omega
          have x0 := hc j _ (is_get (pile d k) j hjl)
          have e1 : ((((j + 1 : Nat) : Int)) - 1) = (j : Int) := by omega
          have e2 : IntKind.i64.wrap ((j : Int) - 1) = (j : Int) - 1 := IntWalk.i64_in _ (by omega)
          have hxe : (pile d k).getD j 0 = (pile d k)[j] := by rw [List.getD_eq_getElem?_getD, List.getElem?_eq_getElem hjl]; rfl
          have e3 : (pile d k).take (j + 1) = (pile d k).take j ++ [(pile d k).getD j 0] := by rw [List.take_succ_eq_append_getElem hjl, hxe]
          have e4 : ((pile d k).drop (j + 1)).reverse ++ [(pile d k).getD j 0] = ((pile d k).drop j).reverse := by rw [List.drop_eq_getElem_cons hjl, List.reverse_cons, hxe]
          have hxm : (pile d k).getD j 0 ∈ pile d k := by rw [hxe]; exact List.getElem_mem hjl
          have hnd := pile_nodup d k
          have hxn : (pile d k).getD j 0 ∉ (pile d k).take j := fun hm => by
            rw [← List.take_append_drop (j + 1) (pile d k), e3] at hnd
            have := (List.nodup_append.1 (List.nodup_append.1 hnd).1).2.2 _ hm ((pile d k).getD j 0) (by simp)
            exact this rfl
          have hxb : 1 ≤ (pile d k).getD j 0 ∧ (pile d k).getD j 0 ≤ 4096 := by have := (pile_mem d k _).1 hxm; omega
          have HXB := Lib.hid hxb
          have HXN := Lib.hid hxn
          have E3 := Lib.hid e3
          have E4 := Lib.hid e4
          have hj : j < k := by omega
          have HS := hs
          rw [e1]
          clear hc e1 e3 e4 hxm hxb hxn hxe hnd hs hjl h0 hv
          generalize (pile d k).getD j 0 = x at *
          rw [E3.out] at HS
          go_wp2_with fail
          refine (top_f HS.out.z (z := 0) (want := x) (no := 0) p_top).mono ?_
          rintro e w' ⟨rfl, rfl⟩
          go_wp2_with fail
          obtain ⟨g1, g2⟩ := p_mov (B := ((pile d k).drop (j + 1)).reverse) (id_ok HXB.out) HXN.out
          refine (mov_f HS.out.z (z := 1) (small_ok HXB.out) g1 g2).mono ?_
          rintro e w5 ⟨rfl, hz, hk2⟩
          have Z2 := Lib.hid (HS.out.step hz hk2)
          rw [E4.out] at Z2
          clear hz hk2 HS x0 g1 g2
          go_wp2
          go_roundg j
          case measure => go_light; omega
          case rel => go_light; exact ⟨j, by omega, rfl, rfl, Z2⟩
theorem many_law (m d : Int) (w : World) : Calls Try.prog 4 #[.int .i64 m, .int .i64 d] w fun e w' => e = .returned (.bool true) ∧ Below w.heap.size w w' := by
  have bad : ∀ (p q r s : Bool), decide (m < 0) = p → decide (200 < m) = q → decide (d < 1) = r → decide (9 < d) = s → (p || q || r || s) = true → Calls Try.prog 4 #[.int .i64 m, .int .i64 d] w (knownPost w) := by
    intro p q r s hp hq hr hs hor
    cases p <;> cases q <;> cases r <;> cases s <;> first
      | exact absurd hor (by decide)
      | (clear hor
         go_enter Try.func4, Try.ntmps4
         go_wp2_with fail
         refine (known_any _).mono ?_
         rintro e w' ⟨rfl, hb⟩
         go_wp2
         go_ret
         exact ⟨rfl, hb⟩)
  by_cases h : (decide (m < 0) || decide (200 < m) || decide (d < 1) || decide (9 < d)) = true
  · exact bad _ _ _ _ rfl rfl rfl rfl h
  · simp at h
    obtain ⟨k, rfl⟩ := Int.eq_ofNat_of_zero_le (a := m) (by omega)
    obtain ⟨j, rfl⟩ := Int.eq_ofNat_of_zero_le (a := d) (by omega)
    exact many_main k j w (by omega) (by omega) (by omega)
end Go.Proofs.Ytklohgecgjlgeaa.zoFn
