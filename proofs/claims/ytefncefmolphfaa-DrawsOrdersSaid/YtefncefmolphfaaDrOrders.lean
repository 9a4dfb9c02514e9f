/- The walk of the law on the orders of a list. -/
import Derived.Test.YtefncefmolphfaaDrOrdKey
import Derived.Test.YtefncefmolphfaaDrNil
import Derived.Test.YtefncefmolphfaaDrCopy
import Derived.Maps.AppendAt
import Derived.Deep.LoopGhost
import Derived.Deep.Light
namespace Go.Proofs.Ytefncefmolphfaa.drFn
open Go.ChangeShapes Go.WideShapes Go.ChangeAt Go.RowKit drMem
set_option linter.unusedVariables false

def seenS (m n : Nat) (o : List Int) : Bool := (List.range n).any fun k => pad5 (ord m k) == o
theorem seenS_new (m n : Nat) (hm : m ≤ 5) (hn : n < fac m) : seenS m n (pad5 (ord m n)) = false := by
  unfold seenS
  rw [List.any_eq_false]
  intro k hk
  have := ord_ne m hm n hn k (List.mem_range.1 hk)
  simp; exact fun e => this e.symm
theorem seenS_put (m n : Nat) : seenS m (n + 1) (pad5 (ord m n)) = true ∧ ∀ p, p ≠ pad5 (ord m n) → seenS m (n + 1) p = seenS m n p := by
  unfold seenS
  refine ⟨by simp [List.range_succ], fun p hp => ?_⟩
  rw [List.range_succ, List.any_append]
  simp [Ne.symm hp]
structure OS (w1 : World) (m n : Nat) (W : World) : Prop where
  lb : Below w1.heap.size w1 W
  mp : ∃ D k, k ≤ n ∧ W.ownsMap Try.prog 55 (plainElem Try.prog 4) w1.heap.size k D ∧ OM D (seenS m n)
theorem os0 (w1 : World) (m : Nat) : OS w1 m 0 (w1.alloc (.map #[] 0)) :=
  ⟨(Below.refl _ _).alloc (Nat.le_refl _) _, .map [], 0, Nat.le_refl _, World.ownsMap_made _ _ _ _, OM.none⟩
theorem own_block {sv : Option Addr} {n cv base : Nat} (h : ∀ a, sv = some a → base ≤ a.block) : ∀ j, (Value.slice sv n cv).ownBlock = some j → base ≤ j := by
  intro j hj
  cases sv with
  | none => cases hj
  | some a => cases hj; exact h a rfl
theorem splice5 (l : List Int) (h : l.length ≤ 5) : splice [Value.int .i64 0, Value.int .i64 0, Value.int .i64 0, Value.int .i64 0, Value.int .i64 0] 0 (is l) = is (pad5 l) := by
  show splice (List.replicate 5 (Value.int .i64 0)) 0 (is l) = is (pad5 l)
  unfold splice pad5 is
  rw [List.map_append, List.map_replicate, List.drop_replicate, List.take_zero, List.nil_append, List.length_map, Nat.zero_add]
theorem below_drewN {B : Nat} {a w : World} (h : Below B a w) (q : Nat) : Below B a (w.drewN q) := ⟨h.os, h.tape, h.output, h.size, h.block⟩
theorem u64_nat (a : Nat) (h : a < 18446744073709551616) : IntKind.u64.wrap (a : Int) = (a : Int) := by rw [IntKind.wrap_u64]; omega
set_option maxRecDepth 100000 in
set_option maxHeartbeats 8000000 in
theorem orders_main (m : Nat) (hm : m ≤ 5) (ex : Nat) (hex : ex < 18446744073709551616) (w : World) :
    Calls Try.prog 4 #[.int .i64 (m : Int), .int .u64 (ex : Int)] w fun e w' => e = .returned (.bool true) ∧ Below w.heap.size w w' := by
  obtain ⟨i0, hi, hz0, hz1, hz2⟩ := info_parts infoU
  obtain ⟨i1, hi1, hy0, hy1, hy2⟩ := info_parts infoI
  have d1 : decide ((m : Int) < 0) = false := by simp
  have d2 : decide (5 < (m : Int)) = false := by simp; omega
  go_enter Try.func4, Try.ntmps4
  go_wp2
  go_loopg [5, 6, 7] m (fun gh v o i wx => ∃ k : Nat, k ≤ m ∧ gh = m - k ∧ i = .int .i64 (k : Int) ∧ o = .int .i64 (fac k : Int) ∧ Hid (wx.ownsRow w.heap.size 3 1 v k (is (upto k))) ∧ Hid (Below w.heap.size w wx))
  case atStart => exact ⟨0, Nat.zero_le _, rfl, rfl, rfl, Lib.hid (World.ownsRow_nil _ _ _ _), Lib.hid (Below.refl _ _)⟩
  case round =>
    obtain ⟨k, hk, rfl, rfl, rfl, ho, hb⟩ := hrel
    by_cases hlt : k < m
    · have hown := ho.out
      obtain ⟨sv, cv, rfl, _, _, hav⟩ := own_form hown
      have HAV := Lib.hid hav
      have hb0 := hb.out.size
      have hf1 := fac_le1 k (by omega)
      obtain ⟨f, hf⟩ : ∃ f, fac k = f := ⟨_, rfl⟩
      have hf2 : fac (k + 1) = f * (k + 1) := by rw [fac, hf]
      rw [hf] at hf1 ⊢
      have e1 : (f : Int) * ((k : Int) + 1) = ((fac (k + 1) : Nat) : Int) := by rw [hf2]; simp
      have hf3 := fac_le (k + 1) (by omega)
      obtain ⟨f', hf4⟩ : ∃ f', fac (k + 1) = f' := ⟨_, rfl⟩
      rw [hf4] at e1 hf3
      have HF4 := Lib.hid hf4
      clear hav hf hf2 hf4
      go_wp2_with (at_builtin; refine wpList_append_own _ rfl _ _ 33 rfl w.heap.size 3 i1 (.int .i64 0) 1 8 Try.underlying33 hi1 hy0 hy1 hy2 rfl (by decide) _ _ _ rfl (hown.alloc _) ⟨wr.heap.size, 0, none⟩ 1 1 [.int .i64 (k : Int)] rfl rfl (cell_one_new _ _ _) (by simp [Value.oneCell']) (by unfold maxLen; omega) (by omega) (by simp; omega) ?_; intro v' w1 hown1 hgrow1 _)
      have NO : Hid (w1.ownsRow w.heap.size 3 1 v' (k + 1) (is (upto (k + 1)))) := Lib.hid (by rw [upto_succ]; unfold is; rw [List.map_append]; exact hown1)
      have NB : Hid (Below w.heap.size w w1) := Lib.hid ((hb.out.alloc hb0 _).grown hgrow1 (by simp; omega) (own_block HAV.out))
      clear hown1 hgrow1 hown
      go_wp2
      go_roundg (m - (k + 1))
      case measure => go_light; omega
      case rel => go_light; exact ⟨k + 1, by omega, rfl, by go_num, by rw [HF4.out], NO, NB⟩
    · obtain rfl : k = m := by omega
      obtain ⟨sv, cv, rfl, hsv, _, _⟩ := own_form ho.out
      have SV := Lib.hid hsv
      have B1 := Lib.hid hb.out
      have hmm := @run_makeMap Try.prog
      have hfk := fac_le k hm
      obtain ⟨f, hf⟩ : ∃ f, fac k = f := ⟨_, rfl⟩
      rw [hf] at hfk ⊢
      have FK := Lib.hid hf
      clear hsv ho hb hf
      obtain ⟨w1, rfl⟩ : ∃ w1 : World, w1 = wr := ⟨_, rfl⟩
      have O0 := Lib.hid (os0 w1 k)
      go_wp2
      clear hmm
      go_loopg [9] f (fun gh i wx => ∃ n : Nat, n ≤ f ∧ gh = f - n ∧ i = .int .i64 (n : Int) ∧ Hid (OS w1 k n wx))
      case atStart => exact ⟨0, Nat.zero_le _, rfl, rfl, O0⟩
      case round =>
        obtain ⟨n, hn, rfl, rfl, HO⟩ := hrel
        clear O0
        by_cases hlt2 : n < f
        · obtain ⟨wq, rfl⟩ : ∃ wq : World, wq = wr := ⟨_, rfl⟩
          obtain ⟨x, hx⟩ : ∃ x, ex % 1000 = x := ⟨_, rfl⟩
          have hx1 : x < 1000 := by omega
          have e57 : (ex : Int) % 1000 = (x : Int) := by omega
          clear hx
          go_wp2
          go_loopg [10, 11, 12] k (fun gh gv bd rs wx => ∃ (bnd r L : Nat) (pre : List Nat), bnd ≤ k ∧ bnd = gh ∧ bd = .int .i64 (bnd : Int) ∧ rs = .int .i64 (r : Int) ∧ r ≤ 120 ∧ L + bnd ≤ k ∧ Hid (pre.length = L) ∧ Hid (pre ++ giveL x bnd r = giveL x k n) ∧ Hid (wx.ownsRow wq.heap.size 30 1 gv L (us pre)) ∧ Hid (Below wq.heap.size wq wx))
          case atStart => exact ⟨k, n, 0, [], Nat.le_refl _, rfl, rfl, rfl, by omega, by omega, Lib.hid rfl, Lib.hid rfl, Lib.hid (World.ownsRow_nil _ _ _ _), Lib.hid (Below.refl _ _)⟩
          case round =>
            obtain ⟨bnd, r, L, pre, hbk, rfl, rfl, rfl, hr, hL, hpl, hpg, ho, hb⟩ := hrel
            by_cases hbn : 1 < bnd
            · have hown := ho.out
              obtain ⟨gs, gc, rfl, _, _, hav⟩ := own_form hown
              have HAV := Lib.hid hav
              have hb0 := hb.out.size
              obtain ⟨d, hd⟩ : ∃ d, r % bnd = d := ⟨_, rfl⟩
              have hdl : d < bnd := by rw [← hd]; exact Nat.mod_lt _ (by omega)
              obtain ⟨p, hp⟩ : ∃ p, bnd * x = p := ⟨_, rfl⟩
              have hpl2 : p ≤ 5 * 1000 := by rw [← hp]; exact Nat.mul_le_mul (by omega) (by omega)
              obtain ⟨r', hr'⟩ : ∃ r', r / bnd = r' := ⟨_, rfl⟩
              have hrl : r' ≤ 120 := by rw [← hr']; exact Nat.le_trans (Nat.div_le_self _ _) hr
              have hcat : pre ++ [d + p] ++ giveL x (bnd - 1) r' = giveL x k n := by
                obtain ⟨b2, hb2⟩ : ∃ b2, bnd = b2 + 2 := ⟨bnd - 2, by omega⟩
                subst hb2
                rw [← hpg.out, ← hd, ← hp, ← hr', List.append_assoc]
                rfl
              have v6 : ¬ bnd = 0 := by omega
              have e1 : (r : Int) % (bnd : Int) = (d : Int) := by rw [← hd]; simp
              have e2 : IntKind.u64.wrap (d : Int) = (d : Int) := u64_nat d (by omega)
              have e3 : IntKind.u64.wrap (bnd : Int) = (bnd : Int) := u64_nat bnd (by omega)
              have e4 : (bnd : Int) * (x : Int) = (p : Int) := by rw [← hp]; simp
              have e5 : IntKind.u64.wrap (p : Int) = (p : Int) := u64_nat p (by omega)
              have e6 : (d : Int) + (p : Int) = ((d + p : Nat) : Int) := by simp
              have e7 : IntKind.u64.wrap ((d + p : Nat) : Int) = ((d + p : Nat) : Int) := u64_nat _ (by omega)
              have e8 : (r : Int) / (bnd : Int) = (r' : Int) := by rw [← hr']; simp
              have HC := Lib.hid hcat
              have hd9 : decide (1 < (bnd : Int)) = true := by simp; omega
              obtain ⟨v, hv⟩ : ∃ v, d + p = v := ⟨_, rfl⟩
              rw [hv] at e6 e7 hcat
              have HV := Lib.hid hcat
              clear hav hd hp hr' hcat hpg hv HC
              go_wp2_with (at_builtin; refine wpList_append_own _ rfl _ _ 22 rfl wq.heap.size 30 i0 (.int .u64 0) 1 8 Try.underlying22 hi hz0 hz1 hz2 rfl (by decide) _ _ _ rfl (hown.alloc _) ⟨wr.heap.size, 0, none⟩ 1 1 [.int .u64 (v : Int)] rfl rfl (cell_one_new _ _ _) (by simp [Value.oneCell']) (by unfold maxLen; omega) (by omega) (by simp; omega) ?_; intro v' w2 hown1 hgrow1 _)
              have NO : Hid (w2.ownsRow wq.heap.size 30 1 v' (L + 1) (us (pre ++ [v]))) := Lib.hid (by unfold us; rw [List.map_append]; exact hown1)
              have NB : Hid (Below wq.heap.size wq w2) := Lib.hid ((hb.out.alloc hb0 _).grown hgrow1 (by simp; omega) (own_block HAV.out))
              have NL : Hid ((pre ++ [v]).length = L + 1) := Lib.hid (by rw [List.length_append, hpl.out]; rfl)
              have e9 : (bnd : Int) - 1 = ((bnd - 1 : Nat) : Int) := by omega
              clear hown1 hgrow1 hown
              go_wp2
              go_roundg (bnd - 1)
              case measure => go_light; omega
              case rel => go_light; exact ⟨bnd - 1, r', L + 1, pre ++ [v], by omega, rfl, by go_num, rfl, hrl, by omega, NL, HV, NO, NB⟩
            · have hd9 : decide (1 < (bnd : Int)) = false := by simp; omega
              have hg0 : giveL x bnd r = [] := by
                match bnd, hbn with
                | 0, _ => rfl
                | 1, _ => rfl
                | b + 2, h => omega
              have hpg2 := hpg.out
              rw [hg0, List.append_nil] at hpg2
              obtain ⟨gs, gc, rfl, hgs, _, _⟩ := own_form ho.out
              rw [hpg2] at hgs
              have hlL : (giveL x k n).length = L := by rw [← hpg2, hpl.out]
              have HNEW := Lib.hid (New_ok gs L gc (giveL x k n) wr hlL (by omega) hgs (giveL_lt x hx1 k n hm))
              have LB := Lib.hid hb.out
              have HLL := Lib.hid hlL
              obtain ⟨g1, g2, g3⟩ := shOut_give x k n hm
              have G1 := Lib.hid g1
              have G2 := Lib.hid g2
              have G3 := Lib.hid g3
              clear hg0 hpg hpg2 hgs hlL ho hb g1 g2 g3 hpl
              go_wp2_with fail
              refine HNEW.out.mono ?_
              rintro e w3 ⟨b, rfl, hd, hlt3, hb⟩
              have B3 := Lib.hid (LB.out.trans (hb.mono LB.out.size))
              have D3 := Lib.hid hd
              have hbq : wq.heap.size ≤ b := by have := LB.out.size; omega
              have SV3 := Lib.hid ((SV.out.below HO.out.lb (Nat.le_refl _)).below B3.out (Nat.le_refl _))
              clear hd hb hlt3 HNEW LB
              go_wp2_with fail
              refine (Shuffle_any sv k cv (upto k) D3.out SV3.out (upto_len k) (by omega)).mono ?_
              rintro e w4 ⟨v4, rfl, hor, hd, hg⟩
              rw [G1.out] at hor
              rw [G3.out, HLL.out] at hd
              rw [G2.out]
              obtain ⟨sx, rfl, hsx, _⟩ := hor.ok
              have hol : (ord k n).length = k := by unfold ord; rw [ord_len, upto_len]
              rw [hol]
              have SX := Lib.hid hsx
              have D4 := Lib.hid hd
              have B4 := Lib.hid (below_grown B3.out hg B3.out.size hbq)
              have OL := Lib.hid hol
              clear hor hsx hd hg hol SV3 D3 B3
              go_wp2_with fail
              refine (Left_any D4.out).mono ?_
              rintro e w5 ⟨rfl, q5, rfl⟩
              rw [HLL.out, Nat.sub_self]
              go_wp2_with (with_reducible refine wpList_copy_splice rfl (.tmp 95) (.tmp 96) 33 33 rfl 3 Try.underlying33 sizeI (some ⟨w4.heap.size, 0, none⟩) sx 5 5 k k rfl rfl w4.heap.size 0 (List.replicate 5 (.int .i64 0)) 55 ?c1 (is (ord k n)) ?c2 ?c3 ?c4 ?c5 wq.heap.size wq ?c6 ?c7 ?_)
              case c1 => exact heap_alloc_new _ _
              case c2 => rw [is_len, OL.out]; exact (Nat.min_eq_left hm).symm
              case c3 => exact fun h0 => src_alloc (w := w4.drewN q5) SX.out _ h0
              case c4 => simp [is_len, OL.out]; omega
              case c5 => exact is_one _
              case c6 => exact (below_drewN B4.out q5).alloc B4.out.size _
              case c7 => exact B4.out.size
              intro w6 hg6 hb6
              have h6 := hg6.out
              rw [splice5 _ (by rw [OL.out]; exact hm)] at h6
              obtain ⟨hk5, hk4⟩ := ord_ok5 k hm n (by rw [FK.out]; exact hlt2)
              have hsn := seenS_new k n hm (by rw [FK.out]; exact hlt2)
              obtain ⟨hsp, hso⟩ := seenS_put k n
              obtain ⟨o, ho⟩ : ∃ o, pad5 (ord k n) = o := ⟨_, rfl⟩
              rw [ho] at h6 hk5 hk4 hsn hsp hso
              obtain ⟨D, q, hq, hmo0, hom⟩ := HO.out.mp
              have hok : okO o := ⟨hk5, hk4⟩
              have hmo := hmo0.kept (grown_of_below hb6 none) (by simp)
              have hkey0 : keyOf Try.prog 55 (.agg (is o).toArray) = some (keyO o) := keyOf_order hk5 hok.wf
              have hat : D.atKey (keyO o) (.lit (.bool false)) = .lit (.bool false) := by rw [hom.a o hok, hsn]
              have HN : Hid (OM (D.put (keyO o) (.lit (.bool true))) (seenS k (n + 1))) := Lib.hid (hom.put hok hsp hso)
              obtain ⟨o0, o1, o2, o3, o4, rfl⟩ : ∃ o0 o1 o2 o3 o4, o = [o0, o1, o2, o3, o4] := by
                match o, hk5 with
                | [a, b, c, d, e], _ => exact ⟨a, b, c, d, e, rfl⟩
              have c0 : w6.cell? ⟨w4.heap.size, 0, none⟩ = some (.int .i64 o0) := cell_of_row _ _ _ _ _ _ h6
              have c1 : w6.cell? ⟨w4.heap.size, 1, none⟩ = some (.int .i64 o1) := cell_of_row _ _ _ _ _ _ h6
              have c2 : w6.cell? ⟨w4.heap.size, 2, none⟩ = some (.int .i64 o2) := cell_of_row _ _ _ _ _ _ h6
              have c3 : w6.cell? ⟨w4.heap.size, 3, none⟩ = some (.int .i64 o3) := cell_of_row _ _ _ _ _ _ h6
              have c4 : w6.cell? ⟨w4.heap.size, 4, none⟩ = some (.int .i64 o4) := cell_of_row _ _ _ _ _ _ h6
              obtain ⟨kl, hkl⟩ : ∃ kl, keyO [o0, o1, o2, o3, o4] = kl := ⟨_, rfl⟩
              rw [hkl] at hkey0 hat HN
              have hkey : keyOf Try.prog 55 (.agg #[.int .i64 o0, .int .i64 o1, .int .i64 o2, .int .i64 o3, .int .i64 o4]) = some kl := hkey0
              have HMO := Lib.hid hmo
              have HB6 := Lib.hid hb6
              clear hg6 hb6 hk5 hk4 hsn hsp hso ho hmo0 hom hok h6 hkl hkey0
              go_wp2_with (first | (at_lookup; refine wpList_lookup_own_bool _ rfl _ _ 54 rfl 55 4 keyA Try.underlying54 Try.underlying4 (zeroB _) _ q _ rfl hmo _ _ rfl hkey _ hat ?_) | (at_mapUpdate; refine wpList_mapUpdate_own _ rfl _ _ _ 54 rfl 55 4 keyA Try.underlying54 _ _ q _ rfl hmo (by unfold maxLen; omega) _ _ _ rfl rfl hkey _ [] (plainElem_bool Try.underlying4 true) ?_; intro w7 hown7 hgrow7))
              have NOS : Hid (OS w1 k (n + 1) w7) := Lib.hid ⟨below_grown (HO.out.lb.trans (HB6.out.mono HO.out.lb.size)) hgrow7 (Nat.le_trans HO.out.lb.size HB6.out.size) (Nat.le_refl _), _, q + 1, by omega, hown7, HN.out⟩
              clear hown7 hgrow7
              go_roundg (f - (n + 1))
              case measure => go_light; omega
              case rel => go_light; exact ⟨n + 1, by omega, rfl, by go_num, NOS⟩
        · obtain rfl : f = n := by omega
          have BF := Lib.hid (B1.out.trans (HO.out.lb.mono B1.out.size))
          clear HO B1 SV
          go_wp2_with fail
          refine (known_in BF.out).mono ?_
          rintro e w9 ⟨rfl, hb9⟩
          go_wp2
          go_ret
          exact ⟨rfl, hb9⟩
set_option maxRecDepth 100000 in
set_option maxHeartbeats 800000 in
theorem orders_none (m : Int) (hm : m < 0 ∨ 5 < m) (ex : Int) (w : World) :
    Calls Try.prog 4 #[.int .i64 m, .int .u64 ex] w fun e w' => e = .returned (.bool true) ∧ Below w.heap.size w w' := by
  go_enter Try.func4, Try.ntmps4
  by_cases h : m < 0
  · have d1 : decide (m < 0) = true := by simpa using h
    go_wp2_with fail
    refine (known_in (Below.refl _ _)).mono ?_
    rintro e w9 ⟨rfl, hb9⟩
    go_wp2
    go_ret
    exact ⟨rfl, hb9⟩
  · have d1 : decide (m < 0) = false := by simpa using h
    have d2 : decide (5 < m) = true := by simp; omega
    go_wp2_with fail
    refine (known_in (Below.refl _ _)).mono ?_
    rintro e w9 ⟨rfl, hb9⟩
    go_wp2
    go_ret
    exact ⟨rfl, hb9⟩
theorem orders_law (m ex : Int) (w : World) (h0 : 0 ≤ ex) (h1 : ex < 18446744073709551616) :
    Calls Try.prog 4 #[.int .i64 m, .int .u64 ex] w fun e w' => e = .returned (.bool true) ∧ Below w.heap.size w w' := by
  by_cases h : m < 0 ∨ 5 < m
  · exact orders_none m h ex w
  · obtain ⟨mm, rfl⟩ : ∃ mm : Nat, m = (mm : Int) := ⟨m.toNat, by omega⟩
    obtain ⟨ee, rfl⟩ : ∃ ee : Nat, ex = (ee : Int) := ⟨ex.toNat, by omega⟩
    exact orders_main mm (by omega) ee (by omega) w
end Go.Proofs.Ytefncefmolphfaa.drFn
