/- What slices.Sorted makes of slices.Values; whether two lists have the same ids. -/
import Derived.RangeFuncBox
import Derived.RangeFuncNested
import Derived.RangeFuncBound
import Derived.RangeFuncCalls
import Derived.RangeFuncLeaves
import Derived.Shelf.Abstract
import Derived.Shelf.RegionOpen
import Derived.OwnWalkIn
import Derived.TacticsInMore
import Derived.LoopNIn
import Derived.LoopIn
import Derived.Maps.AppendAt
import Derived.Sort.OwnSortedInts
import Derived.Test.YtklohgecgjlgeaaZoRow
namespace Go.Proofs.Ytklohgecgjlgeaa.zoFn
open Go.ChangeShapes Go.WideShapes Go.ChangeAt Go.RowKit Go.Shelf drMem
set_option linter.unusedVariables false
attribute [local go_sem] Oper.semAt_some
variable {F G : Nat → Prop} {w w' : World}

def litI (x : Int) : Value := .int .i64 x
theorem own_src {base n : Nat} {v : Value} {l : List Int} (h : w.ownsRow base 3 1 v n (is l)) : rowAt w v l := (rowAt.own h).1
def valPost (v : Value) (w : World) (e : Ending) (w' : World) : Prop :=
  e = .returned (.func (.func 50) #[] #[.pointer (some ⟨w.heap.size, 0, none⟩)]) ∧ w' = w.alloc (.cells #[v] 35)
theorem Values_any (sp : Option Addr) (n c : Nat) (w : World) : Calls Try.prog 44 #[.slice sp n c] w (valPost (.slice sp n c) w) := by
  have hmf : ∀ (fn : Fn) (first cap : Array Value) (w : World), (Instr.makeFunc fn first cap).run Try.prog w = .ok (.func fn first cap) w := fun _ _ _ _ => rfl
  go_enter Try.func44, Try.ntmps44
  go_wp2
  go_ret
  exact ⟨rfl, rfl⟩
set_option maxRecDepth 100000 in
set_option maxHeartbeats 2000000 in
theorem seq_in (n : Nat) (hn : 1 ≤ n) (l q g c n₀ : Nat) (zs : List Int) (hq : q < n₀) (hg : g < n₀) (hz : zs.length ≤ 4096) (J Jx : List Int → World → Prop)
    (hY : ∀ pre x W, J pre W → pre.length < zs.length → YieldAt Fence.wide (n - 1) Try.prog l #[.int .i64 x] W fun e W' =>
      (e = .returned (.bool true) ∧ J (pre ++ [x]) W' ∧ Below n₀ W W') ∨ (e = .returned (.bool false) ∧ Jx (pre ++ [x]) W'))
    (W : World) (hc : W.cell? ⟨q, 0, none⟩ = some (.slice (some ⟨g, 0, none⟩) zs.length c)) (hI : ∀ j u, (is zs)[j]? = some u → W.cell? ⟨g, j, none⟩ = some u) (h0 : J [] W) :
    CallsIn Fence.wide n Try.prog 50 #[.func (.yield l) #[] #[], .pointer (some ⟨q, 0, none⟩)] W fun e W' => (∃ v, e = .returned v) ∧
      ((∃ ys, ys = zs ∧ J ys W') ∨ (∃ pre, pre <+: zs ∧ Jx pre W')) := by
  obtain ⟨m, hm⟩ : ∃ m, zs.length = m := ⟨_, rfl⟩
  have HY := Lib.hid hY
  have HI := Lib.hid hI
  have HM := Lib.hid hm
  rw [hm] at hc hz
  clear hY hI hm
  refine callsIn_of_wp Try.func50 rfl trivial ?_ rfl
  simp only [Try.ntmps50, List.size_toArray, List.length_cons, List.length_nil, Nat.reduceAdd, Nat.reduceSub, Array.replicate_succ, Array.replicate_zero, List.push_toArray, List.append_toArray, List.nil_append, List.cons_append]
  gi_wp2
  gi_loopw [4, 7] (fun _ i wr => ∃ k : Nat, k ≤ m ∧ i = .int .i64 (k : Int) ∧ J (zs.take k) wr ∧ Hid (Below n₀ W wr)) (fun _ i _ => m - (intOf i).toNat)
  case atStart => exact ⟨0, Nat.zero_le _, rfl, by simpa using h0, Lib.hid (Below.refl _ _)⟩
  case round =>
    obtain ⟨k, hk, rfl, hJs, hnx⟩ := hrel
    by_cases hlt : k < m
    · have hkz : k < zs.length := by rw [HM.out]; exact hlt
      have x0 : wr.cell? ⟨g, k, none⟩ = some (.int .i64 (zs.getD k 0)) := (hnx.out.cell (p := ⟨g, k, none⟩) hg).trans (HI.out k _ (is_get zs k hkz))
      have e1 : zs.take (k + 1) = zs.take k ++ [zs.getD k 0] := by
        rw [List.take_succ_eq_append_getElem hkz, List.getD_eq_getElem?_getD, List.getElem?_eq_getElem hkz]; rfl
      have hpl : (zs.take k).length < zs.length := by rw [List.length_take_of_le (by omega)]; exact hkz
      have hle : decide ((k : Int) < (m : Int)) = true := by simp; omega
      have HP := Lib.hid hpl
      have E1 := Lib.hid e1
      clear e1 hpl hkz
      generalize zs.getD k 0 = x at *
      obtain ⟨fn, tmps, assign, body, hy, hR⟩ := HY.out (zs.take k) x wr hJs HP.out
      have HR := Lib.hid hR
      clear hR
      gi_wp2
      refine HR.out.mono ?_
      rintro e W3 (⟨rfl, hJ3, hk3⟩ | ⟨rfl, hJx3⟩)
      · have K3 := Lib.hid hk3
        clear hk3
        gi_wp2
        go_roundw
        case rel => exact ⟨k + 1, by omega, by go_num, by rw [E1.out]; exact hJ3, Lib.hid (hnx.out.trans K3.out)⟩
        case measure => simp [intOf]; omega
      · gi_wp2
        refine bodyPost_ret (results_none rfl _ _ _) rfl ?_
        exact ⟨⟨_, rfl⟩, .inr ⟨_, by rw [← E1.out]; exact List.take_prefix _ _, hJx3⟩⟩
    · obtain rfl : k = m := by omega
      have hle : decide ((k : Int) < (k : Int)) = false := by simp
      have e2 : zs.take k = zs := List.take_of_length_le (by rw [HM.out]; exact Nat.le_refl _)
      rw [e2] at hJs
      gi_wp2
      go_end0
      exact ⟨⟨_, rfl⟩, .inl ⟨_, rfl, hJs⟩⟩
theorem seq_stops (n : Nat) (hn : 1 ≤ n) (q g c n₀ : Nat) (zs : List Int) (w : World) (hq : q < n₀) (hg : g < n₀) (hz : zs.length ≤ 4096) (hn₀ : n₀ ≤ w.heap.size) (hc : w.cell? ⟨q, 0, none⟩ = some (.slice (some ⟨g, 0, none⟩) zs.length c)) (hI : ∀ j u, (is zs)[j]? = some u → w.cell? ⟨g, j, none⟩ = some u) :
    SeqStopsK Fence.wide n Try.prog 50 #[.pointer (some ⟨q, 0, none⟩)] (fun x : Int => #[Value.int .i64 x]) (Below n₀) (fun ys => ys = zs) (fun pre => pre <+: zs) zs.length w := fun l J Jx W hW hJ _ hY h0 => by
  refine seq_in n hn l q g c n₀ zs hq hg hz J Jx hY W ((hW.cell (p := ⟨q, 0, none⟩) (by show q < _; omega)).trans hc) (fun j u hu => (hW.cell (p := ⟨g, j, none⟩) (by show g < _; omega)).trans (hI j u hu)) h0
def ownPost (l : List Int) (w : World) (e : Ending) (w' : World) : Prop := ∃ v, e = .returned v ∧ w'.ownsRow w.heap.size 3 1 v l.length (is l) ∧ Below w.heap.size w w'
set_option maxRecDepth 100000 in
set_option maxHeartbeats 2000000 in
theorem AppendSeq_any (q g c : Nat) (zs : List Int) (w : World) (hz : zs.length ≤ 4096) (hq : q < w.heap.size) (hg : g < w.heap.size) (hc : w.cell? ⟨q, 0, none⟩ = some (.slice (some ⟨g, 0, none⟩) zs.length c)) (hI : ∀ j u, (is zs)[j]? = some u → w.cell? ⟨g, j, none⟩ = some u) :
    Calls Try.prog 52 #[.slice none 0 0, .func (.func 50) #[] #[.pointer (some ⟨q, 0, none⟩)]] w (ownPost zs w) := by
  obtain ⟨i0, hi, hz0, hz1, hz2⟩ := info_parts infoI
  refine (callsIn_wide (n := 4)).1 ?_
  refine callsIn_of_wp_marks Try.func52 rfl trivial ?_ rfl
  simp only [Try.ntmps52, List.size_toArray, List.length_cons, List.length_nil, Nat.reduceAdd, Nat.reduceSub, Array.replicate_succ, Array.replicate_zero, List.push_toArray, List.append_toArray, List.nil_append, List.cons_append]
  have bO := Boxed.new w 35 (.slice none 0 0)
  have hBA : Below w.heap.size w (w.alloc (.cells #[.slice none 0 0] 35)) := (Below.refl _ w).alloc (Nat.le_refl _) _
  have hc2 : (w.alloc (.cells #[.slice none 0 0] 35)).cell? ⟨q, 0, none⟩ = some (.slice (some ⟨g, 0, none⟩) zs.length c) := (hBA.cell (p := ⟨q, 0, none⟩) hq).trans hc
  have hI2 : ∀ j u, (is zs)[j]? = some u → (w.alloc (.cells #[.slice none 0 0] 35)).cell? ⟨g, j, none⟩ = some u := fun j u hu => (hBA.cell (p := ⟨g, j, none⟩) hg).trans (hI j u hu)
  have HS := Lib.hid (seq_stops 3 (by omega) q g c w.heap.size zs _ hq hg hz (by rw [World.size_alloc]; omega) hc2 hI2)
  clear hc hI hc2 hI2
  gi_wp2
  refine' wpIn_rangeFunc_ownG rfl (by omega) (gf := 50) (lb := #[.pointer (some ⟨q, 0, none⟩)]) rfl trivial (enters_of Try.func50 (by kernel_rfl) rfl)
    HS.out belowK_t (belowK_b (by simp)) (Below.refl _ _) (fun _ => rfl)
    (fun pre W => (∃ v, Boxed W w.heap.size 35 v ∧ W.ownsRow w.heap.size 3 1 v pre.length (pre.map (Value.int .i64)) ∧ True) ∧ Below w.heap.size w W)
    (fun _ _ _ => False)
    (OwnFrom.and (Own.from (holdsRow_own w.heap.size w.heap.size 35 3 1 (fun pre : List Int => pre.length) (fun pre : List Int => pre.map (Value.int .i64)) (fun _ _ => True)) _) (ownFrom_below (Nat.le_refl _) (by simp)))
    (fun _ _ _ _ _ hs _ _ => hs)
    ⟨⟨_, bO, World.ownsRow_nil _ _ _ _, trivial⟩, hBA⟩
    (a₁ := _) ?assign ?body ?done ?stop
  case assign =>
    intro l x W K hK
    gi_wp2
    exact hK
  case body =>
    rintro l pre x W ⟨⟨v, hv, hrow, _⟩, hB⟩ hlt
    have hc := hv.cell
    gi_wp2_with (gi_at_builtin; refine wpListIn_append_own _ rfl _ _ 35 rfl w.heap.size 3 i0 (.int .i64 0) 1 8 Try.underlying35 hi hz0 hz1 hz2 rfl (by decide) _ _ _ rfl (hrow.alloc _) ⟨W.heap.size, 0, none⟩ 1 1 [.int .i64 x] rfl rfl (cell_one_new _ _ _) (by simp [Value.oneCell']) (by unfold maxLen; omega) (by omega) (by have := hB.size; simp; omega) ?_; intro v' w2 hown' hgrow _; obtain ⟨gg, cap', rfl⟩ := ownsRow_succ hown'; obtain ⟨hv1, hv2, hr2, hk2, hb2⟩ := hv.appended (by decide) hrow hB.size (Nat.le_refl _) hown' hgrow; have hc1 := hv1.cell; have hf1 := hv1.frozen)
    exact ⟨hk2.from _, hb2, ⟨_, hv2, by rw [List.length_append, List.map_append]; exact hr2, trivial⟩, hB.trans hb2⟩
  case done =>
    rintro D ys W hD rfl ⟨⟨v, hv, hrow, _⟩, hB⟩ hK
    have hc := hv.cell
    have HK := Lib.hid hK
    have HB := Lib.hid hB
    have HRW := Lib.hid hrow
    clear hK hB hrow hBA bO
    gi_wp2
    have hK2 : W.heap[D]? = some (.deferred (some [])) := HK.out
    refine ⟨by simp, .inl ⟨_, _, rfl, run_takeDeferred hK2, ?_⟩⟩
    have hD' : w.heap.size ≤ D := by simp at hD; omega
    refine ⟨_, results_tmp rfl _ _ _, v, rfl, ?_, HB.out.trans (belowK_b (w := w) (Nat.le_refl _) W D _ _ hD' hK2 rfl rfl)⟩
    exact HRW.out.kept (grownBy_putObj_a _ _ _) (ownsRow_ne_a HRW.out hK2 (fun cur e => by cases e))
  case stop =>
    rintro D c pre W _ _ h _
    exact h.elim
theorem Collect_any (q g c : Nat) (zs : List Int) (w : World) (hz : zs.length ≤ 4096) (hq : q < w.heap.size) (hg : g < w.heap.size) (hc : w.cell? ⟨q, 0, none⟩ = some (.slice (some ⟨g, 0, none⟩) zs.length c)) (hI : ∀ j u, (is zs)[j]? = some u → w.cell? ⟨g, j, none⟩ = some u) :
    Calls Try.prog 48 #[.func (.func 50) #[] #[.pointer (some ⟨q, 0, none⟩)]] w (ownPost zs w) := by
  have HA := Lib.hid (AppendSeq_any q g c zs w hz hq hg hc hI)
  clear hz hq hg hc hI
  go_enter Try.func48, Try.ntmps48
  go_wp2_with (go_at_call 52; refine HA.out.mono ?_; rintro e w' ⟨v, rfl, ho, hb⟩; have O := Lib.hid ho; have B := Lib.hid hb; clear ho hb)
  go_ret
  exact ⟨v, rfl, O.out, B.out⟩
def sortI (l : List Int) : List Int := l.mergeSort fun x y => decide (x ≤ y)
theorem sortI_len (l : List Int) : (sortI l).length = l.length := by simp [sortI]
theorem Sorted_any (q g c : Nat) (zs : List Int) (w : World) (h0 : 0 < zs.length) (hz : zs.length ≤ 4096) (hq : q < w.heap.size) (hg : g < w.heap.size) (hc : w.cell? ⟨q, 0, none⟩ = some (.slice (some ⟨g, 0, none⟩) zs.length c)) (hI : ∀ j u, (is zs)[j]? = some u → w.cell? ⟨g, j, none⟩ = some u) :
    Calls Try.prog 43 #[.func (.func 50) #[] #[.pointer (some ⟨q, 0, none⟩)]] w (ownPost (sortI zs) w) := by
  have HA := Lib.hid (Collect_any q g c zs w hz hq hg hc hI)
  clear hq hg hc hI
  have hsl : Calls Try.prog 43 #[.func (.func 50) #[] #[.pointer (some ⟨q, 0, none⟩)]] w (ownPost (sortI zs) w) := by
    go_enter Try.func43, Try.ntmps43
    go_wp2_with (go_at_call 48; refine HA.out.mono ?_; rintro e w' ⟨v, rfl, ho, hb⟩; have O := Lib.hid ho; have B := Lib.hid hb; clear ho hb)
    rcases O.out.2 with ⟨rfl, hz0⟩ | ⟨gb, cap, cur, rfl, hbase, hgb, r1, r2, r3, r4⟩
    · omega
    · have hH : Sort.Holds (Value.int .i64) w' gb 0 zs.toArray := holds_of_blockI hgb (by rw [Nat.mul_one] at r4; exact r4)
      have hgl : gb < w'.heap.size := (Array.getElem?_eq_some_iff.1 hgb).1
      have HS := Lib.hid (Try.slices_Sort_int gb 0 cap zs w' hH hgl (by omega))
      have HGB := Lib.hid hgb
      have HR := Lib.hid (show cur.size = cap * 1 from r3)
      clear hgb r3 r4 hH O HA
      go_wp2_with fail
      refine HS.out.mono ?_
      rintro e w2 ⟨rfl, nn, os, rfl⟩
      go_wp2
      go_ret
      rw [← sortI_len zs]
      refine ⟨_, rfl, ?_, ?_⟩
      · rw [sortI_len]
        exact ownsRow_sortedI (sortI_len zs) hbase HGB.out r1 r2 HR.out
      · exact B.out.grown (grownBy_sortedI _) B.out.size (fun j hj => by cases hj; exact hbase)
  exact hsl
theorem rowAt.pos {v : Value} {l : List Int} (h : rowAt w v l) (h0 : 0 < l.length) : ∃ g c, v = .slice (some ⟨g, 0, none⟩) l.length c ∧ g < w.heap.size ∧ ∀ j u, (is l)[j]? = some u → w.cell? ⟨g, j, none⟩ = some u := by
  rcases h with ⟨_, rfl⟩ | ⟨g, c, cs, rfl, h1, h2, h3, h4, h5⟩
  · cases h0
  · refine ⟨g, c, rfl, h1.lt, fun j u hu => ?_⟩
    have := rowAt.cells (w := w) (g := g) (n := l.length) (c := c) (.inr ⟨g, c, cs, rfl, h1, h2, h3, h4, h5⟩) j u hu
    rwa [addr_add, Nat.zero_add] at this
def sameI (a c : List Int) : Bool := decide (a.length = c.length) && (sortI a == sortI c)
def boolB (x : Bool) (w : World) (e : Ending) (w' : World) : Prop := e = .returned (.bool x) ∧ Below w.heap.size w w'
set_option maxHeartbeats 1000000 in
theorem sameIDs_any {v1 v2 : Value} {a l : List Int} (r1 : rowAt w v1 a) (r2 : rowAt w v2 l) (ha : 0 < a.length) (ha2 : a.length ≤ 4096) (hl2 : l.length ≤ 4096) :
    Calls Try.prog 36 #[v1, v2] w (boolB (sameI a l) w) := by
  by_cases hn : a.length = l.length
  · have hl : 0 < l.length := by omega
    obtain ⟨g1, c1, rfl, hg1, hc1⟩ := r1.pos ha
    obtain ⟨g2, c2, rfl, hg2, hc2⟩ := r2.pos hl
    have e : sameI a l = (sortI a == sortI l) := by simp [sameI, hn]
    rw [e]
    have HN := Lib.hid hn
    have C1 := Lib.hid hc1
    have C2 := Lib.hid hc2
    have hAl : Below w.heap.size w (w.alloc (.cells #[.slice (some ⟨g1, 0, none⟩) a.length c1] 35)) := (Below.refl _ w).alloc (Nat.le_refl _) _
    have HS1 := Lib.hid (Sorted_any w.heap.size g1 c1 a (w.alloc (.cells #[.slice (some ⟨g1, 0, none⟩) a.length c1] 35)) ha ha2 (by simp) (by simp; omega) ((has.new w 35 [.slice (some ⟨g1, 0, none⟩) a.length c1]).cell 0) (fun j u hu => (hAl.cell (p := ⟨g1, j, none⟩) hg1).trans (hc1 j u hu)))
    have HAl := Lib.hid hAl
    have hdd : ((a.length : Int) == (l.length : Int)) = true := by rw [hn]; simp
    clear r1 r2 hc1 hc2 hn e hAl
    rw [← HN.out] at hdd hl hl2 ⊢
    have HL := Lib.hid HN.out.symm
    have HA : Hid (a.length = a.length) := Lib.hid rfl
    obtain ⟨n, hn1⟩ : ∃ n, a.length = n := ⟨_, rfl⟩
    have HNA := Lib.hid hn1
    have HNL : Hid (l.length = n) := Lib.hid (by rw [HL.out]; exact hn1)
    clear HN HL HA
    rw [hn1] at ha ha2 hdd HS1 HAl ⊢
    clear hl hl2 hn1
    go_enter Try.func36, Try.ntmps36
    go_wp2_with (go_at_call 44; refine (Values_any _ _ _ _).mono ?_; rintro e w' ⟨rfl, rfl⟩)
    refine HS1.out.mono ?_
    rintro e w1 ⟨v, rfl, ho, hb⟩
    rw [sortI_len, HNA.out] at ho
    have hb1 : Below w.heap.size w w1 := HAl.out.trans (hb.mono HAl.out.size)
    obtain ⟨q1, k1, hv, hq1, hqc⟩ := (own_src ho).pos (by rw [sortI_len, HNA.out]; exact ha)
    rw [sortI_len, HNA.out] at hv
    subst hv
    have B1 := Lib.hid hb1
    have Q1 := Lib.hid hqc
    clear hb hb1 ho hqc HS1 HAl
    go_wp2_with (go_at_call 44; refine (Values_any _ _ _ _).mono ?_; rintro e w' ⟨rfl, rfl⟩)
    have hA2 : Below w1.heap.size w1 (w1.alloc (.cells #[.slice (some ⟨g2, 0, none⟩) n c2] 35)) := (Below.refl _ w1).alloc (Nat.le_refl _) _
    have hsz := B1.out.size
    have HS2 := Sorted_any w1.heap.size g2 c2 l (w1.alloc (.cells #[.slice (some ⟨g2, 0, none⟩) n c2] 35)) (by rw [HNL.out]; exact ha) (by rw [HNL.out]; exact ha2) (by simp) (by simp; omega) (by rw [HNL.out]; exact (has.new w1 35 [.slice (some ⟨g2, 0, none⟩) n c2]).cell 0) (fun j u hu => (hA2.cell (p := ⟨g2, j, none⟩) (by show g2 < _; omega)).trans ((B1.out.cell (p := ⟨g2, j, none⟩) hg2).trans (C2.out j u hu)))
    refine HS2.mono ?_
    rintro e w2 ⟨v2, rfl, ho, hb⟩
    rw [sortI_len, HNL.out] at ho
    have hb2 : Below w1.heap.size w1 w2 := hA2.trans (hb.mono hA2.size)
    obtain ⟨q2, k2, hv, hq2, hqc⟩ := (own_src ho).pos (by rw [sortI_len, HNL.out]; exact ha)
    rw [sortI_len, HNL.out] at hv
    subst hv
    have B2 := Lib.hid (B1.out.trans (hb2.mono hsz))
    have hEq := Try.slices_Equal_int q1 0 n k1 q2 0 n k2 (sortI a) (sortI l) w2 (by rw [sortI_len, HNA.out]; exact Nat.le_refl _) (by rw [sortI_len, HNL.out]; exact Nat.le_refl _) (by omega) (by omega)
      (fun j hj => by rw [Nat.zero_add]; exact (hb2.cell (p := ⟨q1, j, none⟩) hq1).trans (Q1.out j _ (is_get _ j hj))) (fun j hj => by rw [Nat.zero_add]; exact hqc j _ (is_get _ j hj))
    rw [List.take_of_length_le (by rw [sortI_len, HNA.out]; exact Nat.le_refl _), List.take_of_length_le (by rw [sortI_len, HNL.out]; exact Nat.le_refl _)] at hEq
    have HE := Lib.hid hEq
    clear hEq hqc hb2 ho hb hA2 HS2
    go_wp2_with fail
    refine HE.out.mono ?_
    rintro e w3 ⟨rfl, m, rfl⟩
    go_wp2
    go_ret
    exact ⟨rfl, B2.out.os, B2.out.tape, B2.out.output, B2.out.size, B2.out.block⟩
  · have e : sameI a l = false := by simp [sameI, hn]
    rw [e]
    obtain ⟨s1, c1, rfl, _, _⟩ := r1.form
    obtain ⟨s2, c2, rfl, _, _⟩ := r2.form
    have hdd : ((a.length : Int) == (l.length : Int)) = false := by rw [beq_eq_false_iff_ne]; omega
    clear r1 r2 e hn
    go_enter Try.func36, Try.ntmps36
    go_wp2
    go_ret
    exact ⟨rfl, Below.refl _ _⟩
end Go.Proofs.Ytklohgecgjlgeaa.zoFn
