/- What append leaves of a list; a list without one id. -/
import Derived.Test.YtklohgecgjlgeaaZoRead
import Derived.Deep.AppendLies
import Derived.Deep.RegionLaw
import Derived.Deep.RegionHeld3
import Derived.StillTailTactics
namespace Go.Proofs.Ytklohgecgjlgeaa.zoFn
open Go.ChangeShapes Go.WideShapes Go.ChangeAt Go.RowKit drMem
set_option linter.unusedVariables false
variable {F G : Nat → Prop} {w w' : World} {b gl mb : Nat} {L : List (List Int)}

theorem infoI : (Try.prog.info? 3).map (fun i => (i.zero, i.size, i.bytes)) = some (some (.int .i64 0), 1, 8) := by kernel_rfl
theorem is_app (a c : List Int) : is (a ++ c) = is a ++ is c := by simp [is]
theorem rowAt.shape {v : Value} {l : List Int} (h : rowAt w v l) : ∃ sp n c, v = .slice sp n c := by
  obtain ⟨sp, c, rfl, _⟩ := h.form; exact ⟨_, _, _, rfl⟩
theorem rowAt.cells {g n c : Nat} {l : List Int} (h : rowAt w (.slice (some ⟨g, 0, none⟩) n c) l) : ∀ j u, (is l)[j]? = some u → w.cell? ((⟨g, 0, none⟩ : Addr).add j) = some u := fun j u hu => by
  rcases h with ⟨h, _⟩ | ⟨g', c', cs, h, h1, h2, h3, h4, h5⟩
  · cases h
  · cases h
    have hj : j < l.length := by have := (List.getElem?_eq_some_iff.1 hu).1; rwa [is_len] at this
    rw [addr_add, Nat.zero_add, h1.cell]
    rw [← h5, List.getElem?_take] at hu
    simpa [hj] using hu
set_option maxHeartbeats 1000000 in
theorem run_app (ty : TypeId) {v : Value} {l : List Int} (h : rowAt w v l) (ad : Addr) (m c : Nat) (ns : List Int) (hl : ns.length = m) (hnews : ∀ j u, (is ns)[j]? = some u → w.cell? (ad.add j) = some u) (hb : l.length + m ≤ 65536) :
    ∃ v' w', (Builtin.append_ #[35, 35] ty #[v, .slice (some ad) m c]).run Try.prog w = .ok v' w' ∧ rowAt w' v' (l ++ ns) ∧ w.grownBy w' v.ownBlock ∧ (∀ g, v'.ownBlock = some g → v.ownBlock = some g ∨ w.heap.size ≤ g) := by
  obtain ⟨i0, hi, hz0, hz1, hz2⟩ := info_parts infoI
  have ht := Try.underlying35
  have hnl : (is ns).length = m * i0.size := by rw [is_len, hl, hz1, Nat.mul_one]
  have grown : ∀ old (row : Option Nat), rowAt (w.drew.alloc (.cells ((is l).toArray ++ (is ns).toArray ++ Builtin.zeroCells (Value.int .i64 0).cells (grownCap w (l.length + m) old 3 - (l.length + m))) 3)) (.slice (some ⟨w.heap.size, 0, none⟩) (l.length + m) (grownCap w (l.length + m) old 3)) (l ++ ns) ∧
      w.grownBy (w.drew.alloc (.cells ((is l).toArray ++ (is ns).toArray ++ Builtin.zeroCells (Value.int .i64 0).cells (grownCap w (l.length + m) old 3 - (l.length + m))) 3)) row := by
    intro old row
    have hge := grownCap_ge w (l.length + m) old 3
    have hcm : grownCap w (l.length + m) old 3 ≤ maxLen := grownCap_le_maxLen w (l.length + m) old 3 (by unfold maxLen; omega)
    have hsz : (Builtin.zeroCells (Value.int .i64 0).cells (grownCap w (l.length + m) old 3 - (l.length + m))).size = grownCap w (l.length + m) old 3 - (l.length + m) := by rw [size_zeroCells]; exact Nat.mul_one _
    refine ⟨.inr ⟨w.heap.size, _, ((is l).toArray ++ (is ns).toArray ++ Builtin.zeroCells (Value.int .i64 0).cells (grownCap w (l.length + m) old 3 - (l.length + m))).toList, by rw [List.length_append, hl], by unfold has; rw [Array.toArray_toList]; exact heap_alloc_new w.drew _, by rw [List.length_append, hl]; exact hge, ?_, hcm, ?_⟩, ⟨rfl, rfl, rfl, by simp, fun k hk _ => Below.heap_alloc w.drew _ k hk⟩⟩
    · simp only [Array.length_toList, Array.size_append, List.size_toArray, hsz, is_len, hl]
      omega
    · simp only [Array.toList_append, List.append_assoc]
      rw [is_app, ← List.append_assoc]
      exact List.take_left' (by simp [is_len, hl])
  have h63 : l.length + m ≤ maxLen := by unfold maxLen; omega
  rcases h with ⟨rfl, rfl⟩ | ⟨g, cap, cs, rfl, h1, h2, h3, h4, h5⟩
  · by_cases hm : m = 0
    · subst hm
      have hn : ns = [] := List.eq_nil_of_length_eq_zero hl
      subst hn
      refine ⟨.slice none 0 0, w, ?_, rowAt.nil w, ⟨rfl, rfl, rfl, Nat.le_refl _, fun _ _ _ => rfl⟩, fun g e => by cases e⟩
      simp [Builtin.append_, run_underlying ht, sizeOf, typeInfo, hi, Builtin.lenOf, Builtin.firstCells, loadCells, loadCellsFrom]
    · have hr := run_append_nil (P := Try.prog) w 35 ty 3 i0 _ ht hi hz0 ad m c (is ns) hnl hnews (by omega) (by omega) (by rw [hz2]; omega)
      have hgr := grown 0 (Value.ownBlock (.slice none 0 0))
      simp only [List.length_nil, Nat.zero_add, List.nil_append, show is [] = [] from rfl, Array.empty_append] at hgr ⊢
      exact ⟨_, _, hr, hgr.1, hgr.2, fun g e => by cases e; exact .inr (Nat.le_refl _)⟩
  · have hg : w.heap[g]? = some (.cells cs.toArray 3 (0, 0)) := h1
    by_cases hroom : l.length + m ≤ cap
    · have hr := run_append_room (P := Try.prog) w 35 ty 3 i0 ht hi g l.length cap cs.toArray hg ad m c (is ns) hnl hnews (is_one ns) hroom (by rw [hz1, is_len, hl, Nat.mul_one]; simp; omega)
      refine ⟨_, _, hr, .inr ⟨g, cap, _, by rw [List.length_append, hl], setRow_heap w g _ _ _ _ hg, by rw [List.length_append, hl]; exact hroom, ?_, h4, ?_⟩, ⟨rfl, rfl, rfl, by simp [World.setRow], fun k _ hk => setRow_other w g k _ (fun e => hk (by simp [Value.ownBlock, e]))⟩, fun g' e => .inl e⟩
      · simp only [List.length_append, List.length_take, List.length_drop, hz1, is_len, hl, Nat.mul_one]
        omega
      · rw [hz1, Nat.mul_one, h5, is_app]
        exact List.take_left' (by simp [is_len])
    · have holds : ∀ j u, (is l)[j]? = some u → w.cell? ((⟨g, 0, none⟩ : Addr).add j) = some u := rowAt.cells (n := l.length) (c := cap) (.inr ⟨g, cap, cs, rfl, h1, h2, h3, h4, h5⟩)
      have hfit : Builtin.nextslicecap (l.length + m) cap * i0.bytes ≤ 281474976710656 := by
        have := nextslicecap_le (need := l.length + m) (old := cap) (by omega)
        rw [hz2]; omega
      have hr := run_append_grow (P := Try.prog) w 35 ty 3 i0 _ ht hi hz0 ⟨g, 0, none⟩ l.length cap (is l) (by rw [is_len, hz1, Nat.mul_one]) holds ad m c (is ns) hnl hnews (by omega) (by omega) hfit
      have hgr := grown cap (Value.ownBlock (.slice (some ⟨g, 0, none⟩) l.length cap))
      exact ⟨_, _, hr, hgr.1, hgr.2, fun g e => by cases e; exact .inr (Nat.le_refl _)⟩
/- at the operation -/
theorem wp_app {o : Oper} {a : Act} {K : Act → World → Prop} {Q : Exit → Act → World → Prop} (s x : Operand)
    (ho : o.op = .call { callee := .builtin .append, args := #[s, x], argTypes := #[35, 35] })
    (v : Value) (l : List Int) (hs : a.eval s = v) (h : rowAt w v l) (ad : Addr) (m c : Nat) (ns : List Int) (hx : a.eval x = .slice (some ad) m c) (hl : ns.length = m) (hnews : ∀ j u, (is ns)[j]? = some u → w.cell? (ad.add j) = some u) (hb : l.length + m ≤ 65536)
    (hK : ∀ v' w', rowAt w' v' (l ++ ns) → w.grownBy w' v.ownBlock → (∀ g, v'.ownBlock = some g → v.ownBlock = some g ∨ w.heap.size ≤ g) → K (a.put o.dst v') w') : o.wp Try.prog a w K Q := by
  obtain ⟨v', w', hr, h1, h2, h3⟩ := run_app o.type h ad m c ns hl hnews hb
  unfold Oper.wp execOp
  simp only [ho, resolve, invoke, builtin, Sem.run_bind, Sem.run_pure, Result.andThen_ok, List.map_toArray, List.map_cons, List.map_nil, hs, hx, hr]
  exact hK v' w' h1 h2 h3
theorem step_app {ops : Array Oper} {o : Oper} {a : Act} {K : Act → World → Prop} {Q : Exit → Act → World → Prop} {E : Prop} (hgd : o.guard = none) (s x : Operand)
    (ho : o.op = .call { callee := .builtin .append, args := #[s, x], argTypes := #[35, 35] })
    (v : Value) (l : List Int) (hs : a.eval s = v) (h : rowAt w v l) (ad : Addr) (m c : Nat) (ns : List Int) (hx : a.eval x = .slice (some ad) m c) (hl : ns.length = m) (hnews : ∀ j u, (is ns)[j]? = some u → w.cell? (ad.add j) = some u) (hb : l.length + m ≤ 65536)
    (hK : ∀ v' w', rowAt w' v' (l ++ ns) → w.grownBy w' v.ownBlock → (∀ g, v'.ownBlock = some g → v.ownBlock = some g ∨ w.heap.size ≤ g) → K (a.put o.dst v') w') :
    if Region.wanted o (yielded ops a.tmps) = true then Oper.wp Try.prog o a w K Q else E := by
  have hw : Region.wanted o (yielded ops a.tmps) = true := by simp [Region.wanted, hgd]
  rw [if_pos hw]
  exact wp_app s x ho v l hs h ad m c ns hx hl hnews hb hK
set_option maxHeartbeats 4000000 in
theorem putOnTop_any (h : ZS F w b gl mb L) {i : Nat} (hi : i < L.length) {x : Int} (hx : 1 ≤ x ∧ x ≤ 4096) (hin : inL L x = false) :
    Calls Try.prog 27 #[.pointer (some ⟨b, 0, none⟩), .int .i64 x, .int .i64 (i : Int)] w fun e w' => e = .returned (.tuple #[]) ∧ ZS F w' b gl mb (topL L x i) ∧ KeepF F w w' := by
  obtain ⟨hg, vs, D, hm, hh⟩ := h
  have hlen := hg.len i
  have c0 := hm.z.cell 0
  have c1 := hm.z.cell 1
  have v0 := hm.at hi
  have r0 := hm.r i hi
  have f0 := hm.l.free i
  have hL := hg.n2
  simp only [List.getElem?_cons_zero, List.getElem?_cons_succ] at c0 c1
  have HM := Lib.hid hm
  have HR := Lib.hid r0
  have HG := Lib.hid hg
  have HH := Lib.hid hh
  have hglt := hm.l.lt
  have hblt := hm.z.lt
  clear hm r0 hg hh
  obtain ⟨v, hv⟩ : ∃ v, vs.getD i d0 = v := ⟨_, rfl⟩
  rw [hv] at v0 HR
  have HV := Lib.hid hv
  clear hv
  have hB : Below w.heap.size w (w.alloc (.cells #[.int .i64 x] 3)).drew := by
    have hb := (Below.refl _ w).alloc (Nat.le_refl _) (.cells #[.int .i64 x] 3)
    exact ⟨hb.os, hb.tape, hb.output, hb.size, hb.block⟩
  have HW := Lib.hid (HM.out.below' hB)
  have HKB := Lib.hid (KeepF.of_below hB HM.out.ft)
  clear hB
  go_enter Try.func27, Try.ntmps27
  go_wp2_with fail
  have n1 := World.new_ne w _ v0
  have n2 := World.new_ne w _ c0
  have n3 : gl ≠ b := Ne.symm (HM.out.z.ne HM.out.l (by decide))
  refine wp_region_held_drew (S := (fun w' => w'.cell? ⟨b, 0, none⟩ = some (.slice (some ⟨gl, 0, none⟩) L.length L.length))) (by kernel_rfl) ?_ (fun hH0 => ?_)
  · (first | assumption | go_keep)
  refine wpAnyH_take (i := 0) (oi := _) (v := ?_) rfl (by kernel_rfl) (by kernel_rfl) (by kernel_rfl) (fun _ _ _ h => h) (Or.inl ⟨by rfl, ?_⟩) (by assumption) ?_
  rotate_left
  · intro w hSw; (try dsimp only at hSw); first | (go_simp; done) | (go_simp; with_reducible rfl)
  try simp only [go_sem]
  refine wpAnyH_take (i := 1) (oi := _) (v := ?_) rfl (by kernel_rfl) (by kernel_rfl) (by kernel_rfl) (fun _ _ _ h => h) (Or.inl ⟨by rfl, ?_⟩) (by assumption) ?_
  rotate_left
  · intro w hSw; (try dsimp only at hSw); first | (go_simp; done) | (go_simp; with_reducible rfl)
  try simp only [go_sem]
  refine wpAnyH_take (i := 2) (oi := _) (v := ?_) rfl (by kernel_rfl) (by kernel_rfl) (by kernel_rfl) (fun _ _ _ h => h) (Or.inl ⟨by rfl, ?_⟩) (by assumption) ?_
  rotate_left
  · intro w hSw; (try dsimp only at hSw); first | (go_simp; done) | (go_simp; with_reducible rfl)
  try simp only [go_sem]
  refine wpAnyH_take (i := 3) (oi := _) (v := ?_) rfl (by kernel_rfl) (by kernel_rfl) (by kernel_rfl) (fun _ _ _ h => h) (Or.inl ⟨by rfl, ?_⟩) (by assumption) ?_
  rotate_left
  · intro w hSw; (try dsimp only at hSw); first | (go_simp; done) | (go_simp; with_reducible rfl)
  try simp only [go_sem]
  refine wpAnyH_take (i := 4) (oi := _) (v := ?_) rfl (by kernel_rfl) (by kernel_rfl) (by kernel_rfl) (fun _ _ _ h => h) (Or.inl ⟨by rfl, ?_⟩) (by assumption) ?_
  rotate_left
  · intro w hSw; (try dsimp only at hSw); first | (go_simp; done) | (go_simp; with_reducible rfl)
  try simp only [go_sem]
  refine wpAnyH_take (i := 5) (oi := _) (v := ?_) rfl (by kernel_rfl) (by kernel_rfl) (by kernel_rfl) (fun _ _ _ h => h) (Or.inl ⟨by rfl, ?_⟩) (by assumption) ?_
  rotate_left
  · intro w hSw; (try dsimp only at hSw); first | (go_simp; done) | (go_simp; with_reducible rfl)
  try simp only [go_sem]
  refine wpAnyH_take (i := 6) (oi := _) (v := ?_) rfl (by kernel_rfl) (by kernel_rfl) (by kernel_rfl) (fun _ _ _ h => h) (Or.inl ⟨by rfl, ?_⟩) (by assumption) ?_
  rotate_left
  · intro w hSw; (try dsimp only at hSw); first | (go_simp; done) | (go_simp; with_reducible rfl)
  try simp only [go_sem]
  refine wpAnyH_take (i := 7) (oi := _) (v := ?_) rfl (by kernel_rfl) (by kernel_rfl) (by kernel_rfl) (fun _ _ _ h => h) (Or.inl ⟨by rfl, ?_⟩) (by assumption) ?_
  rotate_left
  · intro w hSw; (try dsimp only at hSw); first | (go_simp; done) | (go_simp; with_reducible rfl)
  try simp only [go_sem]
  refine wpAnyH_take (i := 8) (oi := _) (v := ?_) rfl (by kernel_rfl) (by kernel_rfl) (by kernel_rfl) (fun _ _ _ h => h) (Or.inl ⟨by rfl, ?_⟩) (by assumption) ?_
  rotate_left
  · intro w hSw; (try dsimp only at hSw); first | (go_simp; done) | (go_simp; with_reducible rfl)
  try simp only [go_sem]
  refine wpAnyH_take (i := 9) (oi := _) (v := ?_) rfl (by kernel_rfl) (by kernel_rfl) (by kernel_rfl) (fun _ _ _ h => h) (Or.inl ⟨by rfl, ?_⟩) (by assumption) ?_
  rotate_left
  · intro w hSw; (try dsimp only at hSw); first | (go_simp; done) | (go_simp; with_reducible rfl)
  try simp only [go_sem]
  refine wpAnyH_take (i := 10) (oi := _) (v := ?_) rfl (by kernel_rfl) (by kernel_rfl) (by kernel_rfl) (fun _ _ _ h => h) (Or.inl ⟨by rfl, ?_⟩) (by assumption) ?_
  rotate_left
  · intro w hSw; (try dsimp only at hSw); first | (go_simp; done) | (go_simp; with_reducible rfl)
  try simp only [go_sem]
  refine wpAnyH_take (i := 12) (oi := _) (v := ?_) rfl (by kernel_rfl) (by kernel_rfl) (by kernel_rfl) (fun _ _ _ h => h) (Or.inl ⟨by rfl, ?_⟩) (by assumption) ?_
  rotate_left
  · intro w hSw; (try dsimp only at hSw); first | (go_simp; done) | (go_simp; with_reducible rfl)
  try simp only [go_sem]
  refine wpAnyH_ready (rs := [11, 13]) (by kernel_rfl) (by simp) ?_
  refine AllReadyH.cons (o := _) rfl (fun K hK => ?_) (AllReadyH.cons (o := _) rfl (fun K hK => ?_) AllReadyH.nil)
  · go_simp
    refine hK.out _ _ ?_ (fun hH1 => ?_)
    · (first | assumption | go_keep)
    clear hK K hH0
    try simp only [go_sem]
    refine wpAnyH_ready (rs := [13]) (by kernel_rfl) (by simp) ?_
    refine AllReadyH.cons (o := _) rfl (fun K hK => ?_) AllReadyH.nil
    go_simp
    refine hK.out _ _ ?_ (fun hH2 => ?_)
    · (first | assumption | go_keep)
    clear hK K hH1
    try simp only [go_sem]
    refine wpAnyH_ready (rs := [14]) (by kernel_rfl) (by simp) ?_
    refine AllReadyH.cons (o := _) rfl (fun K hK => ?_) AllReadyH.nil
    refine step_app rfl (.tmp 17) (.tmp 19) rfl v (row L i) (by simp [Act.eval]) ((HR.out.keep fun g e => Below.heap_alloc w _ g (HR.out.lt e))) ⟨w.heap.size, 0, none⟩ 1 1 [x] (by simp [Act.eval]) rfl (World.news_of_block (heap_alloc_new w.drew _)) (by omega) ?_; intro v' w1 hr1 hg1 hb1; obtain ⟨sp', n', c', rfl⟩ := hr1.shape; obtain ⟨x0, x1, x2, x3⟩ := HW.out.after hi HV.out hg1; have R1 := Lib.hid hr1; have G1 := Lib.hid hg1; have B1 := Lib.hid hb1; clear hr1 hg1 hb1
    refine hK.out _ _ ?_ (fun hH3 => ?_)
    · (first | assumption | go_keep)
    clear hK K hH2
    try simp only [go_sem]
    refine wpAnyH_take (i := 15) (oi := _) (v := ?_) rfl (by kernel_rfl) (by kernel_rfl) (by kernel_rfl) (fun _ _ _ h => h) (Or.inl ⟨by rfl, ?_⟩) (by assumption) ?_
    rotate_left
    · intro w hSw; (try dsimp only at hSw); first | (go_simp; done) | (go_simp; with_reducible rfl)
    try simp only [go_sem]
    refine wpAnyH_ready (rs := [16]) (by kernel_rfl) (by simp) ?_
    refine AllReadyH.cons (o := _) rfl (fun K hK => ?_) AllReadyH.nil
    go_simp
    refine hK.out _ _ ?_ (fun hH4 => ?_)
    · (first | assumption | go_keep)
    clear hK K hH3
    try simp only [go_sem]
    refine wpAnyH_done (by kernel_rfl) ?_ _
    have hp := HW.out.put hi (v := .slice sp' n' c') (l := row L i ++ [x]) (by rw [HV.out]; exact G1.out) R1.out (by rw [HV.out]; exact fun g e => B1.out g e)
    have c2 := hp.1.z.cell 1
    simp only [List.getElem?_cons_zero, List.getElem?_cons_succ] at c2
    have M1 := hp.1.m
    have HP := Lib.hid hp.1
    have HK := Lib.hid (HKB.out.trans hp.2)
    have hk := keyOfI (x := x) (by omega)
    have hsz : Maps.size D < maxLen := by have h1 := HH.out.n; have h2 := HG.out.tot; unfold maxLen; omega
    have hval : plainElem (H := Unit) Try.prog 3 (.int .i64 (i : Int)) = some (.lit (.int .i64 (i : Int)), []) := plainElem_int Try.underlying3 (WalkArith.wf_i64 (by omega))
    clear hp x0 x1 x2 x3 c0 c1 v0 f0 n1 n2 hlen
    generalize Maps.size D = sz at M1 hsz
    go_wp2_with (first | (at_mapUpdate; refine wpList_mapUpdate_own _ rfl _ _ _ 41 rfl 3 3 keyI Try.underlying41 _ mb sz D rfl M1 hsz _ _ _ rfl rfl hk _ [] hval ?_; intro w30 hown1 hgrow1; have O3 := Lib.hid hown1; have G3 := Lib.hid hgrow1; clear hown1 hgrow1))
    go_end0
    have hq := HP.out.mapped G3.out O3.out
    exact ⟨rfl, ⟨HG.out.top hi hx hin, _, _, hq.1, HH.out.top hi hin⟩, HK.out.trans hq.2⟩
  · go_simp
    refine hK.out _ _ ?_ (fun hH1 => ?_)
    · (first | assumption | go_keep)
    clear hK K hH0
    try simp only [go_sem]
    refine wpAnyH_ready (rs := [11]) (by kernel_rfl) (by simp) ?_
    refine AllReadyH.cons (o := _) rfl (fun K hK => ?_) AllReadyH.nil
    go_simp
    refine hK.out _ _ ?_ (fun hH2 => ?_)
    · (first | assumption | go_keep)
    clear hK K hH1
    try simp only [go_sem]
    refine wpAnyH_ready (rs := [14]) (by kernel_rfl) (by simp) ?_
    refine AllReadyH.cons (o := _) rfl (fun K hK => ?_) AllReadyH.nil
    refine step_app rfl (.tmp 17) (.tmp 19) rfl v (row L i) (by simp [Act.eval]) ((HR.out.keep fun g e => Below.heap_alloc w _ g (HR.out.lt e))) ⟨w.heap.size, 0, none⟩ 1 1 [x] (by simp [Act.eval]) rfl (World.news_of_block (heap_alloc_new w.drew _)) (by omega) ?_; intro v' w1 hr1 hg1 hb1; obtain ⟨sp', n', c', rfl⟩ := hr1.shape; obtain ⟨x0, x1, x2, x3⟩ := HW.out.after hi HV.out hg1; have R1 := Lib.hid hr1; have G1 := Lib.hid hg1; have B1 := Lib.hid hb1; clear hr1 hg1 hb1
    refine hK.out _ _ ?_ (fun hH3 => ?_)
    · (first | assumption | go_keep)
    clear hK K hH2
    try simp only [go_sem]
    refine wpAnyH_take (i := 15) (oi := _) (v := ?_) rfl (by kernel_rfl) (by kernel_rfl) (by kernel_rfl) (fun _ _ _ h => h) (Or.inl ⟨by rfl, ?_⟩) (by assumption) ?_
    rotate_left
    · intro w hSw; (try dsimp only at hSw); first | (go_simp; done) | (go_simp; with_reducible rfl)
    try simp only [go_sem]
    refine wpAnyH_ready (rs := [16]) (by kernel_rfl) (by simp) ?_
    refine AllReadyH.cons (o := _) rfl (fun K hK => ?_) AllReadyH.nil
    go_simp
    refine hK.out _ _ ?_ (fun hH4 => ?_)
    · (first | assumption | go_keep)
    clear hK K hH3
    try simp only [go_sem]
    refine wpAnyH_done (by kernel_rfl) ?_ _
    have hp := HW.out.put hi (v := .slice sp' n' c') (l := row L i ++ [x]) (by rw [HV.out]; exact G1.out) R1.out (by rw [HV.out]; exact fun g e => B1.out g e)
    have c2 := hp.1.z.cell 1
    simp only [List.getElem?_cons_zero, List.getElem?_cons_succ] at c2
    have M1 := hp.1.m
    have HP := Lib.hid hp.1
    have HK := Lib.hid (HKB.out.trans hp.2)
    have hk := keyOfI (x := x) (by omega)
    have hsz : Maps.size D < maxLen := by have h1 := HH.out.n; have h2 := HG.out.tot; unfold maxLen; omega
    have hval : plainElem (H := Unit) Try.prog 3 (.int .i64 (i : Int)) = some (.lit (.int .i64 (i : Int)), []) := plainElem_int Try.underlying3 (WalkArith.wf_i64 (by omega))
    clear hp x0 x1 x2 x3 c0 c1 v0 f0 n1 n2 hlen
    generalize Maps.size D = sz at M1 hsz
    go_wp2_with (first | (at_mapUpdate; refine wpList_mapUpdate_own _ rfl _ _ _ 41 rfl 3 3 keyI Try.underlying41 _ mb sz D rfl M1 hsz _ _ _ rfl rfl hk _ [] hval ?_; intro w30 hown1 hgrow1; have O3 := Lib.hid hown1; have G3 := Lib.hid hgrow1; clear hown1 hgrow1))
    go_end0
    have hq := HP.out.mapped G3.out O3.out
    exact ⟨rfl, ⟨HG.out.top hi hx hin, _, _, hq.1, HH.out.top hi hin⟩, HK.out.trans hq.2⟩
end Go.Proofs.Ytklohgecgjlgeaa.zoFn
