/- A list without one id; taking an id out. -/
import Derived.Test.YtklohgecgjlgeaaZoRow
namespace Go.Proofs.Ytklohgecgjlgeaa.zoFn
open Go.ChangeShapes Go.WideShapes Go.ChangeAt Go.RowKit drMem
set_option linter.unusedVariables false
variable {F G : Nat → Prop} {w w' : World} {b gl mb : Nat} {L : List (List Int)}

theorem is_take (l : List Int) (n : Nat) : is (l.take n) = (is l).take n := by simp [is, List.map_take]
theorem is_drop (l : List Int) (n : Nat) : is (l.drop n) = (is l).drop n := by simp [is, List.map_drop]
theorem has.grown' {g : Nat} {t : TypeId} {cs : List Value} (h : has w g t cs) {row : Option Nat} (hb : w.grownBy w' row) (hg : some g ≠ row) : has w' g t cs := (hb.block g h.lt hg).trans h
def outPost (w : World) (v : Value) (l : List Int) (i : Nat) (e : Ending) (w' : World) : Prop :=
  ∃ v', e = .returned v' ∧ rowAt w' v' (l.eraseIdx i) ∧ w.grownBy w' v.ownBlock ∧ (∀ g, v'.ownBlock = some g → v.ownBlock = some g ∨ w.heap.size ≤ g)
set_option maxHeartbeats 2000000 in
theorem without_any {v : Value} {l : List Int} (h : rowAt w v l) {i : Nat} (hi : i < l.length) (hl : l.length ≤ 4096) :
    Calls Try.prog 41 #[v, .int .i64 (i : Int)] w (outPost w v l i) := by
  rcases h with ⟨rfl, rfl⟩ | ⟨g, c, cs, rfl, h1, h2, h3, h4, h5⟩
  · cases hi
  have hrow : rowAt w.drew (.slice (some ⟨g, 0, none⟩) i i) (l.take i) := .inr ⟨g, i, cs, by rw [List.length_take_of_le (by omega)], h1, by rw [List.length_take_of_le (by omega)]; exact Nat.le_refl _, by omega, by omega, by
    rw [List.length_take_of_le (by omega), is_take, ← h5, List.take_take]
    congr 1; omega⟩
  obtain ⟨n, hn⟩ : ∃ n, l.length = n := ⟨_, rfl⟩
  have hcell : ∀ j u, (is l)[j]? = some u → w.cell? ⟨g, j, none⟩ = some u := fun j u hu => by
    have := rowAt.cells (w := w) (g := g) (n := l.length) (c := c) (.inr ⟨g, c, cs, rfl, h1, h2, h3, h4, h5⟩) j u hu
    rwa [addr_add, Nat.zero_add] at this
  have HR := Lib.hid hrow
  have HC := Lib.hid hcell
  have HE := Lib.hid (List.eraseIdx_eq_take_drop_succ l i)
  rw [hn] at hi hl h2 ⊢
  have HN := Lib.hid hn
  have hcm : c ≤ 9223372036854775807 := by unfold maxLen at h4; omega
  clear hrow hcell h1 h3 h4 h5 hn
  have e1 : IntKind.i64.wrap ((i : Int) + 1) = ((i + 1 : Nat) : Int) := by rw [IntWalk.i64_in _ (by omega)]; omega
  by_cases hc : c = i + 1
  · obtain ⟨k, hk⟩ : ∃ k, i + 1 = k := ⟨_, rfl⟩
    rw [hk] at e1 hc
    obtain rfl : n = k := by omega
    obtain rfl := hc
    have b1 : (0 : Int) ≤ (i : Int) := by omega
    have b2 : (i : Int) ≤ (c : Int) := by omega
    have b4 : (0 : Int) ≤ (c : Int) := by omega
    have HLD : Hid (l.drop c = []) := Lib.hid (List.drop_of_length_le (by rw [HN.out]; exact Nat.le_refl _))
    have HTK : Hid ((l.take i).length = i) := Lib.hid (List.length_take_of_le (by rw [HN.out]; omega))
    have hns : ∀ j u, (is [])[j]? = some u → w.drew.cell? ((⟨g, 0, none⟩ : Addr).add j) = some u := fun j u hu => by cases hu
    have HNS := Lib.hid hns
    clear hns
    go_enter Try.func41, Try.ntmps41
    go_wp2_with fail
    go_region_held3 (fun _ => True) (exact trivial) (first | (refine step_app rfl (.tmp 8) (.tmp 12) rfl (.slice (some ⟨g, 0, none⟩) i i) (l.take i) (by simp [Act.eval]) HR.out ⟨g, 0, none⟩ 0 0 [] (by simp [Act.eval]) rfl HNS.out (by rw [HTK.out]; omega) ?_; intro v' w1 hr1 hg1 hb1; have R1 := Lib.hid hr1; have G1 := Lib.hid hg1; have B1 := Lib.hid hb1; clear hr1 hg1 hb1))
    go_wp2
    go_ret
    refine ⟨v', rfl, ?_, ?_, B1.out⟩
    · rw [HE.out, hk, HLD.out]; exact R1.out
    · exact ⟨G1.out.os, G1.out.tape, G1.out.output, G1.out.size, G1.out.block⟩
  · obtain ⟨k, hk⟩ : ∃ k, i + 1 = k := ⟨_, rfl⟩
    rw [hk] at e1 hc
    have b1 : (0 : Int) ≤ (i : Int) := by omega
    have b2 : (i : Int) ≤ (n : Int) := by omega
    have b3 : (k : Int) ≤ (n : Int) := by omega
    have b4 : (0 : Int) ≤ (k : Int) := by omega
    have b5 : (i : Int) ≤ (c : Int) := by omega
    go_enter Try.func41, Try.ntmps41
    go_wp2_with fail
    have hns : ∀ j u, (is (l.drop k))[j]? = some u → w.drew.cell? ((⟨g, k, none⟩ : Addr).add j) = some u := fun j u hu => by
      rw [addr_add]
      refine HC.out (k + j) u ?_
      rw [is_drop, List.getElem?_drop] at hu
      exact hu
    have HNS := Lib.hid hns
    have HLD : Hid ((l.drop k).length = n - k) := Lib.hid (by rw [List.length_drop, HN.out])
    have HTK : Hid ((l.take i).length = i) := Lib.hid (List.length_take_of_le (by rw [HN.out]; omega))
    clear hns
    go_region_held3 (fun _ => True) (exact trivial) (first | (refine step_app rfl (.tmp 8) (.tmp 12) rfl (.slice (some ⟨g, 0, none⟩) i i) (l.take i) (by simp [Act.eval]) HR.out ⟨g, k, none⟩ (n - k) (c - k) (l.drop k) (by simp [Act.eval]) HLD.out HNS.out (by rw [HTK.out]; omega) ?_; intro v' w1 hr1 hg1 hb1; have R1 := Lib.hid hr1; have G1 := Lib.hid hg1; have B1 := Lib.hid hb1; clear hr1 hg1 hb1))
    go_wp2
    go_ret
    refine ⟨v', rfl, ?_, ?_, B1.out⟩
    · rw [HE.out, hk]; exact R1.out
    · exact ⟨G1.out.os, G1.out.tape, G1.out.output, G1.out.size, G1.out.block⟩
set_option maxHeartbeats 4000000 in
theorem takeOut_any (h : ZS F w b gl mb L) {x : Int} (hin : inL L x = true) :
    Calls Try.prog 33 #[.pointer (some ⟨b, 0, none⟩), .int .i64 x] w fun e w' => e = .returned (.tuple #[]) ∧ ZS F w' b gl mb (outL L x) ∧ KeepF F w w' := by
  have HP := Lib.hid (place_any h hin)
  have hm0 := homeI_mem hin
  have hi := row_lt hm0
  have hrng := h.good.rng _ _ hm0
  have H := Lib.hid h
  have hix := idxI_lt hm0
  have HM0 := Lib.hid hm0
  clear h hm0
  obtain ⟨i, hie⟩ : ∃ i, homeI L x = i := ⟨_, rfl⟩
  rw [hie] at HP hi hix HM0
  obtain ⟨k, hke⟩ : ∃ k, idxI (row L i) x = k := ⟨_, rfl⟩
  rw [hke] at HP hix
  have HIE := Lib.hid hie
  have HKE := Lib.hid hke
  clear hie hke
  go_enter Try.func33, Try.ntmps33
  go_wp2_with (first | (go_at_call 38; refine HP.out.mono ?_; rintro e w1 ⟨rfl, hb1⟩; have B1 := Lib.hid hb1; clear hb1))
  -- the region of takeOut
  obtain ⟨q, hq⟩ : ∃ q, w1.heap.size = q := ⟨_, rfl⟩
  obtain ⟨w2, hw2⟩ : ∃ w2, w2 = w1.alloc (.cells #[.int .i64 (i : Int), .int .i64 (k : Int)] 33) := ⟨_, rfl⟩
  have hp2 : has w2 q 33 [.int .i64 (i : Int), .int .i64 (k : Int)] := by rw [hw2, ← hq]; exact has.new _ _ _
  have hb2 : Below w.heap.size w w2.drew := by
    rw [hw2]
    have hb := B1.out.alloc B1.out.size (.cells #[.int .i64 (i : Int), .int .i64 (k : Int)] 33)
    exact ⟨hb.os, hb.tape, hb.output, hb.size, hb.block⟩
  rw [← hw2, hq]
  have HF := Lib.hid (KeepF.of_below hb2 H.out.ft)
  have HP2 := Lib.hid (show has w2.drew q 33 [.int .i64 (i : Int), .int .i64 (k : Int)] from hp2)
  obtain ⟨hg, vs, D, hm, hh⟩ := H.out.below' hb2
  have hL := hg.n2
  have hlen := hg.len i
  have c0 : w2.cell? ⟨b, 0, none⟩ = some (.slice (some ⟨gl, 0, none⟩) L.length L.length) := hm.z.cell 0
  have v0 : w2.cell? ⟨gl, i, none⟩ = some (vs.getD i d0) := hm.at hi
  have p0 : w2.cell? ⟨q, 0, none⟩ = some (.int .i64 (i : Int)) := hp2.cell 0
  have p1 : w2.cell? ⟨q, 1, none⟩ = some (.int .i64 (k : Int)) := hp2.cell 1
  have n3 : gl ≠ b := Ne.symm (hm.z.ne hm.l (by decide))
  have n4 : gl ≠ q := hm.l.ne HP2.out (by decide)
  have HM := Lib.hid hm
  have HR := Lib.hid (hm.r i hi)
  have HG := Lib.hid hg
  have HH := Lib.hid hh
  obtain ⟨v, hv⟩ : ∃ v, vs.getD i d0 = v := ⟨_, rfl⟩
  rw [hv] at v0 HR
  have HV := Lib.hid hv
  have HQ := Lib.hid hq
  have HW2 := Lib.hid hw2
  clear hv hm hg hh hp2 hb2 hq hw2
  obtain ⟨sp, m0, cc, hvs⟩ := HR.out.shape
  subst hvs
  refine wp_region_held_drew (S := (fun w' => w'.cell? ⟨b, 0, none⟩ = some (.slice (some ⟨gl, 0, none⟩) L.length L.length) ∧ w'.cell? ⟨q, 0, none⟩ = some (.int .i64 (i : Int)) ∧ w'.cell? ⟨q, 1, none⟩ = some (.int .i64 (k : Int)))) (by kernel_rfl) ?_ (fun hH0 => ?_)
  · (first | assumption | exact ⟨x2, p2, p3⟩ | go_keep)
  refine wpAnyH_take (i := 0) (oi := _) (v := ?_) rfl (by kernel_rfl) (by kernel_rfl) (by kernel_rfl) (fun _ _ _ h => h) (Or.inl ⟨by rfl, ?_⟩) (by assumption) ?_
  rotate_left
  · intro w hSw; (try dsimp only at hSw); first | (go_simp; done) | (go_simp; with_reducible rfl)
  try simp only [go_sem]
  refine wpAnyH_take (i := 1) (oi := _) (v := ?_) rfl (by kernel_rfl) (by kernel_rfl) (by kernel_rfl) (fun _ _ _ h => h) (Or.inl ⟨by rfl, ?_⟩) (by assumption) ?_
  rotate_left
  · intro w hSw; (try dsimp only at hSw); first | (go_simp; done) | (go_simp; with_reducible rfl)
  try simp only [go_sem]
  refine wpAnyH_take (i := 2) (oi := _) (v := ?_) rfl (by kernel_rfl) (by kernel_rfl) (by kernel_rfl) (fun _ _ _ h => h) (Or.inl ⟨by rfl, ?_⟩) (by assumption) ?_
  rotate_left
  · intro w hSw; (try dsimp only at hSw); first | (go_simp; done) | (go_simp; with_reducible rfl)
  try simp only [go_sem]
  refine wpAnyH_take (i := 3) (oi := _) (v := ?_) rfl (by kernel_rfl) (by kernel_rfl) (by kernel_rfl) (fun _ _ _ h => h) (Or.inl ⟨by rfl, ?_⟩) (by assumption) ?_
  rotate_left
  · intro w hSw; (try dsimp only at hSw); first | (go_simp; done) | (go_simp; with_reducible rfl)
  try simp only [go_sem]
  refine wpAnyH_take (i := 4) (oi := _) (v := ?_) rfl (by kernel_rfl) (by kernel_rfl) (by kernel_rfl) (fun _ _ _ h => h) (Or.inl ⟨by rfl, ?_⟩) (by assumption) ?_
  rotate_left
  · intro w hSw; (try dsimp only at hSw); first | (go_simp; done) | (go_simp; with_reducible rfl)
  try simp only [go_sem]
  refine wpAnyH_take (i := 5) (oi := _) (v := ?_) rfl (by kernel_rfl) (by kernel_rfl) (by kernel_rfl) (fun _ _ _ h => h) (Or.inl ⟨by rfl, ?_⟩) (by assumption) ?_
  rotate_left
  · intro w hSw; (try dsimp only at hSw); first | (go_simp; done) | (go_simp; with_reducible rfl)
  try simp only [go_sem]
  refine wpAnyH_take (i := 6) (oi := _) (v := ?_) rfl (by kernel_rfl) (by kernel_rfl) (by kernel_rfl) (fun _ _ _ h => h) (Or.inl ⟨by rfl, ?_⟩) (by assumption) ?_
  rotate_left
  · intro w hSw; (try dsimp only at hSw); first | (go_simp; done) | (go_simp; with_reducible rfl)
  try simp only [go_sem]
  refine wpAnyH_take (i := 7) (oi := _) (v := ?_) rfl (by kernel_rfl) (by kernel_rfl) (by kernel_rfl) (fun _ _ _ h => h) (Or.inl ⟨by rfl, ?_⟩) (by assumption) ?_
  rotate_left
  · intro w hSw; (try dsimp only at hSw); first | (go_simp; done) | (go_simp; with_reducible rfl)
  try simp only [go_sem]
  refine wpAnyH_take (i := 8) (oi := _) (v := ?_) rfl (by kernel_rfl) (by kernel_rfl) (by kernel_rfl) (fun _ _ _ h => h) (Or.inl ⟨by rfl, ?_⟩) (by assumption) ?_
  rotate_left
  · intro w hSw; (try dsimp only at hSw); first | (go_simp; done) | (go_simp; with_reducible rfl)
  try simp only [go_sem]
  refine wpAnyH_take (i := 9) (oi := _) (v := ?_) rfl (by kernel_rfl) (by kernel_rfl) (by kernel_rfl) (fun _ _ _ h => h) (Or.inl ⟨by rfl, ?_⟩) (by assumption) ?_
  rotate_left
  · intro w hSw; (try dsimp only at hSw); first | (go_simp; done) | (go_simp; with_reducible rfl)
  try simp only [go_sem]
  refine wpAnyH_take (i := 10) (oi := _) (v := ?_) rfl (by kernel_rfl) (by kernel_rfl) (by kernel_rfl) (fun _ _ _ h => h) (Or.inl ⟨by rfl, ?_⟩) (by assumption) ?_
  rotate_left
  · intro w hSw; (try dsimp only at hSw); first | (go_simp; done) | (go_simp; with_reducible rfl)
  try simp only [go_sem]
  refine wpAnyH_take (i := 11) (oi := _) (v := ?_) rfl (by kernel_rfl) (by kernel_rfl) (by kernel_rfl) (fun _ _ _ h => h) (Or.inl ⟨by rfl, ?_⟩) (by assumption) ?_
  rotate_left
  · intro w hSw; (try dsimp only at hSw); first | (go_simp; done) | (go_simp; with_reducible rfl)
  try simp only [go_sem]
  refine wpAnyH_take (i := 12) (oi := _) (v := ?_) rfl (by kernel_rfl) (by kernel_rfl) (by kernel_rfl) (fun _ _ _ h => h) (Or.inl ⟨by rfl, ?_⟩) (by assumption) ?_
  rotate_left
  · intro w hSw; (try dsimp only at hSw); first | (go_simp; done) | (go_simp; with_reducible rfl)
  try simp only [go_sem]
  refine wpAnyH_take (i := 14) (oi := _) (v := ?_) rfl (by kernel_rfl) (by kernel_rfl) (by kernel_rfl) (fun _ _ _ h => h) (Or.inl ⟨by rfl, ?_⟩) (by assumption) ?_
  rotate_left
  · intro w hSw; (try dsimp only at hSw); first | (go_simp; done) | (go_simp; with_reducible rfl)
  try simp only [go_sem]
  refine wpAnyH_take (i := 15) (oi := _) (v := ?_) rfl (by kernel_rfl) (by kernel_rfl) (by kernel_rfl) (fun _ _ _ h => h) (Or.inl ⟨by rfl, ?_⟩) (by assumption) ?_
  rotate_left
  · intro w hSw; (try dsimp only at hSw); first | (go_simp; done) | (go_simp; with_reducible rfl)
  try simp only [go_sem]
  refine wpAnyH_ready (rs := [13]) (by kernel_rfl) (by simp) ?_
  refine AllReadyH.cons (o := _) rfl (fun K hK => ?_) AllReadyH.nil
  go_simp
  refine hK.out _ _ ?_ (fun hH1 => ?_)
  · (first | assumption | exact ⟨x2, p2, p3⟩ | go_keep)
  clear hK K hH0
  try simp only [go_sem]
  refine wpAnyH_ready (rs := [16]) (by kernel_rfl) (by simp) ?_
  refine AllReadyH.cons (o := _) rfl (fun K hK => ?_) AllReadyH.nil
  go_simp; refine (without_any HR.out hix hlen).mono ?_; rintro e w3 ⟨v', rfl, hr3, hg3, hb3⟩; obtain ⟨sp', n', c', rfl⟩ := hr3.shape; obtain ⟨x0, x1, x2, x3⟩ := HM.out.after hi HV.out hg3; have hp3 := has.grown' HP2.out hg3 (fun e => HR.out.box e.symm HP2.out (by decide) rfl); have p2 := hp3.cell 0; have p3 := hp3.cell 1; have R3 := Lib.hid hr3; have G3 := Lib.hid hg3; have B3 := Lib.hid hb3; clear hr3 hg3 hb3 hp3; try simp only [go_sem]
  refine hK.out _ _ ?_ (fun hH2 => ?_)
  · (first | assumption | exact ⟨x2, p2, p3⟩ | go_keep)
  clear hK K hH1
  try simp only [go_sem]
  refine wpAnyH_take (i := 17) (oi := _) (v := ?_) rfl (by kernel_rfl) (by kernel_rfl) (by kernel_rfl) (fun _ _ _ h => h) (Or.inl ⟨by rfl, ?_⟩) (by assumption) ?_
  rotate_left
  · intro w hSw; (try dsimp only at hSw); first | (go_simp; done) | (go_simp; with_reducible rfl)
  try simp only [go_sem]
  refine wpAnyH_ready (rs := [18]) (by kernel_rfl) (by simp) ?_
  refine AllReadyH.cons (o := _) rfl (fun K hK => ?_) AllReadyH.nil
  go_simp
  refine hK.out _ _ ?_ (fun hH3 => ?_)
  · (first | assumption | exact ⟨x2, p2, p3⟩ | go_keep)
  clear hK K hH2
  try simp only [go_sem]
  refine wpAnyH_done (by kernel_rfl) ?_ _
  have hp := HM.out.put hi (v := .slice sp' n' c') (l := (row L i).eraseIdx k) (by rw [HV.out]; exact G3.out) R3.out (by rw [HV.out]; exact fun g e => B3.out g e)
  have c2 := hp.1.z.cell 1
  simp only [List.getElem?_cons_zero, List.getElem?_cons_succ] at c2
  have M1 := hp.1.m
  have HP5 := Lib.hid hp.1
  have HK := Lib.hid (HF.out.trans hp.2)
  have hk := keyOfI (x := x) (by omega)
  clear hp x0 x1 x2 x3 c0 v0 p0 p1 p2 p3 hlen
  generalize Maps.size D = sz at M1
  go_wp2_with (first | (at_delete; refine wpList_delete_own _ rfl _ _ 41 3 rfl 3 keyI Try.underlying41 _ mb sz D rfl M1 _ _ rfl hk ?_; intro w30 hown1 hturn1; have O5 := Lib.hid hown1; have T5 := Lib.hid hturn1; clear hown1 hturn1))
  go_end0
  have hq := HP5.out.mapped T5.out.grown O5.out
  have he : L.set i ((row L i).eraseIdx k) = outL L x := by unfold outL; rw [HIE.out, erase_idx, HKE.out]
  have hin : inL L x = true := inL_of HM0.out
  have hq1 := hq.1
  rw [he] at hq1
  exact ⟨rfl, ⟨HG.out.out hin, _, _, hq1, HH.out.out HG.out hin⟩, HK.out.trans hq.2⟩
end Go.Proofs.Ytklohgecgjlgeaa.zoFn
