/- Where an id is, what a list holds. -/
import Derived.Test.YtklohgecgjlgeaaZoFn
import Derived.Test.YtklohgecgjlgeaaShelf
import Derived.Laws.ResultCell
namespace Go.Proofs.Ytklohgecgjlgeaa.zoFn
open Go.ChangeShapes Go.WideShapes Go.ChangeAt Go.RowKit drMem
set_option linter.unusedVariables false
variable {F G : Nat → Prop} {w w' : World} {b gl mb : Nat} {L : List (List Int)}

def idxI (l : List Int) (x : Int) : Nat := l.findIdx (· == x)
theorem idxI_lt {l : List Int} {x : Int} (h : x ∈ l) : idxI l x < l.length := List.findIdx_lt_length_of_exists ⟨x, h, by simp⟩
theorem idxI_at {l : List Int} {x : Int} (h : x ∈ l) : l.getD (idxI l x) 0 = x := by
  have hl := idxI_lt h
  rw [List.getD_eq_getElem?_getD, List.getElem?_eq_getElem hl]
  have := List.findIdx_getElem (w := hl)
  show l[idxI l x] = x
  exact eq_of_beq this
theorem idxI_ne {l : List Int} {x : Int} (j : Nat) (h : j < idxI l x) (hl : idxI l x ≤ l.length) : l.getD j 0 ≠ x := by
  have hj : j < l.length := by omega
  rw [List.getD_eq_getElem?_getD, List.getElem?_eq_getElem hj]
  have := List.not_of_lt_findIdx (p := (· == x)) (xs := l) h
  simpa using this
theorem nd_inj {l : List Int} (hn : l.Nodup) {i j : Nat} (hi : i < l.length) (hj : j < l.length) (e : l[i] = l[j]) : i = j := by
  rcases Nat.lt_trichotomy i j with h | h | h
  · exact absurd e (List.pairwise_iff_getElem.1 hn i j hi hj h)
  · exact h
  · exact absurd e.symm (List.pairwise_iff_getElem.1 hn j i hj hi h)
theorem rowAt.alloc {v : Value} {l : List Int} (h : rowAt w v l) (o : Obj) : rowAt (w.alloc o) v l := h.keep fun g e => Below.heap_alloc w o g (h.lt e)
theorem idxI_of {l : List Int} (hn : l.Nodup) {i : Nat} (hi : i < l.length) : idxI l (l.getD i 0) = i := by
  obtain ⟨x, hx⟩ : ∃ x, x = l.getD i 0 := ⟨_, rfl⟩
  rw [← hx]
  rw [List.getD_eq_getElem?_getD, List.getElem?_eq_getElem hi] at hx
  have hx2 : x = l[i] := hx
  have hm : x ∈ l := by rw [hx2]; exact List.getElem_mem hi
  have h1 := idxI_at hm
  have h2 := idxI_lt hm
  rw [List.getD_eq_getElem?_getD, List.getElem?_eq_getElem h2] at h1
  have h3 : l[idxI l x] = x := h1
  exact nd_inj hn h2 hi (h3.trans hx2)
theorem erase_idx : ∀ (l : List Int) (x : Int), l.erase x = l.eraseIdx (idxI l x)
  | [], x => rfl
  | a :: t, x => by
    have := erase_idx t x
    rw [List.erase_cons]
    unfold idxI at this ⊢
    rw [List.findIdx_cons]
    cases h : a == x <;> simp [this]
theorem Index_any {v : Value} {l : List Int} (h : rowAt w v l) {x : Int} (hx : x ∈ l) (hm : l.length ≤ 4096) :
    Calls Try.prog 46 #[v, .int .i64 x] w fun e w' => e = .returned (.int .i64 ((idxI l x : Nat) : Int)) ∧ w = w' := by
  obtain ⟨sp, c, rfl, hs, _⟩ := h.form
  have h0 := List.length_pos_of_mem hx
  obtain ⟨g, off, rfl, hg, hc⟩ := hs (by rw [is_len]; exact h0)
  refine (Try.slices_Index_int g off l.length c l x w (Nat.le_refl _) (by omega) (fun j hj => hc j _ (is_get l j hj))).mono ?_
  rintro e w' ⟨rfl, rfl⟩
  refine ⟨?_, rfl⟩
  rw [Lib.idxOf_hit l l.length (idxI l x) x (idxI_lt hx) (Nat.le_refl _) (idxI_at hx) (fun j hj => idxI_ne j hj (Nat.le_of_lt (idxI_lt hx)))]
/- a copy of a list -/
theorem Clone_any {v : Value} {l : List Int} (h : rowAt w v l) (hm : l.length ≤ 4096) :
    Calls Try.prog 35 #[v] w fun e w' => ∃ v', e = .returned v' ∧ w'.ownsRow w.heap.size 3 1 v' l.length (is l) ∧ Below w.heap.size w w' := by
  rcases h with ⟨rfl, rfl⟩ | ⟨g, c, cs, rfl, h1, h2, h3, h4, h5⟩
  · refine (Try.slices_Clone_int_nil 0 0 w).mono ?_
    rintro e w' ⟨rfl, rfl⟩
    exact ⟨_, rfl, World.ownsRow_nil _ _ _ _, Below.refl _ _⟩
  · refine (Try.slices_Clone_int g 0 l.length c l w (Nat.le_refl _) (by omega) (fun j hj => ?_)).mono ?_
    · have := is_get l j hj
      rw [← h5, List.getElem?_take] at this
      rw [Nat.zero_add, h1.cell]
      simpa [hj] using this
    · rintro e w' ⟨v', rfl, ho, _, hb⟩
      rw [List.take_of_length_le (Nat.le_refl _)] at ho
      exact ⟨v', rfl, ho, hb⟩
theorem Len_any (h : ZS F w b gl mb L) (z : Int) : Calls Try.prog 12 #[.pointer (some ⟨b, 0, none⟩), .int .i64 z] w fun e w' => e = .returned (.int .i64 (if okZ L.length z then ((row L z.toNat).length : Nat) else 0)) ∧ w = w' := by
  have HN := Lib.hid (isZone_any h.nm z)
  have c0 := h.c0
  cases hz : okZ L.length z
  · rw [hz] at HN
    clear h hz
    go_enter Try.func12, Try.ntmps12
    go_wp2_with (go_at_call 31; refine HN.out.mono ?_; rintro e w' ⟨rfl, rfl⟩)
    go_ret
    exact ⟨rfl, rfl⟩
  · rw [hz] at HN
    obtain ⟨i, rfl, hi⟩ := okZ_b hz
    obtain ⟨v, hv, hr⟩ := h.row hi
    obtain ⟨sp, c, rfl, _, _⟩ := hr.form
    have e : (i : Int).toNat = i := by omega
    simp only [e, if_true]
    have hL := h.good.n2
    clear h hz hr e
    generalize (row L i).length = m at *
    go_enter Try.func12, Try.ntmps12
    go_wp2_with (go_at_call 31; refine HN.out.mono ?_; rintro e w' ⟨rfl, rfl⟩)
    go_ret
    exact ⟨rfl, rfl⟩
theorem List_any (h : ZS F w b gl mb L) (z : Int) : Calls Try.prog 17 #[.pointer (some ⟨b, 0, none⟩), .int .i64 z] w fun e w' => ∃ v, e = .returned v ∧ w'.ownsRow w.heap.size 3 1 v (if okZ L.length z then row L z.toNat else []).length (is (if okZ L.length z then row L z.toNat else [])) ∧ Below w.heap.size w w' := by
  have HN := Lib.hid (isZone_any h.nm z)
  have c0 := h.c0
  cases hz : okZ L.length z
  · rw [hz] at HN
    clear h hz
    go_enter Try.func17, Try.ntmps17
    go_wp2_with (go_at_call 31; refine HN.out.mono ?_; rintro e w' ⟨rfl, rfl⟩)
    go_ret
    exact ⟨_, rfl, World.ownsRow_nil _ _ _ _, Below.refl _ _⟩
  · rw [hz] at HN
    obtain ⟨i, rfl, hi⟩ := okZ_b hz
    obtain ⟨v, hv, hr⟩ := h.row hi
    have HC := Lib.hid (Clone_any hr (h.good.len i))
    have e : (i : Int).toNat = i := by omega
    simp only [e, if_true]
    have hL := h.good.n2
    clear h hz hr e
    generalize row L i = m at *
    go_enter Try.func17, Try.ntmps17
    go_wp2_with (first | (go_at_call 31; refine HN.out.mono ?_; rintro e w' ⟨rfl, rfl⟩) | (go_at_call 35; refine HC.out.mono ?_; rintro e w' ⟨v', rfl, ho, hb⟩))
    go_ret
    exact ⟨v', rfl, ho, hb⟩
def lastI (l : List Int) : Int := l.getD (l.length - 1) 0
def topE (n : Nat) (L : List (List Int)) (z : Int) : Int := if n = 0 then 1 else if okZ n z = false then 2 else if (row L z.toNat).length = 0 then 9 else 0
def topV (n : Nat) (L : List (List Int)) (z : Int) : Int := if okZ n z = false then 0 else lastI (row L z.toNat)
set_option maxHeartbeats 1000000 in
theorem Top_any (h : ZS F w b gl mb L) (z : Int) : Calls Try.prog 25 #[.pointer (some ⟨b, 0, none⟩), .int .i64 z] w fun e w' => e = .returned (.tuple #[.int .i64 (topV L.length L z), .int .i64 (topE L.length L z)]) ∧ w = w' := by
  have h1 := h.good.n1
  have n0 : L.length ≠ 0 := by omega
  have HZ := Lib.hid (zero_any h.nm)
  rw [decide_eq_false n0] at HZ
  have HN := Lib.hid (isZone_any h.nm z)
  have c0 := h.c0
  unfold topV topE
  rw [if_neg n0]
  cases hz : okZ L.length z
  · rw [hz] at HN
    simp only [if_true]
    clear h hz h1 n0
    go_enter Try.func25, Try.ntmps25
    go_wp2_with (first | (go_at_call 29; refine HZ.out.mono ?_; rintro e w' ⟨rfl, rfl⟩) | (go_at_call 31; refine HN.out.mono ?_; rintro e w' ⟨rfl, rfl⟩))
    go_ret2
    exact ⟨rfl, rfl⟩
  · rw [hz] at HN
    obtain ⟨i, rfl, hi⟩ := okZ_b hz
    obtain ⟨v, hv, hr⟩ := h.row hi
    have hlen := h.good.len i
    have e : (i : Int).toNat = i := by omega
    simp only [e, Bool.true_eq_false, if_false]
    have hL := h.good.n2
    clear hz e h h1 n0
    generalize row L i = l at *
    obtain ⟨sp, c, rfl, hs, _⟩ := hr.form
    rcases Nat.eq_zero_or_pos l.length with h0 | h0
    · have hll := List.eq_nil_of_length_eq_zero h0
      subst hll
      clear hs hr
      simp only [List.length_nil, if_true] at *
      go_enter Try.func25, Try.ntmps25
      go_wp2_with (first | (go_at_call 29; refine HZ.out.mono ?_; rintro e w' ⟨rfl, rfl⟩) | (go_at_call 31; refine HN.out.mono ?_; rintro e w' ⟨rfl, rfl⟩))
      go_ret2
      exact ⟨rfl, rfl⟩
    · obtain ⟨g, off, rfl, hg, hc⟩ := hs (by rw [is_len]; exact h0)
      obtain ⟨k, hk⟩ : ∃ k, l.length = k + 1 := ⟨l.length - 1, by omega⟩
      have x0 := hc k _ (is_get l k (by omega))
      have e2 : lastI l = l.getD k 0 := by unfold lastI; rw [hk]; rfl
      have e3 : ¬ l.length = 0 := by omega
      rw [if_neg e3, e2]
      rw [hk] at hv
      have d1 : (((k + 1 : Nat) : Int) == 0) = false := by rw [beq_eq_false_iff_ne]; omega
      have d2 : (((k + 1 : Nat) : Int) - 1) = (k : Int) := by omega
      have hk2 : k < 4096 := by omega
      clear e2 e3 hc hs hr hk h0 hlen
      generalize l.getD k 0 = x at *
      obtain ⟨m, hm⟩ : ∃ m, k + 1 = m := ⟨_, rfl⟩
      rw [hm] at hv d1 d2
      have hkm : k < m := by omega
      have hm2 : m ≤ 4096 := by omega
      have d3 : IntKind.i64.wrap ((m : Int) - 1) = (k : Int) := by rw [d2]; exact IntWalk.i64_in _ (by omega)
      clear hm d2
      go_enter Try.func25, Try.ntmps25
      go_wp2_with (first | (go_at_call 29; refine HZ.out.mono ?_; rintro e w' ⟨rfl, rfl⟩) | (go_at_call 31; refine HN.out.mono ?_; rintro e w' ⟨rfl, rfl⟩))
      go_ret2
      exact ⟨rfl, rfl⟩
theorem wpList_lookup_known {P : Program} (w : World) {ops : Array Oper} {rest : List Oper} {o : Oper} {a : Act} {Q : Exit → Act → World → Prop}
    (hg : o.guard = none) (m x : Operand) (t : TypeId) (hop : o.op = Op.lookup t m x false)
    (k e : TypeId) (q : IntKind) (K : Maps.Keyed P k) (ht : P.underlying t = some (.map k e)) (he : P.underlying e = some (.int q)) (hz : (zeroValue e).run P w = .ok (.int q 0) w) (b n : Nat) (D : DataW Unit)
    (hm : a.eval m = .map (some b)) (hown : w.ownsMap P k (plainElem P e) b n D) (key : Value) (kl : Lit) (hx : a.eval x = key) (hkey : keyOf P k key = some kl) (c : Int) (hc : D.atKey kl (.lit (.int q 0)) = .lit (.int q c))
    (hK : wpList P ops Q rest (a.put o.dst (.int q c)) w) :
    wpList P ops Q (o :: rest) a w := by
  refine wpList_plain hg fun K' hK' => ?_
  obtain ⟨c', hrun, hat, hwc⟩ := hown.lookup_int K ht he hz hkey
  have e2 : c' = c := by
    rw [hc] at hat
    injection hat with h1
    injection h1 with _ h1
    exact h1.symm
  subst e2
  unfold Oper.wp
  simp [execOp, hop, hm, hx, hrun, Result.andThen]
  exact hK' _ _ hK
theorem results_row_tmp {P : Program} {fn : Func} {p u : Tmp} {ty : TypeId} (h : fn.results = #[.cell p ty, .tmp u]) (tmps : Array Value) (w : World) (g : Nat) (t : TypeId) (cs : Array Value) (fr : Nat × Nat) (d : TypeDesc)
    (hp : tmps.getD p undef = .pointer (some ⟨g, 0, none⟩)) (hg : w.heap[g]? = some (.cells cs t fr))
    (hu : P.underlying ty = some d) (hd : (match d with | .struct _ | .array _ _ => true | _ => false) = true) (hi : (P.info? ty).map (·.size) = some cs.size) :
    (results fn tmps).run P w = .ok (.tuple #[.agg cs, tmps.getD u undef]) w := by
  have hp' : tmps[p]?.getD undef = .pointer (some ⟨g, 0, none⟩) := by simpa using hp
  rw [results_cell_tmp h]
  simp [hp', asAddr, run_loadVar_row w g t ty cs fr d hg hu hd hi, Result.andThen]
set_option maxHeartbeats 1000000 in
theorem place_any (h : ZS F w b gl mb L) {x : Int} (hin : inL L x = true) : Calls Try.prog 38 #[.pointer (some ⟨b, 0, none⟩), .int .i64 x] w fun e w' => e = .returned (.agg #[.int .i64 (homeI L x : Nat), .int .i64 (idxI (row L (homeI L x)) x : Nat)]) ∧ Below w.heap.size w w' := by
  have hx := homeI_mem hin
  obtain ⟨D, hm, hh⟩ := h.map
  have hat := hh.a _ _ hx
  have hrng := h.good.rng _ _ hx
  have hk := keyOfI (x := x) (by omega)
  have hi := row_lt hx
  have hL := h.good.n2
  have hlen := h.good.len (homeI L x)
  clear hh
  have H := Lib.hid h
  have HX := Lib.hid hx
  have HAT := Lib.hid hat
  obtain ⟨v, hv, hr⟩ := h.row hi
  have hblt := h.z.lt
  clear h hin hx hat
  generalize homeI L x = i at *
  have c0 := H.out.c0
  have c1 := H.out.c1
  obtain ⟨sp, c, rfl, hs, hnone⟩ := hr.form
  have HR := Lib.hid hr
  clear hr hs hnone
  have hgl : gl < w.heap.size := World.block_lt_of_cell? _ _ hv
  go_enter Try.func38, Try.ntmps38
  go_wp2_with (at_lookup; refine wpList_lookup_known _ rfl _ _ 41 rfl 3 3 .i64 keyI Try.underlying41 Try.underlying3 (zeroI _) mb _ D rfl (hm.alloc _) _ _ rfl hk _ HAT.out ?_)
  refine (Index_any (HR.out.alloc _) HX.out hlen).mono ?_
  rintro e w' ⟨rfl, rfl⟩
  go_wp2
  have hA := has.new w 33 [.int .i64 (i : Int), .int .i64 (idxI (row L i) x : Nat)]
  refine bodyPost_ret (results_cell_row rfl _ _ w.heap.size 33 #[.int .i64 (i : Int), .int .i64 (idxI (row L i) x : Nat)] (0, 0) _ rfl hA Try.underlying33 rfl (by kernel_rfl)) rfl ⟨rfl, ?_⟩
  exact (Below.refl _ w).alloc (Nat.le_refl _) _
def whZ (n : Nat) (L : List (List Int)) (x : Int) : Nat := if leaE n L x = 0 then homeI L x else 0
def whI (n : Nat) (L : List (List Int)) (x : Int) : Nat := if leaE n L x = 0 then idxI (row L (homeI L x)) x else 0
theorem leaE_in {L : List (List Int)} {n : Nat} {x : Int} (he : leaE n L x = 0) : n ≠ 0 ∧ okID x = true ∧ inL L x = true := by
  unfold leaE at he
  split at he
  · cases he
  · next h0 =>
    split at he
    · cases he
    · next h1 =>
      split at he
      · cases he
      · next h2 => exact ⟨h0, by simpa using h1, by simpa using h2⟩
set_option maxHeartbeats 1000000 in
theorem Where_any (h : ZS F w b gl mb L) (x : Int) (hx : -9223372036854775808 ≤ x ∧ x ≤ 9223372036854775807) : Calls Try.prog 24 #[.pointer (some ⟨b, 0, none⟩), .int .i64 x] w fun e w' => e = .returned (.tuple #[.agg #[.int .i64 (whZ L.length L x : Nat), .int .i64 (whI L.length L x : Nat)], .int .i64 (leaE L.length L x)]) ∧ Below w.heap.size w w' := by
  have hb : Below w.heap.size w (w.alloc (.cells #[.int .i64 0, .int .i64 0] 33)) := (Below.refl _ w).alloc (Nat.le_refl _) _
  have h1 := h.below' hb
  have HL := Lib.hid (mayLeave_any h1 x hx)
  have HA := Lib.hid (has.new w 33 [.int .i64 0, .int .i64 0])
  have f0 := HA.out.free 0
  have f1 := HA.out.free 1
  unfold whZ whI
  by_cases he : leaE L.length L x = 0
  · have hin := (leaE_in he).2.2
    have HP := Lib.hid (place_any h1 hin)
    simp only [he, if_true]
    rw [he] at HL
    clear h h1 hb he hx hin
    generalize homeI L x = i at *
    generalize idxI (row L i) x = k at *
    go_enter Try.func24, Try.ntmps24
    go_wp2_with (first | (go_at_call 34; refine HL.out.mono ?_; rintro e w' ⟨rfl, rfl⟩) | (go_at_call 38; refine HP.out.mono ?_; rintro e w2 ⟨rfl, hb2⟩; have hA2 := HA.out.below hb2 HA.out.lt; have a0 := hA2.cell 0; have a1 := hA2.cell 1; have g0 := hA2.free 0; have g1 := hA2.free 1; have H2 := Lib.hid hA2; have B2 := Lib.hid hb2; clear hA2 hb2))
    have hA := ((H2.out).put 0 (.int .i64 (i : Int))).put 1 (.int .i64 (k : Int))
    refine bodyPost_ret (results_row_tmp rfl _ _ w.heap.size 33 #[.int .i64 (i : Int), .int .i64 (k : Int)] (0, 0) _ rfl hA Try.underlying33 rfl (by kernel_rfl)) rfl ⟨rfl, ?_⟩
    exact ((((Below.refl _ w).alloc (Nat.le_refl _) _).trans (B2.out.mono (by simp))).setCell (p := ⟨w.heap.size, 0, none⟩) (Nat.le_refl _) _).setCell (p := ⟨w.heap.size, 1, none⟩) (Nat.le_refl _) _
  · simp only [he, if_false]
    have d0 : (leaE L.length L x != 0) = true := by simpa using he
    generalize leaE L.length L x = er at *
    clear h h1 hb he hx
    go_enter Try.func24, Try.ntmps24
    go_wp2_with (first | (go_at_call 34; refine HL.out.mono ?_; rintro e w' ⟨rfl, rfl⟩))
    refine bodyPost_ret (results_row_tmp rfl _ _ w.heap.size 33 #[.int .i64 0, .int .i64 0] (0, 0) _ rfl HA.out Try.underlying33 rfl (by kernel_rfl)) rfl ⟨rfl, ?_⟩
    exact (Below.refl _ w).alloc (Nat.le_refl _) _
end Go.Proofs.Ytklohgecgjlgeaa.zoFn
