/- What upTo, join and Sort leave. -/
import Derived.Test.YtefncefmolphfaaDrHelp
import Derived.Test.YtefncefmolphfaaShelf
import Derived.Deep.DeepAppendRoom
import Derived.Sort.OwnSortedInts
namespace Go.Proofs.Ytefncefmolphfaa.drFn
open Go.ChangeShapes Go.WideShapes Go.ChangeAt Go.RowKit drMem
set_option linter.unusedVariables false

/- the numbers below n, of which those from k on are 0 yet -/
def upL (n k : Nat) : List Int := (List.range n).map fun (i : Nat) => if i < k then (i : Int) else 0
theorem upL_len (n k : Nat) : (upL n k).length = n := by simp [upL]
theorem upL_set (n k : Nat) : (upL n k).set k (k : Int) = upL n (k + 1) := by
  apply List.ext_getElem
  · simp [upL]
  · intro i h1 h2
    simp only [upL, List.getElem_set, List.getElem_map, List.getElem_range]
    split
    · subst_vars; simp
    · have : (i < k + 1) ↔ i < k := by omega
      simp [this]
theorem upL_zero (n : Nat) : upL n 0 = List.replicate n 0 := by
  apply List.ext_getElem
  · simp [upL]
  · intro i h1 h2; simp [upL]
def upRel (w : World) (gs n k : Nat) (wr : World) : Prop := has wr gs 3 (is (upL n k)) ∧ Below w.heap.size w wr
set_option maxHeartbeats 1000000 in
theorem upTo_any (n : Nat) (w : World) (hn : n ≤ 65536) :
    Calls Try.prog 32 #[.int .i64 (n : Int)] w fun e w' => e = .returned (.slice (some ⟨w.heap.size, 0, none⟩) n n) ∧ has w' w.heap.size 3 (is (upL n n)) ∧ Below w.heap.size w w' := by
  have hmk := fun W => run_make_row' (P := Try.prog) 33 3 (.int .i64 0) 8 Try.underlying33 infoI rfl .i64 .i64 n (by omega) (by omega) W
  have hst : upRel w w.heap.size n 0 (w.alloc (.cells (madeCells #[.int .i64 0] n) 3)) := by
    refine ⟨?_, (Below.refl _ _).alloc (Nat.le_refl _) _⟩
    rw [upL_zero, made_list]
    have := has.new w 3 (List.replicate n (.int .i64 0))
    simpa [is] using this
  have HST := Lib.hid hst
  clear hst
  go_enter Try.func32, Try.ntmps32
  go_wp2
  go_loopw [8] (fun i wr => ∃ k : Nat, k ≤ n ∧ i = .int .i64 k ∧ upRel w w.heap.size n k wr) (fun i _ => n - (intOf i).toNat)
  case atStart => exact ⟨0, Nat.zero_le _, rfl, HST.out⟩
  case round =>
    obtain ⟨k, hk, rfl, hr, hb⟩ := hrel
    have HB := Lib.hid hb
    have HR := Lib.hid hr
    clear hb hr HST
    by_cases hlt : k < n
    · have ck : wr.cell? ⟨w.heap.size, k, none⟩ = some (.int .i64 ((upL n k).getD k 0)) := by rw [HR.out.cell]; exact is_get _ k (by rw [upL_len]; exact hlt)
      have fk : wr.frozen? ⟨w.heap.size, k, none⟩ = false := HR.out.free k
      generalize (upL n k).getD k 0 = x at *
      have hnx : upRel w w.heap.size n (k + 1) (wr.setCell ⟨w.heap.size, k, none⟩ (.int .i64 (k : Int))) := by
        refine ⟨?_, HB.out.setCell (p := ⟨w.heap.size, k, none⟩) (Nat.le_refl _) _⟩
        have := HR.out.put k (.int .i64 (k : Int))
        rw [is_set, upL_set] at this
        exact this
      have NX := Lib.hid hnx
      clear hnx
      go_wp2
      go_roundw
      case rel => exact ⟨k + 1, by omega, by go_num, NX.out⟩
      case measure => simp [intOf]; omega
    · obtain rfl : k = n := by omega
      go_wp2
      go_ret
      exact ⟨rfl, HR.out, HB.out⟩

theorem own_of_has {w : World} {g : Nat} {t : TypeId} {cs : List Value} {base n : Nat} (h : has w g t cs) (hl : cs.length = n) (hm : n ≤ maxLen) (hb : base ≤ g) : w.ownsRow base t 1 (.slice (some ⟨g, 0, none⟩) n n) n cs :=
  ⟨by simp [hl], .inr ⟨g, n, cs.toArray, rfl, hb, h, Nat.le_refl _, hm, by simp [hl], by rw [Nat.mul_one]; exact List.take_of_length_le (l := cs) (by omega)⟩⟩
theorem own_cut {w : World} {g : Nat} {t : TypeId} {xs : List Value} {base n cap : Nat} (h : w.ownsRow base t 1 (.slice (some ⟨g, 0, none⟩) n cap) n xs) (k : Nat) (hk : k ≤ n) : w.ownsRow base t 1 (.slice (some ⟨g, 0, none⟩) k cap) k (xs.take k) := by
  have hl := h.1
  rcases h.2 with ⟨h0, _⟩ | ⟨g', cap', cur, hv, hb, hg, hn, hm, hs, ht⟩
  · cases h0
  · cases hv
    refine ⟨by simp; omega, .inr ⟨g, cap, cur, rfl, hb, hg, by omega, hm, hs, ?_⟩⟩
    rw [← ht, List.take_take]
    congr 1; omega

theorem join_any (base g j cap m c2 r : Nat) (ad : Addr) (xs news : List Value) (w : World) (hown : w.ownsRow base 3 1 (.slice (some ⟨g, 0, none⟩) j cap) j xs) (hl : news.length = m) (hnews : ∀ (i : Nat) (u : Value), news[i]? = some u → w.cell? (ad.add i) = some u)
    (h1 : ∀ u ∈ news, u.oneCell' = true) (hroom : j + m ≤ cap) (hr : j + m = r) :
    Calls Try.prog 33 #[.slice (some ⟨g, 0, none⟩) j cap, .slice (some ad) m c2] w fun e w' => e = .returned (.slice (some ⟨g, 0, none⟩) r cap) ∧ w'.ownsRow base 3 1 (.slice (some ⟨g, 0, none⟩) r cap) r (xs ++ news) ∧ w.grownBy w' (some g) := by
  subst hr
  obtain ⟨i0, hi, hz0, hz1, hz2⟩ := info_parts infoI
  have HO := Lib.hid hown
  have HL := Lib.hid hl
  have HN := Lib.hid hnews
  have H1 := Lib.hid h1
  clear hown hl hnews h1
  go_enter Try.func33, Try.ntmps33
  go_wp2_with (at_builtin; refine wpList_append_own_spare w rfl (.tmp 5) (.tmp 6) 33 rfl base 3 i0 1 Try.underlying33 hi hz1 g j cap xs rfl HO.out ad m c2 news rfl (by rw [HL.out, Nat.mul_one]) HN.out H1.out hroom ?_)
  intro w1 hown1 hg1
  have O1 := Lib.hid hown1
  have G1 := Lib.hid hg1
  clear hown1 hg1
  go_wp2
  go_ret
  exact ⟨rfl, O1.out, G1.out⟩

open Go.Sort in
theorem Sort_any (g n cap : Nat) (zs : List Int) (w : World) (h : has w g 3 (is zs)) (hl : zs.length = n) (hb : n ≤ 65536) :
    Calls Try.prog 34 #[.slice (some ⟨g, 0, none⟩) n cap] w fun e w' => e = .returned (.tuple #[]) ∧ has w' g 3 (is (zs.mergeSort fun x y => decide (x ≤ y))) ∧ w.grownBy w' (some g) := by
  subst hl
  refine (Try.slices_Sort_int g 0 cap zs w (holds_of_blockI h (List.take_of_length_le (l := is zs) (by simp [is]))) h.lt (by omega)).mono ?_
  rintro e w' ⟨rfl, n, os, rfl⟩
  refine ⟨rfl, ?_, grownBy_sortedI _⟩
  have h1 := heap_sortedI (n := n) (os := os) (zs.mergeSort fun x y => decide (x ≤ y)).toArray h
  have h2 := take_putCellsI (is zs).toArray (zs.mergeSort fun x y => decide (x ≤ y)) (by simp [is])
  have h3 : putCells (Value.int .i64) 0 (zs.mergeSort fun x y => decide (x ≤ y)).toArray (is zs).toArray = (is (zs.mergeSort fun x y => decide (x ≤ y))).toArray := by
    apply Array.toList_inj.1
    rw [List.take_of_length_le (by simp [putCells, is])] at h2
    exact h2
  rw [h3] at h1
  exact h1

/- the numbers that are picked, in the order in which they are -/
def pickGo (l : List Nat) : Nat → Nat → List Int → List Int
  | _, 0, _ => []
  | u, k + 1, opn => opn.getD (pick1 l u opn.length) 0 :: pickGo l (u + 1) k (opn.eraseIdx (pick1 l u opn.length))
theorem pickGo_len (l : List Nat) : ∀ (k u : Nat) (opn : List Int), (pickGo l u k opn).length = k
  | 0, _, _ => rfl
  | k + 1, u, opn => by rw [pickGo, List.length_cons, pickGo_len l k]
structure pkRel (w : World) (b g gs gp many bound : Nat) (l : List Nat) (u : Nat) (full : List Int) (k : Nat) (wr : World) : Prop where
  ok : ∃ opn ps : List Int, opn.length = bound - k ∧ ps.length = k ∧ ps ++ pickGo l (u + k) (many - k) opn = full ∧ wr.ownsRow w.heap.size 3 1 (.slice (some ⟨gs, 0, none⟩) (bound - k) bound) (bound - k) (is opn) ∧ has wr gp 3 (is (ps ++ List.replicate (many - k) 0))
  d : isD wr b g l (u + k)
  fr : w.grownBy wr (some b)
  lt : gs < wr.heap.size

theorem grown_put (a : World) (g k : Nat) (u : Value) : a.grownBy ((a.setCell ⟨g, k, none⟩ u).drewN 1) (some g) := by
  have := grown_set a ⟨g, k, none⟩ u; exact ⟨this.os, this.tape, this.output, this.size, this.block⟩
theorem pk_next {w wr w2 w4 w5 : World} {b g gp many bound j k : Nat} {l : List Nat} {u : Nat} {full opn ps : List Int} {x : Int} (hlt : k < many) (hm : many ≤ bound) (hb : b < w.heap.size) (hg : g < w.heap.size) (hgp : w.heap.size < gp) (hgl : w.heap.size < wr.heap.size)
    (ho : opn.length = bound - k) (hp : ps.length = k) (he : ps ++ pickGo l (u + k) (many - k) opn = full) (hj : pick1 l (u + k) (bound - k) = j) (hx : opn.getD j 0 = x)
    (how : w2.ownsRow w.heap.size 3 1 (.slice (some ⟨w.heap.size, 0, none⟩) (bound - k) bound) (bound - k) (is opn)) (hpk : has w2 gp 3 (is (ps ++ List.replicate (many - k) 0))) (hd : isD w2 b g l (u + k + 1)) (hf : w.grownBy wr (some b)) (hg2 : wr.grownBy w2 (some b))
    (hw4 : w4 = (w2.setCell ⟨gp, k, none⟩ (.int .i64 x)).drewN 1)
    (h5 : w5.ownsRow w.heap.size 3 1 (.slice (some ⟨w.heap.size, 0, none⟩) (bound - (k + 1)) bound) (bound - (k + 1)) ((is opn).take j ++ (is opn).drop (j + 1))) (g5 : w4.grownBy w5 (some w.heap.size)) :
    pkRel w b g w.heap.size gp many bound l u full (k + 1) w5 := by
  have hjl : j < opn.length := by rw [← hj, ho]; exact Nat.mod_lt _ (by omega)
  have g4 : w2.grownBy w4 (some gp) := by
    rw [hw4]; have := grown_set w2 ⟨gp, k, none⟩ (.int .i64 x); exact ⟨this.os, this.tape, this.output, this.size, this.block⟩
  have hp4 : has w4 gp 3 (is (ps ++ x :: List.replicate (many - k - 1) 0)) := by
    have := (hpk.put k (.int .i64 x)).drewN 1
    rw [is_set, List.set_append_right _ _ (by omega), hp, Nat.sub_self, show many - k = (many - k - 1) + 1 by omega, List.replicate_succ, List.set_cons_zero] at this
    rw [hw4]; exact this
  refine ⟨⟨opn.eraseIdx j, ps ++ [x], ?_, by simp [hp], ?_, ?_, ?_⟩, ?_, ?_, ?_⟩
  · rw [List.length_eraseIdx_of_lt hjl]; omega
  · obtain ⟨m, hm'⟩ : ∃ m, many - k = m + 1 := ⟨many - k - 1, by omega⟩
    rw [hm', pickGo, ho, hj, hx] at he
    rw [show many - (k + 1) = m by omega, ← he]
    simp [Nat.add_assoc]
  · rw [List.eraseIdx_eq_take_drop_succ]
    have e : is (opn.take j ++ opn.drop (j + 1)) = (is opn).take j ++ (is opn).drop (j + 1) := by simp [is]
    rw [e]; exact h5
  · have := hp4.grown g5 (by simp; omega)
    rw [show many - (k + 1) = many - k - 1 by omega]
    simpa using this
  · have := (hd.grown g4 (by omega) (by omega)).grown g5 (by omega) (by omega)
    rw [Nat.add_assoc] at this
    exact this
  · exact grown_new (grown_new (grown_trans hf hg2) g4 (by omega)) g5 (Nat.le_refl _)
  · have := hg2.size; have := g4.size; have := g5.size; omega
set_option maxRecDepth 100000 in
set_option maxHeartbeats 2000000 in
theorem Pick_ok {b g : Nat} {l : List Nat} {u : Nat} {w : World} (many bound : Nat) (h : isD w b g l u) (hb : bound ≤ 65536) (hm : many ≤ bound) (hr : many ≤ l.length - u) :
    Calls Try.prog 25 #[.pointer (some ⟨b, 0, none⟩), .int .i64 (many : Int), .int .i64 (bound : Int)] w fun e w' => ∃ gp, e = .returned (.tuple #[.slice (some ⟨gp, 0, none⟩) many many, .int .i64 0]) ∧ has w' gp 3 (is ((pickGo l u many (upL bound bound)).mergeSort fun x y => decide (x ≤ y))) ∧ isD w' b g l (u + many) ∧ w.grownBy w' (some b) ∧ w.heap.size ≤ gp := by
  have HH := Lib.hid h
  have hle := h.le; have hlen := h.len
  have hbw := h.d.lt
  have hgw := h.n.lt
  clear h
  have hmk := fun W => run_make_row' (P := Try.prog) 33 3 (.int .i64 0) 8 Try.underlying33 infoI rfl .i64 .i64 many (by omega) (by omega) W
  have d1 : decide ((bound : Int) < 0) = false := by simp
  have d2 : decide (65536 < (bound : Int)) = false := by simp; omega
  have d3 : decide ((many : Int) < 0) = false := by simp
  have d4 : decide (bound < many) = false := by simp; omega
  have d5 : decide (l.length - u < many) = false := by simp; omega
  go_enter Try.func25, Try.ntmps25
  go_wp2_with (first | (go_at_call 29; refine (zero_no HH.out).mono ?_; rintro e w' ⟨rfl, rfl⟩) | (go_at_call 23; refine (Left_any HH.out).mono ?_; rintro e w' ⟨rfl, nq, rfl⟩))
  refine (upTo_any bound _ hb).mono ?_
  rintro e w1 ⟨rfl, hh, hbel⟩
  have hh1 : has w1 w.heap.size 3 (is (upL bound bound)) := hh
  have hb1 : Below w.heap.size w w1 := ⟨hbel.os, hbel.tape, hbel.output, hbel.size, hbel.block⟩
  have hst : pkRel w b g w.heap.size w1.heap.size many bound l u (pickGo l u many (upL bound bound)) 0 (w1.alloc (.cells (madeCells #[.int .i64 0] many) 3)) := by
    refine ⟨⟨upL bound bound, [], by rw [upL_len, Nat.sub_zero], rfl, rfl, ?_, ?_⟩, (HH.out.below hb1).below ((Below.refl _ _).alloc (Nat.le_refl _) _), grown_of_below (hb1.alloc hb1.size _) _, by have := hh1.lt; simp; omega⟩
    · rw [Nat.sub_zero]
      exact own_of_has (hh1.alloc _) (by rw [is_len, upL_len]) (by unfold maxLen; omega) (Nat.le_refl _)
    · have := has.new w1 3 (List.replicate many (.int .i64 0))
      rw [made_list]
      simpa [is] using this
  have hw1 : w.heap.size < w1.heap.size := hh1.lt
  have HST := Lib.hid hst
  clear hh hbel hh1 hb1 hst
  go_wp2
  go_loopw [8, 41] (fun v i wr => ∃ k : Nat, k ≤ many ∧ i = .int .i64 k ∧ v = .slice (some ⟨w.heap.size, 0, none⟩) (bound - k) bound ∧ pkRel w b g w.heap.size w1.heap.size many bound l u (pickGo l u many (upL bound bound)) k wr) (fun _ i _ => many - (intOf i).toNat)
  case atStart => exact ⟨0, Nat.zero_le _, rfl, rfl, HST.out⟩
  case round =>
    obtain ⟨k, hk, rfl, rfl, hr1⟩ := hrel
    have HR := Lib.hid hr1
    clear hr1 HST
    by_cases hlt : k < many
    · obtain ⟨⟨opn, ps, ho, hp, he, how, hpk⟩, hd, hf, hgl⟩ := HR.out
      have OL := Lib.hid ho
      have PL := Lib.hid hp
      have FE := Lib.hid he
      have OW := Lib.hid how
      have PK := Lib.hid hpk
      have D := Lib.hid hd
      have F := Lib.hid hf
      have hpl := hpk.lt
      clear ho hp he how hpk hd hf HR
      go_wp2_with fail
      refine (choose_any _ D.out (by omega) (by omega) (by omega)).mono ?_
      rintro e w2 ⟨rfl, hd2, hg2⟩
      rw [Int.toNat_natCast]
      have hpj : pick1 l (u + k) (bound - k) < bound - k := Nat.mod_lt _ (by omega)
      obtain ⟨j, hj⟩ : ∃ j, pick1 l (u + k) (bound - k) = j := ⟨_, rfl⟩
      rw [hj] at hpj
      rw [hj]
      have PE := Lib.hid hj
      have D2 := Lib.hid hd2
      have G2 := Lib.hid hg2
      have ow2 := OW.out.kept hg2 (.inr (by simp [Value.ownBlock]; omega))
      have pk2 := PK.out.grown hg2 (by simp; omega)
      have cj : w2.cell? ⟨w.heap.size, j, none⟩ = some (.int .i64 (opn.getD j 0)) := by rw [ow2.cellAt j (by omega)]; exact is_get opn j (by rw [OL.out]; exact hpj)
      obtain ⟨y, hy⟩ : ∃ y : Int, w2.cell? ⟨w1.heap.size, k, none⟩ = some (.int .i64 y) := ⟨_, by rw [pk2.cell]; exact is_get _ k (by simp [PL.out]; omega)⟩
      have fk : w2.frozen? ⟨w1.heap.size, k, none⟩ = false := pk2.free k
      have OW2 := Lib.hid ow2
      have PK2 := Lib.hid pk2
      clear hj hd2 hg2 ow2 pk2
      obtain ⟨x, hx⟩ : ∃ x, opn.getD j 0 = x := ⟨_, rfl⟩
      rw [hx] at cj
      have X := Lib.hid hx
      clear hx
      have q1 : j ≤ bound := by omega
      have q2 : j + 1 ≤ bound - k := by omega
      have q3 : (j : Int) + 1 ≤ ((bound - k : Nat) : Int) := by omega
      have q4 : ((j : Int) + 1).toNat = j + 1 := by omega
      have q5 : bound - k ≤ bound := by omega
      have q6 : IntKind.i64.wrap ((j : Int) + 1) = (j : Int) + 1 := IntWalk.i64_in _ (by omega)
      have q7 : 0 ≤ (j : Int) + 1 := by omega
      obtain ⟨w4, hw4⟩ : ∃ w4, w4 = (w2.setCell ⟨w1.heap.size, k, none⟩ (.int .i64 x)).drewN 1 := ⟨_, rfl⟩
      have hwne : Value.ownBlock (.slice (some ⟨w.heap.size, 0, none⟩) (bound - k) bound) ≠ some w1.heap.size := by simp [Value.ownBlock]; omega
      have hnx := fun (w5 : World) h5 g5 => pk_next (w := w) (wr := wr) (w2 := w2) (w4 := w4) (w5 := w5) (gp := w1.heap.size) (b := b) (g := g) (full := pickGo l u many (upL bound bound)) hlt (by omega) hbw hgw hw1 hgl OL.out PL.out FE.out PE.out X.out OW2.out PK2.out D2.out F.out G2.out hw4 h5 g5
      have NX := Lib.hid hnx
      have W4 := Lib.hid hw4
      have own4 : w4.ownsRow w.heap.size 3 1 (.slice (some ⟨w.heap.size, 0, none⟩) (bound - k) bound) (bound - k) (is opn) := by
        rw [hw4]
        exact OW2.out.kept (grown_put w2 w1.heap.size k (.int .i64 x)) (.inr hwne)
      have O4 := Lib.hid own4
      clear hnx hw4 own4 hwne FE OW2 PK2 D2 F G2 OW PK D X PE
      by_cases hC : bound = j + 1
      · have hCp : (bound = j + 1) = True := eq_true hC
        have HC := Lib.hid hC
        clear hC
        go_wp2
        go_still_tail 7, (by kernel_rfl)
        clear q6 q4
        change wpList _ _ _ _ _ ((w2.setCell ⟨w1.heap.size, k, none⟩ (.int .i64 x)).drewN 1)
        rw [← W4.out]
        go_wp2_with fail
        refine (join_any w.heap.size w.heap.size j bound _ _ (bound - (k + 1)) _ ((is opn).take j) ((is opn).drop (j + 1)) w4 (own_cut O4.out j (by omega)) (by rw [List.length_drop, is_len, OL.out]) ?_ ?_ (by omega) (by omega)).mono ?_
        · intro i v hv
          rw [List.drop_eq_nil_of_le (by rw [is_len, OL.out, HC.out]; omega)] at hv
          simp at hv
        · intro v hv; exact is_one opn v (List.mem_of_mem_drop hv)
        rintro e w5 ⟨rfl, h5, g5⟩
        have NY := Lib.hid (NX.out w5 h5 g5)
        clear h5 g5 NX
        go_wp2
        go_roundw
        case rel => exact ⟨k + 1, by omega, by go_num, rfl, NY.out⟩
        case measure => simp [intOf]; omega
      · go_wp2
        go_still_tail 7, (by kernel_rfl)
        clear q6 q4
        change wpList _ _ _ _ _ ((w2.setCell ⟨w1.heap.size, k, none⟩ (.int .i64 x)).drewN 1)
        rw [← W4.out]
        go_wp2_with fail
        refine (join_any w.heap.size w.heap.size j bound _ _ (bound - (k + 1)) _ ((is opn).take j) ((is opn).drop (j + 1)) w4 (own_cut O4.out j (by omega)) (by rw [List.length_drop, is_len, OL.out]) ?_ ?_ (by omega) (by omega)).mono ?_
        · intro i v hv
          have hi := (List.getElem?_eq_some_iff.1 hv).1
          rw [List.length_drop, is_len, OL.out] at hi
          rw [addr_add, O4.out.cellAt (j + 1 + i) (by omega)]
          rw [List.getElem?_drop] at hv
          exact hv
        · intro v hv; exact is_one opn v (List.mem_of_mem_drop hv)
        rintro e w5 ⟨rfl, h5, g5⟩
        have NY := Lib.hid (NX.out w5 h5 g5)
        clear h5 g5 NX
        go_wp2
        go_roundw
        case rel => exact ⟨k + 1, by omega, by go_num, rfl, NY.out⟩
        case measure => simp [intOf]; omega
    · obtain rfl : k = many := by omega
      obtain ⟨⟨opn, ps, ho, hp, he, how, hpk⟩, hd, hf, hgl⟩ := HR.out
      rw [Nat.sub_self, pickGo, List.append_nil] at he
      rw [Nat.sub_self, List.replicate_zero, List.append_nil] at hpk
      subst he
      have HP := Lib.hid hp
      have PK := Lib.hid hpk
      have D := Lib.hid hd
      have F := Lib.hid hf
      have hgn := hpk.lt
      have hgb : b ≠ w1.heap.size := by omega
      have hgg : g ≠ w1.heap.size := by omega
      have hwl : w.heap.size ≤ w1.heap.size := by omega
      clear ho hp how hpk hd hf HR
      go_wp2_with fail
      refine (Sort_any w1.heap.size k k _ wr PK.out HP.out (by omega)).mono ?_
      rintro e w5 ⟨rfl, h5, g5⟩
      have H5 := Lib.hid h5
      have G5 := Lib.hid g5
      clear h5 g5
      go_wp2
      go_ret2
      exact ⟨_, rfl, H5.out, D.out.grown G5.out hgb hgg, grown_new F.out G5.out hwl, hwl⟩
end Go.Proofs.Ytefncefmolphfaa.drFn
