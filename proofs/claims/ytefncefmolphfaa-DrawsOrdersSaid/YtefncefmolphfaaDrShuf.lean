/- What Shuffle returns, and what it writes. -/
import Derived.Test.YtefncefmolphfaaDrFn3
import Derived.BigRegion
import Derived.Deep.DeepCutAuto
namespace Go.Proofs.Ytefncefmolphfaa.drFn
open Go.ChangeShapes Go.WideShapes Go.ChangeAt Go.RowKit drMem
set_option linter.unusedVariables false

/- two elements change places -/
def swp (xs : List Int) (i j : Nat) : List Int := (xs.set i (xs.getD j 0)).set j (xs.getD i 0)
theorem swp_len (xs : List Int) (i j : Nat) : (swp xs i j).length = xs.length := by simp [swp]
/- the list that is left after the rounds from i down to 1 -/
def shufL (l : List Nat) : Nat → Nat → List Int → List Int
  | _, 0, xs => xs
  | u, i + 1, xs => shufL l (u + 1) i (swp xs (i + 1) (pick1 l u (i + 2)))
theorem shufL_len (l : List Nat) : ∀ (i u : Nat) (xs : List Int), (shufL l u i xs).length = xs.length
  | 0, _, _ => rfl
  | i + 1, u, xs => by rw [shufL, shufL_len l i, swp_len]

theorem src.drewN {w : World} {sp : Option Addr} {cs : List Value} (h : src w sp cs) (n : Nat) : src (w.drewN n) sp cs := h
structure shRel (w : World) (b g gs n : Nat) (l : List Nat) (u : Nat) (fin : List Int) (k : Nat) (wr : World) : Prop where
  ok : ∃ xs, xs.length = n ∧ has wr gs 3 (is xs) ∧ shufL l (u + (n - 1 - k)) k xs = fin
  d : isD wr b g l (u + (n - 1 - k))
  fr : w.grownBy wr (some b)

theorem is_set (xs : List Int) (i : Nat) (x : Int) : (is xs).set i (.int .i64 x) = is (xs.set i x) := by simp [is, List.map_set]
theorem has_swp {w : World} {g : Nat} {t : TypeId} {xs : List Int} (h : has w g t (is xs)) (i j : Nat) : has ((w.setCell ⟨g, i, none⟩ (.int .i64 (xs.getD j 0))).setCell ⟨g, j, none⟩ (.int .i64 (xs.getD i 0))) g t (is (swp xs i j)) := by
  have := (h.put i (.int .i64 (xs.getD j 0))).put j (.int .i64 (xs.getD i 0))
  rw [is_set, is_set] at this
  exact this
theorem shRel_next {w wr w2 : World} {b g gs n : Nat} {l : List Nat} {u : Nat} {fin ys : List Int} {k j : Nat} {xk xj : Int} (h0 : k > 0) (hk : k ≤ n - 1) (hb : b < gs) (hg : g < gs) (hgs : w.heap.size ≤ gs) (hy : ys.length = n) (h3 : shufL l (u + (n - 1 - k)) k ys = fin)
    (hj : j = pick1 l (u + (n - 1 - k)) (k + 1)) (hxk : ys.getD k 0 = xk) (hxj : ys.getD j 0 = xj)
    (hs : has ((w2.setCell ⟨gs, k, none⟩ (.int .i64 xj)).setCell ⟨gs, j, none⟩ (.int .i64 xk)) gs 3 (is (swp ys k j))) (hd : isD w2 b g l (u + (n - 1 - k) + 1)) (hf : w.grownBy wr (some b)) (hg2 : wr.grownBy w2 (some b)) :
    shRel w b g gs n l u fin (k - 1) ((w2.setCell ⟨gs, k, none⟩ (.int .i64 xj)).setCell ⟨gs, j, none⟩ (.int .i64 xk)).drew := by
  have e : u + (n - 1 - (k - 1)) = u + (n - 1 - k) + 1 := by omega
  have g1 : w2.grownBy (w2.setCell ⟨gs, k, none⟩ (.int .i64 xj)) (some gs) := grown_set _ ⟨gs, k, none⟩ _
  have g2 := grown_trans g1 (grown_set (w2.setCell ⟨gs, k, none⟩ (.int .i64 xj)) ⟨gs, j, none⟩ (.int .i64 xk))
  refine ⟨⟨swp ys k j, by rw [swp_len]; exact hy, hs, ?_⟩, ?_, ?_⟩
  · rw [e]
    obtain ⟨k', rfl⟩ : ∃ k', k = k' + 1 := ⟨k - 1, by omega⟩
    rw [shufL, ← hj] at h3
    exact h3
  · rw [e]; exact (hd.grown g2 (by omega) (by omega)).drewN 1
  · have := grown_new (grown_trans hf hg2) g2 hgs
    exact ⟨this.os, this.tape, this.output, this.size, this.block⟩
set_option maxHeartbeats 2000000 in
theorem Shuffle_many {b g : Nat} {l : List Nat} {u : Nat} {w : World} (sp : Option Addr) (len cap : Nat) (xs : List Int) (h : isD w b g l u) (hs : src w sp (is xs)) (hl : xs.length = len) (h2 : 2 ≤ len) (h3 : len ≤ 65536) (hroom : len - 1 ≤ l.length - u) :
    Calls Try.prog 20 #[.pointer (some ⟨b, 0, none⟩), .slice sp len cap] w fun e w' => ∃ gs, e = .returned (.tuple #[.slice (some ⟨gs, 0, none⟩) len len, .int .i64 0]) ∧ has w' gs 3 (is (shufL l u (len - 1) xs)) ∧ isD w' b g l (u + (len - 1)) ∧ w.grownBy w' (some b) ∧ w.heap.size ≤ gs := by
  have HH := Lib.hid h
  have HS := Lib.hid hs
  have HL := Lib.hid hl
  have hle := h.le; have hlen := h.len
  have hbw := h.d.lt
  have hgw := h.n.lt
  clear h hs hl
  have hroom' : decide (((l.length - u : Nat) : Int) < (len : Int) - 1) = false := by simp; omega
  have hroom2 : decide (65536 < (len : Int)) = false := by simp; omega
  go_enter Try.func20, Try.ntmps20
  go_wp2_with (first | (go_at_call 29; refine (zero_no HH.out).mono ?_; rintro e w' ⟨rfl, rfl⟩) | (go_at_call 23; refine (Left_any HH.out).mono ?_; rintro e w' ⟨rfl, nq, rfl⟩))
  refine (copied_i sp len cap xs _ HL.out (by omega) (src.drewN HS.out nq)).mono ?_
  rintro e w1 ⟨rfl, hh, hbel⟩
  have hh1 : has w1 w.heap.size 3 (is xs) := hh
  have hb1 : Below w.heap.size w w1 := ⟨hbel.os, hbel.tape, hbel.output, hbel.size, hbel.block⟩
  have hstart : shRel w b g w.heap.size len l u (shufL l u (len - 1) xs) (len - 1) w1 := by
    refine ⟨⟨xs, HL.out, hh1, ?_⟩, ?_, grown_of_below hb1 _⟩
    · rw [Nat.sub_self, Nat.add_zero]
    · rw [Nat.sub_self, Nat.add_zero]; exact HH.out.below hb1
  have HST := Lib.hid hstart
  clear hh hbel hh1 hb1 hstart
  go_wp2
  go_loopw [7] (fun i wr => ∃ k : Nat, k ≤ len - 1 ∧ i = .int .i64 k ∧ shRel w b g w.heap.size len l u (shufL l u (len - 1) xs) k wr) (fun i _ => (intOf i).toNat)
  case atStart => exact ⟨len - 1, Nat.le_refl _, by congr 1; omega, HST.out⟩
  case round =>
    obtain ⟨k, hk, rfl, hr⟩ := hrel
    have HR := Lib.hid hr
    clear hr HST
    rcases Nat.eq_zero_or_pos k with h0 | h0
    · subst h0
      go_wp2
      go_ret2
      obtain ⟨⟨ys, hy1, hy2, hy3⟩, hd, hf⟩ := HR.out
      rw [← hy3]
      exact ⟨_, rfl, hy2, hd, hf, Nat.le_refl _⟩
    · obtain ⟨⟨ys, hy1, hy2, hy3⟩, hd, hf⟩ := HR.out
      have hgw' : w.heap.size < wr.heap.size := hy2.lt
      have Y1 := Lib.hid hy1
      have Y2 := Lib.hid hy2
      have Y3 := Lib.hid hy3
      have D := Lib.hid hd
      have F := Lib.hid hf
      clear hy1 hy2 hy3 hd hf HR
      go_wp2_with fail
      refine (choose_any _ D.out (by omega) (by omega) (by omega)).mono ?_
      rintro e w2 ⟨rfl, hd2, hg2⟩
      have hpj : pick1 l (u + (len - 1 - k)) ((k : Int) + 1).toNat < k + 1 := by
        rw [show ((k : Int) + 1).toNat = k + 1 by omega]; exact Nat.mod_lt _ (by omega)
      have hpe : pick1 l (u + (len - 1 - k)) ((k : Int) + 1).toNat = pick1 l (u + (len - 1 - k)) (k + 1) := by
        rw [show ((k : Int) + 1).toNat = k + 1 by omega]
      generalize pick1 l (u + (len - 1 - k)) ((k : Int) + 1).toNat = j at *
      have PE := Lib.hid hpe
      have hy2' : has w2 w.heap.size 3 (is ys) := Y2.out.grown hg2 (by simp; omega)
      have hyl : ys.length = len := Y1.out
      have ck : w2.cell? ⟨w.heap.size, k, none⟩ = some (.int .i64 (ys.getD k 0)) := by rw [hy2'.cell]; exact is_get ys k (by omega)
      have cj : w2.cell? ⟨w.heap.size, j, none⟩ = some (.int .i64 (ys.getD j 0)) := by rw [hy2'.cell]; exact is_get ys j (by omega)
      have fk : w2.frozen? ⟨w.heap.size, k, none⟩ = false := hy2'.free k
      have fj : w2.frozen? ⟨w.heap.size, j, none⟩ = false := hy2'.free j
      have hsw := has_swp hy2' k j
      have SW := Lib.hid hsw
      have D2 := Lib.hid hd2
      have G2 := Lib.hid hg2
      clear hpe hy2' hyl hd2 hg2 hsw
      generalize hxk : ys.getD k 0 = xk at *
      generalize hxj : ys.getD j 0 = xj at *
      have XK := Lib.hid hxk
      have XJ := Lib.hid hxj
      clear hxk hxj
      obtain ⟨v', hy'⟩ := cell?_setCell_some (w := w2) (p := ⟨w.heap.size, k, none⟩) (x := .int .i64 xj) (q := ⟨w.heap.size, j, none⟩) (v := .int .i64 xj) cj
      go_wp2
      go_region
      have hnext : shRel w b g w.heap.size len l u (shufL l u (len - 1) xs) (k - 1) ((w2.setCell ⟨w.heap.size, k, none⟩ (.int .i64 xj)).setCell ⟨w.heap.size, j, none⟩ (.int .i64 xk)).drew := by
        refine shRel_next h0 hk (by omega) (by omega) (by omega) Y1.out Y3.out PE.out XK.out XJ.out SW.out D2.out F.out G2.out
      have NX := Lib.hid hnext
      clear hnext
      go_wp2
      go_roundw
      case rel => exact ⟨k - 1, by omega, by congr 1; omega, NX.out⟩
      case measure => simp [intOf]; omega

theorem Shuffle_nil (sp : Option Addr) (len cap : Nat) (w : World) : Calls Try.prog 20 #[.pointer none, .slice sp len cap] w fun e w' => e = .returned (.tuple #[.slice none 0 0, .int .i64 1]) ∧ w = w' := by
  go_enter Try.func20, Try.ntmps20
  go_wp2_with (go_at_call 29; refine (zero_nil _).mono ?_; rintro e w' ⟨rfl, rfl⟩)
  go_ret2
  exact ⟨rfl, rfl⟩
theorem Shuffle_zero (b : Nat) (sp : Option Addr) (len cap : Nat) (w : World) (h : w.cell? ⟨b, 0, none⟩ = some (.slice none 0 0)) :
    Calls Try.prog 20 #[.pointer (some ⟨b, 0, none⟩), .slice sp len cap] w fun e w' => e = .returned (.tuple #[.slice none 0 0, .int .i64 1]) ∧ w = w' := by
  have H := Lib.hid h
  clear h
  go_enter Try.func20, Try.ntmps20
  go_wp2_with (go_at_call 29; refine (zero_zero _ _ H.out).mono ?_; rintro e w' ⟨rfl, rfl⟩)
  go_ret2
  exact ⟨rfl, rfl⟩
theorem Shuffle_long {b g : Nat} {l : List Nat} {u : Nat} {w : World} (sp : Option Addr) (len cap : Nat) (h : isD w b g l u) (h3 : 65536 < len) (h4 : len ≤ 9223372036854775807) :
    Calls Try.prog 20 #[.pointer (some ⟨b, 0, none⟩), .slice sp len cap] w fun e w' => e = .returned (.tuple #[.slice none 0 0, .int .i64 5]) ∧ w = w' := by
  have HH := Lib.hid h
  clear h
  have hroom2 : decide (65536 < (len : Int)) = true := by simp; omega
  go_enter Try.func20, Try.ntmps20
  go_wp2_with (go_at_call 29; refine (zero_no HH.out).mono ?_; rintro e w' ⟨rfl, rfl⟩)
  go_ret2
  exact ⟨rfl, rfl⟩
theorem Shuffle_end {b g : Nat} {l : List Nat} {u : Nat} {w : World} (sp : Option Addr) (len cap : Nat) (h : isD w b g l u) (h3 : len ≤ 65536) (h4 : l.length - u < len - 1) :
    Calls Try.prog 20 #[.pointer (some ⟨b, 0, none⟩), .slice sp len cap] w fun e w' => e = .returned (.tuple #[.slice none 0 0, .int .i64 16]) ∧ ∃ n, w' = w.drewN n := by
  have HH := Lib.hid h
  clear h
  have hroom2 : decide (65536 < (len : Int)) = false := by simp; omega
  have hroom' : decide (((l.length - u : Nat) : Int) < (len : Int) - 1) = true := by simp; omega
  go_enter Try.func20, Try.ntmps20
  go_wp2_with (first | (go_at_call 29; refine (zero_no HH.out).mono ?_; rintro e w' ⟨rfl, rfl⟩) | (go_at_call 23; refine (Left_any HH.out).mono ?_; rintro e w' ⟨rfl, nq, rfl⟩))
  go_ret2
  exact ⟨rfl, _, rfl⟩
theorem Shuffle_few {b g : Nat} {l : List Nat} {u : Nat} {w : World} (sp : Option Addr) (len cap : Nat) (xs : List Int) (h : isD w b g l u) (hs : src w sp (is xs)) (hl : xs.length = len) (h3 : len ≤ 1) :
    Calls Try.prog 20 #[.pointer (some ⟨b, 0, none⟩), .slice sp len cap] w fun e w' => e = .returned (.tuple #[.slice (some ⟨w.heap.size, 0, none⟩) len len, .int .i64 0]) ∧ has w' w.heap.size 3 (is xs) ∧ Below w.heap.size w w' := by
  have HH := Lib.hid h
  have HS := Lib.hid hs
  have HL := Lib.hid hl
  clear h hs hl
  have hroom2 : decide (65536 < (len : Int)) = false := by simp; omega
  have hroom' : decide (((l.length - u : Nat) : Int) < (len : Int) - 1) = false := by simp; omega
  go_enter Try.func20, Try.ntmps20
  go_wp2_with (first | (go_at_call 29; refine (zero_no HH.out).mono ?_; rintro e w' ⟨rfl, rfl⟩) | (go_at_call 23; refine (Left_any HH.out).mono ?_; rintro e w' ⟨rfl, nq, rfl⟩))
  refine (copied_i sp len cap xs _ HL.out (by omega) (src.drewN HS.out nq)).mono ?_
  rintro e w1 ⟨rfl, hh, hbel⟩
  have hh1 : has w1 w.heap.size 3 (is xs) := hh
  have hb1 : Below w.heap.size w w1 := ⟨hbel.os, hbel.tape, hbel.output, hbel.size, hbel.block⟩
  have H1 := Lib.hid hh1
  have B1 := Lib.hid hb1
  clear hh hbel hh1 hb1
  go_wp2
  go_loop [7] (fun i => i = .int .i64 ((len : Int) - 1)) (fun i => (intOf i).toNat)
  case atStart => rfl
  case round =>
    obtain rfl := hrel
    have hd : decide (0 < (len : Int) - 1) = false := by simp; omega
    go_wp2
    go_ret2
    exact ⟨rfl, H1.out, B1.out⟩

/- the results of Shuffle -/
def shE (l : List Nat) (u len : Nat) : Int := if 65536 < len then 5 else if l.length - u < len - 1 then 16 else 0
def shOut (l : List Nat) (u : Nat) (xs : List Int) : List Int := if shE l u xs.length = 0 then shufL l u (xs.length - 1) xs else []
def shU (l : List Nat) (u len : Nat) : Nat := if shE l u len = 0 then u + (len - 1) else u
structure outRow (w w' : World) (v : Value) (out : List Int) : Prop where
  ok : ∃ sp, v = .slice sp out.length out.length ∧ src w' sp (is out) ∧ ∀ a, sp = some a → w.heap.size ≤ a.block
theorem outRow.none (w w' : World) : outRow w w' (.slice none 0 0) [] := ⟨Option.none, rfl, src.nil _ _, by simp⟩
def shPost (b g : Nat) (l : List Nat) (u : Nat) (xs : List Int) (w : World) (e : Ending) (w' : World) : Prop :=
  ∃ v, e = .returned (.tuple #[v, .int .i64 (shE l u xs.length)]) ∧ outRow w w' v (shOut l u xs) ∧ isD w' b g l (shU l u xs.length) ∧ w.grownBy w' (some b)
theorem Shuffle_any {b g : Nat} {l : List Nat} {u : Nat} {w : World} (sp : Option Addr) (len cap : Nat) (xs : List Int) (h : isD w b g l u) (hs : src w sp (is xs)) (hl : xs.length = len) (h4 : len ≤ 9223372036854775807) :
    Calls Try.prog 20 #[.pointer (some ⟨b, 0, none⟩), .slice sp len cap] w (shPost b g l u xs w) := by
  subst hl
  by_cases k1 : 65536 < xs.length
  · have e1 : shE l u xs.length = 5 := by unfold shE; rw [if_pos k1]
    refine (Shuffle_long sp _ cap h k1 h4).mono ?_
    rintro e w' ⟨rfl, rfl⟩
    have e2 : shOut l u xs = [] := by unfold shOut; rw [e1]; rfl
    have e3 : shU l u xs.length = u := by unfold shU; rw [e1]; rfl
    exact ⟨_, by rw [e1], by rw [e2]; exact outRow.none _ _, by rw [e3]; exact h, grown_refl _ _⟩
  · by_cases k2 : l.length - u < xs.length - 1
    · have e1 : shE l u xs.length = 16 := by unfold shE; rw [if_neg k1, if_pos k2]
      refine (Shuffle_end sp _ cap h (by omega) k2).mono ?_
      rintro e w' ⟨rfl, n, rfl⟩
      have e2 : shOut l u xs = [] := by unfold shOut; rw [e1]; rfl
      have e3 : shU l u xs.length = u := by unfold shU; rw [e1]; rfl
      exact ⟨_, by rw [e1], by rw [e2]; exact outRow.none _ _, by rw [e3]; exact h.drewN n, undrew (n := n) (grown_refl _ _)⟩
    · have e1 : shE l u xs.length = 0 := by unfold shE; rw [if_neg k1, if_neg k2]
      have e2 : shOut l u xs = shufL l u (xs.length - 1) xs := by unfold shOut; rw [if_pos e1]
      have e3 : shU l u xs.length = u + (xs.length - 1) := by unfold shU; rw [if_pos e1]
      by_cases k3 : xs.length ≤ 1
      · refine (Shuffle_few sp _ cap xs h hs rfl k3).mono ?_
        rintro e w' ⟨rfl, h1, hb⟩
        have e4 : xs.length - 1 = 0 := by omega
        refine ⟨_, by rw [e1], ?_, by rw [e3, e4]; exact h.below hb, grown_of_below hb _⟩
        rw [e2, e4]
        exact ⟨_, rfl, src.of h1, by rintro a ⟨⟩; exact Nat.le_refl _⟩
      · refine (Shuffle_many sp _ cap xs h hs rfl (by omega) (by omega) (by omega)).mono ?_
        rintro e w' ⟨gs, rfl, h1, hd, hg, hle⟩
        refine ⟨_, by rw [e1], ?_, by rw [e3]; exact hd, hg⟩
        rw [e2]
        exact ⟨_, by rw [shufL_len], src.of h1, by rintro a ⟨⟩; exact hle⟩
end Go.Proofs.Ytefncefmolphfaa.drFn
