/- What the reference's Shuffle returns. -/
import Derived.Test.YtefncefmolphfaaDrRef2
import Derived.Laws.AppendOwnNone
import Derived.Deep.LoopGhost
import Derived.Deep.Light
namespace Go.Proofs.Ytefncefmolphfaa.drFn
open Go.ChangeShapes Go.WideShapes Go.ChangeAt Go.RowKit drMem
set_option linter.unusedVariables false

def rOut (w w' : World) (v : Value) (out : List Int) : Prop := ∃ sp cap, v = .slice sp out.length cap ∧ src w' sp (is out) ∧ ∀ a, sp = some a → w.heap.size ≤ a.block
theorem rOut_none (w w' : World) : rOut w w' (.slice none 0 0) [] := ⟨none, 0, rfl, src.nil _ _, by simp⟩
def rsPost (B : Nat) (w : World) (l : List Nat) (u1 : Nat) (out : List Int) (y : Int) (e : Ending) (w' : World) : Prop :=
  ∃ sp' c' v, e = .returned (.tuple #[.agg #[.slice sp' (l.length - u1) c', .int .i64 (u1 : Int)], v, .int .i64 y]) ∧ Lf B w sp' (l.length - u1) c' (l.drop u1) ∧ rOut w w' v out ∧ Below w.heap.size w w'
theorem rs_back {w : World} {n c : Nat} {sp : Option Addr} {u : Int} : Below w.heap.size w ((w.alloc (.cells #[.slice sp n c, .int .i64 u] 32)).alloc (.cells #[.slice sp n c, .int .i64 u] 32)) :=
  ((Below.refl _ _).alloc (Nat.le_refl _) _).alloc (by simp) _
set_option maxHeartbeats 400000 in
theorem rShuffle_long (sp : Option Addr) (c : Nat) (l : List Nat) (u : Nat) (s1 : Option Addr) (len cap : Nat) (B : Nat) (w : World) (h : Lf B w sp (l.length - u) c (l.drop u)) (hl : 65536 < len) (hm : len ≤ 9223372036854775807) :
    Calls Try.prog 13 #[.agg #[.slice sp (l.length - u) c, .int .i64 (u : Int)], .slice s1 len cap] w (rsPost B w l u [] 5) := by
  have H := Lib.hid h
  have k1 : decide (65536 < (len : Int)) = true := by simp; omega
  clear h
  go_enter Try.func13, Try.ntmps13
  go_wp2
  exact bodyPost_ret (v := .tuple #[.agg #[.slice sp (l.length - u) c, .int .i64 (u : Int)], .slice none 0 0, .int .i64 5]) (by simp [results, Try.results13, go_sem]) rfl ⟨_, c, _, rfl, H.out, rOut_none _ _, rs_back⟩
set_option maxHeartbeats 400000 in
theorem rShuffle_end (sp : Option Addr) (c : Nat) (l : List Nat) (u : Nat) (s1 : Option Addr) (len cap : Nat) (B : Nat) (w : World) (h : Lf B w sp (l.length - u) c (l.drop u)) (hl : len ≤ 65536) (hr : l.length - u < len - 1) :
    Calls Try.prog 13 #[.agg #[.slice sp (l.length - u) c, .int .i64 (u : Int)], .slice s1 len cap] w (rsPost B w l u [] 16) := by
  have H := Lib.hid h
  have k1 : decide (65536 < (len : Int)) = false := by simp; omega
  have k2 : decide (((l.length - u : Nat) : Int) < (len : Int) - 1) = true := by simp; omega
  clear h
  go_enter Try.func13, Try.ntmps13
  go_wp2
  exact bodyPost_ret (v := .tuple #[.agg #[.slice sp (l.length - u) c, .int .i64 (u : Int)], .slice none 0 0, .int .i64 16]) (by simp [results, Try.results13, go_sem]) rfl ⟨_, c, _, rfl, H.out, rOut_none _ _, rs_back⟩

theorem own_set {w : World} {g : Nat} {t : TypeId} {xs : List Value} {base n cap : Nat} (h : w.ownsRow base t 1 (.slice (some ⟨g, 0, none⟩) n cap) n xs) (i : Nat) (u : Value) : (w.setCell ⟨g, i, none⟩ u).ownsRow base t 1 (.slice (some ⟨g, 0, none⟩) n cap) n (xs.set i u) := by
  have hl := h.1
  rcases h.2 with ⟨h0, _⟩ | ⟨g', cap', cur, hv, hb, hg, hn, hm, hs, ht⟩
  · cases h0
  · cases hv
    refine ⟨by simp [hl], .inr ⟨g, cap, cur.setIfInBounds i u, rfl, hb, ?_, hn, hm, by simp [hs], ?_⟩⟩
    · simp [World.setCell, Array.getElem?_modify, hg]
    · rw [← ht, Array.toList_setIfInBounds, List.take_set]
theorem own_free {w : World} {g : Nat} {t : TypeId} {xs : List Value} {base n cap : Nat} (h : w.ownsRow base t 1 (.slice (some ⟨g, 0, none⟩) n cap) n xs) (i : Nat) : w.frozen? ⟨g, i, none⟩ = false := by
  rcases h.2 with ⟨h0, _⟩ | ⟨g', cap', cur, hv, hb, hg, hn, hm, hs, ht⟩
  · cases h0
  · cases hv
    simp [World.frozen?, hg]
theorem own_lt {w : World} {g : Nat} {t : TypeId} {xs : List Value} {base n cap : Nat} (h : w.ownsRow base t 1 (.slice (some ⟨g, 0, none⟩) n cap) n xs) : base ≤ g ∧ g < w.heap.size := h.lt g rfl

/- the reference's shuffling, k rounds to go: the draws in their box, the result's cells, the row -/
structure RSh (B : Nat) (w : World) (l : List Nat) (u0 n g cg : Nat) (fin : List Int) (k : Nat) (W : World) : Prop where
  t : ∃ sp c, has W w.heap.size 32 [.slice sp (l.length - (u0 + (n - 1 - k))) c, .int .i64 ((u0 + (n - 1 - k) : Nat) : Int)] ∧ Lf B w sp (l.length - (u0 + (n - 1 - k))) c (l.drop (u0 + (n - 1 - k)))
  r : has W (w.heap.size + 1) 32 [.slice none 0 0, .int .i64 0]
  o : ∃ ys, ys.length = n ∧ W.ownsRow (w.heap.size + 2) 3 1 (.slice (some ⟨g, 0, none⟩) n cg) n (is ys) ∧ shufL l (u0 + (n - 1 - k)) k ys = fin
  f : Below w.heap.size w W

theorem RSh.alloc {B : Nat} {w W : World} {l : List Nat} {u0 n g cg k : Nat} {fin : List Int} (h : RSh B w l u0 n g cg fin k W) (o : Obj) : RSh B w l u0 n g cg fin k (W.alloc o) := by
  obtain ⟨⟨sp, c, ht, hl⟩, hr, ⟨ys, h1, h2, h3⟩, hf⟩ := h
  exact ⟨⟨sp, c, ht.alloc o, hl⟩, hr.alloc o, ⟨ys, h1, h2.alloc o, h3⟩, hf.alloc hf.size o⟩
theorem rsh_next {B : Nat} {w W W3 : World} {l : List Nat} {u0 n g cg k j u' : Nat} {fin ys : List Int} {sp' : Option Addr} {c' : Nat} {xk xj : Int} (hk0 : 0 < k) (hk : k ≤ n - 1)
    (hu : u0 + (n - 1 - k) = u') (hr : has W (w.heap.size + 1) 32 [.slice none 0 0, .int .i64 0]) (ht : w.heap.size < W.heap.size)
    (hy : ys.length = n) (ho : W.ownsRow (w.heap.size + 2) 3 1 (.slice (some ⟨g, 0, none⟩) n cg) n (is ys)) (hs : shufL l u' k ys = fin) (hf : Below w.heap.size w W)
    (hta : ∃ a b, has W w.heap.size 32 [a, b])
    (hj : pick1 l u' (k + 1) = j) (hxk : ys.getD k 0 = xk) (hxj : ys.getD j 0 = xj) (hlf : Lf B w sp' (l.length - (u' + 1)) c' (l.drop (u' + 1))) (hb : Below W.heap.size W W3) :
    RSh B w l u0 n g cg fin (k - 1) ((((W3.setCell ⟨w.heap.size, 0, none⟩ (.slice sp' (l.length - (u' + 1)) c')).setCell ⟨w.heap.size, 1, none⟩ (.int .i64 ((u' : Int) + 1))).setCell ⟨g, k, none⟩ (.int .i64 xj)).setCell ⟨g, j, none⟩ (.int .i64 xk)) := by
  have e : u0 + (n - 1 - (k - 1)) = u' + 1 := by omega
  obtain ⟨a, b, hta⟩ := hta
  obtain ⟨hg0, hg1⟩ := own_lt ho
  have b1 : Below W.heap.size W W3 := hb
  have t1 := ((hta.below b1 hta.lt).put 0 (.slice sp' (l.length - (u' + 1)) c')).put 1 (.int .i64 ((u' : Int) + 1))
  have o1 : W3.ownsRow (w.heap.size + 2) 3 1 (.slice (some ⟨g, 0, none⟩) n cg) n (is ys) := ho.kept (grown_of_below b1 none) (.inr (by simp [Value.ownBlock]))
  have o2 := o1.kept (grown_set W3 ⟨w.heap.size, 0, none⟩ (.slice sp' (l.length - (u' + 1)) c')) (.inr (by simp [Value.ownBlock]; omega))
  have o3 := o2.kept (grown_set (W3.setCell ⟨w.heap.size, 0, none⟩ (.slice sp' (l.length - (u' + 1)) c')) ⟨w.heap.size, 1, none⟩ (.int .i64 ((u' : Int) + 1))) (.inr (by simp [Value.ownBlock]; omega))
  have o4 := own_set (own_set o3 k (.int .i64 xj)) j (.int .i64 xk)
  rw [is_set, is_set, ← hxk, ← hxj] at o4
  refine ⟨⟨sp', c', ?_, by rw [e]; exact hlf⟩, ?_, ⟨swp ys k j, by rw [swp_len]; exact hy, ?_, ?_⟩, ?_⟩
  · rw [e]
    exact (t1.far (p := ⟨g, k, none⟩) (by show w.heap.size ≠ g; omega) _).far (p := ⟨g, j, none⟩) (by show w.heap.size ≠ g; omega) _
  · exact ((((hr.below b1 hr.lt).far (p := ⟨w.heap.size, 0, none⟩) (by simp) _).far (p := ⟨w.heap.size, 1, none⟩) (by simp) _).far (p := ⟨g, k, none⟩) (by show w.heap.size + 1 ≠ g; omega) _).far (p := ⟨g, j, none⟩) (by show w.heap.size + 1 ≠ g; omega) _
  · rw [← hxk, ← hxj]; exact o4
  · rw [e]
    obtain ⟨k', rfl⟩ : ∃ k', k = k' + 1 := ⟨k - 1, by omega⟩
    rw [shufL, hj] at hs
    exact hs
  · exact ((((hf.trans (b1.mono hf.size)).setCell (p := ⟨w.heap.size, 0, none⟩) (Nat.le_refl _) _).setCell (p := ⟨w.heap.size, 1, none⟩) (Nat.le_refl _) _).setCell (p := ⟨g, k, none⟩) (by show w.heap.size ≤ g; omega) _).setCell (p := ⟨g, j, none⟩) (by show w.heap.size ≤ g; omega) _

set_option maxRecDepth 100000 in
set_option maxHeartbeats 2000000 in
theorem rShuffle_many (sp : Option Addr) (c : Nat) (l : List Nat) (u : Nat) (s1 : Option Addr) (len cap : Nat) (xs : List Int) (B : Nat) (w : World) (hBw : B ≤ w.heap.size) (h : Lf B w sp (l.length - u) c (l.drop u)) (hs : src w s1 (is xs)) (hxl : xs.length = len) (h2 : 1 ≤ len) (hl : len ≤ 65536) (hll : l.length ≤ 65536)
    (hr : len - 1 ≤ l.length - u) :
    Calls Try.prog 13 #[.agg #[.slice sp (l.length - u) c, .int .i64 (u : Int)], .slice s1 len cap] w (rsPost B w l (u + (len - 1)) (shufL l u (len - 1) xs) 0) := by
  obtain ⟨xb, xo, rfl, hxb, hxc⟩ := hs (by rw [is_len]; omega)
  obtain ⟨i0, hi, hz0, hz1, hz2⟩ := info_parts infoI
  have H := Lib.hid h
  have XL := Lib.hid hxl
  have XC := Lib.hid hxc
  have k1 : decide (65536 < (len : Int)) = false := by simp; omega
  have k2 : decide (((l.length - u : Nat) : Int) < (len : Int) - 1) = false := by simp; omega
  obtain ⟨W, hW⟩ : ∃ W, W = (w.alloc (.cells #[.slice sp (l.length - u) c, .int .i64 (u : Int)] 32)).alloc (.cells #[.slice none 0 0, .int .i64 0] 32) := ⟨_, rfl⟩
  have hWs : W.heap.size = w.heap.size + 2 := by rw [hW]; simp
  have hbW : Below w.heap.size w W := by rw [hW]; exact ((Below.refl _ _).alloc (Nat.le_refl _) _).alloc (by simp) _
  have hbox : has W w.heap.size 32 [.slice sp (l.length - u) c, .int .i64 (u : Int)] := by
    rw [hW]; exact (has.new w _ [.slice sp (l.length - u) c, .int .i64 (u : Int)]).alloc _
  have hres : has W (w.heap.size + 1) 32 [.slice none 0 0, .int .i64 0] := by
    rw [hW]
    have := has.new (w.alloc (.cells #[.slice sp (l.length - u) c, .int .i64 (u : Int)] 32)) 32 [.slice none 0 0, .int .i64 0]
    rw [show (w.alloc (.cells #[.slice sp (l.length - u) c, .int .i64 (u : Int)] 32)).heap.size = w.heap.size + 1 by simp] at this
    exact this
  have hnews : ∀ (j : Nat) (v : Value), (is xs)[j]? = some v → W.cell? ((⟨xb, xo, none⟩ : Addr).add j) = some v := fun j v hv => by
    rw [addr_add]; exact (hbW.cell (p := ⟨xb, xo + j, none⟩) hxb).trans (hxc j v hv)
  have HW := Lib.hid hW
  have HWS := Lib.hid hWs
  have BW := Lib.hid hbW
  have BOX := Lib.hid hbox
  have RES := Lib.hid hres
  have NEWS := Lib.hid hnews
  clear h hs hxl hxc hW hWs hbW hbox hres hnews
  go_enter Try.func13, Try.ntmps13
  go_wp2_with (at_builtin; rw [← HW.out]; refine wpList_append_own _ rfl _ _ 33 rfl (w.heap.size + 2) 3 i0 (.int .i64 0) 1 8 Try.underlying33 hi hz0 hz1 hz2 rfl (by decide) _ 0 [] rfl (World.ownsRow_nil _ _ _ _) ⟨xb, xo, none⟩ len cap (is xs) rfl ?c1 ?c2 ?c3 ?c4 ?c5 ?c6 ?_)
  case c1 => rw [is_len, XL.out, Nat.mul_one]
  case c2 => exact NEWS.out
  case c3 => exact is_one xs
  case c4 => unfold maxLen; omega
  case c5 => omega
  case c6 => exact Nat.le_of_eq HWS.out.symm
  intro v' w1 hown0 hgrow hnil
  have hown : w1.ownsRow (w.heap.size + 2) 3 1 v' len (is xs) := by simpa using hown0
  obtain ⟨g, cg, rfl⟩ : ∃ g cg, v' = .slice (some ⟨g, 0, none⟩) len cg := by
    rcases hown.2 with ⟨_, h0⟩ | ⟨g, cap', cur, e, _⟩
    · omega
    · exact ⟨g, cap', e⟩
  have hb1 : Below W.heap.size W w1 := (Below.refl _ _).grown hgrow (Nat.le_refl _) (by intro q hq; simp [Value.ownBlock] at hq)
  have hst : RSh B w l u len g cg (shufL l u (len - 1) xs) (len - 1) w1 := by
    have e : u + (len - 1 - (len - 1)) = u := by omega
    exact ⟨⟨sp, c, by rw [e]; exact BOX.out.below hb1 BOX.out.lt, by rw [e]; exact H.out⟩, RES.out.below hb1 RES.out.lt, ⟨xs, XL.out, hown, by rw [e]⟩, BW.out.trans (hb1.mono BW.out.size)⟩
  have HST := Lib.hid hst
  have GLT := Lib.hid (own_lt hown)
  clear hown0 hown hgrow hnil hb1 hst BOX RES NEWS XC HW BW HWS
  go_wp2
  go_loopg [8] (len - 1) (fun gh i wx => ∃ k : Nat, k ≤ len - 1 ∧ k = gh ∧ i = .int .i64 k ∧ Hid (RSh B w l u len g cg (shufL l u (len - 1) xs) k wx))
  case atStart => exact ⟨len - 1, Nat.le_refl _, rfl, by congr 1; omega, HST⟩
  case round =>
    obtain ⟨k, hk, rfl, rfl, HR⟩ := hrel
    clear HST
    obtain ⟨⟨tsp, tc, ht, hlf⟩, hr, ⟨ys, hy, ho, hsf⟩, hf⟩ := HR.out
    obtain ⟨u', hu'⟩ : ∃ u', u + (len - 1 - k) = u' := ⟨_, rfl⟩
    rw [hu'] at ht hlf hsf
    have c0 : wr.cell? ⟨w.heap.size, 0, none⟩ = some (.slice tsp (l.length - u') tc) := by rw [ht.cell]; rfl
    have c1 : wr.cell? ⟨w.heap.size, 1, none⟩ = some (.int .i64 (u' : Int)) := by rw [ht.cell]; rfl
    have T := Lib.hid ht
    have LF := Lib.hid hlf
    have R := Lib.hid hr
    have Y := Lib.hid hy
    have O := Lib.hid ho
    have SF := Lib.hid hsf
    have F := Lib.hid hf
    have UE := Lib.hid hu'
    clear ht hlf hr hy ho hsf hf HR
    rcases Nat.eq_zero_or_pos k with h0 | h0
    · subst h0
      have g0 : wr.cell? ⟨w.heap.size + 1, 0, none⟩ = some (.slice none 0 0) := by rw [R.out.cell]; rfl
      have g1 : wr.cell? ⟨w.heap.size + 1, 1, none⟩ = some (.int .i64 0) := by rw [R.out.cell]; rfl
      have q0 : wr.frozen? ⟨w.heap.size + 1, 0, none⟩ = false := R.out.free 0
      have q1 : wr.frozen? ⟨w.heap.size + 1, 1, none⟩ = false := R.out.free 1
      have hub : u' = u + (len - 1) := by omega
      have d1 : decide (1 ≤ ((0 : Nat) : Int)) = false := by simp
      have hle : (shufL l u (len - 1) xs).length = len := by rw [shufL_len, XL.out]
      have hrow : rOut w ((wr.setCell ⟨w.heap.size + 1, 0, none⟩ (.slice tsp (l.length - u') tc)).setCell ⟨w.heap.size + 1, 1, none⟩ (.int .i64 (u' : Int))) (.slice (some ⟨g, 0, none⟩) len cg) (shufL l u (len - 1) xs) := by
        have hys : ys = shufL l u (len - 1) xs := SF.out
        obtain ⟨q3, q4⟩ := own_lt O.out
        refine ⟨some ⟨g, 0, none⟩, cg, by rw [hle], fun _ => ⟨g, 0, rfl, by simp [World.setCell]; omega, fun j v hv => ?_⟩, by rintro a ⟨⟩; show w.heap.size ≤ g; omega⟩
        rw [Nat.zero_add, World.cell?_setCell_other _ _ _ _ (by intro e; have := congrArg Addr.block e; simp at this; omega), World.cell?_setCell_other _ _ _ _ (by intro e; have := congrArg Addr.block e; simp at this; omega)]
        have hj := (List.getElem?_eq_some_iff.1 hv).1
        rw [is_len, hle] at hj
        rw [O.out.cellAt j (by omega), hys]; exact hv
      have hbf : Below w.heap.size w ((wr.setCell ⟨w.heap.size + 1, 0, none⟩ (.slice tsp (l.length - u') tc)).setCell ⟨w.heap.size + 1, 1, none⟩ (.int .i64 (u' : Int))) :=
        (F.out.setCell (p := ⟨w.heap.size + 1, 0, none⟩) (by simp) _).setCell (p := ⟨w.heap.size + 1, 1, none⟩) (by simp) _
      have HROW := Lib.hid hrow
      have HBF := Lib.hid hbf
      have HUB := Lib.hid hub
      clear hu' hub hle hrow hbf
      go_wp2
      exact bodyPost_ret (v := .tuple #[.agg #[.slice tsp (l.length - u') tc, .int .i64 (u' : Int)], .slice (some ⟨g, 0, none⟩) len cg, .int .i64 0]) (by simp [results, Try.results13, go_sem, g0, g1]) rfl ⟨tsp, tc, _, by rw [← HUB.out], by rw [← HUB.out]; exact LF.out, HROW.out, HBF.out⟩
    · have hul : u' + 1 ≤ l.length := by omega
      have hcall := rchoose_any tsp (l.length - u') tc (l.drop u') (u' : Int) (k + 1) B wr (Nat.le_trans hBw F.out.size) (LF.out.below (F.out.mono hBw)) (by omega) (by omega) (by omega) (by omega) (by omega)
      rw [show ((k + 1 : Nat) : Int) = (k : Int) + 1 by omega] at hcall
      have CALL := Lib.hid hcall
      clear hcall hu'
      go_wp2_with fail
      refine CALL.out.mono ?_
      rintro e w3 ⟨sp', c', rfl, hlf, hb⟩
      have e1 : l.length - u' - 1 = l.length - (u' + 1) := by omega
      have e2 : (l.drop u').drop 1 = l.drop (u' + 1) := by rw [List.drop_drop]
      have e3 : (l.drop u').getD 0 0 % (k + 1) = pick1 l u' (k + 1) := by unfold pick1; rw [getD_drop, Nat.add_zero]
      rw [e1, e3]
      rw [e1, e2] at hlf
      obtain ⟨j, hj⟩ : ∃ j, pick1 l u' (k + 1) = j := ⟨_, rfl⟩
      have hjk : j < k + 1 := by rw [← hj]; exact Nat.mod_lt _ (by omega)
      rw [hj]
      have d1 : decide (1 ≤ (k : Int)) = true := by simp; omega
      obtain ⟨q3, q4⟩ := own_lt O.out
      have hgne : g ≠ w.heap.size := by omega
      have hyl : ys.length = len := Y.out
      obtain ⟨xk, hxk⟩ : ∃ x, ys.getD k 0 = x := ⟨_, rfl⟩
      obtain ⟨xj, hxj⟩ : ∃ x, ys.getD j 0 = x := ⟨_, rfl⟩
      have t3 := T.out.below hb T.out.lt
      have a0 : w3.cell? ⟨w.heap.size, 0, none⟩ = some (.slice tsp (l.length - u') tc) := by rw [t3.cell]; rfl
      have a1 : w3.cell? ⟨w.heap.size, 1, none⟩ = some (.int .i64 (u' : Int)) := by rw [t3.cell]; rfl
      have a2 : w3.frozen? ⟨w.heap.size, 0, none⟩ = false := t3.free 0
      have a3 : w3.frozen? ⟨w.heap.size, 1, none⟩ = false := t3.free 1
      have a4 : w.heap.size < w3.heap.size := t3.lt
      have o3 : w3.ownsRow (w.heap.size + 2) 3 1 (.slice (some ⟨g, 0, none⟩) len cg) len (is ys) := O.out.kept (grown_of_below hb none) (.inr (by simp [Value.ownBlock]))
      have a5 : g < w3.heap.size := (own_lt o3).2
      have b0 : w3.cell? ⟨g, k, none⟩ = some (.int .i64 xk) := by rw [o3.cellAt k (by omega), ← hxk]; exact is_get ys k (by omega)
      have b1 : w3.cell? ⟨g, j, none⟩ = some (.int .i64 xj) := by rw [o3.cellAt j (by omega), ← hxj]; exact is_get ys j (by omega)
      have b2 : w3.frozen? ⟨g, k, none⟩ = false := own_free o3 k
      have b3 : w3.frozen? ⟨g, j, none⟩ = false := own_free o3 j
      have hnx := fun o => RSh.alloc (o := o) <| rsh_next h0 hk (UE.out) R.out T.out.lt hyl O.out SF.out F.out ⟨_, _, T.out⟩ hj hxk hxj (hlf.back (F.out.mono hBw)) hb
      have NX := Lib.hid hnx
      have b4 : ((w3.setCell ⟨w.heap.size, 0, none⟩ (.slice sp' (l.length - (u' + 1)) c')).setCell ⟨w.heap.size, 1, none⟩ (.int .i64 ((u' : Int) + 1))).cell? ⟨g, j, none⟩ = some (.int .i64 xj) := by
        rw [World.cell?_setCell_other _ _ _ _ (by intro e; have := congrArg Addr.block e; simp at this; omega), World.cell?_setCell_other _ _ _ _ (by intro e; have := congrArg Addr.block e; simp at this; omega)]
        exact b1
      obtain ⟨v', hy'⟩ := cell?_setCell_some (w := (w3.setCell ⟨w.heap.size, 0, none⟩ (.slice sp' (l.length - (u' + 1)) c')).setCell ⟨w.heap.size, 1, none⟩ (.int .i64 ((u' : Int) + 1))) (p := ⟨g, k, none⟩) (x := .int .i64 xj) (q := ⟨g, j, none⟩) (v := .int .i64 xj) b4
      clear b4
      clear hnx o3 t3 hj hxk hxj hlf hb e1 e2 e3 hyl q3 q4 CALL T LF R Y O SF F UE hul
      go_wp2
      go_roundg (k - 1)
      case measure => go_light; omega
      case rel => go_light; exact ⟨k - 1, by omega, rfl, by congr 1; omega, Lib.hid (NX.out _)⟩

set_option maxHeartbeats 1000000 in
theorem rShuffle_zero (sp : Option Addr) (c : Nat) (l : List Nat) (u : Nat) (s1 : Option Addr) (cap : Nat) (B : Nat) (w : World) (h : Lf B w sp (l.length - u) c (l.drop u)) (hn : s1 = none → cap = 0) :
    Calls Try.prog 13 #[.agg #[.slice sp (l.length - u) c, .int .i64 (u : Int)], .slice s1 0 cap] w (rsPost B w l u [] 0) := by
  obtain ⟨i0, hi, hz0, hz1, hz2⟩ := info_parts infoI
  have H := Lib.hid h
  have k2 : decide (((l.length - u : Nat) : Int) < (0 : Int) - 1) = false := by simp
  have k3 : decide (((l.length - u : Nat) : Int) < -1) = false := by simp
  clear h
  rcases s1 with _ | a
  · obtain rfl := hn rfl
    go_enter Try.func13, Try.ntmps13
    go_wp2_with (at_builtin; refine wpList_append_own_none rfl _ _ 33 rfl w.heap.size 3 i0 1 Try.underlying33 hi _ 0 [] rfl (World.ownsRow_nil _ _ _ _) rfl ?_)
    go_loop [8] (fun i => i = .int .i64 (-1)) (fun _ => 0)
    case atStart => rfl
    case round =>
      obtain rfl := hrel
      go_wp2
      exact bodyPost_ret (v := .tuple #[.agg #[.slice sp (l.length - u) c, .int .i64 (u : Int)], .slice none 0 0, .int .i64 0]) (by simp [results, Try.results13, go_sem]) rfl ⟨_, c, _, rfl, H.out, rOut_none _ _, rs_back⟩
  · clear hn
    go_enter Try.func13, Try.ntmps13
    go_wp2
    go_loop [8] (fun i => i = .int .i64 (-1)) (fun _ => 0)
    case atStart => rfl
    case round =>
      obtain rfl := hrel
      go_wp2
      exact bodyPost_ret (v := .tuple #[.agg #[.slice sp (l.length - u) c, .int .i64 (u : Int)], .slice none 0 0, .int .i64 0]) (by simp [results, Try.results13, go_sem]) rfl ⟨_, c, _, rfl, H.out, rOut_none _ _, rs_back⟩
theorem rShuffle_any (sp : Option Addr) (c : Nat) (l : List Nat) (u : Nat) (s1 : Option Addr) (cap : Nat) (xs : List Int) (B : Nat) (w : World) (hBw : B ≤ w.heap.size) (h : Lf B w sp (l.length - u) c (l.drop u)) (hs : src w s1 (is xs)) (hm : xs.length ≤ 9223372036854775807) (hll : l.length ≤ 65536) (hn : s1 = none → cap = 0) :
    Calls Try.prog 13 #[.agg #[.slice sp (l.length - u) c, .int .i64 (u : Int)], .slice s1 xs.length cap] w (rsPost B w l (shU l u xs.length) (shOut l u xs) (shE l u xs.length)) := by
  by_cases k1 : 65536 < xs.length
  · have e1 : shE l u xs.length = 5 := by unfold shE; rw [if_pos k1]
    have e2 : shOut l u xs = [] := by unfold shOut; rw [e1]; rfl
    have e3 : shU l u xs.length = u := by unfold shU; rw [e1]; rfl
    rw [e1, e2, e3]
    exact rShuffle_long sp c l u s1 _ cap B w h k1 hm
  · by_cases k2 : l.length - u < xs.length - 1
    · have e1 : shE l u xs.length = 16 := by unfold shE; rw [if_neg k1, if_pos k2]
      have e2 : shOut l u xs = [] := by unfold shOut; rw [e1]; rfl
      have e3 : shU l u xs.length = u := by unfold shU; rw [e1]; rfl
      rw [e1, e2, e3]
      exact rShuffle_end sp c l u s1 _ cap B w h (by omega) k2
    · have e1 : shE l u xs.length = 0 := by unfold shE; rw [if_neg k1, if_neg k2]
      have e2 : shOut l u xs = shufL l u (xs.length - 1) xs := by unfold shOut; rw [if_pos e1]
      have e3 : shU l u xs.length = u + (xs.length - 1) := by unfold shU; rw [if_pos e1]
      rw [e1, e2, e3]
      by_cases k3 : xs.length = 0
      · have hx : xs = [] := List.eq_nil_of_length_eq_zero k3
        subst hx
        exact rShuffle_zero sp c l u s1 cap B w h hn
      · exact rShuffle_many sp c l u s1 _ cap xs B w hBw h hs rfl (by omega) (by omega) hll (by omega)
end Go.Proofs.Ytefncefmolphfaa.drFn
