/- The card that bytes begin with: what Decode returns. -/
import Derived.Test.YtkappnnoienhnaaDoorCaCard
import Derived.Deep.DeepCutAuto
import Derived.Deep.CutBlock
import Derived.Outline
import Derived.BigRegion
namespace Go.Proofs.YtkappnnoienhnaaDoor.caFn
open Go.ChangeShapes Go.WideShapes Go.ChangeAt Go.RowKit drMem efFn
set_option linter.unusedVariables false

abbrev zeroCd : Cd := ⟨[], 0, 0, 0, 0, 0, 0, 0, 0, 0, 0, [], [], 0⟩
/- Decode's card, its number of bytes, its error: q and s' are what the reader reads -/
def deV (l : List UInt8) (q : Cd) (s' : Rd) : Cd × Int × Int :=
  if s'.2 ≠ 0 then (zeroCd, 0, s'.2) else if okCd q = true then (q, (l.length : Int) - s'.1.length, 0) else (zeroCd, 0, 6)
abbrev cdV (q : Cd) (es : Option Addr) (en ec : Nat) (ts : Option Addr) (tn tc : Nat) : Value := cV (bs q.nm) q.kd q.a q.b q.c q.d q.x q.ml q.pw q.tg q.kw es en ec ts tn tc q.ra
def dePost (l : List UInt8) (w : World) (v : Ending) (W : World) : Prop :=
  ∃ q s' es en ec ts tn tc, RdC (l, 0) q s' ∧ v = .returned (.tuple #[cdV (deV l q s').1 es en ec ts tn tc, .int .i64 (deV l q s').2.1, .int .i64 (deV l q s').2.2]) ∧ CdAt W es en (deV l q s').1.ef ts tn (deV l q s').1.tr ∧ tn ≤ tc ∧ Below w.heap.size w W
theorem below_new {a b c : World} {g : Nat} (h : Below a.heap.size a b) (k : b.grownBy c (some g)) (hg : a.heap.size ≤ g) : Below a.heap.size a c :=
  h.grown k h.size (fun q hq => by cases hq; exact hg)
theorem grown_drew (W : World) (row : Option Nat) : W.grownBy W.drew row := ⟨rfl, rfl, rfl, Nat.le_refl _, fun _ _ _ => rfl⟩
theorem has_drew {W : World} {g : Nat} {t : TypeId} {cs : List Value} (h : has W g t cs) : has W.drew g t cs := h
set_option maxRecDepth 100000 in
set_option maxHeartbeats 16000000 in
theorem DecodeC_any (sp : Option Addr) (n cap : Nat) (l : List UInt8) (w : World) (h : BsAt w sp n l) (hcap : n ≤ cap) :
    Calls Tryd.prog 16 #[.slice sp n cap] w (dePost l w) := by
  have hn := h.n
  have hm := h.m
  have B0 : Below w.heap.size w ((w.alloc (.cells #[.string ⟨#[]⟩, .int .i64 0, .int .i64 0, .int .i64 0, .int .i64 0, .int .i64 0, .int .i64 0, .int .i64 0, .int .i64 0, .int .i64 0, .int .i64 0, .slice none 0 0, .slice none 0 0, .int .i64 0] 34)).alloc (.cells #[.slice sp n cap, .int .i64 0] 72)) := ((Below.refl _ w).alloc (Nat.le_refl _) _).alloc (by simp) _
  have HA0 : Hid (has ((w.alloc (.cells #[.string ⟨#[]⟩, .int .i64 0, .int .i64 0, .int .i64 0, .int .i64 0, .int .i64 0, .int .i64 0, .int .i64 0, .int .i64 0, .int .i64 0, .int .i64 0, .slice none 0 0, .slice none 0 0, .int .i64 0] 34)).alloc (.cells #[.slice sp n cap, .int .i64 0] 72)) w.heap.size 34 zeroL) := Lib.hid ((new0 w 34 zeroL).alloc _)
  have HR0 : Hid (RdIn ((w.alloc (.cells #[.string ⟨#[]⟩, .int .i64 0, .int .i64 0, .int .i64 0, .int .i64 0, .int .i64 0, .int .i64 0, .int .i64 0, .int .i64 0, .int .i64 0, .int .i64 0, .slice none 0 0, .slice none 0 0, .int .i64 0] 34)).alloc (.cells #[.slice sp n cap, .int .i64 0] 72)) (w.heap.size + 1) (l, 0)) := Lib.hid ⟨sp, n, cap, by have := has.new (w.alloc (.cells #[.string ⟨#[]⟩, .int .i64 0, .int .i64 0, .int .i64 0, .int .i64 0, .int .i64 0, .int .i64 0, .int .i64 0, .int .i64 0, .int .i64 0, .int .i64 0, .slice none 0 0, .slice none 0 0, .int .i64 0] 34)) 72 [.slice sp n cap, .int .i64 0]; simpa using this, h.below B0 (Nat.le_refl _), hcap, fun a ha h0 => by
    obtain ⟨b, off, e, hb, _⟩ := h.c (by rw [bys_len, hn]; exact h0)
    rw [ha] at e
    cases e
    show b < _
    omega⟩
  have HC := card_any (l, 0) (w.heap.size + 1) _ HR0.out (by simp)
  have HB0 := Lib.hid B0
  have HN := Lib.hid hn
  clear B0 h hn
  go_enter Tryd.func16, Tryd.ntmps16
  go_wp2_with fail
  refine HC.mono ?_; rintro v w1 ⟨q, s', es, en, ec, ts, tn, tc, hrd, rfl, hcd, hle, hr, hg, hfar⟩
  obtain ⟨nm, kd, a, b, c, d, x, ml, pw, tg, kw, ef, tr, ra⟩ := q
  obtain ⟨lr, er⟩ := s'
  have HRD := Lib.hid hrd
  dsimp only at hcd hfar
  have HCD := Lib.hid hcd
  have HA1 := Lib.hid (HA0.out.grown hg (by intro e; have := Option.some.inj e; omega))
  have HB1 := Lib.hid (below_new HB0.out hg (by omega))
  have HR1 := Lib.hid hr
  clear hrd hcd hr hg
  obtain ⟨y0, y1, y2, y3, y4, y5, y6, y7, y8, y9, ya, yb, yc, yd, yf⟩ := card14 HA1.out
  dsimp only
  go_upto_region 3 with fail
  have RA : has ((((((((((((((w1.setCell ⟨w.heap.size, 0, none⟩ (.string (bs nm))).setCell ⟨w.heap.size, 1, none⟩ (.int .i64 kd)).setCell ⟨w.heap.size, 2, none⟩ (.int .i64 a)).setCell ⟨w.heap.size, 3, none⟩ (.int .i64 b)).setCell ⟨w.heap.size, 4, none⟩ (.int .i64 c)).setCell ⟨w.heap.size, 5, none⟩ (.int .i64 d)).setCell ⟨w.heap.size, 6, none⟩ (.int .i64 x)).setCell ⟨w.heap.size, 7, none⟩ (.int .i64 ml)).setCell ⟨w.heap.size, 8, none⟩ (.int .i64 pw)).setCell ⟨w.heap.size, 9, none⟩ (.int .i64 tg)).setCell ⟨w.heap.size, 10, none⟩ (.int .i64 kw)).setCell ⟨w.heap.size, 11, none⟩ (.slice es en ec)).setCell ⟨w.heap.size, 12, none⟩ (.slice ts tn tc)).setCell ⟨w.heap.size, 13, none⟩ (.int .i64 ra)) w.heap.size 34 (cL (bs nm) kd a b c d x ml pw tg kw es en ec ts tn tc ra) := ((((((((((((((HA1.out.put 0 (.string (bs nm))).put 1 (.int .i64 kd)).put 2 (.int .i64 a)).put 3 (.int .i64 b)).put 4 (.int .i64 c)).put 5 (.int .i64 d)).put 6 (.int .i64 x)).put 7 (.int .i64 ml)).put 8 (.int .i64 pw)).put 9 (.int .i64 tg)).put 10 (.int .i64 kw)).put 11 (.slice es en ec)).put 12 (.slice ts tn tc)).put 13 (.int .i64 ra))
  have RG : w1.grownBy ((((((((((((((w1.setCell ⟨w.heap.size, 0, none⟩ (.string (bs nm))).setCell ⟨w.heap.size, 1, none⟩ (.int .i64 kd)).setCell ⟨w.heap.size, 2, none⟩ (.int .i64 a)).setCell ⟨w.heap.size, 3, none⟩ (.int .i64 b)).setCell ⟨w.heap.size, 4, none⟩ (.int .i64 c)).setCell ⟨w.heap.size, 5, none⟩ (.int .i64 d)).setCell ⟨w.heap.size, 6, none⟩ (.int .i64 x)).setCell ⟨w.heap.size, 7, none⟩ (.int .i64 ml)).setCell ⟨w.heap.size, 8, none⟩ (.int .i64 pw)).setCell ⟨w.heap.size, 9, none⟩ (.int .i64 tg)).setCell ⟨w.heap.size, 10, none⟩ (.int .i64 kw)).setCell ⟨w.heap.size, 11, none⟩ (.slice es en ec)).setCell ⟨w.heap.size, 12, none⟩ (.slice ts tn tc)).setCell ⟨w.heap.size, 13, none⟩ (.int .i64 ra)) (some w.heap.size) := (grown_trans (grown_trans (grown_trans (grown_trans (grown_trans (grown_trans (grown_trans (grown_trans (grown_trans (grown_trans (grown_trans (grown_trans (grown_trans (grown_trans (grown_refl w1 (some w.heap.size)) (grown_set _ ⟨w.heap.size, 0, none⟩ (.string (bs nm)))) (grown_set _ ⟨w.heap.size, 1, none⟩ (.int .i64 kd))) (grown_set _ ⟨w.heap.size, 2, none⟩ (.int .i64 a))) (grown_set _ ⟨w.heap.size, 3, none⟩ (.int .i64 b))) (grown_set _ ⟨w.heap.size, 4, none⟩ (.int .i64 c))) (grown_set _ ⟨w.heap.size, 5, none⟩ (.int .i64 d))) (grown_set _ ⟨w.heap.size, 6, none⟩ (.int .i64 x))) (grown_set _ ⟨w.heap.size, 7, none⟩ (.int .i64 ml))) (grown_set _ ⟨w.heap.size, 8, none⟩ (.int .i64 pw))) (grown_set _ ⟨w.heap.size, 9, none⟩ (.int .i64 tg))) (grown_set _ ⟨w.heap.size, 10, none⟩ (.int .i64 kw))) (grown_set _ ⟨w.heap.size, 11, none⟩ (.slice es en ec))) (grown_set _ ⟨w.heap.size, 12, none⟩ (.slice ts tn tc))) (grown_set _ ⟨w.heap.size, 13, none⟩ (.int .i64 ra)))
  obtain ⟨F, hF⟩ : ∃ F, ((((((((((((((w1.setCell ⟨w.heap.size, 0, none⟩ (.string (bs nm))).setCell ⟨w.heap.size, 1, none⟩ (.int .i64 kd)).setCell ⟨w.heap.size, 2, none⟩ (.int .i64 a)).setCell ⟨w.heap.size, 3, none⟩ (.int .i64 b)).setCell ⟨w.heap.size, 4, none⟩ (.int .i64 c)).setCell ⟨w.heap.size, 5, none⟩ (.int .i64 d)).setCell ⟨w.heap.size, 6, none⟩ (.int .i64 x)).setCell ⟨w.heap.size, 7, none⟩ (.int .i64 ml)).setCell ⟨w.heap.size, 8, none⟩ (.int .i64 pw)).setCell ⟨w.heap.size, 9, none⟩ (.int .i64 tg)).setCell ⟨w.heap.size, 10, none⟩ (.int .i64 kw)).setCell ⟨w.heap.size, 11, none⟩ (.slice es en ec)).setCell ⟨w.heap.size, 12, none⟩ (.slice ts tn tc)).setCell ⟨w.heap.size, 13, none⟩ (.int .i64 ra)) = F := ⟨_, rfl⟩
  rw [hF] at RA RG ⊢
  clear hF HCD yf y0 y1 y2 y3 y4 y5 y6 y7 y8 y9 ya yb yc yd
  have HCF := Lib.hid (hfar F w.heap.size (by simp; omega) RG)
  have HRF : Hid (RdIn F (w.heap.size + 1) (lr, er)) := Lib.hid (by
    obtain ⟨sq, nq, cq, h1, h2, h3, h4⟩ := HR1.out
    refine ⟨sq, nq, cq, h1.grown RG (by intro e; have := Option.some.inj e; omega), ⟨h2.n, h2.m, fun h0 => ?_⟩, h3, h4⟩
    obtain ⟨b2, off, e, hb, hc⟩ := h2.c h0
    have hne : b2 ≠ w.heap.size := by
      intro q
      obtain ⟨x, r, hx⟩ : ∃ x r, lr = x :: r := by
        cases lr with
        | nil => simp [bys] at h0
        | cons x r => exact ⟨x, r, rfl⟩
      have h5 := hc 0 (.int .u8 (x.toNat : Int)) (by rw [hx]; rfl)
      rw [q, HA1.out.cell] at h5
      have h6 := List.mem_of_getElem? h5
      simp at h6
    exact ⟨b2, off, e, by have := RG.size; omega, fun j y hy => (World.cell?_of_block (RG.block b2 hb (by intro e; have := Option.some.inj e; omega))).trans (hc j y hy)⟩)
  have HBF := Lib.hid (below_new HB1.out RG (Nat.le_refl _))
  have HRA := Lib.hid RA
  have HG1 := Lib.hid RG
  have HFAR := Lib.hid hfar
  clear RG hfar
  obtain ⟨sq, nq, cq, hbox, hbq, hlq, hltq⟩ := HRF.out
  dsimp only at hbox hbq
  obtain ⟨t0, t1, t2⟩ := two hbox
  have hlen := hbq.n
  have HLQ := Lib.hid hlen
  obtain ⟨k0, k1, k2, k3, k4, k5, k6, k7, k8, k9, ka, kb, kc, kk, kf⟩ := card14 RA
  clear RA hbox hbq hltq hlen
  by_cases he : er = 0
  · subst he
    have HV := ValidV_any (bs nm) kd a b c d x ml pw tg kw es en ec ts tn tc ra ef tr F HCF.out hle
    go_wp2_with fail
    refine HV.mono ?_; rintro v w2 ⟨rfl, hb2⟩
    have HA2 := Lib.hid (HRA.out.below hb2 HRA.out.lt)
    have HB2 := Lib.hid (HBF.out.trans (hb2.mono HBF.out.size))
    have HC2 := Lib.hid (HCF.out.below hb2 (Nat.le_refl _))
    have HR2 := Lib.hid (RdIn.below HRF.out hb2)
    have HBL2 := Lib.hid hb2
    clear hb2 t0 t1 t2 k0 k1 k2 k3 k4 k5 k6 k7 k8 k9 ka kb kc kk kf
    obtain ⟨sq2, nq2, cq2, hbox, hbq, hlq2, hltq⟩ := HR2.out
    dsimp only at hbox hbq
    obtain ⟨t0, t1, t2⟩ := two hbox
    have HLQ2 := Lib.hid hbq.n
    have HWR := Lib.hid (IntWalk.i64_in ((n : Int) - (nq2 : Int)) (by have := hbq.m; omega))
    clear hbox hbq hltq
    obtain ⟨k0, k1, k2, k3, k4, k5, k6, k7, k8, k9, ka, kb, kc, kk, kf⟩ := card14 HA2.out
    cases ho : okCd ⟨(bs nm).data.toList, kd, a, b, c, d, x, ml, pw, tg, kw, ef, tr, ra⟩
    · have HDE : Hid (deV l ⟨nm, kd, a, b, c, d, x, ml, pw, tg, kw, ef, tr, ra⟩ (lr, 0) = (zeroCd, 0, 6)) := Lib.hid (by unfold deV; rw [if_neg (by simp), if_neg (by rw [show okCd ⟨nm, kd, a, b, c, d, x, ml, pw, tg, kw, ef, tr, ra⟩ = false from ho]; decide)])
      clear ho
      go_wp2_with fail
      have RA : has ((((((((((((((w2.setCell ⟨w.heap.size, 0, none⟩ (.string ⟨#[]⟩)).setCell ⟨w.heap.size, 1, none⟩ (.int .i64 0)).setCell ⟨w.heap.size, 2, none⟩ (.int .i64 0)).setCell ⟨w.heap.size, 3, none⟩ (.int .i64 0)).setCell ⟨w.heap.size, 4, none⟩ (.int .i64 0)).setCell ⟨w.heap.size, 5, none⟩ (.int .i64 0)).setCell ⟨w.heap.size, 6, none⟩ (.int .i64 0)).setCell ⟨w.heap.size, 7, none⟩ (.int .i64 0)).setCell ⟨w.heap.size, 8, none⟩ (.int .i64 0)).setCell ⟨w.heap.size, 9, none⟩ (.int .i64 0)).setCell ⟨w.heap.size, 10, none⟩ (.int .i64 0)).setCell ⟨w.heap.size, 11, none⟩ (.slice none 0 0)).setCell ⟨w.heap.size, 12, none⟩ (.slice none 0 0)).setCell ⟨w.heap.size, 13, none⟩ (.int .i64 0)) w.heap.size 34 zeroL := ((((((((((((((HA2.out.put 0 (.string ⟨#[]⟩)).put 1 (.int .i64 0)).put 2 (.int .i64 0)).put 3 (.int .i64 0)).put 4 (.int .i64 0)).put 5 (.int .i64 0)).put 6 (.int .i64 0)).put 7 (.int .i64 0)).put 8 (.int .i64 0)).put 9 (.int .i64 0)).put 10 (.int .i64 0)).put 11 (.slice none 0 0)).put 12 (.slice none 0 0)).put 13 (.int .i64 0))
      have RG : w2.grownBy ((((((((((((((w2.setCell ⟨w.heap.size, 0, none⟩ (.string ⟨#[]⟩)).setCell ⟨w.heap.size, 1, none⟩ (.int .i64 0)).setCell ⟨w.heap.size, 2, none⟩ (.int .i64 0)).setCell ⟨w.heap.size, 3, none⟩ (.int .i64 0)).setCell ⟨w.heap.size, 4, none⟩ (.int .i64 0)).setCell ⟨w.heap.size, 5, none⟩ (.int .i64 0)).setCell ⟨w.heap.size, 6, none⟩ (.int .i64 0)).setCell ⟨w.heap.size, 7, none⟩ (.int .i64 0)).setCell ⟨w.heap.size, 8, none⟩ (.int .i64 0)).setCell ⟨w.heap.size, 9, none⟩ (.int .i64 0)).setCell ⟨w.heap.size, 10, none⟩ (.int .i64 0)).setCell ⟨w.heap.size, 11, none⟩ (.slice none 0 0)).setCell ⟨w.heap.size, 12, none⟩ (.slice none 0 0)).setCell ⟨w.heap.size, 13, none⟩ (.int .i64 0)) (some w.heap.size) := (grown_trans (grown_trans (grown_trans (grown_trans (grown_trans (grown_trans (grown_trans (grown_trans (grown_trans (grown_trans (grown_trans (grown_trans (grown_trans (grown_trans (grown_refl w2 (some w.heap.size)) (grown_set _ ⟨w.heap.size, 0, none⟩ (.string ⟨#[]⟩))) (grown_set _ ⟨w.heap.size, 1, none⟩ (.int .i64 0))) (grown_set _ ⟨w.heap.size, 2, none⟩ (.int .i64 0))) (grown_set _ ⟨w.heap.size, 3, none⟩ (.int .i64 0))) (grown_set _ ⟨w.heap.size, 4, none⟩ (.int .i64 0))) (grown_set _ ⟨w.heap.size, 5, none⟩ (.int .i64 0))) (grown_set _ ⟨w.heap.size, 6, none⟩ (.int .i64 0))) (grown_set _ ⟨w.heap.size, 7, none⟩ (.int .i64 0))) (grown_set _ ⟨w.heap.size, 8, none⟩ (.int .i64 0))) (grown_set _ ⟨w.heap.size, 9, none⟩ (.int .i64 0))) (grown_set _ ⟨w.heap.size, 10, none⟩ (.int .i64 0))) (grown_set _ ⟨w.heap.size, 11, none⟩ (.slice none 0 0))) (grown_set _ ⟨w.heap.size, 12, none⟩ (.slice none 0 0))) (grown_set _ ⟨w.heap.size, 13, none⟩ (.int .i64 0)))
      obtain ⟨F2, hF⟩ : ∃ F2, ((((((((((((((w2.setCell ⟨w.heap.size, 0, none⟩ (.string ⟨#[]⟩)).setCell ⟨w.heap.size, 1, none⟩ (.int .i64 0)).setCell ⟨w.heap.size, 2, none⟩ (.int .i64 0)).setCell ⟨w.heap.size, 3, none⟩ (.int .i64 0)).setCell ⟨w.heap.size, 4, none⟩ (.int .i64 0)).setCell ⟨w.heap.size, 5, none⟩ (.int .i64 0)).setCell ⟨w.heap.size, 6, none⟩ (.int .i64 0)).setCell ⟨w.heap.size, 7, none⟩ (.int .i64 0)).setCell ⟨w.heap.size, 8, none⟩ (.int .i64 0)).setCell ⟨w.heap.size, 9, none⟩ (.int .i64 0)).setCell ⟨w.heap.size, 10, none⟩ (.int .i64 0)).setCell ⟨w.heap.size, 11, none⟩ (.slice none 0 0)).setCell ⟨w.heap.size, 12, none⟩ (.slice none 0 0)).setCell ⟨w.heap.size, 13, none⟩ (.int .i64 0)) = F2 := ⟨_, rfl⟩
      rw [hF] at RA RG ⊢
      clear hF
      obtain ⟨j0, j1, j2, j3, j4, j5, j6, j7, j8, j9, ja, jb, jc, jk, jf⟩ := card14 RA
      refine bodyPost_ret (v := .tuple #[cV ⟨#[]⟩ 0 0 0 0 0 0 0 0 0 0 none 0 0 none 0 0 0, .int .i64 0, .int .i64 6]) (by simp [results, Tryd.results16, go_sem, j0, j1, j2, j3, j4, j5, j6, j7, j8, j9, ja, jb, jc, jk]) rfl ?_
      refine ⟨_, _, none, 0, 0, none, 0, 0, HRD.out, ?_, ?_, Nat.le_refl _, below_new HB2.out RG (Nat.le_refl _)⟩
      · rw [HDE.out]; rfl
      · rw [HDE.out]; exact ⟨EfsAt.nil _ _, TrsAt.nil _ _⟩
    · have HDE : Hid (deV l ⟨nm, kd, a, b, c, d, x, ml, pw, tg, kw, ef, tr, ra⟩ (lr, 0) = (⟨nm, kd, a, b, c, d, x, ml, pw, tg, kw, ef, tr, ra⟩, (l.length : Int) - lr.length, 0)) := Lib.hid (by unfold deV; rw [if_neg (by simp), if_pos (show okCd ⟨nm, kd, a, b, c, d, x, ml, pw, tg, kw, ef, tr, ra⟩ = true from ho)])
      clear ho
      go_wp2_with fail
      go_region
      have RA : has ((((((((((((((w2.setCell ⟨w.heap.size, 0, none⟩ (.string (bs nm))).setCell ⟨w.heap.size, 1, none⟩ (.int .i64 kd)).setCell ⟨w.heap.size, 2, none⟩ (.int .i64 a)).setCell ⟨w.heap.size, 3, none⟩ (.int .i64 b)).setCell ⟨w.heap.size, 4, none⟩ (.int .i64 c)).setCell ⟨w.heap.size, 5, none⟩ (.int .i64 d)).setCell ⟨w.heap.size, 6, none⟩ (.int .i64 x)).setCell ⟨w.heap.size, 7, none⟩ (.int .i64 ml)).setCell ⟨w.heap.size, 8, none⟩ (.int .i64 pw)).setCell ⟨w.heap.size, 9, none⟩ (.int .i64 tg)).setCell ⟨w.heap.size, 10, none⟩ (.int .i64 kw)).setCell ⟨w.heap.size, 11, none⟩ (.slice es en ec)).setCell ⟨w.heap.size, 12, none⟩ (.slice ts tn tc)).setCell ⟨w.heap.size, 13, none⟩ (.int .i64 ra)).drew w.heap.size 34 (cL (bs nm) kd a b c d x ml pw tg kw es en ec ts tn tc ra) := has_drew ((((((((((((((HA2.out.put 0 (.string (bs nm))).put 1 (.int .i64 kd)).put 2 (.int .i64 a)).put 3 (.int .i64 b)).put 4 (.int .i64 c)).put 5 (.int .i64 d)).put 6 (.int .i64 x)).put 7 (.int .i64 ml)).put 8 (.int .i64 pw)).put 9 (.int .i64 tg)).put 10 (.int .i64 kw)).put 11 (.slice es en ec)).put 12 (.slice ts tn tc)).put 13 (.int .i64 ra))
      have RG : w2.grownBy ((((((((((((((w2.setCell ⟨w.heap.size, 0, none⟩ (.string (bs nm))).setCell ⟨w.heap.size, 1, none⟩ (.int .i64 kd)).setCell ⟨w.heap.size, 2, none⟩ (.int .i64 a)).setCell ⟨w.heap.size, 3, none⟩ (.int .i64 b)).setCell ⟨w.heap.size, 4, none⟩ (.int .i64 c)).setCell ⟨w.heap.size, 5, none⟩ (.int .i64 d)).setCell ⟨w.heap.size, 6, none⟩ (.int .i64 x)).setCell ⟨w.heap.size, 7, none⟩ (.int .i64 ml)).setCell ⟨w.heap.size, 8, none⟩ (.int .i64 pw)).setCell ⟨w.heap.size, 9, none⟩ (.int .i64 tg)).setCell ⟨w.heap.size, 10, none⟩ (.int .i64 kw)).setCell ⟨w.heap.size, 11, none⟩ (.slice es en ec)).setCell ⟨w.heap.size, 12, none⟩ (.slice ts tn tc)).setCell ⟨w.heap.size, 13, none⟩ (.int .i64 ra)).drew (some w.heap.size) := grown_trans (grown_trans (grown_trans (grown_trans (grown_trans (grown_trans (grown_trans (grown_trans (grown_trans (grown_trans (grown_trans (grown_trans (grown_trans (grown_trans (grown_trans (grown_refl w2 (some w.heap.size)) (grown_set _ ⟨w.heap.size, 0, none⟩ (.string (bs nm)))) (grown_set _ ⟨w.heap.size, 1, none⟩ (.int .i64 kd))) (grown_set _ ⟨w.heap.size, 2, none⟩ (.int .i64 a))) (grown_set _ ⟨w.heap.size, 3, none⟩ (.int .i64 b))) (grown_set _ ⟨w.heap.size, 4, none⟩ (.int .i64 c))) (grown_set _ ⟨w.heap.size, 5, none⟩ (.int .i64 d))) (grown_set _ ⟨w.heap.size, 6, none⟩ (.int .i64 x))) (grown_set _ ⟨w.heap.size, 7, none⟩ (.int .i64 ml))) (grown_set _ ⟨w.heap.size, 8, none⟩ (.int .i64 pw))) (grown_set _ ⟨w.heap.size, 9, none⟩ (.int .i64 tg))) (grown_set _ ⟨w.heap.size, 10, none⟩ (.int .i64 kw))) (grown_set _ ⟨w.heap.size, 11, none⟩ (.slice es en ec))) (grown_set _ ⟨w.heap.size, 12, none⟩ (.slice ts tn tc))) (grown_set _ ⟨w.heap.size, 13, none⟩ (.int .i64 ra))) (grown_drew _ _)
      obtain ⟨F2, hF⟩ : ∃ F2, ((((((((((((((w2.setCell ⟨w.heap.size, 0, none⟩ (.string (bs nm))).setCell ⟨w.heap.size, 1, none⟩ (.int .i64 kd)).setCell ⟨w.heap.size, 2, none⟩ (.int .i64 a)).setCell ⟨w.heap.size, 3, none⟩ (.int .i64 b)).setCell ⟨w.heap.size, 4, none⟩ (.int .i64 c)).setCell ⟨w.heap.size, 5, none⟩ (.int .i64 d)).setCell ⟨w.heap.size, 6, none⟩ (.int .i64 x)).setCell ⟨w.heap.size, 7, none⟩ (.int .i64 ml)).setCell ⟨w.heap.size, 8, none⟩ (.int .i64 pw)).setCell ⟨w.heap.size, 9, none⟩ (.int .i64 tg)).setCell ⟨w.heap.size, 10, none⟩ (.int .i64 kw)).setCell ⟨w.heap.size, 11, none⟩ (.slice es en ec)).setCell ⟨w.heap.size, 12, none⟩ (.slice ts tn tc)).setCell ⟨w.heap.size, 13, none⟩ (.int .i64 ra)).drew = F2 := ⟨_, rfl⟩
      rw [hF] at RA RG ⊢
      clear hF
      go_wp2_with fail
      obtain ⟨j0, j1, j2, j3, j4, j5, j6, j7, j8, j9, ja, jb, jc, jk, jf⟩ := card14 RA
      refine bodyPost_ret (v := .tuple #[cV (bs nm) kd a b c d x ml pw tg kw es en ec ts tn tc ra, .int .i64 (IntKind.i64.wrap ((n : Int) - (nq2 : Int))), .int .i64 0]) (by simp [results, Tryd.results16, go_sem, j0, j1, j2, j3, j4, j5, j6, j7, j8, j9, ja, jb, jc, jk]; exact (IntWalk.i64_left _).symm) rfl ?_
      refine ⟨_, _, es, en, ec, ts, tn, tc, HRD.out, ?_, ?_, hle, below_new HB2.out RG (Nat.le_refl _)⟩
      · rw [HDE.out, HN.out, HLQ2.out, HWR.out]
      · rw [HDE.out]; exact HFAR.out F2 w.heap.size (by simp; omega) (grown_trans (grown_trans HG1.out (grown_of_below HBL2.out _)) RG)
  · have HDE : Hid (deV l ⟨nm, kd, a, b, c, d, x, ml, pw, tg, kw, ef, tr, ra⟩ (lr, er) = (zeroCd, 0, er)) := Lib.hid (by unfold deV; rw [if_pos he])
    have e2 : (er != 0) = true := by rw [bne_iff_ne]; exact he
    go_wp2_with fail
    clear he
    go_region
    have RA : has ((((((((((((((F.setCell ⟨w.heap.size, 0, none⟩ (.string ⟨#[]⟩)).setCell ⟨w.heap.size, 1, none⟩ (.int .i64 0)).setCell ⟨w.heap.size, 2, none⟩ (.int .i64 0)).setCell ⟨w.heap.size, 3, none⟩ (.int .i64 0)).setCell ⟨w.heap.size, 4, none⟩ (.int .i64 0)).setCell ⟨w.heap.size, 5, none⟩ (.int .i64 0)).setCell ⟨w.heap.size, 6, none⟩ (.int .i64 0)).setCell ⟨w.heap.size, 7, none⟩ (.int .i64 0)).setCell ⟨w.heap.size, 8, none⟩ (.int .i64 0)).setCell ⟨w.heap.size, 9, none⟩ (.int .i64 0)).setCell ⟨w.heap.size, 10, none⟩ (.int .i64 0)).setCell ⟨w.heap.size, 11, none⟩ (.slice none 0 0)).setCell ⟨w.heap.size, 12, none⟩ (.slice none 0 0)).setCell ⟨w.heap.size, 13, none⟩ (.int .i64 0)).drew w.heap.size 34 zeroL := has_drew ((((((((((((((HRA.out.put 0 (.string ⟨#[]⟩)).put 1 (.int .i64 0)).put 2 (.int .i64 0)).put 3 (.int .i64 0)).put 4 (.int .i64 0)).put 5 (.int .i64 0)).put 6 (.int .i64 0)).put 7 (.int .i64 0)).put 8 (.int .i64 0)).put 9 (.int .i64 0)).put 10 (.int .i64 0)).put 11 (.slice none 0 0)).put 12 (.slice none 0 0)).put 13 (.int .i64 0))
    have RG : F.grownBy ((((((((((((((F.setCell ⟨w.heap.size, 0, none⟩ (.string ⟨#[]⟩)).setCell ⟨w.heap.size, 1, none⟩ (.int .i64 0)).setCell ⟨w.heap.size, 2, none⟩ (.int .i64 0)).setCell ⟨w.heap.size, 3, none⟩ (.int .i64 0)).setCell ⟨w.heap.size, 4, none⟩ (.int .i64 0)).setCell ⟨w.heap.size, 5, none⟩ (.int .i64 0)).setCell ⟨w.heap.size, 6, none⟩ (.int .i64 0)).setCell ⟨w.heap.size, 7, none⟩ (.int .i64 0)).setCell ⟨w.heap.size, 8, none⟩ (.int .i64 0)).setCell ⟨w.heap.size, 9, none⟩ (.int .i64 0)).setCell ⟨w.heap.size, 10, none⟩ (.int .i64 0)).setCell ⟨w.heap.size, 11, none⟩ (.slice none 0 0)).setCell ⟨w.heap.size, 12, none⟩ (.slice none 0 0)).setCell ⟨w.heap.size, 13, none⟩ (.int .i64 0)).drew (some w.heap.size) := grown_trans (grown_trans (grown_trans (grown_trans (grown_trans (grown_trans (grown_trans (grown_trans (grown_trans (grown_trans (grown_trans (grown_trans (grown_trans (grown_trans (grown_trans (grown_refl F (some w.heap.size)) (grown_set _ ⟨w.heap.size, 0, none⟩ (.string ⟨#[]⟩))) (grown_set _ ⟨w.heap.size, 1, none⟩ (.int .i64 0))) (grown_set _ ⟨w.heap.size, 2, none⟩ (.int .i64 0))) (grown_set _ ⟨w.heap.size, 3, none⟩ (.int .i64 0))) (grown_set _ ⟨w.heap.size, 4, none⟩ (.int .i64 0))) (grown_set _ ⟨w.heap.size, 5, none⟩ (.int .i64 0))) (grown_set _ ⟨w.heap.size, 6, none⟩ (.int .i64 0))) (grown_set _ ⟨w.heap.size, 7, none⟩ (.int .i64 0))) (grown_set _ ⟨w.heap.size, 8, none⟩ (.int .i64 0))) (grown_set _ ⟨w.heap.size, 9, none⟩ (.int .i64 0))) (grown_set _ ⟨w.heap.size, 10, none⟩ (.int .i64 0))) (grown_set _ ⟨w.heap.size, 11, none⟩ (.slice none 0 0))) (grown_set _ ⟨w.heap.size, 12, none⟩ (.slice none 0 0))) (grown_set _ ⟨w.heap.size, 13, none⟩ (.int .i64 0))) (grown_drew _ _)
    obtain ⟨F2, hF⟩ : ∃ F2, ((((((((((((((F.setCell ⟨w.heap.size, 0, none⟩ (.string ⟨#[]⟩)).setCell ⟨w.heap.size, 1, none⟩ (.int .i64 0)).setCell ⟨w.heap.size, 2, none⟩ (.int .i64 0)).setCell ⟨w.heap.size, 3, none⟩ (.int .i64 0)).setCell ⟨w.heap.size, 4, none⟩ (.int .i64 0)).setCell ⟨w.heap.size, 5, none⟩ (.int .i64 0)).setCell ⟨w.heap.size, 6, none⟩ (.int .i64 0)).setCell ⟨w.heap.size, 7, none⟩ (.int .i64 0)).setCell ⟨w.heap.size, 8, none⟩ (.int .i64 0)).setCell ⟨w.heap.size, 9, none⟩ (.int .i64 0)).setCell ⟨w.heap.size, 10, none⟩ (.int .i64 0)).setCell ⟨w.heap.size, 11, none⟩ (.slice none 0 0)).setCell ⟨w.heap.size, 12, none⟩ (.slice none 0 0)).setCell ⟨w.heap.size, 13, none⟩ (.int .i64 0)).drew = F2 := ⟨_, rfl⟩
    rw [hF] at RA RG ⊢
    clear hF
    go_wp2_with fail
    obtain ⟨j0, j1, j2, j3, j4, j5, j6, j7, j8, j9, ja, jb, jc, jk, jf⟩ := card14 RA
    refine bodyPost_ret (v := .tuple #[cV ⟨#[]⟩ 0 0 0 0 0 0 0 0 0 0 none 0 0 none 0 0 0, .int .i64 0, .int .i64 er]) (by simp [results, Tryd.results16, go_sem, j0, j1, j2, j3, j4, j5, j6, j7, j8, j9, ja, jb, jc, jk]) rfl ?_
    refine ⟨_, _, none, 0, 0, none, 0, 0, HRD.out, ?_, ?_, Nat.le_refl _, below_new HBF.out RG (Nat.le_refl _)⟩
    · rw [HDE.out]; rfl
    · rw [HDE.out]; exact ⟨EfsAt.nil _ _, TrsAt.nil _ _⟩
end Go.Proofs.YtkappnnoienhnaaDoor.caFn
