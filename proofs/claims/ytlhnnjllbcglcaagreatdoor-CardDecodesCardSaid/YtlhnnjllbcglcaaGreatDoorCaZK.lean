/- Joined texts: CaLawF CaDecF CaShows CaKnownF CaZeros CaKnown CaNamed CaLight CaLawP CaLaid -/
import Derived.Test.YtlhnnjllbcglcaaGreatDoorCaZD
import Derived.Test.YtlhnnjllbcglcaaGreatDoorCaZL
import Derived.Test.YtlhnnjllbcglcaaGreatDoorCaZX
import Derived.BigRegion
import Derived.Deep.RegionHeld3
import Derived.Deep.RegionWith
import Derived.Test.YtlhnnjllbcglcaaGreatDoorCaZY
import Derived.Lib.AppendZerosOnto
import Derived.Deep.AppendLies
import Derived.Test.YtlhnnjllbcglcaaGreatDoorCaName
import Derived.BigQuiet
import Derived.Deep.QuietTactic
import Derived.Test.YtlhnnjllbcglcaaGreatDoorCaEqual
import Derived.Test.YtlhnnjllbcglcaaGreatDoorTie
import Derived.LaidMore
import Derived.Lay
import Derived.OpenShut
import Derived.Stop.Joined
import Derived.Stop.LaidErr
import Derived.Laws.IdiomArrays
import Derived.Shelf.Vars
import Derived.SizedLaws
import Derived.ChangeSame
import Derived.Deep.Slices
/- What the law's helpers return: cards and bytes and lines that are compared. -/
namespace Go.Proofs.YtlhnnjllbcglcaaGreatDoor.caFn
open Go.ChangeShapes Go.WideShapes Go.ChangeAt Go.RowKit drMem efFn
set_option linter.unusedVariables false

theorem str_beq' (a b : List UInt8) : ((bs a).toList == (bs b).toList) = decide (a = b) := by
  rw [str_beq]; rfl
set_option maxRecDepth 100000 in
set_option maxHeartbeats 4000000 in
theorem encodes_any (s : ByteArray) (kd a b c d x m p t k : Int) (es : Option Addr) (en ec : Nat) (ts : Option Addr) (tn tc : Nat) (r : Int) (e : List Ef) (l : List Tr) (sq : Option Addr) (nq cq : Nat) (lw : List UInt8) (no : Int) (w : World) (h : CdAt w es en e ts tn l) (htc : tn ≤ tc) (hq : BsAt w sq nq lw) :
    Calls Tryz.prog 8 #[cV s kd a b c d x m p t k es en ec ts tn tc r, .slice sq nq cq, .int .i64 no] w fun v w' => v = .returned (.bool (decide (cdZ ⟨s.data.toList, kd, a, b, c, d, x, m, p, t, k, e, l, r⟩ = (lw, no)))) ∧ Below w.heap.size w w' := by
  have B0 : Below w.heap.size w (w.alloc (.cells #[.string s, .int .i64 kd, .int .i64 a, .int .i64 b, .int .i64 c, .int .i64 d, .int .i64 x, .int .i64 m, .int .i64 p, .int .i64 t, .int .i64 k, .slice es en ec, .slice ts tn tc, .int .i64 r] 32)) := (Below.refl _ _).alloc (Nat.le_refl _) _
  have HE := EncodeV_any s kd a b c d x m p t k es en ec ts tn tc r e l _ (h.below B0 (Nat.le_refl _)) htc
  have HB0 := Lib.hid B0
  have HQ := Lib.hid (hq.below B0 (Nat.le_refl _))
  generalize cdZ ⟨s.data.toList, kd, a, b, c, d, x, m, p, t, k, e, l, r⟩ = z at *
  obtain ⟨zl, ze⟩ := z
  dsimp only at HE
  have er : decide (((zl, ze) : List UInt8 × Int) = (lw, no)) = (decide (zl = lw) && (ze == no)) := by rw [Bool.eq_iff_iff]; simp
  rw [er]
  have hs := str_beq' zl lw
  clear h B0 hq er
  go_enter Tryz.func8, Tryz.ntmps8
  go_wp2_with fail
  refine HE.mono ?_; rintro v w1 ⟨sp, n, cap, rfl, hb, _, hbl⟩
  have HB1 := Lib.hid (next HB0.out hbl)
  have c1 := hb.str cap
  have c2 := (HQ.out.below hbl (Nat.le_refl _)).str cq
  clear hb hbl
  cases hz : decide (zl = lw)
  all_goals
    rw [hz] at hs
    go_wp2_with fail
    go_ret
    exact ⟨by first | rfl | (rw [hz]; rfl), HB1.out⟩
set_option maxRecDepth 100000 in
set_option maxHeartbeats 4000000 in
theorem lines_any (s : ByteArray) (kd a b c d x m p t k : Int) (es : Option Addr) (en ec : Nat) (ts : Option Addr) (tn tc : Nat) (r : Int) (e : List Ef) (l : List Tr) (lw : List UInt8) (no : Int) (w : World) (h : CdAt w es en e ts tn l)
    (HL : ∀ W, Below w.heap.size w W → Calls Tryz.prog 21 #[cV s kd a b c d x m p t k es en ec ts tn tc r] W fun v w' => v = .returned (.tuple #[.string (bs (lnZ ⟨s.data.toList, kd, a, b, c, d, x, m, p, t, k, e, l, r⟩).1), .int .i64 (lnZ ⟨s.data.toList, kd, a, b, c, d, x, m, p, t, k, e, l, r⟩).2]) ∧ Below W.heap.size W w') :
    Calls Tryz.prog 9 #[cV s kd a b c d x m p t k es en ec ts tn tc r, .string (bs lw), .int .i64 no] w fun v w' => v = .returned (.bool (decide (lnZ ⟨s.data.toList, kd, a, b, c, d, x, m, p, t, k, e, l, r⟩ = (lw, no)))) ∧ Below w.heap.size w w' := by
  have B0 : Below w.heap.size w (w.alloc (.cells #[.string s, .int .i64 kd, .int .i64 a, .int .i64 b, .int .i64 c, .int .i64 d, .int .i64 x, .int .i64 m, .int .i64 p, .int .i64 t, .int .i64 k, .slice es en ec, .slice ts tn tc, .int .i64 r] 32)) := (Below.refl _ _).alloc (Nat.le_refl _) _
  have HE := HL _ B0
  have HB0 := Lib.hid B0
  clear HL
  generalize lnZ ⟨s.data.toList, kd, a, b, c, d, x, m, p, t, k, e, l, r⟩ = z at *
  obtain ⟨zl, ze⟩ := z
  dsimp only at HE
  have er : decide (((zl, ze) : List UInt8 × Int) = (lw, no)) = (decide (zl = lw) && (ze == no)) := by rw [Bool.eq_iff_iff]; simp
  rw [er]
  have hs := str_beq' zl lw
  clear h B0 er
  go_enter Tryz.func9, Tryz.ntmps9
  go_wp2_with fail
  refine HE.mono ?_; rintro v w1 ⟨rfl, hbl⟩
  have HB1 := Lib.hid (next HB0.out hbl)
  clear hbl
  cases hz : decide (zl = lw)
  all_goals
    rw [hz] at hs
    go_wp2_with fail
    go_ret
    exact ⟨by first | rfl | (rw [hz]; rfl), HB1.out⟩
end Go.Proofs.YtlhnnjllbcglcaaGreatDoor.caFn

/- What the law's helper of Decode returns. -/
namespace Go.Proofs.YtlhnnjllbcglcaaGreatDoor.caFn
open Go.ChangeShapes Go.WideShapes Go.ChangeAt Go.RowKit drMem efFn
set_option linter.unusedVariables false

def cdR (s : Rd) : Cd × Rd :=
  let p1 := nb 255 s
  let p2 := nb 255 p1.2
  let p3 := nb 32 p2.2
  let p4 := tk p3.1.toNat p3.2
  let p5 := nb 255 p4.2
  let p6 := nb 255 p5.2
  let p7 := nb 255 p6.2
  let p8 := nb 255 p7.2
  let p9 := nb 255 p8.2
  let p10 := nb 255 p9.2
  let p11 := nb 255 p10.2
  let p12 := nb 255 p11.2
  let p13 := nb 255 p12.2
  let p14 := efR p13.2
  let p15 := nb 2 p14.2
  (⟨p4.1, p1.1, p5.1, p6.1, p7.1, p8.1, p9.1, p10.1, p11.1, p12.1, p13.1, p14.1, trL p15.2 p15.1.toNat, p2.1⟩, trS p15.2 p15.1.toNat)
theorem RdC.run {s : Rd} {q : Cd} {s' : Rd} (h : RdC s q s') : cdR s = (q, s') := by
  obtain ⟨s1, s2, s3, s4, s5, s6, s7, s8, s9, s10, s11, s12, s13, s14, s15, n, m, h1, h2, h3, h4, h5, h6, h7, h8, h9, h10, h11, h12, h13, h14, h15, h16, h17⟩ := h
  obtain ⟨nm, kd, a, b, c, d, x, ml, pw, tg, kw, ef, tr, ra⟩ := q
  dsimp only at h1 h2 h3 h4 h5 h6 h7 h8 h9 h10 h11 h12 h13 h14 h15 h16 h17
  unfold cdR
  simp only [h1, h2, h3, h4, h5, h6, h7, h8, h9, h10, h11, h12, h13, h14, h15, h16, h17, Int.toNat_natCast]
def decC (l : List UInt8) : Cd × Int × Int := deV l (cdR (l, 0)).1 (cdR (l, 0)).2

theorem cd_chain (p q : Cd) : (((bs p.nm).toList == (bs q.nm).toList) && ((p.kd == q.kd) && (maFn.eq5 p.a p.b p.c p.d p.x q.a q.b q.c q.d q.x && ((p.ml == q.ml) && ((p.pw == q.pw) && ((p.tg == q.tg) && ((p.kw == q.kw) && ((p.ra == q.ra) && (sameB p.ef q.ef && sameT p.tr q.tr))))))))) = decide (p = q) := by
  rw [str_beq', Bool.eq_iff_iff]
  obtain ⟨⟩ := p
  obtain ⟨⟩ := q
  simp only [sameB, sameT, Bool.and_eq_true, decide_eq_true_eq, beq_iff_eq, maFn.eq5_iff, Cd.mk.injEq]
  grind
theorem bs_self (s : ByteArray) : bs s.data.toList = s := rfl
theorem rEq_any (p q : Cd) (es1 es2 ts1 ts2 : Option Addr) (en1 ec1 en2 ec2 tn1 tc1 tn2 tc2 : Nat) (w : World) (h1 : CdAt w es1 en1 p.ef ts1 tn1 p.tr) (h2 : CdAt w es2 en2 q.ef ts2 tn2 q.tr) :
    Calls Tryz.prog 28 #[cdV p es1 en1 ec1 ts1 tn1 tc1, cdV q es2 en2 ec2 ts2 tn2 tc2] w fun e w' => e = .returned (.bool (decide (p = q))) ∧ Below w.heap.size w w' := by
  have := rEqualV_any (bs p.nm) p.kd p.a p.b p.c p.d p.x p.ml p.pw p.tg p.kw es1 en1 ec1 ts1 tn1 tc1 p.ra p.ef p.tr (bs q.nm) q.kd q.a q.b q.c q.d q.x q.ml q.pw q.tg q.kw es2 en2 ec2 ts2 tn2 tc2 q.ra q.ef q.tr w h1 h2
  rw [cd_chain] at this
  exact this
set_option maxRecDepth 100000 in
set_option maxHeartbeats 8000000 in
theorem decodes_any (q : Cd) (es : Option Addr) (en ec : Nat) (ts : Option Addr) (tn tc : Nat) (sp : Option Addr) (n cap : Nat) (l : List UInt8) (size no : Int) (w : World) (h : CdAt w es en q.ef ts tn q.tr) (hb : BsAt w sp n l) (hcap : n ≤ cap) :
    Calls Tryz.prog 13 #[.slice sp n cap, cdV q es en ec ts tn tc, .int .i64 size, .int .i64 no] w fun v w' => v = .returned (.bool (decide (decC l = (q, size, no)))) ∧ Below w.heap.size w w' := by
  obtain ⟨zz, hz⟩ : ∃ z, decC l = z := ⟨_, rfl⟩
  rw [hz]
  obtain ⟨z, zn, ze⟩ := zz
  have er : decide (((z, zn, ze) : Cd × Int × Int) = (q, size, no)) = (decide (z = q) && (zn == size && ze == no)) := by rw [Bool.eq_iff_iff]; simp
  rw [er]
  clear er
  have B0 : Below w.heap.size w (w.alloc (.cells #[.string (bs q.nm), .int .i64 q.kd, .int .i64 q.a, .int .i64 q.b, .int .i64 q.c, .int .i64 q.d, .int .i64 q.x, .int .i64 q.ml, .int .i64 q.pw, .int .i64 q.tg, .int .i64 q.kw, .slice es en ec, .slice ts tn tc, .int .i64 q.ra] 32)) := (Below.refl _ _).alloc (Nat.le_refl _) _
  have HD := DecodeC_any sp n cap l _ (hb.below B0 (Nat.le_refl _)) hcap
  have HB0 := Lib.hid B0
  have HW : Hid (has (w.alloc (.cells #[.string (bs q.nm), .int .i64 q.kd, .int .i64 q.a, .int .i64 q.b, .int .i64 q.c, .int .i64 q.d, .int .i64 q.x, .int .i64 q.ml, .int .i64 q.pw, .int .i64 q.tg, .int .i64 q.kw, .slice es en ec, .slice ts tn tc, .int .i64 q.ra] 32)) w.heap.size 32 (cL (bs q.nm) q.kd q.a q.b q.c q.d q.x q.ml q.pw q.tg q.kw es en ec ts tn tc q.ra)) := Lib.hid (new0 w 32 (cL (bs q.nm) q.kd q.a q.b q.c q.d q.x q.ml q.pw q.tg q.kw es en ec ts tn tc q.ra))
  have HQ := Lib.hid h
  clear B0 h hb
  go_enter Tryz.func13, Tryz.ntmps13
  go_wp2_with fail
  refine HD.mono ?_; rintro v w1 ⟨q1, s1, es1, en1, ec1, ts1, tn1, tc1, hrd, rfl, hcd, _, hbl⟩
  have hz1 : deV l q1 s1 = (z, zn, ze) := by rw [← hz]; unfold decC; rw [hrd.run]
  rw [hz1] at hcd
  rw [hz1]
  clear hz1 hrd
  dsimp only at hcd
  have HW1 := Lib.hid (HW.out.below hbl HW.out.lt)
  have HB1 := Lib.hid (next HB0.out hbl)
  have hsz := hbl.size
  have B2 : Below w1.heap.size w1 (w1.alloc (.cells #[.string (bs z.nm), .int .i64 z.kd, .int .i64 z.a, .int .i64 z.b, .int .i64 z.c, .int .i64 z.d, .int .i64 z.x, .int .i64 z.ml, .int .i64 z.pw, .int .i64 z.tg, .int .i64 z.kw, .slice es1 en1 ec1, .slice ts1 tn1 tc1, .int .i64 z.ra] 32)) := (Below.refl _ _).alloc (Nat.le_refl _) _
  have HE := rEq_any z q es1 es ts1 ts en1 ec1 en ec tn1 tc1 tn tc _ (hcd.below B2 (Nat.le_refl _)) ((HQ.out.below (HB1.out.trans (B2.mono HB1.out.size)) (Nat.le_refl _)))
  have HBe := Lib.hid (HB1.out.trans (B2.mono HB1.out.size))
  obtain ⟨y0, y1, y2, y3, y4, y5, y6, y7, y8, y9, ya, yb, yc, yd, yf⟩ := card14 (HW1.out.alloc (.cells #[.string (bs z.nm), .int .i64 z.kd, .int .i64 z.a, .int .i64 z.b, .int .i64 z.c, .int .i64 z.d, .int .i64 z.x, .int .i64 z.ml, .int .i64 z.pw, .int .i64 z.tg, .int .i64 z.kw, .slice es1 en1 ec1, .slice ts1 tn1 tc1, .int .i64 z.ra] 32))
  clear hcd hbl B2 hz
  dsimp only
  go_wp2_with fail
  refine HE.mono ?_; rintro v w2 ⟨rfl, hb2⟩
  have HB2 := Lib.hid (next HBe.out hb2)
  clear hb2 y0 y1 y2 y3 y4 y5 y6 y7 y8 y9 ya yb yc yd yf
  cases hd : decide (z = q) <;> cases hn : (zn == size) <;> cases he : (ze == no)
  all_goals
    go_wp2_with fail
    go_ret
    exact ⟨by first | rfl | (rw [hd]; rfl) | (rw [hd, hn]; rfl) | (rw [hd, hn, he]; rfl), HB2.out⟩
end Go.Proofs.YtlhnnjllbcglcaaGreatDoor.caFn

/- What the law's helper of a card's bytes and line returns. -/
namespace Go.Proofs.YtlhnnjllbcglcaaGreatDoor.caFn
open Go.ChangeShapes Go.WideShapes Go.ChangeAt Go.RowKit drMem efFn
set_option linter.unusedVariables false

set_option maxRecDepth 100000 in
set_option maxHeartbeats 16000000 in
theorem shows_any (q : Cd) (es : Option Addr) (en ec : Nat) (ts : Option Addr) (tn tc : Nat) (sp : Option Addr) (n cap : Nat) (lw sl : List UInt8) (w : World) (hG : G w) (h : CdAt w es en q.ef ts tn q.tr) (htc : tn ≤ tc) (hb : BsAt w sp n lw) (hcap : n ≤ cap)
    (h1 : okCd q = true) (h2 : cdZ q = (lw, 0)) (h3 : decC lw = (q, (lw.length : Int), 0)) (h4 : lnZ q = (sl, 0)) :
    Calls Tryz.prog 14 #[cdV q es en ec ts tn tc, .slice sp n cap, .string (bs sl)] w fun e w' => e = .returned (.bool true) ∧ Below w.heap.size w w' := by
  have HV : ∀ W, Below w.heap.size w W → Calls Tryz.prog 29 #[cdV q es en ec ts tn tc] W fun v w' => v = .returned (.bool true) ∧ Below W.heap.size W w' := fun W hB => by
    have := ValidV_any (bs q.nm) q.kd q.a q.b q.c q.d q.x q.ml q.pw q.tg q.kw es en ec ts tn tc q.ra q.ef q.tr W (h.below hB (Nat.le_refl _)) htc
    rw [← h1]; exact this
  have HL0 : ∀ W, Below w.heap.size w W → Calls Tryz.prog 21 #[cdV q es en ec ts tn tc] W fun v w' => v = .returned (.tuple #[.string (bs (lnZ q).1), .int .i64 (lnZ q).2]) ∧ Below W.heap.size W w' := fun W hB =>
    LineV_any (bs q.nm) q.kd q.a q.b q.c q.d q.x q.ml q.pw q.tg q.kw es en ec ts tn tc q.ra q.ef q.tr W (h.below hB (Nat.le_refl _)) htc (hG.below hB)
  have HL : ∀ W, Below w.heap.size w W → Calls Tryz.prog 9 #[cdV q es en ec ts tn tc, .string (bs sl), .int .i64 0] W fun v w' => v = .returned (.bool true) ∧ Below W.heap.size W w' := fun W hB => by
    have := lines_any (bs q.nm) q.kd q.a q.b q.c q.d q.x q.ml q.pw q.tg q.kw es en ec ts tn tc q.ra q.ef q.tr sl 0 W (h.below hB (Nat.le_refl _)) (fun W' hB' => HL0 W' (hB.trans (hB'.mono hB.size)))
    rw [show (true : Bool) = decide (lnZ q = (sl, 0)) from (decide_eq_true h4).symm]; exact this
  have HE : ∀ W, Below w.heap.size w W → Calls Tryz.prog 8 #[cdV q es en ec ts tn tc, .slice sp n cap, .int .i64 0] W fun v w' => v = .returned (.bool true) ∧ Below W.heap.size W w' := fun W hB => by
    have := encodes_any (bs q.nm) q.kd q.a q.b q.c q.d q.x q.ml q.pw q.tg q.kw es en ec ts tn tc q.ra q.ef q.tr sp n cap lw 0 W (h.below hB (Nat.le_refl _)) htc (hb.below hB (Nat.le_refl _))
    rw [show (true : Bool) = decide (cdZ q = (lw, 0)) from (decide_eq_true h2).symm]; exact this
  have HD : ∀ W, Below w.heap.size w W → Calls Tryz.prog 13 #[.slice sp n cap, cdV q es en ec ts tn tc, .int .i64 n, .int .i64 0] W fun v w' => v = .returned (.bool true) ∧ Below W.heap.size W w' := fun W hB => by
    have := decodes_any q es en ec ts tn tc sp n cap lw n 0 W (h.below hB (Nat.le_refl _)) (hb.below hB (Nat.le_refl _)) hcap
    rw [show (true : Bool) = decide (decC lw = (q, (n : Int), 0)) from (decide_eq_true (by rw [h3, hb.n])).symm]; exact this
  have hm := hb.m
  have MD : has (w.alloc (.cells #[.string (bs q.nm), .int .i64 q.kd, .int .i64 q.a, .int .i64 q.b, .int .i64 q.c, .int .i64 q.d, .int .i64 q.x, .int .i64 q.ml, .int .i64 q.pw, .int .i64 q.tg, .int .i64 q.kw, .slice es en ec, .slice ts tn tc, .int .i64 q.ra] 32)) w.heap.size 32 (cL (bs q.nm) q.kd q.a q.b q.c q.d q.x q.ml q.pw q.tg q.kw es en ec ts tn tc q.ra) := new0 w 32 (cL (bs q.nm) q.kd q.a q.b q.c q.d q.x q.ml q.pw q.tg q.kw es en ec ts tn tc q.ra)
  have BD : Below w.heap.size w (w.alloc (.cells #[.string (bs q.nm), .int .i64 q.kd, .int .i64 q.a, .int .i64 q.b, .int .i64 q.c, .int .i64 q.d, .int .i64 q.x, .int .i64 q.ml, .int .i64 q.pw, .int .i64 q.tg, .int .i64 q.kw, .slice es en ec, .slice ts tn tc, .int .i64 q.ra] 32)) := ((Below.refl w.heap.size w).alloc (Nat.le_refl _) _)
  clear HL0 h hb h1 h2 h3 h4
  go_enter Tryz.func14, Tryz.ntmps14
  go_wp2_with fail
  refine (HV _ BD).mono ?_; rintro e wa ⟨rfl, hba⟩
  have Bwa := next BD hba
  have Mwa := MD.below hba MD.lt
  obtain ⟨u0, u1, u2, u3, u4, u5, u6, u7, u8, u9, u10, u11, u12, u13, u14⟩ := card14 Mwa
  clear hba BD MD
  go_wp2_with fail
  clear u0 u1 u2 u3 u4 u5 u6 u7 u8 u9 u10 u11 u12 u13 u14
  refine (HE _ Bwa).mono ?_; rintro e wb ⟨rfl, hba⟩
  have Bwb := next Bwa hba
  have Mwb := Mwa.below hba Mwa.lt
  obtain ⟨u0, u1, u2, u3, u4, u5, u6, u7, u8, u9, u10, u11, u12, u13, u14⟩ := card14 Mwb
  clear hba Bwa Mwa
  go_wp2_with fail
  clear u0 u1 u2 u3 u4 u5 u6 u7 u8 u9 u10 u11 u12 u13 u14
  refine (HD _ Bwb).mono ?_; rintro e wc ⟨rfl, hba⟩
  have Bwc := next Bwb hba
  have Mwc := Mwb.below hba Mwb.lt
  obtain ⟨u0, u1, u2, u3, u4, u5, u6, u7, u8, u9, u10, u11, u12, u13, u14⟩ := card14 Mwc
  clear hba Bwb Mwb
  go_wp2_with fail
  clear u0 u1 u2 u3 u4 u5 u6 u7 u8 u9 u10 u11 u12 u13 u14
  refine (HL _ Bwc).mono ?_; rintro e wd ⟨rfl, hba⟩
  have Bwd := next Bwc hba
  have Mwd := Mwc.below hba Mwc.lt
  obtain ⟨u0, u1, u2, u3, u4, u5, u6, u7, u8, u9, u10, u11, u12, u13, u14⟩ := card14 Mwd
  clear hba Bwc Mwc
  go_wp2_with fail
  clear u0 u1 u2 u3 u4 u5 u6 u7 u8 u9 u10 u11 u12 u13 u14
  go_ret
  exact ⟨rfl, Bwd⟩
end Go.Proofs.YtlhnnjllbcglcaaGreatDoor.caFn

/- The chapter's examples of cards. -/
namespace Go.Proofs.YtlhnnjllbcglcaaGreatDoor.caFn
open Go.ChangeShapes Go.WideShapes Go.ChangeAt Go.RowKit drMem efFn
set_option linter.unusedVariables false

abbrev kWell : Cd := ⟨[87, 101, 108, 108], 1, 0, 0, 0, 0, 0, 1, 0, 0, 0, [], [], 1⟩
abbrev kWisp : Cd := ⟨[87, 105, 115, 112], 2, 0, 1, 0, 0, 1, 0, 1, 2, 2, [], [⟨1, [⟨2, 0, 1, 0, 0⟩]⟩], 2⟩
abbrev kJolt : Cd := ⟨[74, 111, 108, 116], 4, 1, 0, 0, 0, 0, 0, 0, 0, 0, [⟨1, 5, 3, 0, 0⟩], [], 1⟩
abbrev bWell : List UInt8 := [1, 1, 4, 87, 101, 108, 108, 0, 0, 0, 0, 0, 1, 0, 0, 0, 0, 0]
abbrev bWisp : List UInt8 := [2, 2, 4, 87, 105, 115, 112, 0, 1, 0, 0, 1, 0, 1, 2, 2, 0, 1, 1, 1, 2, 0, 1, 0, 0]
abbrev bJolt : List UInt8 := [4, 1, 4, 74, 111, 108, 116, 1, 0, 0, 0, 0, 0, 0, 0, 0, 1, 1, 5, 3, 0, 0, 0]
abbrev lWell : List UInt8 := [87, 101, 108, 108, 44, 32, 115, 111, 117, 114, 99, 101, 32, 111, 102, 32, 84]
abbrev lWisp : List UInt8 := [87, 105, 115, 112, 44, 32, 99, 114, 101, 97, 116, 117, 114, 101, 32, 49, 84, 44, 32, 49, 47, 50, 44, 32, 102, 108, 121, 105, 110, 103, 44, 32, 100, 105, 101, 115, 58, 32, 100, 114, 97, 119, 32, 49]
abbrev lJolt : List UInt8 := [74, 111, 108, 116, 44, 32, 116, 114, 105, 99, 107, 32, 69, 44, 32, 100, 97, 109, 97, 103, 101, 32, 51, 32, 101, 105, 116, 104, 101, 114]
theorem kV0 : okCd kWell = true := by decide +kernel
theorem kV1 : okCd kWisp = true := by decide +kernel
theorem kV2 : okCd kJolt = true := by decide +kernel
theorem kE0 : decide (cdZ kWell = (bWell, 0)) = true := by decide +kernel
theorem kE1 : decide (cdZ kWisp = (bWisp, 0)) = true := by decide +kernel
theorem kE2 : decide (cdZ kJolt = (bJolt, 0)) = true := by decide +kernel
theorem kD0 : decide (decC bWell = (kWell, 18, 0)) = true := by decide +kernel
theorem kD1 : decide (decC bWisp = (kWisp, 25, 0)) = true := by decide +kernel
theorem kD2 : decide (decC bJolt = (kJolt, 23, 0)) = true := by decide +kernel
theorem kL0 : decide (lnZ kWell = (lWell, 0)) = true := by decide +kernel
theorem kL1 : decide (lnZ kWisp = (lWisp, 0)) = true := by decide +kernel
theorem kL2 : decide (lnZ kJolt = (lJolt, 0)) = true := by decide +kernel
theorem kN0 : decide (decC (bWell.take 17) = (zeroCd, 0, 4)) = true := by decide +kernel
theorem kN1 : decide (decC [9, 1, 1, 65, 0, 0, 0, 0, 0, 0, 0, 0, 0, 0, 0] = (zeroCd, 0, 6)) = true := by decide +kernel
theorem kN2 : decide (decC [1, 1, 33] = (zeroCd, 0, 6)) = true := by decide +kernel
theorem new1 {w : World} {n : Nat} (h : w.heap.size = n) (t : TypeId) (cs : List Value) : has (w.alloc (.cells cs.toArray t)) n t cs := h ▸ new0 w t cs
theorem efs_at {w : World} {g : Nat} (l : List Ef) (h : has w g 51 (efC l)) (hv : ∀ e ∈ l, e.wf) (hm : l.length ≤ 1000) : EfsAt w (some ⟨g, 0, none⟩) l.length l := EfsAt.of_src (src.of h) hv (by omega)
theorem bs_at {w : World} {g : Nat} (l : List UInt8) (h : has w g 5 (bys l)) (hm : l.length ≤ 1000) : BsAt w (some ⟨g, 0, none⟩) l.length l := ⟨rfl, by omega, src.of h⟩
theorem bs_take {w : World} {g : Nat} (l : List UInt8) (k : Nat) (h : has w g 5 (bys l)) (hk : k ≤ l.length) (hm : l.length ≤ 1000) : BsAt w (some ⟨g, 0, none⟩) k (l.take k) := ⟨by simp; omega, by omega, by have := src.of_take h k; simpa [bys, List.map_take] using this⟩
theorem trs_one {w : World} {g : Nat} {k : Int} {s : Option Addr} {c : Nat} (e : Ef) (h : has w g 47 (tL k s 1 c)) (he : EfsAt w s 1 [e]) (hk : i64ok k) : TrsAt w (some ⟨g, 0, none⟩) 1 [⟨k, [e]⟩] :=
  ⟨rfl, by omega, fun _ => ⟨g, 0, rfl, h.lt, fun i t hi => by
    match i, hi with
    | 0, hi => obtain rfl := Option.some.inj hi; exact ⟨s, 1, c, ⟨h.cell 0, h.cell 1, he⟩⟩
    | i + 1, hi => simp at hi⟩, by simpa using hk⟩
theorem wfD : ∀ e ∈ ([⟨2, 0, 1, 0, 0⟩] : List Ef), e.wf := by intro e he; simp only [List.mem_cons, List.not_mem_nil, or_false] at he; subst he; refine ⟨?_, ?_, ?_, ?_, ?_⟩ <;> (unfold i64ok; decide)
theorem wfJ : ∀ e ∈ ([⟨1, 5, 3, 0, 0⟩] : List Ef), e.wf := by intro e he; simp only [List.mem_cons, List.not_mem_nil, or_false] at he; subst he; refine ⟨?_, ?_, ?_, ?_, ?_⟩ <;> (unfold i64ok; decide)
end Go.Proofs.YtlhnnjllbcglcaaGreatDoor.caFn

/- An append of eleven zeros at a step of a region that draws. -/
namespace Go.Proofs.YtlhnnjllbcglcaaGreatDoor.caFn
open Go.ChangeShapes Go.WideShapes Go.ChangeAt Go.RowKit drMem efFn
set_option linter.unusedVariables false

theorem zeros_run (w : World) (ty : TypeId) (B : Nat) (hh : has w B 5 (bys [9, 1, 1, 65])) :
    ∃ cap w', (Builtin.append_ #[38, 3] ty #[.slice (some ⟨B, 0, none⟩) 4 4, .int .i64 11]).run Tryz.prog w = .ok (.slice (some ⟨w.heap.size, 0, none⟩) 15 cap) w' ∧ BsAt w' (some ⟨w.heap.size, 0, none⟩) 15 [9, 1, 1, 65, 0, 0, 0, 0, 0, 0, 0, 0, 0, 0, 0] ∧ 15 ≤ cap ∧ w.grownBy w' none := by
  obtain ⟨i0, hi, hz0, hz1, hz2⟩ := info_parts infoB
  have hold : (Builtin.firstCells i0.size 4 (.slice (some ⟨B, 0, none⟩) 4 4)).run Tryz.prog w.drew = .ok (bys [9, 1, 1, 65]).toArray w.drew := by
    rw [hz1]
    exact run_firstCells_some w.drew 1 4 ⟨B, 0, none⟩ 4 4 (bys [9, 1, 1, 65]) (by rfl) (fun j v hj => by
      rw [addr_add, Nat.zero_add]; exact (hh.cell j).trans hj)
  have h := Lib.run_append_grow_zeros w 38 3 ty 5 i0 (.int .u8 0) .i64 .i64 Tryz.underlying38 Tryz.underlying3 hi hz0 (some ⟨B, 0, none⟩) 4 4 (bys [9, 1, 1, 65]) hold 11 (by omega) (by omega) (by omega) (by omega) (by rw [hz2]; decide) (by rw [hz2]; decide)
  have h11 : Builtin.zeroCells (Value.int .u8 0).cells 11 = (bys [0, 0, 0, 0, 0, 0, 0, 0, 0, 0, 0]).toArray := by kernel_rfl
  rw [h11] at h
  refine ⟨_, _, h, ?_, grownCap_ge _ _ _ _, ?_⟩
  · generalize Builtin.zeroCells (Value.int .u8 0).cells (grownCap w (4 + 11) 4 5 - (4 + 11)) = R
    have hrow : (bys [9, 1, 1, 65]).toArray ++ (bys [0, 0, 0, 0, 0, 0, 0, 0, 0, 0, 0]).toArray ++ R = (bys [9, 1, 1, 65, 0, 0, 0, 0, 0, 0, 0, 0, 0, 0, 0] ++ R.toList).toArray := by
      apply Array.ext'; simp [bys]
    rw [hrow]
    have hn := has.new w.drew 5 (bys [9, 1, 1, 65, 0, 0, 0, 0, 0, 0, 0, 0, 0, 0, 0] ++ R.toList)
    refine ⟨rfl, by omega, ?_⟩
    have := src.of_take hn 15
    rw [List.take_left' (by rfl)] at this
    exact this
  · exact ⟨rfl, rfl, rfl, by simp, fun b hb _ => Below.heap_alloc w.drew _ b hb⟩
theorem step_zeros {ops : Array Oper} {o : Oper} {a : Act} {K : Act → World → Prop} {Q : Exit → Act → World → Prop} {E : Prop} (w : World) (s : Operand)
    (ho : o.op = .call { callee := .builtin .append, args := #[s, .const (.int .i64 11)], argTypes := #[38, 3] }) (B : Nat) (hs : a.eval s = .slice (some ⟨B, 0, none⟩) 4 4) (hwd : Region.wanted o (yielded ops a.tmps) = true) (hh : has w B 5 (bys [9, 1, 1, 65])) (H : Nat) (hH : w.heap.size = H)
    (h : ∀ cap w', BsAt w' (some ⟨H, 0, none⟩) 15 [9, 1, 1, 65, 0, 0, 0, 0, 0, 0, 0, 0, 0, 0, 0] → 15 ≤ cap → w.grownBy w' none → K (a.put o.dst (.slice (some ⟨H, 0, none⟩) 15 cap)) w') :
    if Region.wanted o (yielded ops a.tmps) = true then Oper.wp Tryz.prog o a w K Q else E := by
  subst hH
  rw [if_pos hwd]
  obtain ⟨cap, w', hr, h2, h3, h4⟩ := zeros_run w o.type B hh
  have hx : a.eval (.const (.int .i64 11)) = .int .i64 11 := rfl
  unfold Oper.wp execOp
  simp only [ho, resolve, invoke, builtin, Sem.run_bind, Sem.run_pure, Result.andThen_ok, List.map_toArray, List.map_cons, List.map_nil, hs, hx, hr]
  exact h cap w' h2 h3 h4
end Go.Proofs.YtlhnnjllbcglcaaGreatDoor.caFn

/- The chapter's examples of cards. -/
namespace Go.Proofs.YtlhnnjllbcglcaaGreatDoor.caFn
open Go.ChangeShapes Go.WideShapes Go.ChangeAt Go.RowKit drMem efFn
set_option linter.unusedVariables false

theorem below_none {a b c : World} (h : Below a.heap.size a b) (k : b.grownBy c none) : Below a.heap.size a c := h.grown k h.size (fun q hq => by cases hq)
set_option maxRecDepth 100000 in
set_option maxHeartbeats 8000000 in
theorem known_any (w : World) (hG : G w) : Calls Tryz.prog 6 #[] w fun e w' => e = .returned (.bool true) ∧ Below w.heap.size w w' := by
  have HG := Lib.hid hG
  clear hG
  have HB := Lib.hid (Below.refl w.heap.size w)
  have HM0 := Lib.hid (show has (w.alloc (.cells #[.string ⟨#[87, 101, 108, 108]⟩, .int .i64 1, .int .i64 0, .int .i64 0, .int .i64 0, .int .i64 0, .int .i64 0, .int .i64 1, .int .i64 0, .int .i64 0, .int .i64 0, .slice none 0 0, .slice none 0 0, .int .i64 1] 32)) (w.heap.size) 32 [.string ⟨#[87, 101, 108, 108]⟩, .int .i64 1, .int .i64 0, .int .i64 0, .int .i64 0, .int .i64 0, .int .i64 0, .int .i64 1, .int .i64 0, .int .i64 0, .int .i64 0, .slice none 0 0, .slice none 0 0, .int .i64 1] from new1 (by first | rfl | simp) 32 [.string ⟨#[87, 101, 108, 108]⟩, .int .i64 1, .int .i64 0, .int .i64 0, .int .i64 0, .int .i64 0, .int .i64 0, .int .i64 1, .int .i64 0, .int .i64 0, .int .i64 0, .slice none 0 0, .slice none 0 0, .int .i64 1])
  have HB := Lib.hid (HB.out.alloc HB.out.size (.cells #[.string ⟨#[87, 101, 108, 108]⟩, .int .i64 1, .int .i64 0, .int .i64 0, .int .i64 0, .int .i64 0, .int .i64 0, .int .i64 1, .int .i64 0, .int .i64 0, .int .i64 0, .slice none 0 0, .slice none 0 0, .int .i64 1] 32))
  have HM0 := Lib.hid (HM0.out.alloc (.cells #[.int .i64 2, .int .i64 0, .int .i64 1, .int .i64 0, .int .i64 0] 51))
  have HM1 := Lib.hid (show has ((w.alloc (.cells #[.string ⟨#[87, 101, 108, 108]⟩, .int .i64 1, .int .i64 0, .int .i64 0, .int .i64 0, .int .i64 0, .int .i64 0, .int .i64 1, .int .i64 0, .int .i64 0, .int .i64 0, .slice none 0 0, .slice none 0 0, .int .i64 1] 32)).alloc (.cells #[.int .i64 2, .int .i64 0, .int .i64 1, .int .i64 0, .int .i64 0] 51)) (w.heap.size + 1) 51 [.int .i64 2, .int .i64 0, .int .i64 1, .int .i64 0, .int .i64 0] from new1 (by first | rfl | simp) 51 [.int .i64 2, .int .i64 0, .int .i64 1, .int .i64 0, .int .i64 0])
  have HB := Lib.hid (HB.out.alloc HB.out.size (.cells #[.int .i64 2, .int .i64 0, .int .i64 1, .int .i64 0, .int .i64 0] 51))
  have HM0 := Lib.hid (HM0.out.alloc (.cells #[.int .i64 1, .slice (some ⟨w.heap.size + 1, 0, none⟩) 1 1] 47))
  have HM1 := Lib.hid (HM1.out.alloc (.cells #[.int .i64 1, .slice (some ⟨w.heap.size + 1, 0, none⟩) 1 1] 47))
  have HM2 := Lib.hid (show has (((w.alloc (.cells #[.string ⟨#[87, 101, 108, 108]⟩, .int .i64 1, .int .i64 0, .int .i64 0, .int .i64 0, .int .i64 0, .int .i64 0, .int .i64 1, .int .i64 0, .int .i64 0, .int .i64 0, .slice none 0 0, .slice none 0 0, .int .i64 1] 32)).alloc (.cells #[.int .i64 2, .int .i64 0, .int .i64 1, .int .i64 0, .int .i64 0] 51)).alloc (.cells #[.int .i64 1, .slice (some ⟨w.heap.size + 1, 0, none⟩) 1 1] 47)) (w.heap.size + 1 + 1) 47 [.int .i64 1, .slice (some ⟨w.heap.size + 1, 0, none⟩) 1 1] from new1 (by first | rfl | simp) 47 [.int .i64 1, .slice (some ⟨w.heap.size + 1, 0, none⟩) 1 1])
  have HB := Lib.hid (HB.out.alloc HB.out.size (.cells #[.int .i64 1, .slice (some ⟨w.heap.size + 1, 0, none⟩) 1 1] 47))
  have HM0 := Lib.hid (HM0.out.alloc (.cells #[.string ⟨#[87, 105, 115, 112]⟩, .int .i64 2, .int .i64 0, .int .i64 1, .int .i64 0, .int .i64 0, .int .i64 1, .int .i64 0, .int .i64 1, .int .i64 2, .int .i64 2, .slice none 0 0, .slice (some ⟨w.heap.size + 1 + 1, 0, none⟩) 1 1, .int .i64 2] 32))
  have HM1 := Lib.hid (HM1.out.alloc (.cells #[.string ⟨#[87, 105, 115, 112]⟩, .int .i64 2, .int .i64 0, .int .i64 1, .int .i64 0, .int .i64 0, .int .i64 1, .int .i64 0, .int .i64 1, .int .i64 2, .int .i64 2, .slice none 0 0, .slice (some ⟨w.heap.size + 1 + 1, 0, none⟩) 1 1, .int .i64 2] 32))
  have HM2 := Lib.hid (HM2.out.alloc (.cells #[.string ⟨#[87, 105, 115, 112]⟩, .int .i64 2, .int .i64 0, .int .i64 1, .int .i64 0, .int .i64 0, .int .i64 1, .int .i64 0, .int .i64 1, .int .i64 2, .int .i64 2, .slice none 0 0, .slice (some ⟨w.heap.size + 1 + 1, 0, none⟩) 1 1, .int .i64 2] 32))
  have HM3 := Lib.hid (show has ((((w.alloc (.cells #[.string ⟨#[87, 101, 108, 108]⟩, .int .i64 1, .int .i64 0, .int .i64 0, .int .i64 0, .int .i64 0, .int .i64 0, .int .i64 1, .int .i64 0, .int .i64 0, .int .i64 0, .slice none 0 0, .slice none 0 0, .int .i64 1] 32)).alloc (.cells #[.int .i64 2, .int .i64 0, .int .i64 1, .int .i64 0, .int .i64 0] 51)).alloc (.cells #[.int .i64 1, .slice (some ⟨w.heap.size + 1, 0, none⟩) 1 1] 47)).alloc (.cells #[.string ⟨#[87, 105, 115, 112]⟩, .int .i64 2, .int .i64 0, .int .i64 1, .int .i64 0, .int .i64 0, .int .i64 1, .int .i64 0, .int .i64 1, .int .i64 2, .int .i64 2, .slice none 0 0, .slice (some ⟨w.heap.size + 1 + 1, 0, none⟩) 1 1, .int .i64 2] 32)) (w.heap.size + 1 + 1 + 1) 32 [.string ⟨#[87, 105, 115, 112]⟩, .int .i64 2, .int .i64 0, .int .i64 1, .int .i64 0, .int .i64 0, .int .i64 1, .int .i64 0, .int .i64 1, .int .i64 2, .int .i64 2, .slice none 0 0, .slice (some ⟨w.heap.size + 1 + 1, 0, none⟩) 1 1, .int .i64 2] from new1 (by first | rfl | simp) 32 [.string ⟨#[87, 105, 115, 112]⟩, .int .i64 2, .int .i64 0, .int .i64 1, .int .i64 0, .int .i64 0, .int .i64 1, .int .i64 0, .int .i64 1, .int .i64 2, .int .i64 2, .slice none 0 0, .slice (some ⟨w.heap.size + 1 + 1, 0, none⟩) 1 1, .int .i64 2])
  have HB := Lib.hid (HB.out.alloc HB.out.size (.cells #[.string ⟨#[87, 105, 115, 112]⟩, .int .i64 2, .int .i64 0, .int .i64 1, .int .i64 0, .int .i64 0, .int .i64 1, .int .i64 0, .int .i64 1, .int .i64 2, .int .i64 2, .slice none 0 0, .slice (some ⟨w.heap.size + 1 + 1, 0, none⟩) 1 1, .int .i64 2] 32))
  have HM0 := Lib.hid (HM0.out.alloc (.cells #[.int .i64 1, .int .i64 5, .int .i64 3, .int .i64 0, .int .i64 0] 51))
  have HM1 := Lib.hid (HM1.out.alloc (.cells #[.int .i64 1, .int .i64 5, .int .i64 3, .int .i64 0, .int .i64 0] 51))
  have HM2 := Lib.hid (HM2.out.alloc (.cells #[.int .i64 1, .int .i64 5, .int .i64 3, .int .i64 0, .int .i64 0] 51))
  have HM3 := Lib.hid (HM3.out.alloc (.cells #[.int .i64 1, .int .i64 5, .int .i64 3, .int .i64 0, .int .i64 0] 51))
  have HM4 := Lib.hid (show has (((((w.alloc (.cells #[.string ⟨#[87, 101, 108, 108]⟩, .int .i64 1, .int .i64 0, .int .i64 0, .int .i64 0, .int .i64 0, .int .i64 0, .int .i64 1, .int .i64 0, .int .i64 0, .int .i64 0, .slice none 0 0, .slice none 0 0, .int .i64 1] 32)).alloc (.cells #[.int .i64 2, .int .i64 0, .int .i64 1, .int .i64 0, .int .i64 0] 51)).alloc (.cells #[.int .i64 1, .slice (some ⟨w.heap.size + 1, 0, none⟩) 1 1] 47)).alloc (.cells #[.string ⟨#[87, 105, 115, 112]⟩, .int .i64 2, .int .i64 0, .int .i64 1, .int .i64 0, .int .i64 0, .int .i64 1, .int .i64 0, .int .i64 1, .int .i64 2, .int .i64 2, .slice none 0 0, .slice (some ⟨w.heap.size + 1 + 1, 0, none⟩) 1 1, .int .i64 2] 32)).alloc (.cells #[.int .i64 1, .int .i64 5, .int .i64 3, .int .i64 0, .int .i64 0] 51)) (w.heap.size + 1 + 1 + 1 + 1) 51 [.int .i64 1, .int .i64 5, .int .i64 3, .int .i64 0, .int .i64 0] from new1 (by first | rfl | simp) 51 [.int .i64 1, .int .i64 5, .int .i64 3, .int .i64 0, .int .i64 0])
  have HB := Lib.hid (HB.out.alloc HB.out.size (.cells #[.int .i64 1, .int .i64 5, .int .i64 3, .int .i64 0, .int .i64 0] 51))
  have HM0 := Lib.hid (HM0.out.alloc (.cells #[.string ⟨#[74, 111, 108, 116]⟩, .int .i64 4, .int .i64 1, .int .i64 0, .int .i64 0, .int .i64 0, .int .i64 0, .int .i64 0, .int .i64 0, .int .i64 0, .int .i64 0, .slice (some ⟨w.heap.size + 1 + 1 + 1 + 1, 0, none⟩) 1 1, .slice none 0 0, .int .i64 1] 32))
  have HM1 := Lib.hid (HM1.out.alloc (.cells #[.string ⟨#[74, 111, 108, 116]⟩, .int .i64 4, .int .i64 1, .int .i64 0, .int .i64 0, .int .i64 0, .int .i64 0, .int .i64 0, .int .i64 0, .int .i64 0, .int .i64 0, .slice (some ⟨w.heap.size + 1 + 1 + 1 + 1, 0, none⟩) 1 1, .slice none 0 0, .int .i64 1] 32))
  have HM2 := Lib.hid (HM2.out.alloc (.cells #[.string ⟨#[74, 111, 108, 116]⟩, .int .i64 4, .int .i64 1, .int .i64 0, .int .i64 0, .int .i64 0, .int .i64 0, .int .i64 0, .int .i64 0, .int .i64 0, .int .i64 0, .slice (some ⟨w.heap.size + 1 + 1 + 1 + 1, 0, none⟩) 1 1, .slice none 0 0, .int .i64 1] 32))
  have HM3 := Lib.hid (HM3.out.alloc (.cells #[.string ⟨#[74, 111, 108, 116]⟩, .int .i64 4, .int .i64 1, .int .i64 0, .int .i64 0, .int .i64 0, .int .i64 0, .int .i64 0, .int .i64 0, .int .i64 0, .int .i64 0, .slice (some ⟨w.heap.size + 1 + 1 + 1 + 1, 0, none⟩) 1 1, .slice none 0 0, .int .i64 1] 32))
  have HM4 := Lib.hid (HM4.out.alloc (.cells #[.string ⟨#[74, 111, 108, 116]⟩, .int .i64 4, .int .i64 1, .int .i64 0, .int .i64 0, .int .i64 0, .int .i64 0, .int .i64 0, .int .i64 0, .int .i64 0, .int .i64 0, .slice (some ⟨w.heap.size + 1 + 1 + 1 + 1, 0, none⟩) 1 1, .slice none 0 0, .int .i64 1] 32))
  have HM5 := Lib.hid (show has ((((((w.alloc (.cells #[.string ⟨#[87, 101, 108, 108]⟩, .int .i64 1, .int .i64 0, .int .i64 0, .int .i64 0, .int .i64 0, .int .i64 0, .int .i64 1, .int .i64 0, .int .i64 0, .int .i64 0, .slice none 0 0, .slice none 0 0, .int .i64 1] 32)).alloc (.cells #[.int .i64 2, .int .i64 0, .int .i64 1, .int .i64 0, .int .i64 0] 51)).alloc (.cells #[.int .i64 1, .slice (some ⟨w.heap.size + 1, 0, none⟩) 1 1] 47)).alloc (.cells #[.string ⟨#[87, 105, 115, 112]⟩, .int .i64 2, .int .i64 0, .int .i64 1, .int .i64 0, .int .i64 0, .int .i64 1, .int .i64 0, .int .i64 1, .int .i64 2, .int .i64 2, .slice none 0 0, .slice (some ⟨w.heap.size + 1 + 1, 0, none⟩) 1 1, .int .i64 2] 32)).alloc (.cells #[.int .i64 1, .int .i64 5, .int .i64 3, .int .i64 0, .int .i64 0] 51)).alloc (.cells #[.string ⟨#[74, 111, 108, 116]⟩, .int .i64 4, .int .i64 1, .int .i64 0, .int .i64 0, .int .i64 0, .int .i64 0, .int .i64 0, .int .i64 0, .int .i64 0, .int .i64 0, .slice (some ⟨w.heap.size + 1 + 1 + 1 + 1, 0, none⟩) 1 1, .slice none 0 0, .int .i64 1] 32)) (w.heap.size + 1 + 1 + 1 + 1 + 1) 32 [.string ⟨#[74, 111, 108, 116]⟩, .int .i64 4, .int .i64 1, .int .i64 0, .int .i64 0, .int .i64 0, .int .i64 0, .int .i64 0, .int .i64 0, .int .i64 0, .int .i64 0, .slice (some ⟨w.heap.size + 1 + 1 + 1 + 1, 0, none⟩) 1 1, .slice none 0 0, .int .i64 1] from new1 (by first | rfl | simp) 32 [.string ⟨#[74, 111, 108, 116]⟩, .int .i64 4, .int .i64 1, .int .i64 0, .int .i64 0, .int .i64 0, .int .i64 0, .int .i64 0, .int .i64 0, .int .i64 0, .int .i64 0, .slice (some ⟨w.heap.size + 1 + 1 + 1 + 1, 0, none⟩) 1 1, .slice none 0 0, .int .i64 1])
  have HB := Lib.hid (HB.out.alloc HB.out.size (.cells #[.string ⟨#[74, 111, 108, 116]⟩, .int .i64 4, .int .i64 1, .int .i64 0, .int .i64 0, .int .i64 0, .int .i64 0, .int .i64 0, .int .i64 0, .int .i64 0, .int .i64 0, .slice (some ⟨w.heap.size + 1 + 1 + 1 + 1, 0, none⟩) 1 1, .slice none 0 0, .int .i64 1] 32))
  have HM0 := Lib.hid (HM0.out.alloc (.cells #[.int .u8 1, .int .u8 1, .int .u8 4, .int .u8 87, .int .u8 101, .int .u8 108, .int .u8 108, .int .u8 0, .int .u8 0, .int .u8 0, .int .u8 0, .int .u8 0, .int .u8 1, .int .u8 0, .int .u8 0, .int .u8 0, .int .u8 0, .int .u8 0] 5))
  have HM1 := Lib.hid (HM1.out.alloc (.cells #[.int .u8 1, .int .u8 1, .int .u8 4, .int .u8 87, .int .u8 101, .int .u8 108, .int .u8 108, .int .u8 0, .int .u8 0, .int .u8 0, .int .u8 0, .int .u8 0, .int .u8 1, .int .u8 0, .int .u8 0, .int .u8 0, .int .u8 0, .int .u8 0] 5))
  have HM2 := Lib.hid (HM2.out.alloc (.cells #[.int .u8 1, .int .u8 1, .int .u8 4, .int .u8 87, .int .u8 101, .int .u8 108, .int .u8 108, .int .u8 0, .int .u8 0, .int .u8 0, .int .u8 0, .int .u8 0, .int .u8 1, .int .u8 0, .int .u8 0, .int .u8 0, .int .u8 0, .int .u8 0] 5))
  have HM3 := Lib.hid (HM3.out.alloc (.cells #[.int .u8 1, .int .u8 1, .int .u8 4, .int .u8 87, .int .u8 101, .int .u8 108, .int .u8 108, .int .u8 0, .int .u8 0, .int .u8 0, .int .u8 0, .int .u8 0, .int .u8 1, .int .u8 0, .int .u8 0, .int .u8 0, .int .u8 0, .int .u8 0] 5))
  have HM4 := Lib.hid (HM4.out.alloc (.cells #[.int .u8 1, .int .u8 1, .int .u8 4, .int .u8 87, .int .u8 101, .int .u8 108, .int .u8 108, .int .u8 0, .int .u8 0, .int .u8 0, .int .u8 0, .int .u8 0, .int .u8 1, .int .u8 0, .int .u8 0, .int .u8 0, .int .u8 0, .int .u8 0] 5))
  have HM5 := Lib.hid (HM5.out.alloc (.cells #[.int .u8 1, .int .u8 1, .int .u8 4, .int .u8 87, .int .u8 101, .int .u8 108, .int .u8 108, .int .u8 0, .int .u8 0, .int .u8 0, .int .u8 0, .int .u8 0, .int .u8 1, .int .u8 0, .int .u8 0, .int .u8 0, .int .u8 0, .int .u8 0] 5))
  have HY := Lib.hid (show has (((((((w.alloc (.cells #[.string ⟨#[87, 101, 108, 108]⟩, .int .i64 1, .int .i64 0, .int .i64 0, .int .i64 0, .int .i64 0, .int .i64 0, .int .i64 1, .int .i64 0, .int .i64 0, .int .i64 0, .slice none 0 0, .slice none 0 0, .int .i64 1] 32)).alloc (.cells #[.int .i64 2, .int .i64 0, .int .i64 1, .int .i64 0, .int .i64 0] 51)).alloc (.cells #[.int .i64 1, .slice (some ⟨w.heap.size + 1, 0, none⟩) 1 1] 47)).alloc (.cells #[.string ⟨#[87, 105, 115, 112]⟩, .int .i64 2, .int .i64 0, .int .i64 1, .int .i64 0, .int .i64 0, .int .i64 1, .int .i64 0, .int .i64 1, .int .i64 2, .int .i64 2, .slice none 0 0, .slice (some ⟨w.heap.size + 1 + 1, 0, none⟩) 1 1, .int .i64 2] 32)).alloc (.cells #[.int .i64 1, .int .i64 5, .int .i64 3, .int .i64 0, .int .i64 0] 51)).alloc (.cells #[.string ⟨#[74, 111, 108, 116]⟩, .int .i64 4, .int .i64 1, .int .i64 0, .int .i64 0, .int .i64 0, .int .i64 0, .int .i64 0, .int .i64 0, .int .i64 0, .int .i64 0, .slice (some ⟨w.heap.size + 1 + 1 + 1 + 1, 0, none⟩) 1 1, .slice none 0 0, .int .i64 1] 32)).alloc (.cells #[.int .u8 1, .int .u8 1, .int .u8 4, .int .u8 87, .int .u8 101, .int .u8 108, .int .u8 108, .int .u8 0, .int .u8 0, .int .u8 0, .int .u8 0, .int .u8 0, .int .u8 1, .int .u8 0, .int .u8 0, .int .u8 0, .int .u8 0, .int .u8 0] 5)) (w.heap.size + 1 + 1 + 1 + 1 + 1 + 1) 5 [.int .u8 1, .int .u8 1, .int .u8 4, .int .u8 87, .int .u8 101, .int .u8 108, .int .u8 108, .int .u8 0, .int .u8 0, .int .u8 0, .int .u8 0, .int .u8 0, .int .u8 1, .int .u8 0, .int .u8 0, .int .u8 0, .int .u8 0, .int .u8 0] from new1 (by first | rfl | simp) 5 [.int .u8 1, .int .u8 1, .int .u8 4, .int .u8 87, .int .u8 101, .int .u8 108, .int .u8 108, .int .u8 0, .int .u8 0, .int .u8 0, .int .u8 0, .int .u8 0, .int .u8 1, .int .u8 0, .int .u8 0, .int .u8 0, .int .u8 0, .int .u8 0])
  have HB := Lib.hid (HB.out.alloc HB.out.size (.cells #[.int .u8 1, .int .u8 1, .int .u8 4, .int .u8 87, .int .u8 101, .int .u8 108, .int .u8 108, .int .u8 0, .int .u8 0, .int .u8 0, .int .u8 0, .int .u8 0, .int .u8 1, .int .u8 0, .int .u8 0, .int .u8 0, .int .u8 0, .int .u8 0] 5))
  go_enter Tryz.func6, Tryz.ntmps6
  go_wp2_with fail
  refine (shows_any kWell none 0 0 none 0 0 _ 18 18 bWell lWell _ (HG.out.below HB.out) ⟨EfsAt.nil _ _, TrsAt.nil _ _⟩ (Nat.le_refl _) (bs_at bWell HY.out (by decide)) (Nat.le_refl _) kV0 (of_decide_eq_true kE0) (of_decide_eq_true kD0) (of_decide_eq_true kL0)).mono ?_; rintro e w1 ⟨rfl, hb⟩
  have HB := Lib.hid (next HB.out hb)
  have HM0 := Lib.hid (HM0.out.below hb HM0.out.lt)
  have HM1 := Lib.hid (HM1.out.below hb HM1.out.lt)
  have HM2 := Lib.hid (HM2.out.below hb HM2.out.lt)
  have HM3 := Lib.hid (HM3.out.below hb HM3.out.lt)
  have HM4 := Lib.hid (HM4.out.below hb HM4.out.lt)
  have HM5 := Lib.hid (HM5.out.below hb HM5.out.lt)
  have HY := Lib.hid (HY.out.below hb HY.out.lt)
  clear hb
  obtain ⟨u0, u1, u2, u3, u4, u5, u6, u7, u8, u9, u10, u11, u12, u13, u14⟩ := card14 HM3.out
  have HM0 := Lib.hid (HM0.out.alloc (.cells #[.int .u8 2, .int .u8 2, .int .u8 4, .int .u8 87, .int .u8 105, .int .u8 115, .int .u8 112, .int .u8 0, .int .u8 1, .int .u8 0, .int .u8 0, .int .u8 1, .int .u8 0, .int .u8 1, .int .u8 2, .int .u8 2, .int .u8 0, .int .u8 1, .int .u8 1, .int .u8 1, .int .u8 2, .int .u8 0, .int .u8 1, .int .u8 0, .int .u8 0] 5))
  have HM1 := Lib.hid (HM1.out.alloc (.cells #[.int .u8 2, .int .u8 2, .int .u8 4, .int .u8 87, .int .u8 105, .int .u8 115, .int .u8 112, .int .u8 0, .int .u8 1, .int .u8 0, .int .u8 0, .int .u8 1, .int .u8 0, .int .u8 1, .int .u8 2, .int .u8 2, .int .u8 0, .int .u8 1, .int .u8 1, .int .u8 1, .int .u8 2, .int .u8 0, .int .u8 1, .int .u8 0, .int .u8 0] 5))
  have HM2 := Lib.hid (HM2.out.alloc (.cells #[.int .u8 2, .int .u8 2, .int .u8 4, .int .u8 87, .int .u8 105, .int .u8 115, .int .u8 112, .int .u8 0, .int .u8 1, .int .u8 0, .int .u8 0, .int .u8 1, .int .u8 0, .int .u8 1, .int .u8 2, .int .u8 2, .int .u8 0, .int .u8 1, .int .u8 1, .int .u8 1, .int .u8 2, .int .u8 0, .int .u8 1, .int .u8 0, .int .u8 0] 5))
  have HM3 := Lib.hid (HM3.out.alloc (.cells #[.int .u8 2, .int .u8 2, .int .u8 4, .int .u8 87, .int .u8 105, .int .u8 115, .int .u8 112, .int .u8 0, .int .u8 1, .int .u8 0, .int .u8 0, .int .u8 1, .int .u8 0, .int .u8 1, .int .u8 2, .int .u8 2, .int .u8 0, .int .u8 1, .int .u8 1, .int .u8 1, .int .u8 2, .int .u8 0, .int .u8 1, .int .u8 0, .int .u8 0] 5))
  have HM4 := Lib.hid (HM4.out.alloc (.cells #[.int .u8 2, .int .u8 2, .int .u8 4, .int .u8 87, .int .u8 105, .int .u8 115, .int .u8 112, .int .u8 0, .int .u8 1, .int .u8 0, .int .u8 0, .int .u8 1, .int .u8 0, .int .u8 1, .int .u8 2, .int .u8 2, .int .u8 0, .int .u8 1, .int .u8 1, .int .u8 1, .int .u8 2, .int .u8 0, .int .u8 1, .int .u8 0, .int .u8 0] 5))
  have HM5 := Lib.hid (HM5.out.alloc (.cells #[.int .u8 2, .int .u8 2, .int .u8 4, .int .u8 87, .int .u8 105, .int .u8 115, .int .u8 112, .int .u8 0, .int .u8 1, .int .u8 0, .int .u8 0, .int .u8 1, .int .u8 0, .int .u8 1, .int .u8 2, .int .u8 2, .int .u8 0, .int .u8 1, .int .u8 1, .int .u8 1, .int .u8 2, .int .u8 0, .int .u8 1, .int .u8 0, .int .u8 0] 5))
  have HY := Lib.hid (HY.out.alloc (.cells #[.int .u8 2, .int .u8 2, .int .u8 4, .int .u8 87, .int .u8 105, .int .u8 115, .int .u8 112, .int .u8 0, .int .u8 1, .int .u8 0, .int .u8 0, .int .u8 1, .int .u8 0, .int .u8 1, .int .u8 2, .int .u8 2, .int .u8 0, .int .u8 1, .int .u8 1, .int .u8 1, .int .u8 2, .int .u8 0, .int .u8 1, .int .u8 0, .int .u8 0] 5))
  have HZ := Lib.hid (show has (w1.alloc (.cells #[.int .u8 2, .int .u8 2, .int .u8 4, .int .u8 87, .int .u8 105, .int .u8 115, .int .u8 112, .int .u8 0, .int .u8 1, .int .u8 0, .int .u8 0, .int .u8 1, .int .u8 0, .int .u8 1, .int .u8 2, .int .u8 2, .int .u8 0, .int .u8 1, .int .u8 1, .int .u8 1, .int .u8 2, .int .u8 0, .int .u8 1, .int .u8 0, .int .u8 0] 5)) (w1.heap.size) 5 [.int .u8 2, .int .u8 2, .int .u8 4, .int .u8 87, .int .u8 105, .int .u8 115, .int .u8 112, .int .u8 0, .int .u8 1, .int .u8 0, .int .u8 0, .int .u8 1, .int .u8 0, .int .u8 1, .int .u8 2, .int .u8 2, .int .u8 0, .int .u8 1, .int .u8 1, .int .u8 1, .int .u8 2, .int .u8 0, .int .u8 1, .int .u8 0, .int .u8 0] from new1 (by first | rfl | simp) 5 [.int .u8 2, .int .u8 2, .int .u8 4, .int .u8 87, .int .u8 105, .int .u8 115, .int .u8 112, .int .u8 0, .int .u8 1, .int .u8 0, .int .u8 0, .int .u8 1, .int .u8 0, .int .u8 1, .int .u8 2, .int .u8 2, .int .u8 0, .int .u8 1, .int .u8 1, .int .u8 1, .int .u8 2, .int .u8 0, .int .u8 1, .int .u8 0, .int .u8 0])
  have HB := Lib.hid (HB.out.alloc HB.out.size (.cells #[.int .u8 2, .int .u8 2, .int .u8 4, .int .u8 87, .int .u8 105, .int .u8 115, .int .u8 112, .int .u8 0, .int .u8 1, .int .u8 0, .int .u8 0, .int .u8 1, .int .u8 0, .int .u8 1, .int .u8 2, .int .u8 2, .int .u8 0, .int .u8 1, .int .u8 1, .int .u8 1, .int .u8 2, .int .u8 0, .int .u8 1, .int .u8 0, .int .u8 0] 5))
  go_wp2_with fail
  have HE1 := efs_at [⟨2, 0, 1, 0, 0⟩] HM1.out wfD (by decide)
  refine (shows_any kWisp none 0 0 (some ⟨w.heap.size + 1 + 1, 0, none⟩) 1 1 _ 25 25 bWisp lWisp _ (HG.out.below HB.out) ⟨EfsAt.nil _ _, trs_one _ HM2.out HE1 (by unfold i64ok; decide)⟩ (Nat.le_refl _) (bs_at bWisp HZ.out (by decide)) (Nat.le_refl _) kV1 (of_decide_eq_true kE1) (of_decide_eq_true kD1) (of_decide_eq_true kL1)).mono ?_; rintro e w2 ⟨rfl, hb⟩
  clear u0 u1 u2 u3 u4 u5 u6 u7 u8 u9 u10 u11 u12 u13 u14 HE1
  clear HZ
  have HB := Lib.hid (next HB.out hb)
  have HM0 := Lib.hid (HM0.out.below hb HM0.out.lt)
  have HM1 := Lib.hid (HM1.out.below hb HM1.out.lt)
  have HM2 := Lib.hid (HM2.out.below hb HM2.out.lt)
  have HM3 := Lib.hid (HM3.out.below hb HM3.out.lt)
  have HM4 := Lib.hid (HM4.out.below hb HM4.out.lt)
  have HM5 := Lib.hid (HM5.out.below hb HM5.out.lt)
  have HY := Lib.hid (HY.out.below hb HY.out.lt)
  clear hb
  obtain ⟨u0, u1, u2, u3, u4, u5, u6, u7, u8, u9, u10, u11, u12, u13, u14⟩ := card14 HM5.out
  have HM0 := Lib.hid (HM0.out.alloc (.cells #[.int .u8 4, .int .u8 1, .int .u8 4, .int .u8 74, .int .u8 111, .int .u8 108, .int .u8 116, .int .u8 1, .int .u8 0, .int .u8 0, .int .u8 0, .int .u8 0, .int .u8 0, .int .u8 0, .int .u8 0, .int .u8 0, .int .u8 1, .int .u8 1, .int .u8 5, .int .u8 3, .int .u8 0, .int .u8 0, .int .u8 0] 5))
  have HM1 := Lib.hid (HM1.out.alloc (.cells #[.int .u8 4, .int .u8 1, .int .u8 4, .int .u8 74, .int .u8 111, .int .u8 108, .int .u8 116, .int .u8 1, .int .u8 0, .int .u8 0, .int .u8 0, .int .u8 0, .int .u8 0, .int .u8 0, .int .u8 0, .int .u8 0, .int .u8 1, .int .u8 1, .int .u8 5, .int .u8 3, .int .u8 0, .int .u8 0, .int .u8 0] 5))
  have HM2 := Lib.hid (HM2.out.alloc (.cells #[.int .u8 4, .int .u8 1, .int .u8 4, .int .u8 74, .int .u8 111, .int .u8 108, .int .u8 116, .int .u8 1, .int .u8 0, .int .u8 0, .int .u8 0, .int .u8 0, .int .u8 0, .int .u8 0, .int .u8 0, .int .u8 0, .int .u8 1, .int .u8 1, .int .u8 5, .int .u8 3, .int .u8 0, .int .u8 0, .int .u8 0] 5))
  have HM3 := Lib.hid (HM3.out.alloc (.cells #[.int .u8 4, .int .u8 1, .int .u8 4, .int .u8 74, .int .u8 111, .int .u8 108, .int .u8 116, .int .u8 1, .int .u8 0, .int .u8 0, .int .u8 0, .int .u8 0, .int .u8 0, .int .u8 0, .int .u8 0, .int .u8 0, .int .u8 1, .int .u8 1, .int .u8 5, .int .u8 3, .int .u8 0, .int .u8 0, .int .u8 0] 5))
  have HM4 := Lib.hid (HM4.out.alloc (.cells #[.int .u8 4, .int .u8 1, .int .u8 4, .int .u8 74, .int .u8 111, .int .u8 108, .int .u8 116, .int .u8 1, .int .u8 0, .int .u8 0, .int .u8 0, .int .u8 0, .int .u8 0, .int .u8 0, .int .u8 0, .int .u8 0, .int .u8 1, .int .u8 1, .int .u8 5, .int .u8 3, .int .u8 0, .int .u8 0, .int .u8 0] 5))
  have HM5 := Lib.hid (HM5.out.alloc (.cells #[.int .u8 4, .int .u8 1, .int .u8 4, .int .u8 74, .int .u8 111, .int .u8 108, .int .u8 116, .int .u8 1, .int .u8 0, .int .u8 0, .int .u8 0, .int .u8 0, .int .u8 0, .int .u8 0, .int .u8 0, .int .u8 0, .int .u8 1, .int .u8 1, .int .u8 5, .int .u8 3, .int .u8 0, .int .u8 0, .int .u8 0] 5))
  have HY := Lib.hid (HY.out.alloc (.cells #[.int .u8 4, .int .u8 1, .int .u8 4, .int .u8 74, .int .u8 111, .int .u8 108, .int .u8 116, .int .u8 1, .int .u8 0, .int .u8 0, .int .u8 0, .int .u8 0, .int .u8 0, .int .u8 0, .int .u8 0, .int .u8 0, .int .u8 1, .int .u8 1, .int .u8 5, .int .u8 3, .int .u8 0, .int .u8 0, .int .u8 0] 5))
  have HZ := Lib.hid (show has (w2.alloc (.cells #[.int .u8 4, .int .u8 1, .int .u8 4, .int .u8 74, .int .u8 111, .int .u8 108, .int .u8 116, .int .u8 1, .int .u8 0, .int .u8 0, .int .u8 0, .int .u8 0, .int .u8 0, .int .u8 0, .int .u8 0, .int .u8 0, .int .u8 1, .int .u8 1, .int .u8 5, .int .u8 3, .int .u8 0, .int .u8 0, .int .u8 0] 5)) (w2.heap.size) 5 [.int .u8 4, .int .u8 1, .int .u8 4, .int .u8 74, .int .u8 111, .int .u8 108, .int .u8 116, .int .u8 1, .int .u8 0, .int .u8 0, .int .u8 0, .int .u8 0, .int .u8 0, .int .u8 0, .int .u8 0, .int .u8 0, .int .u8 1, .int .u8 1, .int .u8 5, .int .u8 3, .int .u8 0, .int .u8 0, .int .u8 0] from new1 (by first | rfl | simp) 5 [.int .u8 4, .int .u8 1, .int .u8 4, .int .u8 74, .int .u8 111, .int .u8 108, .int .u8 116, .int .u8 1, .int .u8 0, .int .u8 0, .int .u8 0, .int .u8 0, .int .u8 0, .int .u8 0, .int .u8 0, .int .u8 0, .int .u8 1, .int .u8 1, .int .u8 5, .int .u8 3, .int .u8 0, .int .u8 0, .int .u8 0])
  have HB := Lib.hid (HB.out.alloc HB.out.size (.cells #[.int .u8 4, .int .u8 1, .int .u8 4, .int .u8 74, .int .u8 111, .int .u8 108, .int .u8 116, .int .u8 1, .int .u8 0, .int .u8 0, .int .u8 0, .int .u8 0, .int .u8 0, .int .u8 0, .int .u8 0, .int .u8 0, .int .u8 1, .int .u8 1, .int .u8 5, .int .u8 3, .int .u8 0, .int .u8 0, .int .u8 0] 5))
  go_wp2_with fail
  have HE1 := efs_at [⟨1, 5, 3, 0, 0⟩] HM4.out wfJ (by decide)
  refine (shows_any kJolt (some ⟨w.heap.size + 1 + 1 + 1 + 1, 0, none⟩) 1 1 none 0 0 _ 23 23 bJolt lJolt _ (HG.out.below HB.out) ⟨HE1, TrsAt.nil _ _⟩ (Nat.le_refl _) (bs_at bJolt HZ.out (by decide)) (Nat.le_refl _) kV2 (of_decide_eq_true kE2) (of_decide_eq_true kD2) (of_decide_eq_true kL2)).mono ?_; rintro e w3 ⟨rfl, hb⟩
  clear u0 u1 u2 u3 u4 u5 u6 u7 u8 u9 u10 u11 u12 u13 u14 HE1 HM0 HM1 HM2 HM3 HM4 HM5 HZ
  have HB := Lib.hid (next HB.out hb)
  have HY := Lib.hid (HY.out.below hb HY.out.lt)
  clear hb
  have HY := Lib.hid (HY.out.alloc (.cells #[.string ⟨#[]⟩, .int .i64 0, .int .i64 0, .int .i64 0, .int .i64 0, .int .i64 0, .int .i64 0, .int .i64 0, .int .i64 0, .int .i64 0, .int .i64 0, .slice none 0 0, .slice none 0 0, .int .i64 0] 32))
  have HN := Lib.hid (show has (w3.alloc (.cells #[.string ⟨#[]⟩, .int .i64 0, .int .i64 0, .int .i64 0, .int .i64 0, .int .i64 0, .int .i64 0, .int .i64 0, .int .i64 0, .int .i64 0, .int .i64 0, .slice none 0 0, .slice none 0 0, .int .i64 0] 32)) (w3.heap.size) 32 [.string ⟨#[]⟩, .int .i64 0, .int .i64 0, .int .i64 0, .int .i64 0, .int .i64 0, .int .i64 0, .int .i64 0, .int .i64 0, .int .i64 0, .int .i64 0, .slice none 0 0, .slice none 0 0, .int .i64 0] from new1 (by first | rfl | simp) 32 [.string ⟨#[]⟩, .int .i64 0, .int .i64 0, .int .i64 0, .int .i64 0, .int .i64 0, .int .i64 0, .int .i64 0, .int .i64 0, .int .i64 0, .int .i64 0, .slice none 0 0, .slice none 0 0, .int .i64 0])
  have HB := Lib.hid (HB.out.alloc HB.out.size (.cells #[.string ⟨#[]⟩, .int .i64 0, .int .i64 0, .int .i64 0, .int .i64 0, .int .i64 0, .int .i64 0, .int .i64 0, .int .i64 0, .int .i64 0, .int .i64 0, .slice none 0 0, .slice none 0 0, .int .i64 0] 32))
  obtain ⟨u0, u1, u2, u3, u4, u5, u6, u7, u8, u9, u10, u11, u12, u13, u14⟩ := card14 HN.out
  go_wp2_with fail
  have HD1 : ∀ W, Below (w3.alloc (.cells #[.string ⟨#[]⟩, .int .i64 0, .int .i64 0, .int .i64 0, .int .i64 0, .int .i64 0, .int .i64 0, .int .i64 0, .int .i64 0, .int .i64 0, .int .i64 0, .slice none 0 0, .slice none 0 0, .int .i64 0] 32)).heap.size (w3.alloc (.cells #[.string ⟨#[]⟩, .int .i64 0, .int .i64 0, .int .i64 0, .int .i64 0, .int .i64 0, .int .i64 0, .int .i64 0, .int .i64 0, .int .i64 0, .int .i64 0, .slice none 0 0, .slice none 0 0, .int .i64 0] 32)) W → Calls Tryz.prog 13 #[.slice (some ⟨w.heap.size + 1 + 1 + 1 + 1 + 1 + 1, 0, none⟩) 17 18, cdV zeroCd none 0 0 none 0 0, .int .i64 0, .int .i64 4] W fun v w' => v = .returned (.bool true) ∧ Below W.heap.size W w' := fun W hB => by
    have h := decodes_any zeroCd none 0 0 none 0 0 (some ⟨w.heap.size + 1 + 1 + 1 + 1 + 1 + 1, 0, none⟩) 17 18 (bWell.take 17) 0 4 W ⟨EfsAt.nil _ _, TrsAt.nil _ _⟩ (bs_take bWell 17 (HY.out.below hB HY.out.lt) (by decide) (by decide)) (by omega)
    rw [kN0] at h; exact h
  have HD2 : ∀ W g cap, BsAt W (some ⟨g, 0, none⟩) 15 [9, 1, 1, 65, 0, 0, 0, 0, 0, 0, 0, 0, 0, 0, 0] → 15 ≤ cap → Calls Tryz.prog 13 #[.slice (some ⟨g, 0, none⟩) 15 cap, cdV zeroCd none 0 0 none 0 0, .int .i64 0, .int .i64 6] W fun v w' => v = .returned (.bool true) ∧ Below W.heap.size W w' := fun W g cap hb hc => by
    have h := decodes_any zeroCd none 0 0 none 0 0 (some ⟨g, 0, none⟩) 15 cap _ 0 6 W ⟨EfsAt.nil _ _, TrsAt.nil _ _⟩ hb hc
    rw [kN1] at h; exact h
  have HD3 : ∀ W g, has W g 5 (bys [1, 1, 33]) → Calls Tryz.prog 13 #[.slice (some ⟨g, 0, none⟩) 3 3, cdV zeroCd none 0 0 none 0 0, .int .i64 0, .int .i64 6] W fun v w' => v = .returned (.bool true) ∧ Below W.heap.size W w' := fun W g hb => by
    have h := decodes_any zeroCd none 0 0 none 0 0 (some ⟨g, 0, none⟩) 3 3 [1, 1, 33] 0 6 W ⟨EfsAt.nil _ _, TrsAt.nil _ _⟩ (bs_at [1, 1, 33] hb (by decide)) (by omega)
    rw [kN2] at h; exact h
  obtain ⟨WN, hWN⟩ : ∃ WN, (w3.alloc (.cells #[.string ⟨#[]⟩, .int .i64 0, .int .i64 0, .int .i64 0, .int .i64 0, .int .i64 0, .int .i64 0, .int .i64 0, .int .i64 0, .int .i64 0, .int .i64 0, .slice none 0 0, .slice none 0 0, .int .i64 0] 32)) = WN := ⟨_, rfl⟩
  rw [hWN] at HD1 HB HN u0 u1 u2 u3 u4 u5 u6 u7 u8 u9 u10 u11 u12 u13 u14 ⊢
  have HS : w3.heap.size < WN.heap.size := HN.out.lt
  clear hWN HY
  have BN : Below WN.heap.size WN WN.drew := (Below.refl _ _).drew
  have hw17 : IntKind.i64.wrap 17 = 17 := by decide
  clear u0 u1 u2 u3 u4 u5 u6 u7 u8 u9 u10 u11 u12 u13 u14
  refine wp_region_held_drew (S := (fun w' => has w' w3.heap.size 32 [.string ⟨#[]⟩, .int .i64 0, .int .i64 0, .int .i64 0, .int .i64 0, .int .i64 0, .int .i64 0, .int .i64 0, .int .i64 0, .int .i64 0, .int .i64 0, .slice none 0 0, .slice none 0 0, .int .i64 0])) (by kernel_rfl) ?_ (fun hH0 => ?_)
  · exact HN.out
  refine wpAnyH_take (i := 0) (oi := _) (v := ?_) rfl (by kernel_rfl) (by kernel_rfl) (by kernel_rfl) (fun _ _ _ h => h) (Or.inl ⟨by rfl, ?_⟩) (by assumption) ?_
  rotate_left
  · intro w hSw; (try dsimp only at hSw); obtain ⟨u0, u1, u2, u3, u4, u5, u6, u7, u8, u9, u10, u11, u12, u13, u14⟩ := card14 hSw; first | (go_simp; done) | (go_simp; with_reducible rfl)
  try simp only [go_sem]
  refine wpAnyH_take (i := 1) (oi := _) (v := ?_) rfl (by kernel_rfl) (by kernel_rfl) (by kernel_rfl) (fun _ _ _ h => h) (Or.inl ⟨by rfl, ?_⟩) (by assumption) ?_
  rotate_left
  · intro w hSw; (try dsimp only at hSw); obtain ⟨u0, u1, u2, u3, u4, u5, u6, u7, u8, u9, u10, u11, u12, u13, u14⟩ := card14 hSw; first | (go_simp; done) | (go_simp; with_reducible rfl)
  try simp only [go_sem]
  refine wpAnyH_take (i := 2) (oi := _) (v := ?_) rfl (by kernel_rfl) (by kernel_rfl) (by kernel_rfl) (fun _ _ _ h => h) (Or.inl ⟨by rfl, ?_⟩) (by assumption) ?_
  rotate_left
  · intro w hSw; (try dsimp only at hSw); obtain ⟨u0, u1, u2, u3, u4, u5, u6, u7, u8, u9, u10, u11, u12, u13, u14⟩ := card14 hSw; first | (go_simp; done) | (go_simp; with_reducible rfl)
  try simp only [go_sem]
  refine wpAnyH_take (i := 3) (oi := _) (v := ?_) rfl (by kernel_rfl) (by kernel_rfl) (by kernel_rfl) (fun _ _ _ h => h) (Or.inl ⟨by rfl, ?_⟩) (by assumption) ?_
  rotate_left
  · intro w hSw; (try dsimp only at hSw); obtain ⟨u0, u1, u2, u3, u4, u5, u6, u7, u8, u9, u10, u11, u12, u13, u14⟩ := card14 hSw; first | (go_simp; done) | (go_simp; with_reducible rfl)
  try simp only [go_sem]
  refine wpAnyH_take (i := 4) (oi := _) (v := ?_) rfl (by kernel_rfl) (by kernel_rfl) (by kernel_rfl) (fun _ _ _ h => h) (Or.inl ⟨by rfl, ?_⟩) (by assumption) ?_
  rotate_left
  · intro w hSw; (try dsimp only at hSw); obtain ⟨u0, u1, u2, u3, u4, u5, u6, u7, u8, u9, u10, u11, u12, u13, u14⟩ := card14 hSw; first | (go_simp; done) | (go_simp; with_reducible rfl)
  try simp only [go_sem]
  refine wpAnyH_take (i := 5) (oi := _) (v := ?_) rfl (by kernel_rfl) (by kernel_rfl) (by kernel_rfl) (fun _ _ _ h => h) (Or.inl ⟨by rfl, ?_⟩) (by assumption) ?_
  rotate_left
  · intro w hSw; (try dsimp only at hSw); obtain ⟨u0, u1, u2, u3, u4, u5, u6, u7, u8, u9, u10, u11, u12, u13, u14⟩ := card14 hSw; first | (go_simp; done) | (go_simp; with_reducible rfl)
  try simp only [go_sem]
  refine wpAnyH_ready (rs := [6]) (by kernel_rfl) (by simp) ?_
  refine AllReadyH.cons (o := _) rfl (fun K hK => ?_) AllReadyH.nil
  go_simp; refine (HD1 _ BN).mono ?_; rintro e wa ⟨rfl, hba⟩; have Ba := next BN hba; clear hba; have Mz := Lib.hid (HN.out.below Ba HN.out.lt)
  refine hK.out _ _ ?_ (fun hH1 => ?_)
  · exact Mz.out
  clear hK K hH0
  try simp only [go_sem]
  refine wpAnyH_take (i := 7) (oi := _) (v := ?_) rfl (by kernel_rfl) (by kernel_rfl) (by kernel_rfl) (fun _ _ _ h => h) (Or.inl ⟨by rfl, ?_⟩) (by assumption) ?_
  rotate_left
  · intro w hSw; (try dsimp only at hSw); obtain ⟨u0, u1, u2, u3, u4, u5, u6, u7, u8, u9, u10, u11, u12, u13, u14⟩ := card14 hSw; first | (go_simp; done) | (go_simp; with_reducible rfl)
  try simp only [go_sem]
  refine wpAnyH_take (i := 8) (oi := _) (v := ?_) rfl (by kernel_rfl) (by kernel_rfl) (by kernel_rfl) (fun _ _ _ h => h) (Or.inl ⟨by rfl, ?_⟩) (by assumption) ?_
  rotate_left
  · intro w hSw; (try dsimp only at hSw); obtain ⟨u0, u1, u2, u3, u4, u5, u6, u7, u8, u9, u10, u11, u12, u13, u14⟩ := card14 hSw; first | (go_simp; done) | (go_simp; with_reducible rfl)
  try simp only [go_sem]
  refine wpAnyH_take (i := 11) (oi := _) (v := ?_) rfl (by kernel_rfl) (by kernel_rfl) (by kernel_rfl) (fun _ _ _ h => h) (Or.inl ⟨by rfl, ?_⟩) (by assumption) ?_
  rotate_left
  · intro w hSw; (try dsimp only at hSw); obtain ⟨u0, u1, u2, u3, u4, u5, u6, u7, u8, u9, u10, u11, u12, u13, u14⟩ := card14 hSw; first | (go_simp; done) | (go_simp; with_reducible rfl)
  try simp only [go_sem]
  refine wpAnyH_ready (rs := [9]) (by kernel_rfl) (by simp) ?_
  refine AllReadyH.cons (o := _) rfl (fun K hK => ?_) AllReadyH.nil
  go_simp
  refine hK.out _ _ ?_ (fun hH2 => ?_)
  · exact Mz.out.alloc _
  clear hK K hH1
  try simp only [go_sem]
  refine wpAnyH_ready (rs := [10]) (by kernel_rfl) (by simp) ?_
  refine AllReadyH.cons (o := _) rfl (fun K hK => ?_) AllReadyH.nil
  refine step_zeros _ (.tmp 46) (by rfl) _ (by rfl) (by rfl) (new1 (by first | rfl | simp) _ _) (wa.heap.size + 1) (by simp) ?_; intro cap w2 hbs hcap hgr; have Bb := below_none (Ba.alloc Ba.size _) hgr; clear hgr; have Mz := Lib.hid (HN.out.below Bb HN.out.lt)
  refine hK.out _ _ ?_ (fun hH3 => ?_)
  · exact Mz.out
  clear hK K hH2
  try simp only [go_sem]
  refine wpAnyH_ready (rs := [12]) (by kernel_rfl) (by simp) ?_
  refine AllReadyH.cons (o := _) rfl (fun K hK => ?_) AllReadyH.nil
  go_simp; refine (HD2 _ _ cap hbs hcap).mono ?_; rintro e wb ⟨rfl, hba⟩; have Bc := next Bb hba; clear hba hbs; have Mz := Lib.hid (HN.out.below Bc HN.out.lt)
  refine hK.out _ _ ?_ (fun hH4 => ?_)
  · exact Mz.out
  clear hK K hH3
  try simp only [go_sem]
  refine wpAnyH_take (i := 13) (oi := _) (v := ?_) rfl (by kernel_rfl) (by kernel_rfl) (by kernel_rfl) (fun _ _ _ h => h) (Or.inl ⟨by rfl, ?_⟩) (by assumption) ?_
  rotate_left
  · intro w hSw; (try dsimp only at hSw); obtain ⟨u0, u1, u2, u3, u4, u5, u6, u7, u8, u9, u10, u11, u12, u13, u14⟩ := card14 hSw; first | (go_simp; done) | (go_simp; with_reducible rfl)
  try simp only [go_sem]
  refine wpAnyH_take (i := 14) (oi := _) (v := ?_) rfl (by kernel_rfl) (by kernel_rfl) (by kernel_rfl) (fun _ _ _ h => h) (Or.inl ⟨by rfl, ?_⟩) (by assumption) ?_
  rotate_left
  · intro w hSw; (try dsimp only at hSw); obtain ⟨u0, u1, u2, u3, u4, u5, u6, u7, u8, u9, u10, u11, u12, u13, u14⟩ := card14 hSw; first | (go_simp; done) | (go_simp; with_reducible rfl)
  try simp only [go_sem]
  refine wpAnyH_take (i := 15) (oi := _) (v := ?_) rfl (by kernel_rfl) (by kernel_rfl) (by kernel_rfl) (fun _ _ _ h => h) (Or.inl ⟨by rfl, ?_⟩) (by assumption) ?_
  rotate_left
  · intro w hSw; (try dsimp only at hSw); obtain ⟨u0, u1, u2, u3, u4, u5, u6, u7, u8, u9, u10, u11, u12, u13, u14⟩ := card14 hSw; first | (go_simp; done) | (go_simp; with_reducible rfl)
  try simp only [go_sem]
  refine wpAnyH_take (i := 17) (oi := _) (v := ?_) rfl (by kernel_rfl) (by kernel_rfl) (by kernel_rfl) (fun _ _ _ h => h) (Or.inl ⟨by rfl, ?_⟩) (by assumption) ?_
  rotate_left
  · intro w hSw; (try dsimp only at hSw); obtain ⟨u0, u1, u2, u3, u4, u5, u6, u7, u8, u9, u10, u11, u12, u13, u14⟩ := card14 hSw; first | (go_simp; done) | (go_simp; with_reducible rfl)
  try simp only [go_sem]
  refine wpAnyH_ready (rs := [16]) (by kernel_rfl) (by simp) ?_
  refine AllReadyH.cons (o := _) rfl (fun K hK => ?_) AllReadyH.nil
  go_simp
  refine hK.out _ _ ?_ (fun hH5 => ?_)
  · exact Mz.out.alloc _
  clear hK K hH4
  try simp only [go_sem]
  refine wpAnyH_ready (rs := [18]) (by kernel_rfl) (by simp) ?_
  refine AllReadyH.cons (o := _) rfl (fun K hK => ?_) AllReadyH.nil
  go_simp; refine (HD3 _ _ (new1 (by first | rfl | simp) _ _)).mono ?_; rintro e wc ⟨rfl, hba⟩; have Bd := next (Bc.alloc Bc.size _) hba; clear hba; have Mz := Lib.hid (HN.out.below Bd HN.out.lt)
  refine hK.out _ _ ?_ (fun hH6 => ?_)
  · exact Mz.out
  clear hK K hH5
  try simp only [go_sem]
  refine wpAnyH_take (i := 19) (oi := _) (v := ?_) rfl (by kernel_rfl) (by kernel_rfl) (by kernel_rfl) (fun _ _ _ h => h) (Or.inl ⟨by rfl, ?_⟩) (by assumption) ?_
  rotate_left
  · intro w hSw; (try dsimp only at hSw); obtain ⟨u0, u1, u2, u3, u4, u5, u6, u7, u8, u9, u10, u11, u12, u13, u14⟩ := card14 hSw; first | (go_simp; done) | (go_simp; with_reducible rfl)
  try simp only [go_sem]
  refine wpAnyH_take (i := 20) (oi := _) (v := ?_) rfl (by kernel_rfl) (by kernel_rfl) (by kernel_rfl) (fun _ _ _ h => h) (Or.inl ⟨by rfl, ?_⟩) (by assumption) ?_
  rotate_left
  · intro w hSw; (try dsimp only at hSw); obtain ⟨u0, u1, u2, u3, u4, u5, u6, u7, u8, u9, u10, u11, u12, u13, u14⟩ := card14 hSw; first | (go_simp; done) | (go_simp; with_reducible rfl)
  try simp only [go_sem]
  refine wpAnyH_done (by kernel_rfl) ?_ _
  have HF := Lib.hid (HB.out.trans (Bd.mono HB.out.size))
  have h1 : (bits .and .i64 10 8 == 8) = true := by decide
  have h2 : (bits .and .i64 2 10 == 10) = false := by decide
  have h3 : (bits .and .i64 2 0 == 0) = true := by decide
  have k1 := Has_any 10 8 wc
  have k2 := Has_any 2 10 wc
  have k3 := Has_any 2 0 wc
  rw [h1] at k1
  rw [h2] at k2
  rw [h3] at k3
  clear h1 h2 h3 Bd Bc Bb Ba BN HB Mz HN HD1 HD2 HD3 hH6
  go_wp2_with fail
  refine k1.mono ?_; rintro e wd ⟨rfl, rfl⟩
  go_wp2_with fail
  refine k2.mono ?_; rintro e wd ⟨rfl, rfl⟩
  go_wp2_with fail
  refine k3.mono ?_; rintro e wd ⟨rfl, rfl⟩
  go_wp2_with fail
  go_ret
  exact ⟨rfl, HF.out⟩
end Go.Proofs.YtlhnnjllbcglcaaGreatDoor.caFn

/- Which strings the reference takes for names. -/
namespace Go.Proofs.YtlhnnjllbcglcaaGreatDoor.caFn
open Go.ChangeShapes Go.WideShapes Go.ChangeAt Go.RowKit drMem efFn
set_option linter.unusedVariables false

set_option maxRecDepth 100000 in
set_option maxHeartbeats 2000000 in
theorem rNamed_any (s : ByteArray) (w : World) :
    Calls Tryz.prog 16 #[.string s] w fun e w' => e = .returned (.bool (nameB s.data.toList)) ∧ w = w' := by
  by_cases h1 : 1 ≤ s.size
  · by_cases h2 : s.size ≤ 32
    · by_cases c0 : ((s[0].toNat : Int) == 32) = true
      · rw [nameB_a s h1 c0]
        go_enter Tryz.func16, Tryz.ntmps16
        go_wp2
        go_ret
        exact ⟨rfl, rfl⟩
      · rw [Bool.not_eq_true] at c0
        by_cases c1 : ((s[s.size - 1].toNat : Int) == 32) = true
        · rw [nameB_b s h1 c1]
          have hz : (s.size : Int) - 1 = ((s.size - 1 : Nat) : Int) := by omega
          go_enter Tryz.func16, Tryz.ntmps16
          go_wp2
          go_ret
          exact ⟨rfl, rfl⟩
        · rw [Bool.not_eq_true] at c1
          have HE := Lib.hid (nameB_eq s h1 h2 c0 c1)
          have hz : (s.size : Int) - 1 = ((s.size - 1 : Nat) : Int) := by omega
          have HM := Lib.hid (fun k (hk : k < s.size) => @all_at s.data.toList chB k (by rw [list_len]; exact hk))
          have HN := Lib.hid (fun k (hk : k < s.size) => @all_no s.data.toList chB k (by rw [list_len]; exact hk))
          go_enter Tryz.func16, Tryz.ntmps16
          go_wp2
          go_loopw [3] (fun i wr => ∃ k : Nat, k ≤ s.size ∧ i = .int .i64 k ∧ wr = w ∧ Hid ((s.data.toList.take k).all chB = true)) (fun i _ => s.size - (intOf i).toNat)
          case atStart => exact ⟨0, Nat.zero_le _, rfl, rfl, Lib.hid (by simp)⟩
          case round =>
            obtain ⟨k, hk, rfl, rfl, HT⟩ := hrel
            by_cases hlt : k < s.size
            · have HA := Lib.hid (HM.out k hlt)
              have HB := Lib.hid (HN.out k hlt)
              rw [list_at s k hlt] at HA HB
              by_cases g0 : s[k].toNat < 32
              · have hf : ((s[k].toNat : Int) < 32) := by omega
                have hr : nameB s.data.toList = false := by rw [HE.out, HB.out (by unfold chB; rw [decide_eq_false (by omega)]; rfl)]
                go_wp2
                go_ret
                exact ⟨ret_bool hr.symm, rfl⟩
              · by_cases g1 : 126 < s[k].toNat
                · have hr : nameB s.data.toList = false := by rw [HE.out, HB.out (by unfold chB; rw [decide_eq_false (p := s[k].toNat ≤ 126) (by omega)]; simp)]
                  go_wp2
                  go_ret
                  exact ⟨ret_bool hr.symm, rfl⟩
                · have hr := HA.out
                  rw [HT.out, show chB s[k] = true by unfold chB; rw [decide_eq_true (by omega), decide_eq_true (by omega)]; rfl] at hr
                  have HR := Lib.hid hr
                  clear hr
                  go_wp2
                  exact ⟨⟨k + 1, by omega, by go_num, trivial, HR⟩, by simp [intOf]; omega⟩
            · obtain rfl : k = s.size := by omega
              have hr : nameB s.data.toList = true := by
                rw [HE.out, ← HT.out, List.take_of_length_le (by rw [list_len]; exact Nat.le_refl _)]
              go_wp2
              go_ret
              exact ⟨ret_bool hr.symm, rfl⟩
    · rw [nameB_32 s h2]
      go_enter Tryz.func16, Tryz.ntmps16
      go_wp2
      go_ret
      exact ⟨rfl, rfl⟩
  · rw [nameB_0 s h1]
    go_enter Tryz.func16, Tryz.ntmps16
    go_wp2
    go_ret
    exact ⟨rfl, rfl⟩
end Go.Proofs.YtlhnnjllbcglcaaGreatDoor.caFn

/- Which cards the law looks at. -/
namespace Go.Proofs.YtlhnnjllbcglcaaGreatDoor.caFn
open Go.ChangeShapes Go.WideShapes Go.ChangeAt Go.RowKit drMem efFn
set_option linter.unusedVariables false

structure Lt (s : ByteArray) (en tn : Nat) (l : List Tr) : Prop where
  s : s.size ≤ 100
  e : en ≤ 10
  t : tn ≤ 5
  l : ∀ k, k < tn → (l.getD k default).e.length ≤ 10
def ltPost (w : World) (s : ByteArray) (en tn : Nat) (l : List Tr) : Ending → World → Prop := fun e w' => ∃ b : Bool, e = .returned (.bool b) ∧ (b = true → Lt s en tn l) ∧ Below w.heap.size w w'
set_option maxRecDepth 100000 in
set_option maxHeartbeats 8000000 in
theorem light_any (s : ByteArray) (kd a b c d x m p t k : Int) (es : Option Addr) (en ec : Nat) (ts : Option Addr) (tn tc : Nat) (r : Int) (l : List Tr) (w : World) (h : TrsAt w ts tn l) (he : en ≤ 9223372036854775807) :
    Calls Tryz.prog 5 #[cV s kd a b c d x m p t k es en ec ts tn tc r] w (ltPost w s en tn l) := by
  by_cases h1 : s.size ≤ 100
  · by_cases h2 : en ≤ 10
    · by_cases h3 : tn ≤ 5
      · rcases Nat.eq_zero_or_pos tn with h0 | h0
        · subst h0
          go_enter Tryz.func5, Tryz.ntmps5
          go_wp2
          refine wp_loop_rounds 1 ?_
          rw [rounds_succ]
          go_wp2
          go_ret
          exact ⟨true, rfl, fun _ => ⟨h1, h2, by omega, fun k hk => absurd hk (Nat.not_lt_zero _)⟩, ((Below.refl w.heap.size w).alloc (Nat.le_refl _) _)⟩
        · obtain ⟨b1, o1, rfl, hb1, hc1⟩ := h.c h0
          have C1 : Hid (∀ k, k < tn → ∃ s m c, TrAt w b1 (o1 + k * 2) (l.getD k default) s m c) := Lib.hid fun k hk => hc1 k _ (getT (by rw [h.n]; exact hk))
          have HM := Lib.hid h.m
          clear hc1 h
          go_enter Tryz.func5, Tryz.ntmps5
          go_wp2
          go_loopw [24] (fun i wr => ∃ q : Nat, q ≤ tn ∧ i = .int .i64 q ∧ Hid ((∀ k, k < q → (l.getD k default).e.length ≤ 10) ∧ Below w.heap.size w wr)) (fun i _ => tn - (intOf i).toNat)
          case atStart => exact ⟨0, Nat.zero_le _, rfl, Lib.hid ⟨fun k hk => absurd hk (Nat.not_lt_zero _), ((Below.refl w.heap.size w).alloc (Nat.le_refl _) _)⟩⟩
          case round =>
            obtain ⟨q, hq, rfl, HT⟩ := hrel
            by_cases hlt : q < tn
            · obtain ⟨z1, y1, v1, hat1⟩ := C1.out q hlt
              obtain ⟨d0, d1, de⟩ := hat1.below HT.out.2 hb1 (Nat.le_refl _)
              have he1 := de.n
              have he2 := de.m
              have HX := Lib.hid (fun (h : (l.getD q default).e.length ≤ 10) (k : Nat) (hk : k < q + 1) => (Nat.lt_succ_iff_lt_or_eq.mp hk).elim (HT.out.1 k) (fun e => by rw [e]; exact h))
              clear hat1 de
              generalize hg : l.getD q default = xx at *
              obtain ⟨xw, xe⟩ := xx
              dsimp only at d0 d1 he1 HX
              by_cases h10 : y1 ≤ 10
              · have hx2 := HX.out (by rw [he1]; exact h10)
                have HX2 := Lib.hid hx2
                clear hx2 HX he1 hg
                go_wp2_with fail
                exact ⟨⟨q + 1, by omega, by go_num, Lib.hid ⟨HX2.out, HT.out.2.alloc HT.out.2.size _⟩⟩, by simp [intOf]; omega⟩
              · clear HX he1 hg
                go_wp2_with fail
                go_ret
                exact ⟨false, rfl, nofun, HT.out.2.alloc HT.out.2.size _⟩
            · obtain rfl : q = tn := by omega
              go_wp2_with fail
              go_ret
              exact ⟨true, rfl, fun _ => ⟨h1, h2, h3, HT.out.1⟩, HT.out.2⟩
      · go_enter Tryz.func5, Tryz.ntmps5
        go_wp2
        go_ret
        exact ⟨false, rfl, nofun, ((Below.refl _ _).alloc (Nat.le_refl _) _)⟩
    · go_enter Tryz.func5, Tryz.ntmps5
      go_wp2
      go_ret
      exact ⟨false, rfl, nofun, ((Below.refl _ _).alloc (Nat.le_refl _) _)⟩
  · go_enter Tryz.func5, Tryz.ntmps5
    go_wp2
    go_ret
    exact ⟨false, rfl, nofun, ((Below.refl _ _).alloc (Nat.le_refl _) _)⟩
end Go.Proofs.YtlhnnjllbcglcaaGreatDoor.caFn

/- What a law is held to. -/
namespace Go.Proofs.YtlhnnjllbcglcaaGreatDoor.caFn
open Go.ChangeShapes Go.WideShapes Go.ChangeAt Go.RowKit drMem efFn
set_option linter.unusedVariables false

def lawPost (w : World) (e : Ending) (w' : World) : Prop := e = .returned (.bool true) ∧ Below w.heap.size w w'
end Go.Proofs.YtlhnnjllbcglcaaGreatDoor.caFn

/- What the row's condition on the variables gives a walk; how cards and bytes come in. -/
namespace Go.Proofs.YtlhnnjllbcglcaaGreatDoor.caFn
open Go.ChangeShapes Go.WideShapes Go.ChangeAt Go.RowKit drMem efFn
set_option linter.unusedVariables false

abbrev laidL : List (String × DataW Unit) := [("math/bits.deBruijn32tab", Rows.laid_math_bits_deBruijn32tab), ("math/bits.deBruijn64tab", Rows.laid_math_bits_deBruijn64tab), ("internal/strconv.uint64pow10", Rows.laid_internal_strconv_uint64pow10), ("zeitnot/effect.kindWords", Rows.laid_zeitnot_effect_kindWords), ("zeitnot/card.keywordWords", Rows.laid_zeitnot_card_keywordWords), ("zeitnot/card.whenWords", Rows.laid_zeitnot_card_whenWords)]
theorem cStr : Tryz.prog.cellsOf 9 = 1 := by kernel_rfl
theorem var_row {P : Program} {w : World} {n : String} {g : Nat} {cs : Array Value} (hg : P.globalNamed n = some g) (h : w.var? P n = some cs) : ∃ t f, w.heap[g]? = some (.cells cs t f) := by
  simp only [World.var?, hg, Option.bind_some] at h
  split at h
  · rename_i cs' t f e
    cases h
    exact ⟨t, f, e⟩
  · cases h
theorem list7 {α : Type} (l : List α) (h : l.length = 7) : ∃ a b c d e f g, l = [a, b, c, d, e, f, g] := by
  match l, h with
  | [a, b, c, d, e, f, g], _ => exact ⟨a, b, c, d, e, f, g, rfl⟩
theorem list4 {α : Type} (l : List α) (h : l.length = 4) : ∃ a b c d, l = [a, b, c, d] := by
  match l, h with
  | [a, b, c, d], _ => exact ⟨a, b, c, d, rfl⟩
theorem list14 {α : Type} (l : List α) (h : (⟨l⟩ : Array α).size = 14) : ∃ a0 a1 a2 a3 a4 a5 a6 a7 a8 a9 aa ab ac ad, l = [a0, a1, a2, a3, a4, a5, a6, a7, a8, a9, aa, ab, ac, ad] := by
  match l, h with
  | [a0, a1, a2, a3, a4, a5, a6, a7, a8, a9, aa, ab, ac, ad], _ => exact ⟨a0, a1, a2, a3, a4, a5, a6, a7, a8, a9, aa, ab, ac, ad, rfl⟩
theorem gKW : Tryz.prog.globalNamed "zeitnot/effect.kindWords" = some 2 := by kernel_rfl
theorem tKW : (Tryz.prog.globals[2]?).map (·.type) = some 118 := by kernel_rfl
theorem cKW : Tryz.prog.cellsOf 118 = 7 := by kernel_rfl
theorem datumKW : (Rows.laid_zeitnot_effect_kindWords : DataW Unit) = .agg ((List.range 7).map fun (i : Nat) => .lit (.string (kwL ((i : Nat) : Int)))) := by kernel_rfl
theorem kw_of_laid {W : World} {r : List (String × DataW Unit)} (h : laidMet Tryz.prog (("zeitnot/effect.kindWords", Rows.laid_zeitnot_effect_kindWords) :: r) W) :
    ∃ t f, W.heap[2]? = some (.cells #[.string (bs (kwL 0)), .string (bs (kwL 1)), .string (bs (kwL 2)), .string (bs (kwL 3)), .string (bs (kwL 4)), .string (bs (kwL 5)), .string (bs (kwL 6))] t f) := by
  obtain ⟨ps, ⟨g0, t0, cs0, f0, p0, q0, hg0, ht0, hv0, hd0, _, _⟩, _, _⟩ := h
  obtain rfl := Option.some.inj (gKW.symm.trans hg0)
  obtain rfl := Option.some.inj (tKW.symm.trans ht0)
  obtain ⟨t, f, hrow⟩ := var_row hg0 hv0
  refine ⟨t, f, hrow.trans ?_⟩
  obtain ⟨xs, m1, rfl, hx1, hlen, hn3, hel⟩ := DataW.trod_array Tryz.underlying118 hd0
  rw [cKW] at hlen
  have h7 := (Prod.mk.inj hx1).1
  rw [datumKW] at h7
  have h8 := (DataW.agg.inj h7).symm
  have key : ∀ j, j < 7 → cs0.toList[j]? = some (.string (bs (kwL ((j : Nat) : Int)))) := fun j hj => by
    have h0 := hel j hj
    rw [cStr, Nat.mul_one, List.getElem?_eq_getElem (by omega)] at h0
    obtain ⟨s, e1, e2, _⟩ := DataW.trod_string Tryz.underlying9 h0
    have e3 : cs0.toList[j]? = some (.string s) := by
      have h6 : ((cs0.toList.drop j).take 1)[0]? = some (Value.string s) := by rw [e1]; rfl
      simpa using h6
    have h9 := congrArg (fun l => l[j]?) h8
    simp only [List.getElem?_map, List.getElem?_eq_getElem (show j < xs.length by omega), Option.map_some, e2, List.getElem?_range hj] at h9
    have h10 : s.data.toList = kwL ((j : Nat) : Int) := by simpa using h9
    rw [e3, ← h10]
    rfl
  obtain ⟨l⟩ := cs0
  obtain ⟨y0, y1, y2, y3, y4, y5, y6, rfl⟩ := list7 l hlen
  have k0 := key 0 (by omega); have k1 := key 1 (by omega); have k2 := key 2 (by omega); have k3 := key 3 (by omega); have k4 := key 4 (by omega); have k5 := key 5 (by omega); have k6 := key 6 (by omega)
  simp at k0 k1 k2 k3 k4 k5 k6
  subst k0 k1 k2 k3 k4 k5 k6
  rfl
theorem gKC : Tryz.prog.globalNamed "zeitnot/card.keywordWords" = some 0 := by kernel_rfl
theorem tKC : (Tryz.prog.globals[0]?).map (·.type) = some 74 := by kernel_rfl
theorem cKC : Tryz.prog.cellsOf 74 = 4 := by kernel_rfl
theorem datumKC : (Rows.laid_zeitnot_card_keywordWords : DataW Unit) = .agg ((List.range 4).map fun (i : Nat) => .lit (.string (kcL i))) := by kernel_rfl
theorem kc_of_laid {W : World} {r : List (String × DataW Unit)} (h : laidMet Tryz.prog (("zeitnot/card.keywordWords", Rows.laid_zeitnot_card_keywordWords) :: r) W) :
    ∃ t f, W.heap[0]? = some (.cells #[.string (bs (kcL 0)), .string (bs (kcL 1)), .string (bs (kcL 2)), .string (bs (kcL 3))] t f) := by
  obtain ⟨ps, ⟨g0, t0, cs0, f0, p0, q0, hg0, ht0, hv0, hd0, _, _⟩, _, _⟩ := h
  obtain rfl := Option.some.inj (gKC.symm.trans hg0)
  obtain rfl := Option.some.inj (tKC.symm.trans ht0)
  obtain ⟨t, f, hrow⟩ := var_row hg0 hv0
  refine ⟨t, f, hrow.trans ?_⟩
  obtain ⟨xs, m1, rfl, hx1, hlen, hn3, hel⟩ := DataW.trod_array Tryz.underlying74 hd0
  rw [cKC] at hlen
  have h7 := (Prod.mk.inj hx1).1
  rw [datumKC] at h7
  have h8 := (DataW.agg.inj h7).symm
  have key : ∀ j, j < 4 → cs0.toList[j]? = some (.string (bs (kcL j))) := fun j hj => by
    have h0 := hel j hj
    rw [cStr, Nat.mul_one, List.getElem?_eq_getElem (by omega)] at h0
    obtain ⟨s, e1, e2, _⟩ := DataW.trod_string Tryz.underlying9 h0
    have e3 : cs0.toList[j]? = some (.string s) := by
      have h6 : ((cs0.toList.drop j).take 1)[0]? = some (Value.string s) := by rw [e1]; rfl
      simpa using h6
    have h9 := congrArg (fun l => l[j]?) h8
    simp only [List.getElem?_map, List.getElem?_eq_getElem (show j < xs.length by omega), Option.map_some, e2, List.getElem?_range hj] at h9
    have h10 : s.data.toList = kcL j := by simpa using h9
    rw [e3, ← h10]
    rfl
  obtain ⟨l⟩ := cs0
  obtain ⟨y0, y1, y2, y3, rfl⟩ := list4 l hlen
  have k0 := key 0 (by omega); have k1 := key 1 (by omega); have k2 := key 2 (by omega); have k3 := key 3 (by omega)
  simp at k0 k1 k2 k3
  subst k0 k1 k2 k3
  rfl
theorem gWH : Tryz.prog.globalNamed "zeitnot/card.whenWords" = some 1 := by kernel_rfl
theorem tWH : (Tryz.prog.globals[1]?).map (·.type) = some 74 := by kernel_rfl
theorem cWH : Tryz.prog.cellsOf 74 = 4 := by kernel_rfl
theorem datumWH : (Rows.laid_zeitnot_card_whenWords : DataW Unit) = .agg ((List.range 4).map fun (i : Nat) => .lit (.string (whL i))) := by kernel_rfl
theorem wh_of_laid {W : World} {r : List (String × DataW Unit)} (h : laidMet Tryz.prog (("zeitnot/card.whenWords", Rows.laid_zeitnot_card_whenWords) :: r) W) :
    ∃ t f, W.heap[1]? = some (.cells #[.string (bs (whL 0)), .string (bs (whL 1)), .string (bs (whL 2)), .string (bs (whL 3))] t f) := by
  obtain ⟨ps, ⟨g0, t0, cs0, f0, p0, q0, hg0, ht0, hv0, hd0, _, _⟩, _, _⟩ := h
  obtain rfl := Option.some.inj (gWH.symm.trans hg0)
  obtain rfl := Option.some.inj (tWH.symm.trans ht0)
  obtain ⟨t, f, hrow⟩ := var_row hg0 hv0
  refine ⟨t, f, hrow.trans ?_⟩
  obtain ⟨xs, m1, rfl, hx1, hlen, hn3, hel⟩ := DataW.trod_array Tryz.underlying74 hd0
  rw [cWH] at hlen
  have h7 := (Prod.mk.inj hx1).1
  rw [datumWH] at h7
  have h8 := (DataW.agg.inj h7).symm
  have key : ∀ j, j < 4 → cs0.toList[j]? = some (.string (bs (whL j))) := fun j hj => by
    have h0 := hel j hj
    rw [cStr, Nat.mul_one, List.getElem?_eq_getElem (by omega)] at h0
    obtain ⟨s, e1, e2, _⟩ := DataW.trod_string Tryz.underlying9 h0
    have e3 : cs0.toList[j]? = some (.string s) := by
      have h6 : ((cs0.toList.drop j).take 1)[0]? = some (Value.string s) := by rw [e1]; rfl
      simpa using h6
    have h9 := congrArg (fun l => l[j]?) h8
    simp only [List.getElem?_map, List.getElem?_eq_getElem (show j < xs.length by omega), Option.map_some, e2, List.getElem?_range hj] at h9
    have h10 : s.data.toList = whL j := by simpa using h9
    rw [e3, ← h10]
    rfl
  obtain ⟨l⟩ := cs0
  obtain ⟨y0, y1, y2, y3, rfl⟩ := list4 l hlen
  have k0 := key 0 (by omega); have k1 := key 1 (by omega); have k2 := key 2 (by omega); have k3 := key 3 (by omega)
  simp at k0 k1 k2 k3
  subst k0 k1 k2 k3
  rfl
theorem G_of_laid {W : World} (h : laidMetH Tryz.prog laidL W) (hs : W.ShapedOpen Tryz.prog) : G W := by
  rw [MakeChecks.laidMetH_plain _ _ _ (by kernel_rfl)] at h
  exact ⟨kw_of_laid h.tail.tail.tail, kc_of_laid h.tail.tail.tail.tail, wh_of_laid h.tail.tail.tail.tail.tail⟩

/- the row's wrap with a condition on the variables, the world's shape kept -/
section
variable {H : Type} {enc : TypeId × Value → H}
theorem wrap_and_shaped {a : Assume} {C : Checked} {os : Os} {f : FuncId} {fn : Func} {s : ChangeSpec} {conds : List PathCond} {apart fresh handsOn again : Bool} {X : World → Array Value → Prop}
    (hX : ∀ (w w' : World) (args : Array Value), w.heap = w'.heap → X w args → X w' args)
    (own : ownKnob C.prog.godebug = none) (started : os.Started) (noInit : C.prog.inits.idxOf? f = none) (hfn : C.prog.funcs[f]? = some fn)
    (witness : ∃ (w : World) (tape : Tape) (i : Input), w.os = os ∧ (w.forCall tape i).Shaped C.prog ∧ i.vars = [] ∧ Input.okWide C.prog (w.forCall tape i) .any w.heap.size f i ∧
      ((s.pre enc C.prog fn conds apart (w.forCall tape i).memory i.args ∧ X (w.forCall tape i).memory i.args) ∧ sizedMet enc C.prog fn (OpenSpec.ofChange s) apart (w.forCall tape i).memory i.args) ∧ a.holds C.prog (lone (Frame.enter C.prog f i.args .normal) [] (w.forCall tape i)))
    (contract : ∀ (W : World) (base : Nat) (args : Array Value) (ds gs : List (DataW H)) (before : List MemPlace),
      (∀ (j : Nat) t v, fn.params[j]? = some t → args[j]? = some v → Value.okWide C.prog W .any base t v) →
      DataW.Whole enc C.prog fn.params.toList s.vars apart W args.toList ds gs before →
      conds.all (PathCond.test C.prog ⟨fn.params.toList, ds, s.plain.varTypes C.prog, gs⟩) = true →
      (DataW.weightsEach C.prog (fn.params.toList ++ s.plain.varTypes C.prog) (ds ++ gs)).all (· ≤ reachBytes) = true → X W args → W.ShapedOpen C.prog →
      a.holds C.prog (lone (Frame.enter C.prog f args .normal) [] W) →
      Calls C.prog f args W fun e W' => ∃ v, e = .returned v ∧ s.post enc C.prog fn apart fresh handsOn again W args v W') :
    ReturnsInHanded a C os f .any (fun w args => (s.pre enc C.prog fn conds apart w args ∧ X w args) ∧ sizedMet enc C.prog fn (OpenSpec.ofChange s) apart w args) (s.post enc C.prog fn apart fresh handsOn again) := by
  refine returnsInHanded_of_calls own started noInit witness ?_
  intro w tape i _ hsh _ hok hpre hholds
  obtain ⟨_, _, _, fn', hfn', _, _, _, _, hval⟩ := hok
  have e : fn' = fn := Option.some.inj (hfn'.symm.trans hfn)
  subst e
  obtain ⟨⟨⟨ds, gs, before, hw, hc⟩, hx⟩, hz⟩ := hpre
  have hw' := DataW.Whole.of_heap (w' := w.forCall tape i) (by rfl) hw
  refine (contract (w.forCall tape i) w.heap.size i.args ds gs before hval hw' hc (hz.weights hw) (hX _ _ _ (by rfl) hx) hsh hholds).mono fun e W' ⟨v, he, hp⟩ => ?_
  subst he
  exact ChangeSpec.post_blind hp
theorem cMana : Tryz.prog.cellsOf 24 = 4 := by kernel_rfl
theorem cCost : Tryz.prog.cellsOf 26 = 5 := by kernel_rfl
theorem cCK : Tryz.prog.cellsOf 22 = 1 := by kernel_rfl
theorem cKy : Tryz.prog.cellsOf 28 = 1 := by kernel_rfl
theorem cWh : Tryz.prog.cellsOf 45 = 1 := by kernel_rfl
theorem cEs : Tryz.prog.cellsOf 29 = 1 := by kernel_rfl
theorem cTs : Tryz.prog.cellsOf 30 = 1 := by kernel_rfl
theorem cTr : Tryz.prog.cellsOf 47 = 2 := by kernel_rfl
theorem cCd : Tryz.prog.cellsOf 32 = 14 := by kernel_rfl
theorem one_inj {v u : Value} (h : [v] = [u]) : v = u := (List.cons.inj h).1
theorem mana_cells {w : World} {fuel : Nat} {c0 c1 c2 c3 : Value} {x : DataW H × List MemPlace} (h : DataW.trod enc Tryz.prog w 0 (fun _ => true) true fuel 24 [c0, c1, c2, c3] = some x) :
    ∃ a b c d : Int, c0 = .int .i64 a ∧ c1 = .int .i64 b ∧ c2 = .int .i64 c ∧ c3 = .int .i64 d := by
  obtain ⟨y0, y1, y2, y3, m, hx, hy0, hy1, hy2, hy3⟩ := trod_array4 Tryz.underlying24 cI h
  obtain ⟨x0, e0, _, _⟩ := DataW.trod_int Tryz.underlying3 hy0
  obtain ⟨x1, e1, _, _⟩ := DataW.trod_int Tryz.underlying3 hy1
  obtain ⟨x2, e2, _, _⟩ := DataW.trod_int Tryz.underlying3 hy2
  obtain ⟨x3, e3, _, _⟩ := DataW.trod_int Tryz.underlying3 hy3
  simp at e0 e1 e2 e3
  exact ⟨x0, x1, x2, x3, e0, e1, e2, e3⟩
theorem cost_cells {w : World} {fuel : Nat} {c0 c1 c2 c3 c4 : Value} {x : DataW H × List MemPlace} (hf : DataW.trod enc Tryz.prog w 0 (fun _ => true) true fuel 26 [c0, c1, c2, c3, c4] = some x) :
    ∃ a b c d e : Int, c0 = .int .i64 a ∧ c1 = .int .i64 b ∧ c2 = .int .i64 c ∧ c3 = .int .i64 d ∧ c4 = .int .i64 e := by
  obtain ⟨xs, n, _, _, _, hlen, hg⟩ := DataW.trod_struct Tryz.underlying26 hf
  have h0 := hg 0 _ rfl
  have h1 := hg 1 _ rfl
  have hl : xs.length = 2 := hlen
  rw [List.getElem?_eq_getElem (by omega)] at h0 h1
  have h0' : DataW.trod enc Tryz.prog w 0 (fun _ => true) true n 24 ([c0, c1, c2, c3, c4].take (Tryz.prog.cellsOf 24)) = some (xs[0]'(by omega)) := h0
  have h1' : DataW.trod enc Tryz.prog w 0 (fun _ => true) true n 3 ([c4].take (Tryz.prog.cellsOf 3)) = some (xs[1]'(by omega)) := h1
  rw [cMana] at h0'
  rw [cI] at h1'
  obtain ⟨a, b, c, d, rfl, rfl, rfl, rfl⟩ := mana_cells h0'
  obtain ⟨e, he, _, _⟩ := DataW.trod_int Tryz.underlying3 h1'
  exact ⟨a, b, c, d, e, rfl, rfl, rfl, rfl, one_inj he⟩
theorem tr_cells {w : World} {fuel : Nat} {v0 v1 : Value} {x : DataW H × List MemPlace} (h : DataW.trod enc Tryz.prog w 0 (fun _ => true) true fuel 47 [v0, v1] = some x) :
    ∃ (k : Int) (s : Option Addr) (n c : Nat) (l : List Ef), v0 = .int .i64 k ∧ v1 = .slice s n c ∧ EfsAt w s n l ∧ i64ok k := by
  obtain ⟨xs, n, _, _, _, hlen, hg⟩ := DataW.trod_struct Tryz.underlying47 h
  have h0 := hg 0 _ rfl
  have h1 := hg 1 _ rfl
  have hl : xs.length = 2 := hlen
  rw [List.getElem?_eq_getElem (by omega)] at h0 h1
  have h0' : DataW.trod enc Tryz.prog w 0 (fun _ => true) true n 45 ([v0, v1].take (Tryz.prog.cellsOf 45)) = some (xs[0]'(by omega)) := h0
  have h1' : DataW.trod enc Tryz.prog w 0 (fun _ => true) true n 29 ([v1].take (Tryz.prog.cellsOf 29)) = some (xs[1]'(by omega)) := h1
  rw [cWh] at h0'
  rw [cEs] at h1'
  obtain ⟨k, e0, _, w0⟩ := DataW.trod_int Tryz.underlying45 h0'
  obtain ⟨s, len, cap, l, e1, w1⟩ := open_efs (v := v1) h1'
  exact ⟨k, s, len, cap, l, one_inj e0, e1, w1, ok_i64 w0⟩
theorem open_trs {w : World} {fuel : Nat} {v : Value} {x : DataW H × List MemPlace} (h : DataW.trod enc Tryz.prog w 0 (fun _ => true) true fuel 30 [v] = some x) :
    ∃ (sp : Option Addr) (len cap : Nat) (l : List Tr), v = .slice sp len cap ∧ TrsAt w sp len l ∧ len ≤ cap := by
  rcases Go.Deep.open_slice Tryz.underlying30 h with ⟨hv, _⟩ | ⟨a, len, cap, m, n, D, Pl, hv, _, hl, hm, hmm, _, hi⟩
  · cases hv
    exact ⟨none, 0, 0, [], rfl, TrsAt.nil _ _, Nat.le_refl _⟩
  · cases hv
    have hmc : m = cap := by simpa using hmm
    have key : ∀ i, i < len → ∃ r : Tr × Option Addr × Nat × Nat, w.cell? ((a.add (i * 2)).add 0) = some (.int .i64 r.1.w) ∧ w.cell? ((a.add (i * 2)).add 1) = some (.slice r.2.1 r.2.2.1 r.2.2.2) ∧ EfsAt w r.2.1 r.2.2.1 r.1.e ∧ i64ok r.1.w := by
      intro i hil
      obtain ⟨cs', hcs, ht⟩ := hi i (by omega)
      rw [cTr] at hcs
      obtain ⟨_, hlen, hcell⟩ := World.cells?_some hcs
      match cs', hlen with
      | [v0, v1], _ =>
        obtain ⟨k, s, n', c', l', rfl, rfl, he, hk⟩ := tr_cells ht
        exact ⟨(⟨k, l'⟩, s, n', c'), hcell 0 (by omega), hcell 1 (by omega), he, hk⟩
    obtain ⟨R, hR⟩ := Go.Deep.choose_lt key
    refine ⟨some a, len, cap, (List.range len).map fun i => (R i).1, rfl, ⟨by simp, by unfold maxLen at hm; omega, fun h0 => ?_, fun e he => ?_⟩, hl⟩
    · obtain ⟨b, off, spot⟩ := a
      have h00 := (hR 0 h0).1
      rw [Go.Deep.add_add] at h00
      have hspot : spot = none := by simpa [Addr.add] using World.cell?_spot h00
      subst hspot
      rw [addr_add] at h00
      have hbl : b < w.heap.size := World.block_lt_of_cell? _ _ h00
      refine ⟨b, off, rfl, hbl, fun i r hr => ?_⟩
      have hil : i < len := by have := (List.getElem?_eq_some_iff.1 hr).1; simpa using this
      have hr' : (R i).1 = r := by simpa [hil] using hr
      subst hr'
      obtain ⟨c0, c1, he, hk⟩ := hR i hil
      have ea : ∀ j, ((⟨b, off, none⟩ : Addr).add (i * 2)).add j = ⟨b, off + i * 2 + j, none⟩ := fun j => by rw [Go.Deep.add_add, addr_add]; congr 1; omega
      rw [ea] at c0 c1
      exact ⟨_, _, _, c0, c1, he⟩
    · obtain ⟨i, hi, rfl⟩ := List.mem_map.1 he
      exact (hR i (List.mem_range.1 hi)).2.2.2

set_option maxRecDepth 100000 in
theorem card_cells {w : World} {fuel : Nat} {v0 v1 v2 v3 v4 v5 v6 v7 v8 v9 va vb vc vd : Value} {x : DataW H × List MemPlace} (hf : DataW.trod enc Tryz.prog w 0 (fun _ => true) true fuel 32 [v0, v1, v2, v3, v4, v5, v6, v7, v8, v9, va, vb, vc, vd] = some x) :
    ∃ (q : Cd) (es : Option Addr) (en ec : Nat) (ts : Option Addr) (tn tc : Nat), [v0, v1, v2, v3, v4, v5, v6, v7, v8, v9, va, vb, vc, vd] = cL (bs q.nm) q.kd q.a q.b q.c q.d q.x q.ml q.pw q.tg q.kw es en ec ts tn tc q.ra ∧ CdAt w es en q.ef ts tn q.tr ∧ tn ≤ tc := by
  obtain ⟨xs, n, _, _, _, hlen, hg⟩ := DataW.trod_struct Tryz.underlying32 hf
  have hl : xs.length = 10 := hlen
  have h0 := hg 0 _ rfl
  have h1 := hg 1 _ rfl
  have h2 := hg 2 _ rfl
  have h3 := hg 3 _ rfl
  have h4 := hg 4 _ rfl
  have h5 := hg 5 _ rfl
  have h6 := hg 6 _ rfl
  have h7 := hg 7 _ rfl
  have h8 := hg 8 _ rfl
  have h9 := hg 9 _ rfl
  rw [List.getElem?_eq_getElem (by omega)] at h0 h1 h2 h3 h4 h5 h6 h7 h8 h9
  have f0 : DataW.trod enc Tryz.prog w 0 (fun _ => true) true n 9 ([v0, v1, v2, v3, v4, v5, v6, v7, v8, v9, va, vb, vc, vd].take (Tryz.prog.cellsOf 9)) = some (xs[0]'(by omega)) := h0
  rw [cStr] at f0
  have f1 : DataW.trod enc Tryz.prog w 0 (fun _ => true) true n 22 ([v1, v2, v3, v4, v5, v6, v7, v8, v9, va, vb, vc, vd].take (Tryz.prog.cellsOf 22)) = some (xs[1]'(by omega)) := h1
  rw [cCK] at f1
  have f2 : DataW.trod enc Tryz.prog w 0 (fun _ => true) true n 26 ([v2, v3, v4, v5, v6, v7, v8, v9, va, vb, vc, vd].take (Tryz.prog.cellsOf 26)) = some (xs[2]'(by omega)) := h2
  rw [cCost] at f2
  have f3 : DataW.trod enc Tryz.prog w 0 (fun _ => true) true n 27 ([v7, v8, v9, va, vb, vc, vd].take (Tryz.prog.cellsOf 27)) = some (xs[3]'(by omega)) := h3
  rw [cK] at f3
  have f4 : DataW.trod enc Tryz.prog w 0 (fun _ => true) true n 3 ([v8, v9, va, vb, vc, vd].take (Tryz.prog.cellsOf 3)) = some (xs[4]'(by omega)) := h4
  rw [cI] at f4
  have f5 : DataW.trod enc Tryz.prog w 0 (fun _ => true) true n 3 ([v9, va, vb, vc, vd].take (Tryz.prog.cellsOf 3)) = some (xs[5]'(by omega)) := h5
  rw [cI] at f5
  have f6 : DataW.trod enc Tryz.prog w 0 (fun _ => true) true n 28 ([va, vb, vc, vd].take (Tryz.prog.cellsOf 28)) = some (xs[6]'(by omega)) := h6
  rw [cKy] at f6
  have f7 : DataW.trod enc Tryz.prog w 0 (fun _ => true) true n 29 ([vb, vc, vd].take (Tryz.prog.cellsOf 29)) = some (xs[7]'(by omega)) := h7
  rw [cEs] at f7
  have f8 : DataW.trod enc Tryz.prog w 0 (fun _ => true) true n 30 ([vc, vd].take (Tryz.prog.cellsOf 30)) = some (xs[8]'(by omega)) := h8
  rw [cTs] at f8
  have f9 : DataW.trod enc Tryz.prog w 0 (fun _ => true) true n 3 ([vd].take (Tryz.prog.cellsOf 3)) = some (xs[9]'(by omega)) := h9
  rw [cI] at f9
  obtain ⟨s, e0, _, _⟩ := DataW.trod_string Tryz.underlying9 f0
  obtain ⟨kd, e1, _, _⟩ := DataW.trod_int Tryz.underlying22 f1
  obtain ⟨a, b, c, d, y, rfl, rfl, rfl, rfl, rfl⟩ := cost_cells f2
  obtain ⟨ml, e3, _, _⟩ := DataW.trod_int Tryz.underlying27 f3
  obtain ⟨pw, e4, _, _⟩ := DataW.trod_int Tryz.underlying3 f4
  obtain ⟨tg, e5, _, _⟩ := DataW.trod_int Tryz.underlying3 f5
  obtain ⟨kw, e6, _, _⟩ := DataW.trod_int Tryz.underlying28 f6
  obtain ⟨es, en, ec, el, e7, k7⟩ := open_efs (v := vb) f7
  obtain ⟨ts, tn, tc, tl, e8, k8, k9⟩ := open_trs (v := vc) f8
  obtain ⟨ra, e9, _, _⟩ := DataW.trod_int Tryz.underlying3 f9
  obtain rfl := one_inj e0
  obtain rfl := one_inj e1
  obtain rfl := one_inj e3
  obtain rfl := one_inj e4
  obtain rfl := one_inj e5
  obtain rfl := one_inj e6
  subst e7
  subst e8
  obtain rfl := one_inj e9
  exact ⟨⟨s.data.toList, kd, a, b, c, d, y, ml, pw, tg, kw, el, tl, ra⟩, es, en, ec, ts, tn, tc, rfl, ⟨k7, k8⟩, k9⟩
set_option maxRecDepth 100000 in
theorem open_card {w : World} {base' : Nat} {v : Value} {d : DataW H} {p : List MemPlace} (hv : Value.okWide Tryz.prog w .any base' 32 v) (h : DataW.Trod enc Tryz.prog w 0 (fun _ => true) true 32 v d p) :
    ∃ (q : Cd) (es : Option Addr) (en ec : Nat) (ts : Option Addr) (tn tc : Nat), v = cdV q es en ec ts tn tc ∧ CdAt w es en q.ef ts tn q.tr ∧ tn ≤ tc := by
  obtain ⟨cs, rfl, hsz⟩ := okWide_struct Tryz.underlying32 hv
  rw [cCd] at hsz
  obtain ⟨l⟩ := cs
  obtain ⟨v0, v1, v2, v3, v4, v5, v6, v7, v8, v9, va, vb, vc, vd, rfl⟩ := list14 l hsz
  obtain ⟨fuel, hf⟩ := h
  obtain ⟨q, es, en, ec, ts, tn, tc, he, h1, h2⟩ := card_cells hf
  exact ⟨q, es, en, ec, ts, tn, tc, by rw [he], h1, h2⟩
set_option maxRecDepth 100000 in
theorem open_bytes {w : World} {base' : Nat} {v : Value} {d : DataW H} {p : List MemPlace} (hv : Value.okWide Tryz.prog w .any base' 38 v) (h : DataW.Trod enc Tryz.prog w 0 (fun _ => true) true 38 v d p) :
    ∃ (sp : Option Addr) (len cap : Nat) (l : List UInt8), v = .slice sp len cap ∧ BsAt w sp len l ∧ len ≤ cap := by
  obtain ⟨a, n, c, rfl⟩ := okWide_slice Tryz.underlying38 hv
  obtain ⟨fuel, hf⟩ := h
  exact open_bs (v := .slice a n c) hf
set_option maxRecDepth 100000 in
theorem bytes_nil {w : World} {sp : Option Addr} {n c : Nat} {d : DataW H} {p : List MemPlace} (h : DataW.Trod enc Tryz.prog w 0 (fun _ => true) true 38 (.slice sp n c) d p) : sp = none → n = 0 ∧ c = 0 := by
  rintro rfl
  obtain ⟨fuel, hf⟩ := h
  have hf' : DataW.trod enc Tryz.prog w 0 (fun _ => true) true fuel 38 [.slice none n c] = some (d, p) := hf
  rcases open_ints Tryz.underlying38 Tryz.underlying5 cB hf' with ⟨hv, _⟩ | ⟨a, len, cap, zs, hv, _⟩
  · cases hv; exact ⟨rfl, rfl⟩
  · cases hv
end
end Go.Proofs.YtlhnnjllbcglcaaGreatDoor.caFn
