/- What the laws call: encodes, decodes, texts, parses, of. -/
import Derived.Test.YtfdolapiikgebaaDoorEfRParW
import Derived.Test.YtfdolapiikgebaaDoorEfDecZ
import Derived.Test.YtfdolapiikgebaaDoorEfREnc
namespace Go.Proofs.YtfdolapiikgebaaDoor.efFn
open Go.ChangeShapes Go.WideShapes Go.ChangeAt Go.RowKit drMem
set_option linter.unusedVariables false

def encZ (l : List Ef) : List UInt8 × Int := if allB l = true then (encB l, 0) else ([], 2)
theorem beq_dec (a b : Int) : (a == b) = decide (a = b) := by by_cases h : a = b <;> simp [h]
theorem encZ_yes {l : List Ef} (h : allB l = true) : encZ l = (encB l, 0) := if_pos h
theorem encZ_no {l : List Ef} (h : allB l = false) : encZ l = ([], 2) := if_neg (by rw [h]; decide)
theorem Encode_any (sp : Option Addr) (n cap : Nat) (l : List Ef) (w : World) (h : EfsAt w sp n l) :
    Calls Tryd.prog 24 #[.slice sp n cap] w fun e w' => ∃ sr nr cr, e = .returned (.tuple #[.slice sr nr cr, .int .i64 (encZ l).2]) ∧ BsAt w' sr nr (encZ l).1 ∧ Below w.heap.size w w' := by
  cases ha : allB l
  · rw [encZ_no ha]
    exact (Encode_no sp n cap l w h ha).mono fun e w' ⟨h1, h2⟩ => ⟨none, 0, 0, h1, BsAt.nil _ _, h2⟩
  · rw [encZ_yes ha]
    exact Encode_yes sp n cap l w h ha
def txZ (e : Ef) : List UInt8 × Int := if e.ok = true then (textE e, 0) else ([], 2)
theorem txZ_yes {e : Ef} (h : e.ok = true) : txZ e = (textE e, 0) := if_pos h
theorem txZ_no {e : Ef} (h : e.ok = false) : txZ e = ([], 2) := if_neg (by rw [h]; decide)
theorem Text_any (e : Ef) (w : World) (hG : G w) :
    Calls Tryd.prog 25 #[e.v] w fun r w' => r = .returned (.tuple #[.string (bs (txZ e).1), .int .i64 (txZ e).2]) ∧ Below w.heap.size w w' := by
  cases ha : e.ok
  · rw [txZ_no ha]
    exact Text_no e.c e.t e.n e.m e.k w ha
  · rw [txZ_yes ha]
    exact Text_yes e w hG ha
def paZ (l : List UInt8) : Ef × Int := if isTx l then (cand l, 0) else (⟨0, 0, 0, 0, 0⟩, 6)
theorem paZ_v (l : List UInt8) : parV l = ((paZ l).1.v, (paZ l).2) := by
  unfold parV paZ; split <;> rfl
def rpaZ (l : List UInt8) : Ef × Bool := if isTx l then (cand l, true) else (⟨0, 0, 0, 0, 0⟩, false)
theorem rpaZ_v (l : List UInt8) : rparV l = ((rpaZ l).1.v, (rpaZ l).2) := by
  unfold rparV rpaZ; split <;> rfl
theorem Parse_all (l : List UInt8) (w : World) (hG : G w) (hl : l.length ≤ 900) :
    Calls Tryd.prog 27 #[.string (bs l)] w fun e w' => e = .returned (.tuple #[(paZ l).1.v, .int .i64 (paZ l).2]) ∧ Below w.heap.size w w' :=
  (Parse_any l w hG hl).mono fun e w' ⟨h1, h2⟩ => ⟨by rw [h1, paZ_v], h2⟩
theorem rParse_all (l : List UInt8) (w : World) :
    Calls Tryd.prog 22 #[.string (bs l)] w fun e w' => e = .returned (.tuple #[(rpaZ l).1.v, .bool (rpaZ l).2]) ∧ Below w.heap.size w w' :=
  (rParse_any l w).mono fun e w' ⟨h1, h2⟩ => ⟨by rw [h1, rpaZ_v], h2⟩

set_option maxRecDepth 100000 in
set_option maxHeartbeats 4000000 in
theorem encodes_any (sp sq : Option Addr) (n cap nq cq : Nat) (l : List Ef) (lw : List UInt8) (no : Int) (w : World) (h : EfsAt w sp n l) (hq : BsAt w sq nq lw) :
    Calls Tryd.prog 16 #[.slice sp n cap, .slice sq nq cq, .int .i64 no] w fun e w' => e = .returned (.bool (decide (encZ l = (lw, no)))) ∧ Below w.heap.size w w' := by
  have HE := Encode_any sp n cap l w h
  generalize encZ l = z at *
  obtain ⟨a, b⟩ := z
  dsimp only at HE
  clear h
  go_enter Tryd.func16, Tryd.ntmps16
  go_wp2_with fail
  refine HE.mono ?_; rintro e w1 ⟨sr, nr, cr, rfl, hr, hb1⟩
  have k1 := hr.str cr
  have k2 := (hq.below hb1 (Nat.le_refl _)).str cq
  have HB := Lib.hid hb1
  clear hr hq hb1 HE
  by_cases hx : a = lw
  · have hs := s_eq hx
    subst hx
    go_wp2_with fail
    go_ret
    exact ⟨ret_bool (by rw [beq_dec]; simp), HB.out⟩
  · have hs := s_ne hx
    have HX := Lib.hid hx
    clear hx
    go_wp2_with fail
    go_ret
    exact ⟨ret_bool (by simp [HX.out]), HB.out⟩

set_option maxRecDepth 100000 in
set_option maxHeartbeats 4000000 in
theorem decodes_any (sp sq : Option Addr) (n cap nq cq : Nat) (l : List UInt8) (lw : List Ef) (size no : Int) (w : World) (h : BsAt w sp n l) (hcap : n ≤ cap) (hq : EfsAt w sq nq lw) :
    Calls Tryd.prog 19 #[.slice sp n cap, .slice sq nq cq, .int .i64 size, .int .i64 no] w fun e w' => e = .returned (.bool (decide ((decR l).1 = lw ∧ ((decR l).2.1 : Int) = size ∧ ((decR l).2.2 : Int) = no))) ∧ Below w.heap.size w w' := by
  have HE := Decode_any sp n cap l w h hcap
  generalize decR l = z at *
  obtain ⟨a, b, c⟩ := z
  unfold decPost at HE
  dsimp only at HE
  dsimp only
  clear h hcap
  go_enter Tryd.func19, Tryd.ntmps19
  go_wp2_with fail
  refine HE.mono ?_; rintro e w1 ⟨sr, cr, rfl, hr, hb1⟩
  have hq1 := hq.below hb1 (Nat.le_refl _)
  have HS := Same_any sr sq a.length nq cr cq a lw w1 hr hq1
  have HB := Lib.hid hb1
  clear hr hq hb1 HE hq1
  by_cases hx : a = lw
  · rw [sameB_of hx] at HS
    subst hx
    by_cases hy : (b : Int) = size
    · subst hy
      go_wp2_with fail
      refine HS.mono ?_; rintro e w2 ⟨rfl, hb2⟩
      have HB2 := Lib.hid (next HB.out hb2)
      clear hb2 HS
      go_wp2_with fail
      go_ret
      exact ⟨ret_bool (by rw [beq_dec] <;> simp), HB2.out⟩
    · have HY := Lib.hid hy
      have hy' : ((b : Int) == size) = false := by simpa using hy
      clear hy
      go_wp2_with fail
      refine HS.mono ?_; rintro e w2 ⟨rfl, hb2⟩
      have HB2 := Lib.hid (next HB.out hb2)
      clear hb2 HS
      go_wp2_with fail
      go_ret
      exact ⟨ret_bool (by simp [HY.out]), HB2.out⟩
  · have hs : sameB a lw = false := by unfold sameB; exact decide_eq_false hx
    rw [hs] at HS
    have HX := Lib.hid hx
    clear hx hs
    go_wp2_with fail
    refine HS.mono ?_; rintro e w2 ⟨rfl, hb2⟩
    have HB2 := Lib.hid (next HB.out hb2)
    clear hb2 HS
    go_wp2_with fail
    go_ret
    exact ⟨ret_bool (by simp [HX.out]), HB2.out⟩

set_option maxRecDepth 100000 in
set_option maxHeartbeats 4000000 in
theorem texts_any (x : Ef) (lw : List UInt8) (no : Int) (w : World) (hG : G w) :
    Calls Tryd.prog 20 #[x.v, .string (bs lw), .int .i64 no] w fun e w' => e = .returned (.bool (decide (txZ x = (lw, no)))) ∧ Below w.heap.size w w' := by
  have HE := fun w h => Text_any x w h
  generalize txZ x = z at *
  obtain ⟨a, b⟩ := z
  dsimp only at HE
  obtain ⟨xc, xt, xn, xm, xk⟩ := x
  have HG := Lib.hid hG
  clear hG
  have M0 := new0 w 28 (eL xc xt xn xm xk)
  have B0 : Below w.heap.size w (w.alloc (.cells #[.int .i64 xc, .int .i64 xt, .int .i64 xn, .int .i64 xm, .int .i64 xk] 28)) := (Below.refl _ _).alloc (Nat.le_refl _) _
  obtain ⟨u0, u1, u2, u3, u4, u5⟩ := five M0
  by_cases hx : a = lw
  · have hs := s_eq hx
    subst hx
    go_enter Tryd.func20, Tryd.ntmps20
    go_wp2_with fail
    refine (HE _ (HG.out.below B0)).mono ?_; rintro e w1 ⟨rfl, hb1⟩
    have HB := Lib.hid (next B0 hb1)
    clear hb1 M0 B0 HE u0 u1 u2 u3 u4 u5
    go_wp2_with fail
    go_ret
    exact ⟨ret_bool (by rw [beq_dec]; simp), HB.out⟩
  · have hs := s_ne hx
    have HX := Lib.hid hx
    clear hx
    go_enter Tryd.func20, Tryd.ntmps20
    go_wp2_with fail
    refine (HE _ (HG.out.below B0)).mono ?_; rintro e w1 ⟨rfl, hb1⟩
    have HB := Lib.hid (next B0 hb1)
    clear hb1 M0 B0 HE u0 u1 u2 u3 u4 u5
    go_wp2_with fail
    go_ret
    exact ⟨ret_bool (by simp [HX.out]), HB.out⟩

set_option maxRecDepth 100000 in
set_option maxHeartbeats 4000000 in
theorem parses_any (l : List UInt8) (y : Ef) (no : Int) (w : World) (hG : G w) (hl : l.length ≤ 900) :
    Calls Tryd.prog 23 #[.string (bs l), y.v, .int .i64 no] w fun e w' => e = .returned (.bool (decide (paZ l = (y, no)))) ∧ Below w.heap.size w w' := by
  have HE := fun w h => Parse_all l w h hl
  generalize paZ l = z at *
  obtain ⟨a, b⟩ := z
  dsimp only at HE
  obtain ⟨yc, yt, yn, ym, yk⟩ := y
  obtain ⟨ac, at', an, am, ak⟩ := a
  have NE := eqE_run ac at' an am ak yc yt yn ym yk
  rw [eq5_ef ⟨ac, at', an, am, ak⟩ ⟨yc, yt, yn, ym, yk⟩] at NE
  have HG := Lib.hid hG
  clear hG hl
  have M0 := new0 w 28 (eL yc yt yn ym yk)
  have B0 : Below w.heap.size w (w.alloc (.cells #[.int .i64 yc, .int .i64 yt, .int .i64 yn, .int .i64 ym, .int .i64 yk] 28)) := (Below.refl _ _).alloc (Nat.le_refl _) _
  by_cases hx : (⟨ac, at', an, am, ak⟩ : Ef) = ⟨yc, yt, yn, ym, yk⟩
  all_goals
    first | rw [decide_eq_true hx] at NE | rw [decide_eq_false hx] at NE
    have HX := Lib.hid hx
    clear hx
    go_enter Tryd.func23, Tryd.ntmps23
    go_wp2_with fail
    refine (HE _ (HG.out.below B0)).mono ?_; rintro e w1 ⟨rfl, hb1⟩
    have B1 := next B0 hb1
    have M1 := M0.below hb1 M0.lt
    obtain ⟨u0, u1, u2, u3, u4, u5⟩ := five M1
    have HB := Lib.hid B1
    have z1 := B1.size
    have z0 := M1.lt
    clear hb1 M0 B0 B1 HE
    go_wp2_with fail
    go_ret
    refine ⟨ret_bool ?_, next HB.out (by go_grown)⟩
    first | (rw [beq_dec, HX.out]; simp; done) | (simp [HX.out])
end Go.Proofs.YtfdolapiikgebaaDoor.efFn
