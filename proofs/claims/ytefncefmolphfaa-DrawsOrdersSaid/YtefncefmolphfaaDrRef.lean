/- What the reference's choose and Next return. -/
import Derived.Test.YtefncefmolphfaaDrMath
import Derived.BigRegion
namespace Go.Proofs.Ytefncefmolphfaa.drFn
open Go.ChangeShapes Go.WideShapes Go.ChangeAt Go.RowKit drMem
set_option linter.unusedVariables false

/- a slice of numbers below the call's own memory -/
structure Lf (B : Nat) (w : World) (sp : Option Addr) (n c : Nat) (ls : List Nat) : Prop where
  l : ls.length = n
  s : 0 < n → ∃ b off, sp = some ⟨b, off, none⟩ ∧ b < B ∧ ∀ (j : Nat) (u : Value), (us ls)[j]? = some u → w.cell? ⟨b, off + j, none⟩ = some u
  nc : n ≤ c
  m : c ≤ 9223372036854775807
  v : ∀ x ∈ ls, x < 18446744073709551616
theorem Lf.below {B : Nat} {w w' : World} {sp : Option Addr} {n c : Nat} {ls : List Nat} (h : Lf B w sp n c ls) (hb : Below B w w') : Lf B w' sp n c ls :=
  ⟨h.l, fun h0 => by
    obtain ⟨b, o, e, hl, hc⟩ := h.s h0
    exact ⟨b, o, e, hl, fun j u hu => (hb.cell (p := ⟨b, o + j, none⟩) hl).trans (hc j u hu)⟩, h.nc, h.m, h.v⟩
theorem Lf.back {B : Nat} {w w' : World} {sp : Option Addr} {n c : Nat} {ls : List Nat} (h : Lf B w' sp n c ls) (hb : Below B w w') : Lf B w sp n c ls :=
  ⟨h.l, fun h0 => by
    obtain ⟨b, o, e, hl, hc⟩ := h.s h0
    exact ⟨b, o, e, hl, fun j u hu => (hb.cell (p := ⟨b, o + j, none⟩) hl).symm.trans (hc j u hu)⟩, h.nc, h.m, h.v⟩
def rcPost (B : Nat) (w : World) (n : Nat) (ls : List Nat) (used : Int) (b : Nat) (e : Ending) (w' : World) : Prop :=
  ∃ sp' c', e = .returned (.tuple #[.agg #[.slice sp' (n - 1) c', .int .i64 (used + 1)], .int .i64 ((ls.getD 0 0 % b : Nat) : Int)]) ∧ Lf B w sp' (n - 1) c' (ls.drop 1) ∧ Below w.heap.size w w'
set_option maxHeartbeats 1000000 in
theorem rchoose_any (sp : Option Addr) (n c : Nat) (ls : List Nat) (used : Int) (b : Nat) (B : Nat) (w : World) (hBw : B ≤ w.heap.size) (h : Lf B w sp n c ls) (h0 : 0 < n) (b0 : 1 ≤ b) (b1 : b ≤ 4294967296) (u0 : 0 ≤ used) (u1 : used ≤ 1000000) :
    Calls Try.prog 27 #[.agg #[.slice sp n c, .int .i64 used], .int .i64 (b : Int)] w (rcPost B w n ls used b) := by
  obtain ⟨xb, xo, rfl, hxb, hxc⟩ := h.s h0
  have hn := h.nc; have hm := h.m
  have hxw : xb < w.heap.size := by omega
  have cx : w.cell? ⟨xb, xo, none⟩ = some (.int .u64 ((ls.getD 0 0 : Nat) : Int)) := by have := hxc 0 _ (us_get ls 0 (by rw [h.l]; exact h0)); simpa using this
  have hx : ls.getD 0 0 < 18446744073709551616 := by
    have hl := h.l
    rw [List.getD_eq_getElem?_getD, List.getElem?_eq_getElem (by omega)]; exact h.v _ (List.getElem_mem _)
  have H := Lib.hid h
  have HC := Lib.hid hxc
  clear h hxc
  generalize hgx : ls.getD 0 0 = x at *
  have GX := Lib.hid hgx
  clear hgx
  have hml : x % b < 4294967296 := by have := Nat.mod_lt x (show b > 0 by omega); omega
  have v6 : ¬ b = 0 := by omega
  have v2 : IntKind.u64.wrap (b : Int) = (b : Int) := by rw [IntKind.wrap_u64]; omega
  have v7 : IntKind.i64.wrap ((x : Int) % (b : Int)) = (x : Int) % (b : Int) := IntWalk.i64_in _ (by omega)
  have v8 : IntKind.i64.wrap (used + 1) = used + 1 := IntWalk.i64_in _ (by omega)
  have v9 : (1 : Nat) ≤ n := h0
  have q3 : (1 : Int) ≤ (n : Int) := by omega
  go_enter Try.func27, Try.ntmps27
  go_wp2
  have hbel : Below w.heap.size w ((w.alloc (.cells #[.slice (some ⟨xb, xo, none⟩) n c, .int .i64 used] 32)).alloc (.cells #[.slice (if c = 1 then some ⟨xb, xo, none⟩ else some ⟨xb, xo + 1, none⟩) (n - 1) (c - 1), .int .i64 (used + 1)] 32)).drew :=
    (((Below.refl _ _).alloc (Nat.le_refl _) _).alloc (by simp) _).drew
  have hlf : Lf B w (if c = 1 then some ⟨xb, xo, none⟩ else some ⟨xb, xo + 1, none⟩) (n - 1) (c - 1) (ls.drop 1) := by
    have hl := H.out.l
    refine ⟨by simp [hl], fun h1 => ?_, by omega, by omega, fun y hy => H.out.v y (List.mem_of_mem_drop hy)⟩
    rw [if_neg (by omega)]
    refine ⟨xb, xo + 1, rfl, hxb, fun j u hu => ?_⟩
    have e : us (ls.drop 1) = (us ls).drop 1 := by simp [us]
    rw [e, List.getElem?_drop] at hu
    have := HC.out (1 + j) u hu
    rw [show xo + 1 + j = xo + (1 + j) by omega]; exact this
  have ex : (x : Int) % (b : Int) = ((x % b : Nat) : Int) := by omega
  have BEL := Lib.hid hbel
  have LF := Lib.hid hlf
  have EX := Lib.hid ex
  clear hbel hlf ex
  by_cases hc1 : c = 1
  · have B2 := BEL.out
    have L2 := LF.out
    rw [if_pos hc1] at B2 L2
    have BE2 := Lib.hid B2
    have LF2 := Lib.hid L2
    have hcp : (c = 1) = True := eq_true hc1
    clear BEL LF B2 L2 hc1
    go_region
    go_wp2
    exact bodyPost_ret (v := .tuple #[.agg #[.slice (some ⟨xb, xo, none⟩) (n - 1) (c - 1), .int .i64 (used + 1)], .int .i64 ((x : Int) % (b : Int))]) (by simp [results, Try.results27, go_sem]) rfl ⟨_, c - 1, by rw [GX.out, EX.out], LF2.out, BE2.out⟩
  · have B2 := BEL.out
    have L2 := LF.out
    rw [if_neg hc1] at B2 L2
    have BE2 := Lib.hid B2
    have LF2 := Lib.hid L2
    clear BEL LF B2 L2
    go_region
    go_wp2
    exact bodyPost_ret (v := .tuple #[.agg #[.slice (some ⟨xb, xo + 1, none⟩) (n - 1) (c - 1), .int .i64 (used + 1)], .int .i64 ((x : Int) % (b : Int))]) (by simp [results, Try.results27, go_sem]) rfl ⟨_, c - 1, by rw [GX.out, EX.out], LF2.out, BE2.out⟩
end Go.Proofs.Ytefncefmolphfaa.drFn
