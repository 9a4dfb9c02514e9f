/- What the reference's Next returns. -/
import Derived.Test.YtefncefmolphfaaDrRef
namespace Go.Proofs.Ytefncefmolphfaa.drFn
open Go.ChangeShapes Go.WideShapes Go.ChangeAt Go.RowKit drMem
set_option linter.unusedVariables false

def rnPost (B : Nat) (w : World) (l : List Nat) (u1 : Nat) (x y : Int) (e : Ending) (w' : World) : Prop :=
  ∃ sp' c', e = .returned (.tuple #[.agg #[.slice sp' (l.length - u1) c', .int .i64 (u1 : Int)], .int .i64 x, .int .i64 y]) ∧ Lf B w sp' (l.length - u1) c' (l.drop u1) ∧ Below w.heap.size w w'
set_option maxHeartbeats 1000000 in
theorem rNext_ok (sp : Option Addr) (c : Nat) (l : List Nat) (u : Nat) (b : Nat) (B : Nat) (w : World) (hBw : B ≤ w.heap.size) (h : Lf B w sp (l.length - u) c (l.drop u)) (hu : u < l.length) (hl : l.length ≤ 65536) (b0 : 1 ≤ b) (b1 : b ≤ 4294967296) :
    Calls Try.prog 11 #[.agg #[.slice sp (l.length - u) c, .int .i64 (u : Int)], .int .i64 (b : Int)] w (rnPost B w l (u + 1) ((pick1 l u b : Nat) : Int) 0) := by
  obtain ⟨n, hn⟩ : ∃ n, l.length - u = n := ⟨_, rfl⟩
  have e1 : l.length - (u + 1) = n - 1 := by omega
  have e2 : (l.drop u).drop 1 = l.drop (u + 1) := by rw [List.drop_drop]
  have e3 : (l.drop u).getD 0 0 % b = pick1 l u b := by unfold pick1; rw [getD_drop, Nat.add_zero]
  rw [hn] at h ⊢
  unfold rnPost
  rw [e1, ← e2, ← e3]
  have hn0 : 0 < n := by omega
  have hul : (u : Int) ≤ 1000000 := by omega
  have k1 : decide ((b : Int) < 1) = false := by simp; omega
  have k2 : decide (4294967296 < (b : Int)) = false := by simp; omega
  have k3 : ((n : Int) == 0) = false := by rw [beq_eq_false_iff_ne]; omega
  have H := Lib.hid h
  generalize l.drop u = ls at *
  clear h hn e1 e2 e3
  obtain ⟨W, hW⟩ : ∃ W, W = (w.alloc (.cells #[.slice sp n c, .int .i64 (u : Int)] 32)).alloc (.cells #[.slice none 0 0, .int .i64 0] 32) := ⟨_, rfl⟩
  have hbW : Below w.heap.size w W := by rw [hW]; exact ((Below.refl _ _).alloc (Nat.le_refl _) _).alloc (by simp) _
  have hres : has W (w.heap.size + 1) 32 [.slice none 0 0, .int .i64 0] := by
    rw [hW]
    have := has.new (w.alloc (.cells #[.slice sp n c, .int .i64 (u : Int)] 32)) 32 [.slice none 0 0, .int .i64 0]
    rw [show (w.alloc (.cells #[.slice sp n c, .int .i64 (u : Int)] 32)).heap.size = w.heap.size + 1 by simp] at this
    exact this
  have HW := Lib.hid hW
  have BW := Lib.hid hbW
  have RES := Lib.hid hres
  clear hW hbW hres
  go_enter Try.func11, Try.ntmps11
  go_wp2_with fail
  rw [← HW.out]
  refine (rchoose_any sp n c ls (u : Int) b B W (Nat.le_trans hBw BW.out.size) (H.out.below (BW.out.mono hBw)) hn0 b0 b1 (by omega) hul).mono ?_
  rintro e w3 ⟨sp', c', rfl, hlf, hb⟩
  have r3 := RES.out.below hb RES.out.lt
  have g0 : w3.cell? ⟨w.heap.size + 1, 0, none⟩ = some (.slice none 0 0) := by rw [r3.cell]; rfl
  have g1 : w3.cell? ⟨w.heap.size + 1, 1, none⟩ = some (.int .i64 0) := by rw [r3.cell]; rfl
  have q0 : w3.frozen? ⟨w.heap.size + 1, 0, none⟩ = false := r3.free 0
  have q1 : w3.frozen? ⟨w.heap.size + 1, 1, none⟩ = false := r3.free 1
  have hs3 : w.heap.size + 1 < w3.heap.size := r3.lt
  have B3 := Lib.hid (BW.out.trans (hb.mono BW.out.size))
  have LF := Lib.hid (hlf.back (BW.out.mono hBw))
  clear r3 hlf hb
  have B4 := Lib.hid (((B3.out.setCell (p := ⟨w.heap.size + 1, 0, none⟩) (by simp) (.slice sp' (n - 1) c')).setCell (p := ⟨w.heap.size + 1, 1, none⟩) (by simp) (.int .i64 ((u : Int) + 1))).alloc (by simp [World.setCell]; omega) (.cells #[.slice sp' (n - 1) c', .int .i64 ((u : Int) + 1)] 32))
  go_wp2
  exact bodyPost_ret (v := .tuple #[.agg #[.slice sp' (n - 1) c', .int .i64 ((u : Int) + 1)], .int .i64 ((ls.getD 0 0 % b : Nat) : Int), .int .i64 0]) (by simp [results, Try.results11, go_sem, g0, g1, hs3]) rfl ⟨_, c', rfl, LF.out, B4.out⟩

theorem rn_back {w : World} {n c : Nat} {sp : Option Addr} {u : Int} : Below w.heap.size w ((w.alloc (.cells #[.slice sp n c, .int .i64 u] 32)).alloc (.cells #[.slice sp n c, .int .i64 u] 32)) :=
  ((Below.refl _ _).alloc (Nat.le_refl _) _).alloc (by simp) _
set_option maxHeartbeats 400000 in
theorem rNext_arg (sp : Option Addr) (c : Nat) (l : List Nat) (u : Nat) (b : Int) (B : Nat) (w : World) (h : Lf B w sp (l.length - u) c (l.drop u)) (hb : b < 1 ∨ 4294967296 < b) :
    Calls Try.prog 11 #[.agg #[.slice sp (l.length - u) c, .int .i64 (u : Int)], .int .i64 b] w (rnPost B w l u 0 2) := by
  have H := Lib.hid h
  clear h
  by_cases k1 : b < 1
  · clear hb
    go_enter Try.func11, Try.ntmps11
    go_wp2
    exact bodyPost_ret (v := .tuple #[.agg #[.slice sp (l.length - u) c, .int .i64 (u : Int)], .int .i64 0, .int .i64 2]) (by simp [results, Try.results11, go_sem]) rfl ⟨_, c, rfl, H.out, rn_back⟩
  · have k2 : 4294967296 < b := by omega
    have k3 : decide (b < 1) = false := by simpa using k1
    clear hb
    go_enter Try.func11, Try.ntmps11
    go_wp2
    exact bodyPost_ret (v := .tuple #[.agg #[.slice sp (l.length - u) c, .int .i64 (u : Int)], .int .i64 0, .int .i64 2]) (by simp [results, Try.results11, go_sem]) rfl ⟨_, c, rfl, H.out, rn_back⟩
set_option maxHeartbeats 400000 in
theorem rNext_end (sp : Option Addr) (c : Nat) (l : List Nat) (u : Nat) (b : Int) (B : Nat) (w : World) (h : Lf B w sp (l.length - u) c (l.drop u)) (b0 : 1 ≤ b) (b1 : b ≤ 4294967296) (hu : l.length ≤ u) :
    Calls Try.prog 11 #[.agg #[.slice sp (l.length - u) c, .int .i64 (u : Int)], .int .i64 b] w (rnPost B w l u 0 16) := by
  obtain ⟨n, hn⟩ : ∃ n, l.length - u = n := ⟨_, rfl⟩
  have h0 : n = 0 := by omega
  have HN := Lib.hid hn
  have H := Lib.hid h
  have k1 : decide (b < 1) = false := by simp; omega
  have k2 : decide (4294967296 < b) = false := by simp; omega
  rw [hn]
  clear h hn hu
  subst h0
  go_enter Try.func11, Try.ntmps11
  go_wp2
  exact bodyPost_ret (v := .tuple #[.agg #[.slice sp 0 c, .int .i64 (u : Int)], .int .i64 0, .int .i64 16]) (by simp [results, Try.results11, go_sem]) rfl ⟨_, c, by rw [HN.out], H.out, rn_back⟩
theorem rNext_any (sp : Option Addr) (c : Nat) (l : List Nat) (u : Nat) (b : Int) (B : Nat) (w : World) (hBw : B ≤ w.heap.size) (h : Lf B w sp (l.length - u) c (l.drop u)) (hl : l.length ≤ 65536) :
    Calls Try.prog 11 #[.agg #[.slice sp (l.length - u) c, .int .i64 (u : Int)], .int .i64 b] w (rnPost B w l (nextU l u b) (nextN l u b) (nextE l u b)) := by
  by_cases k1 : b < 1 ∨ 4294967296 < b
  · have e1 : nextE l u b = 2 := by unfold nextE; rw [if_pos k1]
    have e2 : nextN l u b = 0 := by unfold nextN; rw [e1]; rfl
    have e3 : nextU l u b = u := by unfold nextU; rw [e1]; rfl
    rw [e1, e2, e3]
    exact rNext_arg sp c l u b B w h k1
  · by_cases k4 : l.length ≤ u
    · have e1 : nextE l u b = 16 := by unfold nextE; rw [if_neg k1, if_pos k4]
      have e2 : nextN l u b = 0 := by unfold nextN; rw [e1]; rfl
      have e3 : nextU l u b = u := by unfold nextU; rw [e1]; rfl
      rw [e1, e2, e3]
      exact rNext_end sp c l u b B w h (by omega) (by omega) k4
    · obtain ⟨bn, rfl⟩ := Int.eq_ofNat_of_zero_le (a := b) (by omega)
      have e1 : nextE l u (bn : Int) = 0 := by unfold nextE; rw [if_neg k1, if_neg k4]
      have e2 : nextN l u (bn : Int) = ((pick1 l u bn : Nat) : Int) := by unfold nextN; rw [if_pos e1, Int.toNat_natCast]
      have e3 : nextU l u (bn : Int) = u + 1 := by unfold nextU; rw [if_pos e1]
      rw [e1, e2, e3]
      exact rNext_ok sp c l u bn B w hBw h (by omega) hl (by omega) (by omega)
end Go.Proofs.Ytefncefmolphfaa.drFn
