/- What New, zero, Used, Left, choose and Next return, and what they write. -/
import Derived.Test.YtefncefmolphfaaDrFn
namespace Go.Proofs.Ytefncefmolphfaa.drFn
open Go.ChangeShapes Go.WideShapes Go.ChangeAt Go.RowKit drMem
set_option linter.unusedVariables false

theorem isD.ne {w : World} {b g : Nat} {l : List Nat} {u : Nat} (h : isD w b g l u) : b ≠ g := h.d.ne h.n (by decide)
theorem isD.grown {w w' : World} {b g : Nat} {l : List Nat} {u : Nat} {row : Nat} (h : isD w b g l u) (hg : w.grownBy w' (some row)) (h1 : b ≠ row) (h2 : g ≠ row) : isD w' b g l u :=
  ⟨h.d.grown hg (by simpa using h1), h.n.grown hg (by simpa using h2), h.le, h.len, h.val⟩
theorem isD.below {w w' : World} {b g : Nat} {l : List Nat} {u : Nat} (h : isD w b g l u) (hb : Below w.heap.size w w') : isD w' b g l u :=
  ⟨h.d.below hb h.d.lt, h.n.below hb h.n.lt, h.le, h.len, h.val⟩
theorem isD.c0 {w : World} {b g : Nat} {l : List Nat} {u : Nat} (h : isD w b g l u) : w.cell? ⟨b, 0, none⟩ = some (.slice (some ⟨g, 0, none⟩) l.length l.length) := by rw [h.d.cell]; rfl
theorem isD.c1 {w : World} {b g : Nat} {l : List Nat} {u : Nat} (h : isD w b g l u) : w.cell? ⟨b, 1, none⟩ = some (.int .i64 (u : Int)) := by rw [h.d.cell]; rfl
theorem isD.f1 {w : World} {b g : Nat} {l : List Nat} {u : Nat} (h : isD w b g l u) : w.frozen? ⟨b, 1, none⟩ = false := h.d.free 1

theorem ret_int {k : IntKind} {a b : Int} (h : a = b) : Ending.returned (.int k a) = .returned (.int k b) := by rw [h]
theorem isD.drewN {w : World} {b g : Nat} {l : List Nat} {u : Nat} (h : isD w b g l u) (n : Nat) : isD (w.drewN n) b g l u := ⟨h.d, h.n, h.le, h.len, h.val⟩
theorem isD.use {w : World} {b g : Nat} {l : List Nat} {u : Nat} (h : isD w b g l u) (n : Nat) (hu : u < l.length) : isD ((w.drewN n).setCell ⟨b, 1, none⟩ (.int .i64 ((u : Int) + 1))) b g l (u + 1) :=
  ⟨(h.drewN n).d.put 1 _, (h.drewN n).n.far (Ne.symm h.ne) _, hu, h.len, h.val⟩
theorem undrew {w w' : World} {n : Nat} {row : Option Nat} (h : (w.drewN n).grownBy w' row) : w.grownBy w' row := ⟨h.os, h.tape, h.output, h.size, h.block⟩
theorem zero_nil (w : World) : Calls Try.prog 29 #[.pointer none] w fun e w' => e = .returned (.bool true) ∧ w = w' := by
  go_enter Try.func29, Try.ntmps29
  go_wp2
  go_ret
  exact ⟨rfl, rfl⟩
theorem zero_zero (b : Nat) (w : World) (h : w.cell? ⟨b, 0, none⟩ = some (.slice none 0 0)) :
    Calls Try.prog 29 #[.pointer (some ⟨b, 0, none⟩)] w fun e w' => e = .returned (.bool true) ∧ w = w' := by
  have he := fun W => Lib.run_eql_slice_nil (P := Try.prog) W 22 30 none 0 0 0 0 Try.underlying22
  go_enter Try.func29, Try.ntmps29
  go_wp2
  go_ret
  exact ⟨rfl, rfl⟩
theorem zero_no {b g : Nat} {l : List Nat} {u : Nat} {w : World} (h : isD w b g l u) :
    Calls Try.prog 29 #[.pointer (some ⟨b, 0, none⟩)] w fun e w' => e = .returned (.bool false) ∧ w = w' := by
  have c0 := h.c0
  have he := fun W => Lib.run_eql_slice_nil (P := Try.prog) W 22 30 (some ⟨g, 0, none⟩) l.length l.length 0 0 Try.underlying22
  go_enter Try.func29, Try.ntmps29
  go_wp2
  go_ret
  exact ⟨rfl, rfl⟩

theorem Used_nil (w : World) : Calls Try.prog 24 #[.pointer none] w fun e w' => e = .returned (.int .i64 0) ∧ w = w' := by
  go_enter Try.func24, Try.ntmps24
  go_wp2_with (go_at_call 29; refine (zero_nil _).mono ?_; rintro e w' ⟨rfl, rfl⟩)
  go_ret
  exact ⟨rfl, rfl⟩
theorem Used_zero (b : Nat) (w : World) (h : w.cell? ⟨b, 0, none⟩ = some (.slice none 0 0)) :
    Calls Try.prog 24 #[.pointer (some ⟨b, 0, none⟩)] w fun e w' => e = .returned (.int .i64 0) ∧ w = w' := by
  have H := Lib.hid h
  clear h
  go_enter Try.func24, Try.ntmps24
  go_wp2_with (go_at_call 29; refine (zero_zero _ _ H.out).mono ?_; rintro e w' ⟨rfl, rfl⟩)
  go_ret
  exact ⟨rfl, rfl⟩
theorem Used_any {b g : Nat} {l : List Nat} {u : Nat} {w : World} (h : isD w b g l u) :
    Calls Try.prog 24 #[.pointer (some ⟨b, 0, none⟩)] w fun e w' => e = .returned (.int .i64 (u : Int)) ∧ w = w' := by
  have c1 := h.c1
  have hle := h.le; have hlen := h.len
  go_enter Try.func24, Try.ntmps24
  go_wp2_with (go_at_call 29; refine (zero_no h).mono ?_; rintro e w' ⟨rfl, rfl⟩)
  go_ret
  exact ⟨rfl, rfl⟩

theorem Left_nil (w : World) : Calls Try.prog 23 #[.pointer none] w fun e w' => e = .returned (.int .i64 0) ∧ ∃ n, w' = w.drewN n := by
  go_enter Try.func23, Try.ntmps23
  go_wp2_with (go_at_call 29; refine (zero_nil _).mono ?_; rintro e w' ⟨rfl, rfl⟩)
  go_ret
  exact ⟨rfl, 0, rfl⟩
theorem Left_zero (b : Nat) (w : World) (h : w.cell? ⟨b, 0, none⟩ = some (.slice none 0 0)) :
    Calls Try.prog 23 #[.pointer (some ⟨b, 0, none⟩)] w fun e w' => e = .returned (.int .i64 0) ∧ ∃ n, w' = w.drewN n := by
  have H := Lib.hid h
  clear h
  go_enter Try.func23, Try.ntmps23
  go_wp2_with (go_at_call 29; refine (zero_zero _ _ H.out).mono ?_; rintro e w' ⟨rfl, rfl⟩)
  go_ret
  exact ⟨rfl, 0, rfl⟩
theorem Left_any {b g : Nat} {l : List Nat} {u : Nat} {w : World} (h : isD w b g l u) :
    Calls Try.prog 23 #[.pointer (some ⟨b, 0, none⟩)] w fun e w' => e = .returned (.int .i64 ((l.length - u : Nat) : Int)) ∧ ∃ n, w' = w.drewN n := by
  have c1 := h.c1
  have c0 := h.c0
  have hle := h.le; have hlen := h.len
  generalize hn : l.length = n at *
  have HN := Lib.hid hn
  clear hn
  go_enter Try.func23, Try.ntmps23
  go_wp2_with (go_at_call 29; refine (zero_no h).mono ?_; rintro e w' ⟨rfl, rfl⟩)
  go_quiet (fail)
  go_wp2
  go_ret
  exact ⟨ret_int (by omega), _, rfl⟩

/- New of at most MaxDraws numbers: two new blocks -/
theorem New_ok (sp : Option Addr) (len cap : Nat) (l : List Nat) (w : World) (hl : l.length = len) (hb : len ≤ 65536) (hs : src w sp (us l)) (hv : ∀ x ∈ l, x < 18446744073709551616) :
    Calls Try.prog 10 #[.slice sp len cap] w fun e w' => ∃ b, e = .returned (.tuple #[.pointer (some ⟨b, 0, none⟩), .int .i64 0]) ∧ isD w' b w.heap.size l 0 ∧ w.heap.size < b ∧ Below w.heap.size w w' := by
  have HL := Lib.hid hl
  have HS := Lib.hid hs
  have HV := Lib.hid hv
  clear hl hs hv
  go_enter Try.func10, Try.ntmps10
  go_wp2_with fail
  refine (copied_u sp len cap l w HL.out (by omega) HS.out).mono ?_
  rintro e w1 ⟨rfl, hh, hbel⟩
  have hsz := hh.lt
  have HH := Lib.hid hh
  have HB := Lib.hid hbel
  clear hh hbel
  go_wp2
  refine bodyPost_ret (v := .tuple #[.pointer (some ⟨w1.heap.size, 0, none⟩), .int .i64 0]) (by simp [results, Try.results10, go_sem]) rfl ⟨w1.heap.size, rfl, ⟨?_, HH.out.alloc _, Nat.zero_le _, by rw [HL.out]; exact hb, HV.out⟩, hsz, HB.out.alloc HB.out.size _⟩
  rw [HL.out]
  exact has.new w1 _ [_, _]

theorem New_long (sp : Option Addr) (len cap : Nat) (w : World) (hb : 65536 < len) (h2 : len ≤ 9223372036854775807) :
    Calls Try.prog 10 #[.slice sp len cap] w fun e w' => e = .returned (.tuple #[.pointer none, .int .i64 5]) ∧ w = w' := by
  go_enter Try.func10, Try.ntmps10
  go_wp2
  go_ret2
  exact ⟨rfl, rfl⟩

/- the draws after one number more was used -/
def pick1 (l : List Nat) (u bound : Nat) : Nat := l.getD u 0 % bound
set_option maxHeartbeats 400000 in
theorem choose_any {b g : Nat} {l : List Nat} {u : Nat} {w : World} (n : Int) (h : isD w b g l u) (hu : u < l.length) (h0 : 1 ≤ n) (h1 : n ≤ 4294967296) :
    Calls Try.prog 30 #[.pointer (some ⟨b, 0, none⟩), .int .i64 n] w fun e w' => e = .returned (.int .i64 ((pick1 l u n.toNat : Nat) : Int)) ∧ isD w' b g l (u + 1) ∧ w.grownBy w' (some b) := by
  obtain ⟨m, rfl⟩ := Int.eq_ofNat_of_zero_le (a := n) (by omega)
  have c1 := h.c1
  have c0 := h.c0
  have f1 := h.f1
  have hlen := h.len
  have cg : w.cell? ⟨g, u, none⟩ = some (.int .u64 ((l.getD u 0 : Nat) : Int)) := by rw [h.n.cell]; exact us_get l u hu
  have hx : l.getD u 0 < 18446744073709551616 := by
    rw [List.getD_eq_getElem?_getD, List.getElem?_eq_getElem hu]; exact h.val _ (List.getElem_mem hu)
  have hp : pick1 l u m = l.getD u 0 % m := rfl
  have hlt : l.getD u 0 % m < m := Nat.mod_lt _ (by omega)
  have HP := Lib.hid hp
  have HH := Lib.hid h
  clear hp h
  generalize l.getD u 0 = x at *
  generalize hn : l.length = N at *
  have HN := Lib.hid hn
  clear hn
  go_enter Try.func30, Try.ntmps30
  go_wp2
  go_quiet (fail)
  go_wp2
  go_ret
  exact ⟨ret_int (by rw [Int.toNat_natCast, HP.out]; omega), HH.out.use nq (by rw [HN.out]; exact hu), undrew (grown_set (w.drewN nq) ⟨b, 1, none⟩ _)⟩

theorem Next_nil (n : Int) (w : World) : Calls Try.prog 19 #[.pointer none, .int .i64 n] w fun e w' => e = .returned (.tuple #[.int .i64 0, .int .i64 1]) ∧ w = w' := by
  go_enter Try.func19, Try.ntmps19
  go_wp2_with (go_at_call 29; refine (zero_nil _).mono ?_; rintro e w' ⟨rfl, rfl⟩)
  go_ret2
  exact ⟨rfl, rfl⟩
theorem Next_zero (b : Nat) (n : Int) (w : World) (h : w.cell? ⟨b, 0, none⟩ = some (.slice none 0 0)) :
    Calls Try.prog 19 #[.pointer (some ⟨b, 0, none⟩), .int .i64 n] w fun e w' => e = .returned (.tuple #[.int .i64 0, .int .i64 1]) ∧ w = w' := by
  have H := Lib.hid h
  clear h
  go_enter Try.func19, Try.ntmps19
  go_wp2_with (go_at_call 29; refine (zero_zero _ _ H.out).mono ?_; rintro e w' ⟨rfl, rfl⟩)
  go_ret2
  exact ⟨rfl, rfl⟩
/- the results of Next: the number, the error, and how many were used -/
def nextE (l : List Nat) (u : Nat) (n : Int) : Int := if n < 1 ∨ 4294967296 < n then 2 else if l.length ≤ u then 16 else 0
def nextN (l : List Nat) (u : Nat) (n : Int) : Int := if nextE l u n = 0 then ((pick1 l u n.toNat : Nat) : Int) else 0
def nextU (l : List Nat) (u : Nat) (n : Int) : Nat := if nextE l u n = 0 then u + 1 else u
set_option maxHeartbeats 1000000 in
theorem Next_any {b g : Nat} {l : List Nat} {u : Nat} {w : World} (n : Int) (h : isD w b g l u) :
    Calls Try.prog 19 #[.pointer (some ⟨b, 0, none⟩), .int .i64 n] w fun e w' => e = .returned (.tuple #[.int .i64 (nextN l u n), .int .i64 (nextE l u n)]) ∧ isD w' b g l (nextU l u n) ∧ w.grownBy w' (some b) := by
  have HH := Lib.hid h
  have hle := h.le; have hlen := h.len
  clear h
  by_cases k1 : n < 1 ∨ 4294967296 < n
  · have e1 : nextE l u n = 2 := by unfold nextE; rw [if_pos k1]
    have e2 : nextN l u n = 0 := by unfold nextN; rw [e1]; rfl
    have e3 : nextU l u n = u := by unfold nextU; rw [e1]; rfl
    rw [e1, e2, e3]
    clear e1 e2 e3
    rcases (show n < 1 ∨ 1 ≤ n by omega) with k2 | k2
    · go_enter Try.func19, Try.ntmps19
      go_wp2_with (go_at_call 29; refine (zero_no HH.out).mono ?_; rintro e w' ⟨rfl, rfl⟩)
      go_ret2
      exact ⟨rfl, HH.out, grown_refl _ _⟩
    · have k3 : 4294967296 < n := by omega
      clear k1
      go_enter Try.func19, Try.ntmps19
      go_wp2_with (go_at_call 29; refine (zero_no HH.out).mono ?_; rintro e w' ⟨rfl, rfl⟩)
      go_ret2
      exact ⟨rfl, HH.out, grown_refl _ _⟩
  · have k2 : 1 ≤ n := by omega
    have k3 : n ≤ 4294967296 := by omega
    by_cases k4 : l.length ≤ u
    · have e1 : nextE l u n = 16 := by unfold nextE; rw [if_neg k1, if_pos k4]
      have e2 : nextN l u n = 0 := by unfold nextN; rw [e1]; rfl
      have e3 : nextU l u n = u := by unfold nextU; rw [e1]; rfl
      rw [e1, e2, e3]
      clear e1 e2 e3 k1
      obtain rfl : u = l.length := by omega
      go_enter Try.func19, Try.ntmps19
      go_wp2_with (first | (go_at_call 29; refine (zero_no HH.out).mono ?_; rintro e w' ⟨rfl, rfl⟩) | (go_at_call 23; refine (Left_any HH.out).mono ?_; rintro e w' ⟨rfl, nq, rfl⟩))
      go_ret2
      exact ⟨rfl, ⟨HH.out.d, HH.out.n, HH.out.le, HH.out.len, HH.out.val⟩, undrew (grown_refl _ _)⟩
    · have e1 : nextE l u n = 0 := by unfold nextE; rw [if_neg k1, if_neg k4]
      have e2 : nextN l u n = ((pick1 l u n.toNat : Nat) : Int) := by unfold nextN; rw [if_pos e1]
      have e3 : nextU l u n = u + 1 := by unfold nextU; rw [if_pos e1]
      rw [e1, e2, e3]
      clear e1 e2 e3 k1
      have hd : decide (((l.length - u : Nat) : Int) < 1) = false := by simp; omega
      go_enter Try.func19, Try.ntmps19
      go_wp2_with (first | (go_at_call 29; refine (zero_no HH.out).mono ?_; rintro e w' ⟨rfl, rfl⟩) | (go_at_call 23; refine (Left_any HH.out).mono ?_; rintro e w' ⟨rfl, nq, rfl⟩))
      refine (choose_any n (HH.out.drewN nq) (by omega) k2 k3).mono ?_
      rintro e w1 ⟨rfl, h1, hg1⟩
      have H1 := Lib.hid h1
      have G1 := Lib.hid hg1
      clear h1 hg1
      go_wp2
      go_ret2
      exact ⟨rfl, H1.out, undrew G1.out⟩
end Go.Proofs.Ytefncefmolphfaa.drFn
