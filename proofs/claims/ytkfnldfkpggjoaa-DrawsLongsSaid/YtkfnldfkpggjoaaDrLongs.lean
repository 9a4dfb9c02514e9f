/- The walk of the statement on the greatest lists and bounds. -/
import Derived.Test.YtkfnldfkpggjoaaDrNil
namespace Go.Proofs.Ytkfnldfkpggjoaa.drFn
open Go.ChangeShapes Go.WideShapes Go.ChangeAt Go.RowKit drMem
set_option linter.unusedVariables false

theorem St.other {w W W' : World} {b b2 g2 : Nat} {l2 : List Nat} {u2 : Nat} (h : St w b2 g2 l2 u2 W) (hg : W.grownBy W' (some b)) (hb : w.heap.size ≤ b) (h1 : b2 ≠ b) (h2 : g2 ≠ b) : St w b2 g2 l2 u2 W' :=
  ⟨h.d.grown hg h1 h2, below_grown h.f hg h.f.size hb, h.hb, h.hg⟩
theorem zerosI (W : World) (n : Nat) : has (W.alloc (.cells (madeCells #[.int .i64 0] n) 3)) W.heap.size 3 (is (List.replicate n 0)) := by
  have := has.new W 3 (is (List.replicate n 0))
  rw [made_list]
  simpa [is] using this
theorem zerosU (W : World) (n : Nat) : has (W.alloc (.cells (madeCells #[.int .u64 0] n) 30)) W.heap.size 30 (us (List.replicate n 0)) := by
  have := has.new W 30 (us (List.replicate n 0))
  rw [made_list]
  simpa [us] using this
theorem swp_zero (n i j : Nat) : swp (List.replicate n 0) i j = List.replicate n 0 := by
  have e : ∀ k, (List.replicate n (0 : Int)).getD k 0 = 0 := by
    intro k
    rw [List.getD_eq_getElem?_getD, List.getElem?_replicate]
    split <;> rfl
  have s : ∀ k, (List.replicate n (0 : Int)).set k 0 = List.replicate n 0 := by
    intro k
    apply List.ext_getElem
    · simp
    · intro i h1 h2; simp
  unfold swp
  rw [e, e, s, s]
theorem shufL_zero (l : List Nat) (n : Nat) : ∀ (i u : Nat), shufL l u i (List.replicate n 0) = List.replicate n 0
  | 0, _ => rfl
  | i + 1, u => by rw [shufL, swp_zero, shufL_zero l n i]

/- more than the maximum -/
theorem lg1 {w W : World} {b g n N : Nat} (hN : 65536 < N) (hM : N ≤ 100000) (h : St w b g [n] 0 W) :
    Calls Try.prog 14 #[.pointer (some ⟨b, 0, none⟩), .slice (some ⟨W.heap.size, 0, none⟩) N N, .slice none 0 0, .int .i64 5] (W.alloc (.cells (madeCells #[.int .i64 0] N) 3)) (fun e w' => e = .returned (.bool true) ∧ St w b g [n] 0 w') := by
  have h1 := h.alloc (.cells (madeCells #[.int .i64 0] N) 3)
  have c := shuffles_any (some ⟨W.heap.size, 0, none⟩) none N 0 N 0 (List.replicate N 0) [] 5 h1.d (src.of (zerosI W N)) (by simp) (by omega) (src.nil _ _) rfl (by omega) (by simp)
  have e : shE [n] 0 N = 5 := by unfold shE; rw [if_pos hN]
  have e1 : shOut [n] 0 (List.replicate N 0) = [] := by unfold shOut; rw [List.length_replicate, e]; rfl
  have e2 : shU [n] 0 N = 0 := by unfold shU; rw [e]; rfl
  rw [List.length_replicate, e1, e2, e, sameB_of rfl] at c
  exact c.mono fun e w' ⟨he, hd, hg⟩ => ⟨he, h1.step hd hg⟩
theorem lg2 {w W : World} {b g n : Nat} (B : Int) (hB : 4294967296 < B) (h : St w b g [n] 0 W) : Calls Try.prog 12 #[.pointer (some ⟨b, 0, none⟩), .int .i64 B, .int .i64 0, .int .i64 2] W (fun e w' => e = .returned (.bool true) ∧ St w b g [n] 0 w') := by
  have c := next_any B 0 2 h.d
  have e : nextE [n] 0 B = 2 := by unfold nextE; rw [if_pos (.inr hB)]
  have e1 : nextN [n] 0 B = 0 := by unfold nextN; rw [e]; rfl
  have e2 : nextU [n] 0 B = 0 := by unfold nextU; rw [e]; rfl
  rw [e, e1, e2] at c
  exact c.mono fun e w' ⟨he, hd, hg⟩ => ⟨he, h.step hd hg⟩
theorem lg3 {w W : World} {b g n : Nat} (B : Int) (hB : 65536 < B) (h : St w b g [n] 0 W) : Calls Try.prog 17 #[.pointer (some ⟨b, 0, none⟩), .int .i64 0, .int .i64 B, .slice none 0 0, .int .i64 2] W (fun e w' => e = .returned (.bool true) ∧ St w b g [n] 0 w') := by
  have c := picks_any 0 B none 0 0 [] 2 h.d (src.nil _ _) rfl (by omega) (by simp)
  have e : pkE [n] 0 0 B = 2 := by unfold pkE; rw [if_pos (by omega)]
  have e1 : pkOut [n] 0 0 B = [] := by unfold pkOut; rw [e]; rfl
  have e2 : pkU [n] 0 0 B = 0 := by unfold pkU; rw [e]; rfl
  rw [e, e1, e2, sameB_of rfl] at c
  exact c.mono fun e w' ⟨he, hd, hg⟩ => ⟨he, h.step hd hg⟩
theorem lg4 {w W : World} {b g n : Nat} (h : St w b g [n] 0 W) : Calls Try.prog 23 #[.pointer (some ⟨b, 0, none⟩)] W (fun e w' => e = .returned (.int .i64 1) ∧ St w b g [n] 0 w') :=
  (Left_any h.d).mono fun e w' ⟨he, n, hw⟩ => ⟨he, hw ▸ h.drewN n⟩
/- New, and that all that was is as it was -/
theorem lgN {w W : World} (nn : Nat) (hf : Below w.heap.size w W) (hx : nn < 18446744073709551616) :
    Calls Try.prog 10 #[.slice (some ⟨W.heap.size, 0, none⟩) 1 1] (W.alloc (.cells #[.int .u64 (nn : Int)] 30)) fun e w' => ∃ b, e = .returned (.tuple #[.pointer (some ⟨b, 0, none⟩), .int .i64 0]) ∧ St w b (W.heap.size + 1) [nn] 0 w' ∧ W.heap.size < b ∧ Below W.heap.size W w' := by
  refine (New_ok (some ⟨W.heap.size, 0, none⟩) 1 1 [nn] _ rfl (by omega) (src.of (has.new W _ [.int .u64 (nn : Int)])) (by simpa using hx)).mono ?_
  rintro e w' ⟨b, rfl, hd, hlt, hb⟩
  have hs := hf.size
  have e : (W.alloc (.cells #[.int .u64 (nn : Int)] 30)).heap.size = W.heap.size + 1 := by simp
  rw [e] at hd hlt hb
  have hb2 : Below W.heap.size W w' := ((Below.refl _ _).alloc (Nat.le_refl _) _).trans (hb.mono (by omega))
  exact ⟨b, rfl, ⟨hd, hf.trans (hb2.mono hs), by omega, by omega⟩, by omega, hb2⟩
theorem lgM {w W : World} (N : Nat) (hN : N ≤ 65536) (hf : Below w.heap.size w W) :
    Calls Try.prog 10 #[.slice (some ⟨W.heap.size, 0, none⟩) N N] (W.alloc (.cells (madeCells #[.int .u64 0] N) 30)) fun e w' => ∃ b, e = .returned (.tuple #[.pointer (some ⟨b, 0, none⟩), .int .i64 0]) ∧ St w b (W.heap.size + 1) (List.replicate N 0) 0 w' := by
  refine (New_ok (some ⟨W.heap.size, 0, none⟩) N N (List.replicate N 0) _ (by simp) hN (src.of (zerosU W N)) (by simp)).mono ?_
  rintro e w' ⟨b, rfl, hd, hlt, hb⟩
  have hs := hf.size
  have e : (W.alloc (.cells (madeCells #[.int .u64 0] N) 30)).heap.size = W.heap.size + 1 := by simp
  rw [e] at hd hlt hb
  exact ⟨b, rfl, hd, (hf.alloc hs _).trans (hb.mono (by omega)), by omega, by omega⟩

theorem New_long2 {w W : World} (sp : Option Addr) (len cap : Nat) (hb : 65536 < len) (h2 : len ≤ 9223372036854775807) (hf : Below w.heap.size w W) :
    Calls Try.prog 10 #[.slice sp len cap] W fun e w' => e = .returned (.tuple #[.pointer none, .int .i64 5]) ∧ Below w.heap.size w w' :=
  (New_long sp len cap W hb h2).mono fun e w' ⟨he, hw⟩ => ⟨he, hw ▸ hf⟩
/- at most the maximum -/
theorem lm1 {w W : World} {b g N : Nat} {l : List Nat} (hl : l.length = N) (h : St w b g l 0 W) : Calls Try.prog 23 #[.pointer (some ⟨b, 0, none⟩)] W (fun e w' => e = .returned (.int .i64 (N : Int)) ∧ St w b g l 0 w' ∧ ∃ n, w' = W.drewN n) :=
  (Left_any h.d).mono fun e w' ⟨he, n, hw⟩ => ⟨by rw [he, hl]; rfl, hw ▸ h.drewN n, n, hw⟩
theorem lm2 {w W : World} {b g N : Nat} {l : List Nat} (hl : l.length = N) (h1 : 1 ≤ N) (hN : N ≤ 65536) (h : St w b g l 0 W) :
    Calls Try.prog 14 #[.pointer (some ⟨b, 0, none⟩), .slice (some ⟨W.heap.size, 0, none⟩) N N, .slice (some ⟨W.heap.size + 1, 0, none⟩) N N, .int .i64 0]
      ((W.alloc (.cells (madeCells #[.int .i64 0] N) 3)).alloc (.cells (madeCells #[.int .i64 0] N) 3)) (fun e w' => e = .returned (.bool true) ∧ St w b g l (N - 1) w' ∧ W.grownBy w' (some b)) := by
  have h2 := (h.alloc (.cells (madeCells #[.int .i64 0] N) 3)).alloc (.cells (madeCells #[.int .i64 0] N) 3)
  have a1 := (zerosI W N).alloc (.cells (madeCells #[.int .i64 0] N) 3)
  have a2 := zerosI (W.alloc (.cells (madeCells #[.int .i64 0] N) 3)) N
  have hlt := h.d.d.lt
  have e0 : (W.alloc (.cells (madeCells #[.int .i64 0] N) 3)).heap.size = W.heap.size + 1 := by simp
  rw [e0] at a2
  have c := shuffles_any (some ⟨W.heap.size, 0, none⟩) (some ⟨W.heap.size + 1, 0, none⟩) N N N N (List.replicate N 0) (List.replicate N 0) 0 h2.d (src.of a1) (by simp) (by omega) (src.of a2) (by simp) (by omega) (by rintro a ⟨⟩; show W.heap.size + 1 ≠ b; omega)
  have e : shE l 0 N = 0 := by unfold shE; rw [if_neg (by omega), if_neg (by omega)]
  have e1 : shOut l 0 (List.replicate N 0) = List.replicate N 0 := by unfold shOut; rw [List.length_replicate, if_pos e, shufL_zero]
  have e2 : shU l 0 N = N - 1 := by unfold shU; rw [if_pos e, Nat.zero_add]
  rw [List.length_replicate, e1, e2, e, sameB_of rfl] at c
  refine c.mono fun e w' ⟨he, hd, hg⟩ => ⟨he, h2.step hd hg, ?_⟩
  have g0 := grown_trans (World.grownBy_alloc W (.cells (madeCells #[.int .i64 0] N) 3) (some b)) (World.grownBy_alloc _ (.cells (madeCells #[.int .i64 0] N) 3) (some b))
  exact grown_trans g0 hg
theorem lm2s {w W : World} {b g N : Nat} {l : List Nat} (hl : l.length = N) (h1 : 1 ≤ N) (hN : N ≤ 65536) (h : St w b g l 0 W) :
    Calls Try.prog 14 #[.pointer (some ⟨b, 0, none⟩), .slice (some ⟨W.heap.size + 1, 0, none⟩) N N, .slice (some ⟨W.heap.size, 0, none⟩) N N, .int .i64 0]
      ((W.alloc (.cells (madeCells #[.int .i64 0] N) 3)).alloc (.cells (madeCells #[.int .i64 0] N) 3)) (fun e w' => e = .returned (.bool true) ∧ St w b g l (N - 1) w' ∧ W.grownBy w' (some b)) := by
  have h2 := (h.alloc (.cells (madeCells #[.int .i64 0] N) 3)).alloc (.cells (madeCells #[.int .i64 0] N) 3)
  have a1 := (zerosI W N).alloc (.cells (madeCells #[.int .i64 0] N) 3)
  have a2 := zerosI (W.alloc (.cells (madeCells #[.int .i64 0] N) 3)) N
  have hlt := h.d.d.lt
  have e0 : (W.alloc (.cells (madeCells #[.int .i64 0] N) 3)).heap.size = W.heap.size + 1 := by simp
  rw [e0] at a2
  have c := shuffles_any (some ⟨W.heap.size + 1, 0, none⟩) (some ⟨W.heap.size, 0, none⟩) N N N N (List.replicate N 0) (List.replicate N 0) 0 h2.d (src.of a2) (by simp) (by omega) (src.of a1) (by simp) (by omega) (by rintro a ⟨⟩; show W.heap.size ≠ b; omega)
  have e : shE l 0 N = 0 := by unfold shE; rw [if_neg (by omega), if_neg (by omega)]
  have e1 : shOut l 0 (List.replicate N 0) = List.replicate N 0 := by unfold shOut; rw [List.length_replicate, if_pos e, shufL_zero]
  have e2 : shU l 0 N = N - 1 := by unfold shU; rw [if_pos e, Nat.zero_add]
  rw [List.length_replicate, e1, e2, e, sameB_of rfl] at c
  refine c.mono fun e w' ⟨he, hd, hg⟩ => ⟨he, h2.step hd hg, ?_⟩
  have g0 := grown_trans (World.grownBy_alloc W (.cells (madeCells #[.int .i64 0] N) 3) (some b)) (World.grownBy_alloc _ (.cells (madeCells #[.int .i64 0] N) 3) (some b))
  exact grown_trans g0 hg
theorem lm3 {w W : World} {b g N : Nat} {l : List Nat} (hl : l.length = N) (h1 : 1 ≤ N) (h : St w b g l (N - 1) W) : Calls Try.prog 23 #[.pointer (some ⟨b, 0, none⟩)] W (fun e w' => e = .returned (.int .i64 1) ∧ St w b g l (N - 1) w' ∧ ∃ n, w' = W.drewN n) :=
  (Left_any h.d).mono fun e w' ⟨he, n, hw⟩ => ⟨by rw [he, hl]; exact ret_int (by omega), hw ▸ h.drewN n, n, hw⟩
theorem lm4 {w W : World} {b g nn : Nat} (B : Nat) (h1 : 1 ≤ B) (h2 : B ≤ 4294967296) (h : St w b g [nn] 0 W) : Calls Try.prog 12 #[.pointer (some ⟨b, 0, none⟩), .int .i64 (B : Int), .int .i64 ((nn : Int) % (B : Int)), .int .i64 0] W (fun e w' => e = .returned (.bool true) ∧ St w b g [nn] 1 w') := by
  have c := next_any (B : Int) ((nn : Int) % (B : Int)) 0 h.d
  have ex : (nn : Int) % (B : Int) = ((nn % B : Nat) : Int) := by omega
  have e : nextE [nn] 0 (B : Int) = 0 := by unfold nextE; rw [if_neg (by omega), if_neg (by simp)]
  have e1 : nextN [nn] 0 (B : Int) = ((nn % B : Nat) : Int) := by unfold nextN; rw [if_pos e, Int.toNat_natCast]; rfl
  have e2 : nextU [nn] 0 (B : Int) = 1 := by unfold nextU; rw [if_pos e]
  rw [e, e1, e2, ← ex] at c
  simp only [beq_self_eq_true, Bool.and_self] at c
  exact c.mono fun e w' ⟨he, hd, hg⟩ => ⟨he, h.step hd hg⟩
theorem longs_out (more n : Int) (w : World) (h : more < -2 ∨ 2 < more) : Calls Try.prog 5 #[.int .i64 more, .int .u64 n] w fun e w' => e = .returned (.bool true) ∧ Below w.heap.size w w' := by
  by_cases k : more < -2
  · clear h
    go_enter Try.func5, Try.ntmps5
    go_wp2_with (go_at_call 9; refine (known_any _).mono ?_; rintro e w' ⟨rfl, hb⟩)
    go_ret
    exact ⟨rfl, hb⟩
  · have k2 : 2 < more := by omega
    have k3 : decide (more < -2) = false := by simpa using k
    clear h
    go_enter Try.func5, Try.ntmps5
    go_wp2_with (go_at_call 9; refine (known_any _).mono ?_; rintro e w' ⟨rfl, hb⟩)
    go_ret
    exact ⟨rfl, hb⟩

set_option maxRecDepth 100000 in
set_option maxHeartbeats 2000000 in
theorem longs_above (more : Int) (nn N : Nat) (w : World) (h1 : 0 < more) (h2 : more ≤ 2) (hN : 65536 + more = (N : Int)) (hn : nn < 18446744073709551616) :
    Calls Try.prog 5 #[.int .i64 more, .int .u64 (nn : Int)] w fun e w' => e = .returned (.bool true) ∧ Below w.heap.size w w' := by
  have n1 : 65536 < N := by omega
  have n2 : N ≤ 100000 := by omega
  have hmu := fun W => run_make_row' (P := Try.prog) 22 30 (.int .u64 0) 8 Try.underlying22 infoU rfl .i64 .i64 N (by omega) (by omega) W
  have hmi := fun W => run_make_row' (P := Try.prog) 33 3 (.int .i64 0) 8 Try.underlying33 infoI rfl .i64 .i64 N (by omega) (by omega) W
  have d1 : decide (more < -2) = false := by simp; omega
  have d2 : decide (2 < more) = false := by simp; omega
  have d3 : decide (0 < more) = true := by simp; omega
  have b0 : Below w.heap.size w (w.alloc (.cells (madeCells #[.int .u64 0] N) 30)) := (Below.refl _ _).alloc (Nat.le_refl _) _
  have B0 := Lib.hid b0
  clear b0
  go_enter Try.func5, Try.ntmps5
  go_wp2_with fail
  refine (New_long2 (w := w) _ N _ n1 (by omega) B0.out).mono ?_
  rintro e w1 ⟨rfl, hb⟩
  have B1 := Lib.hid hb
  clear hb
  go_wp2_with fail
  refine (lgN (w := w) (W := w1) nn B1.out hn).mono ?_
  rintro e w2 ⟨b, rfl, hs, _, _⟩
  have S1 := Lib.hid hs
  clear hs
  go_wp2_with fail
  refine (lg1 n1 n2 S1.out).mono ?_
  rintro e w3 ⟨rfl, hs⟩
  have S2 := Lib.hid hs
  clear hs S1
  go_wp2_with fail
  refine (lg2 _ (by omega) S2.out).mono ?_
  rintro e w4 ⟨rfl, hs⟩
  have S3 := Lib.hid hs
  clear hs S2
  go_wp2_with fail
  refine (lg3 _ (by omega) S3.out).mono ?_
  rintro e w5 ⟨rfl, hs⟩
  have S4 := Lib.hid hs
  clear hs S3
  go_wp2_with fail
  refine (lg4 S4.out).mono ?_
  rintro e w6 ⟨rfl, hs⟩
  have S5 := Lib.hid hs
  clear hs S4
  go_wp2_with fail
  refine (known_in S5.out.f).mono ?_
  rintro e w7 ⟨rfl, hs⟩
  have S6 := Lib.hid hs
  clear hs S5
  go_wp2
  go_ret
  exact ⟨rfl, S6.out⟩

set_option maxRecDepth 100000 in
set_option maxHeartbeats 2000000 in
theorem longs_below (more : Int) (nn N B : Nat) (w : World) (h1 : -2 ≤ more) (h2 : more ≤ 0) (hN : 65536 + more = (N : Int)) (hB : 4294967296 + more = (B : Int)) (hn : nn < 18446744073709551616) :
    Calls Try.prog 5 #[.int .i64 more, .int .u64 (nn : Int)] w fun e w' => e = .returned (.bool true) ∧ Below w.heap.size w w' := by
  have n1 : 1 ≤ N := by omega
  have n2 : N ≤ 65536 := by omega
  have m1 : 1 ≤ B := by omega
  have m2 : B ≤ 4294967296 := by omega
  have hmu := fun W => run_make_row' (P := Try.prog) 22 30 (.int .u64 0) 8 Try.underlying22 infoU rfl .i64 .i64 N (by omega) (by omega) W
  have hmi := fun W => run_make_row' (P := Try.prog) 33 3 (.int .i64 0) 8 Try.underlying33 infoI rfl .i64 .i64 N (by omega) (by omega) W
  have d1 : decide (more < -2) = false := by simp; omega
  have d2 : decide (2 < more) = false := by simp; omega
  have d3 : decide (0 < more) = false := by simp; omega
  have hll : (List.replicate N 0).length = N := by simp
  have LL := Lib.hid hll
  clear hll
  go_enter Try.func5, Try.ntmps5
  go_wp2_with fail
  refine (lgM (w := w) (W := w) N n2 (Below.refl _ _)).mono ?_
  rintro e w1 ⟨b, rfl, hs⟩
  have hbw := hs.d.d.lt
  have hgw := hs.d.n.lt
  have S1 := Lib.hid hs
  clear hs
  go_wp2_with fail
  refine (lgN (w := w) (W := w1) nn S1.out.f hn).mono ?_
  rintro e w2 ⟨b2, rfl, hs, hlt2, hb2⟩
  have T2 := Lib.hid hs
  have S2 := Lib.hid (S1.out.below hb2)
  clear hs hb2 S1
  have S3 := Lib.hid (show St w b (w.heap.size + 1) (List.replicate N 0) 0 w2.drew from S2.out.drewN 1)
  have T3 := Lib.hid (show St w b2 (w1.heap.size + 1) [nn] 0 w2.drew from T2.out.drewN 1)
  have b2b : b2 ≠ b := by omega
  have g2b : w1.heap.size + 1 ≠ b := by omega
  have hbB := S2.out.hb
  clear S2 T2
  have hml : nn % B < 4294967296 := by have := Nat.mod_lt nn (show B > 0 by omega); omega
  have v0 : ((B : Int) == 0) = false := by rw [beq_eq_false_iff_ne]; omega
  have v1 : IntKind.i64.wrap (N : Int) = (N : Int) := IntWalk.i64_in _ (by omega)
  have v6 : ¬ B = 0 := by omega
  have v7 : IntKind.i64.wrap ((nn : Int) % (B : Int)) = (nn : Int) % (B : Int) := IntWalk.i64_in _ (by omega)
  have v2 : IntKind.u64.wrap (B : Int) = (B : Int) := by rw [IntKind.wrap_u64]; omega
  have v3 : (nn : Int).tmod (B : Int) = ((nn % B : Nat) : Int) := rfl
  have v4 : IntKind.u64.wrap ((nn % B : Nat) : Int) = ((nn % B : Nat) : Int) := by rw [IntKind.wrap_u64]; omega
  have v5 : IntKind.i64.wrap ((nn % B : Nat) : Int) = ((nn % B : Nat) : Int) := IntWalk.i64_in _ (by omega)
  go_wp2_with fail
  go_region_held3 (fun _ => True) (exact trivial) (first
    | (go_at_call 23; (with_reducible refine (lm1 LL.out S3.out).mono ?_); rintro e w3 ⟨rfl, hs, q, hw⟩; have S4 := Lib.hid hs; have T4 := Lib.hid (show St w b2 (w1.heap.size + 1) [nn] 0 w3 by rw [hw]; exact T3.out.drewN q); clear hs hw S3 T3)
    | (go_at_call 14; (with_reducible refine (lm2 LL.out n1 n2 S4.out).mono ?_); rintro e w4 ⟨rfl, hs, hg⟩; have S5 := Lib.hid hs; have T5 := Lib.hid (T4.out.other hg hbB b2b g2b); clear hs hg S4 T4)
    | (go_at_call 14; (with_reducible refine (lm2s LL.out n1 n2 S4.out).mono ?_); rintro e w4 ⟨rfl, hs, hg⟩; have S5 := Lib.hid hs; have T5 := Lib.hid (T4.out.other hg hbB b2b g2b); clear hs hg S4 T4)
    | (go_at_call 23; (with_reducible refine (lm3 LL.out n1 S5.out).mono ?_); rintro e w5 ⟨rfl, hs, q, hw⟩; have T6 := Lib.hid (show St w b2 (w1.heap.size + 1) [nn] 0 w5 by rw [hw]; exact T5.out.drewN q); clear hs hw S5 T5)
    | (go_at_call 12; (with_reducible refine (lm4 B m1 m2 T6.out).mono ?_); rintro e w6 ⟨rfl, hs⟩; have T7 := Lib.hid hs; clear hs T6)
    | (go_at_call 9; refine (known_in T7.out.f).mono ?_; rintro e w7 ⟨rfl, hs⟩; have T8 := Lib.hid hs; clear hs T7))
  all_goals
    go_wp2
    go_ret
    exact ⟨rfl, T8.out⟩

theorem longs_law (more n : Int) (w : World) (n0 : 0 ≤ n) (n1 : n ≤ 18446744073709551615) : Calls Try.prog 5 #[.int .i64 more, .int .u64 n] w fun e w' => e = .returned (.bool true) ∧ Below w.heap.size w w' := by
  by_cases h : more < -2 ∨ 2 < more
  · exact longs_out more n w h
  · obtain ⟨nn, rfl⟩ := Int.eq_ofNat_of_zero_le n0
    obtain ⟨N, hN⟩ := Int.eq_ofNat_of_zero_le (a := 65536 + more) (by omega)
    by_cases h2 : 0 < more
    · exact longs_above more nn N w h2 (by omega) hN (by omega)
    · obtain ⟨B, hB⟩ := Int.eq_ofNat_of_zero_le (a := 4294967296 + more) (by omega)
      exact longs_below more nn N B w (by omega) (by omega) hN hB (by omega)
end Go.Proofs.Ytkfnldfkpggjoaa.drFn
