/- The card that the reader reads. -/
import Derived.Test.YtkappnnoienhnaaDoorCaTrigM
import Derived.BigRegion
import Derived.Deep.RegionWith
import Derived.Deep.AppendLies
namespace Go.Proofs.YtkappnnoienhnaaDoor.caFn
open Go.ChangeShapes Go.WideShapes Go.ChangeAt Go.RowKit drMem efFn
set_option linter.unusedVariables false

theorem number_at {m : Int} {s s' : Rd} {x : Int} (e : nb m s = (x, s')) (g : Nat) (W : World) (h : RdIn W g s) :
    Calls Tryd.prog 50 #[.pointer (some ⟨g, 0, none⟩), .int .i64 m] W fun v W' => v = .returned (.int .i64 x) ∧ RdIn W' g s' ∧ W.grownBy W' (some g) :=
  (number_any m s g W h).mono fun v W' h => by unfold nbPost at h; rw [e] at h; exact h
theorem take_at {n : Nat} {s s' : Rd} {l : List UInt8} (e : tk n s = (l, s')) (g : Nat) (W : World) (h : RdIn W g s) :
    Calls Tryd.prog 51 #[.pointer (some ⟨g, 0, none⟩), .int .i64 (n : Int)] W fun v W' => ∃ sp m c, v = .returned (.slice sp m c) ∧ BsAt W' sp m l ∧ RdIn W' g s' ∧ W.grownBy W' (some g) :=
  (take_any n s g W h).mono fun v W' h => by unfold tkPost at h; rw [e] at h; exact h
theorem effects_at {s s' : Rd} {l : List Ef} (e : efR s = (l, s')) (g : Nat) (W : World) (h : RdIn W g s) :
    Calls Tryd.prog 52 #[.pointer (some ⟨g, 0, none⟩)] W fun v W' => ∃ sp n c, v = .returned (.slice sp n c) ∧ EfsAt W' sp n l ∧ RdIn W' g s' ∧ W.grownBy W' (some g) ∧ ∀ a, sp = some a → W.heap.size ≤ a.block :=
  (effects_any s g W h).mono fun v W' h => by unfold efPost at h; rw [e] at h; exact h
def cdPost (s : Rd) (g : Nat) (w : World) (v : Ending) (W : World) : Prop :=
  ∃ q s' es en ec ts tn tc, RdC s q s' ∧ v = .returned (cV (bs q.nm) q.kd q.a q.b q.c q.d q.x q.ml q.pw q.tg q.kw es en ec ts tn tc q.ra) ∧ CdAt W es en q.ef ts tn q.tr ∧ tn ≤ tc ∧ RdIn W g s' ∧ w.grownBy W (some g) ∧ ∀ (W2 : World) (k : Nat), k < w.heap.size → W.grownBy W2 (some k) → CdAt W2 es en q.ef ts tn q.tr
theorem infoT : (Tryd.prog.info? 44).map (fun i => (i.zero, i.size, i.bytes)) = some (some (.agg #[.int .i64 0, .slice none 0 0]), 2, 32) := by kernel_rfl
set_option maxRecDepth 100000 in
set_option maxHeartbeats 16000000 in
theorem card_any (s : Rd) (g : Nat) (w : World) (h : RdIn w g s) (hgl : g < w.heap.size) :
    Calls Tryd.prog 35 #[.pointer (some ⟨g, 0, none⟩)] w (cdPost s g w) := by
  obtain ⟨i0, hi, hz0, hz1, hz2⟩ := info_parts infoT
  obtain ⟨s1, kd, e1⟩ : ∃ s' x, nb 255 s = (x, s') := ⟨_, _, rfl⟩
  obtain ⟨s2, ra, e2⟩ : ∃ s' x, nb 255 s1 = (x, s') := ⟨_, _, rfl⟩
  obtain ⟨s3, n, e3⟩ : ∃ (s' : Rd) (n : Nat), nb 32 s2 = ((n : Int), s') := by
    obtain ⟨n, hn, _⟩ := nb_nat 32 s2 (by omega)
    exact ⟨_, n, by rw [← hn]⟩
  obtain ⟨s4, nm, e4⟩ : ∃ s' x, tk n s3 = (x, s') := ⟨_, _, rfl⟩
  obtain ⟨s5, a, e5⟩ : ∃ s' x, nb 255 s4 = (x, s') := ⟨_, _, rfl⟩
  obtain ⟨s6, b, e6⟩ : ∃ s' x, nb 255 s5 = (x, s') := ⟨_, _, rfl⟩
  obtain ⟨s7, c, e7⟩ : ∃ s' x, nb 255 s6 = (x, s') := ⟨_, _, rfl⟩
  obtain ⟨s8, d, e8⟩ : ∃ s' x, nb 255 s7 = (x, s') := ⟨_, _, rfl⟩
  obtain ⟨s9, x, e9⟩ : ∃ s' x, nb 255 s8 = (x, s') := ⟨_, _, rfl⟩
  obtain ⟨s10, ml, e10⟩ : ∃ s' x, nb 255 s9 = (x, s') := ⟨_, _, rfl⟩
  obtain ⟨s11, pw, e11⟩ : ∃ s' x, nb 255 s10 = (x, s') := ⟨_, _, rfl⟩
  obtain ⟨s12, tg, e12⟩ : ∃ s' x, nb 255 s11 = (x, s') := ⟨_, _, rfl⟩
  obtain ⟨s13, kw, e13⟩ : ∃ s' x, nb 255 s12 = (x, s') := ⟨_, _, rfl⟩
  obtain ⟨s14, ef, e14⟩ : ∃ s' x, efR s13 = (x, s') := ⟨_, _, rfl⟩
  obtain ⟨s15, m, e15, hm2⟩ : ∃ (s' : Rd) (m : Nat), nb 2 s14 = ((m : Int), s') ∧ m ≤ 2 := by
    obtain ⟨m, hm, hm2, _⟩ := nb_nat 2 s14 (by omega)
    exact ⟨_, m, by rw [← hm], by omega⟩
  have HRD : Hid (RdC s ⟨nm, kd, a, b, c, d, x, ml, pw, tg, kw, ef, trL s15 m, ra⟩ (trS s15 m)) := Lib.hid ⟨s1, s2, s3, s4, s5, s6, s7, s8, s9, s10, s11, s12, s13, s14, s15, n, m, e1, e2, e3, e4, e5, e6, e7, e8, e9, e10, e11, e12, e13, e14, e15, rfl, rfl⟩
  have E1 := Lib.hid e1
  have E2 := Lib.hid e2
  have E3 := Lib.hid e3
  have E4 := Lib.hid e4
  have E5 := Lib.hid e5
  have E6 := Lib.hid e6
  have E7 := Lib.hid e7
  have E8 := Lib.hid e8
  have E9 := Lib.hid e9
  have E10 := Lib.hid e10
  have E11 := Lib.hid e11
  have E12 := Lib.hid e12
  have E13 := Lib.hid e13
  have E14 := Lib.hid e14
  have E15 := Lib.hid e15
  clear e1 e2 e3 e4 e5 e6 e7 e8 e9 e10 e11 e12 e13 e14 e15
  have HS0 : Hid (CS w g ((w.alloc (.cells #[.string ⟨#[]⟩, .int .i64 0, .int .i64 0, .int .i64 0, .int .i64 0, .int .i64 0, .int .i64 0, .int .i64 0, .int .i64 0, .int .i64 0, .int .i64 0, .slice none 0 0, .slice none 0 0, .int .i64 0] 34)).alloc (.cells #[.string ⟨#[]⟩, .int .i64 0, .int .i64 0, .int .i64 0, .int .i64 0, .int .i64 0, .int .i64 0, .int .i64 0, .int .i64 0, .int .i64 0, .int .i64 0, .slice none 0 0, .slice none 0 0, .int .i64 0] 34)) [.string ⟨#[]⟩, .int .i64 0, .int .i64 0, .int .i64 0, .int .i64 0, .int .i64 0, .int .i64 0, .int .i64 0, .int .i64 0, .int .i64 0, .int .i64 0, .slice none 0 0, .slice none 0 0, .int .i64 0] s) := Lib.hid ⟨(new0 w 34 zeroL).alloc _, by have := has.new (w.alloc (.cells #[.string ⟨#[]⟩, .int .i64 0, .int .i64 0, .int .i64 0, .int .i64 0, .int .i64 0, .int .i64 0, .int .i64 0, .int .i64 0, .int .i64 0, .int .i64 0, .slice none 0 0, .slice none 0 0, .int .i64 0] 34)) 34 zeroL; simpa using this, RdIn.below h (((Below.refl _ w).alloc (Nat.le_refl _) _).alloc (by simp) _), grown_of_below (((Below.refl _ w).alloc (Nat.le_refl _) _).alloc (by simp) _) _⟩
  clear h
  go_enter Tryd.func35, Tryd.ntmps35
  go_wp2_with fail
  refine (number_at E1.out g _ HS0.out.r).mono ?_; rintro v w1 ⟨rfl, hr, hg⟩
  have HT1 := Lib.hid (HS0.out.call hgl hr hg)
  clear hr hg
  obtain ⟨-, u1, -, -, -, -, -, -, -, -, -, -, -, -, uf⟩ := card14 HT1.out.c
  have HS1 : Hid (CS w g (w1.setCell ⟨w.heap.size + 1, 1, none⟩ (.int .i64 kd)) [.string ⟨#[]⟩, .int .i64 kd, .int .i64 0, .int .i64 0, .int .i64 0, .int .i64 0, .int .i64 0, .int .i64 0, .int .i64 0, .int .i64 0, .int .i64 0, .slice none 0 0, .slice none 0 0, .int .i64 0] s1) := Lib.hid (HT1.out.put hgl 1 _ (.int .i64 0) rfl (by intro x; simp))
  go_wp2_with fail
  clear u1
  refine (number_at E2.out g _ HS1.out.r).mono ?_; rintro v w2 ⟨rfl, hr, hg⟩
  have HT2 := Lib.hid (HS1.out.call hgl hr hg)
  clear hr hg
  clear uf
  obtain ⟨-, -, -, -, -, -, -, -, -, -, -, -, -, u13, uf⟩ := card14 HT2.out.c
  have HS2 : Hid (CS w g (w2.setCell ⟨w.heap.size + 1, 13, none⟩ (.int .i64 ra)) [.string ⟨#[]⟩, .int .i64 kd, .int .i64 0, .int .i64 0, .int .i64 0, .int .i64 0, .int .i64 0, .int .i64 0, .int .i64 0, .int .i64 0, .int .i64 0, .slice none 0 0, .slice none 0 0, .int .i64 ra] s2) := Lib.hid (HT2.out.put hgl 13 _ (.int .i64 0) rfl (by intro x; simp))
  go_wp2_with fail
  clear u13
  refine (number_at E3.out g _ HS2.out.r).mono ?_; rintro v w3 ⟨rfl, hr, hg⟩
  have HT3 := Lib.hid (HS2.out.call hgl hr hg)
  clear hr hg uf
  go_wp2_with fail
  refine (take_at E4.out g _ HT3.out.r).mono ?_; rintro v w4 ⟨sp4, m4, c4, rfl, hb, hr, hg⟩
  have HT4 := Lib.hid (HT3.out.call hgl hr hg)
  have cv := hb.str c4
  clear hb hr hg
  obtain ⟨u0, -, -, -, -, -, -, -, -, -, -, -, -, -, uf⟩ := card14 HT4.out.c
  have HS4 : Hid (CS w g (w4.setCell ⟨w.heap.size + 1, 0, none⟩ (.string (bs nm))) [.string (bs nm), .int .i64 kd, .int .i64 0, .int .i64 0, .int .i64 0, .int .i64 0, .int .i64 0, .int .i64 0, .int .i64 0, .int .i64 0, .int .i64 0, .slice none 0 0, .slice none 0 0, .int .i64 ra] s4) := Lib.hid (HT4.out.put hgl 0 _ (.string ⟨#[]⟩) rfl (by intro x; simp))
  go_wp2_with fail
  clear u0 cv
  refine wp_loop_rounds 5 ?_
  rw [rounds_succ]
  go_wp2_with fail
  refine (number_at E5.out g _ HS4.out.r).mono ?_; rintro v w5 ⟨rfl, hr, hg⟩
  have HT5 := Lib.hid (HS4.out.call hgl hr hg)
  clear hr hg
  clear uf
  obtain ⟨-, -, u2, -, -, -, -, -, -, -, -, -, -, -, uf⟩ := card14 HT5.out.c
  have HS5 : Hid (CS w g (w5.setCell ⟨w.heap.size + 1, 2, none⟩ (.int .i64 a)) [.string (bs nm), .int .i64 kd, .int .i64 a, .int .i64 0, .int .i64 0, .int .i64 0, .int .i64 0, .int .i64 0, .int .i64 0, .int .i64 0, .int .i64 0, .slice none 0 0, .slice none 0 0, .int .i64 ra] s5) := Lib.hid (HT5.out.put hgl 2 _ (.int .i64 0) rfl (by intro x; simp))
  go_wp2_with fail
  clear u2
  rw [rounds_succ]
  go_wp2_with fail
  refine (number_at E6.out g _ HS5.out.r).mono ?_; rintro v w6 ⟨rfl, hr, hg⟩
  have HT6 := Lib.hid (HS5.out.call hgl hr hg)
  clear hr hg
  clear uf
  obtain ⟨-, -, -, u3, -, -, -, -, -, -, -, -, -, -, uf⟩ := card14 HT6.out.c
  have HS6 : Hid (CS w g (w6.setCell ⟨w.heap.size + 1, 3, none⟩ (.int .i64 b)) [.string (bs nm), .int .i64 kd, .int .i64 a, .int .i64 b, .int .i64 0, .int .i64 0, .int .i64 0, .int .i64 0, .int .i64 0, .int .i64 0, .int .i64 0, .slice none 0 0, .slice none 0 0, .int .i64 ra] s6) := Lib.hid (HT6.out.put hgl 3 _ (.int .i64 0) rfl (by intro x; simp))
  go_wp2_with fail
  clear u3
  rw [rounds_succ]
  go_wp2_with fail
  refine (number_at E7.out g _ HS6.out.r).mono ?_; rintro v w7 ⟨rfl, hr, hg⟩
  have HT7 := Lib.hid (HS6.out.call hgl hr hg)
  clear hr hg
  clear uf
  obtain ⟨-, -, -, -, u4, -, -, -, -, -, -, -, -, -, uf⟩ := card14 HT7.out.c
  have HS7 : Hid (CS w g (w7.setCell ⟨w.heap.size + 1, 4, none⟩ (.int .i64 c)) [.string (bs nm), .int .i64 kd, .int .i64 a, .int .i64 b, .int .i64 c, .int .i64 0, .int .i64 0, .int .i64 0, .int .i64 0, .int .i64 0, .int .i64 0, .slice none 0 0, .slice none 0 0, .int .i64 ra] s7) := Lib.hid (HT7.out.put hgl 4 _ (.int .i64 0) rfl (by intro x; simp))
  go_wp2_with fail
  clear u4
  rw [rounds_succ]
  go_wp2_with fail
  refine (number_at E8.out g _ HS7.out.r).mono ?_; rintro v w8 ⟨rfl, hr, hg⟩
  have HT8 := Lib.hid (HS7.out.call hgl hr hg)
  clear hr hg
  clear uf
  obtain ⟨-, -, -, -, -, u5, -, -, -, -, -, -, -, -, uf⟩ := card14 HT8.out.c
  have HS8 : Hid (CS w g (w8.setCell ⟨w.heap.size + 1, 5, none⟩ (.int .i64 d)) [.string (bs nm), .int .i64 kd, .int .i64 a, .int .i64 b, .int .i64 c, .int .i64 d, .int .i64 0, .int .i64 0, .int .i64 0, .int .i64 0, .int .i64 0, .slice none 0 0, .slice none 0 0, .int .i64 ra] s8) := Lib.hid (HT8.out.put hgl 5 _ (.int .i64 0) rfl (by intro x; simp))
  go_wp2_with fail
  clear u5
  rw [rounds_succ]
  go_wp2_with fail
  refine (number_at E9.out g _ HS8.out.r).mono ?_; rintro v w9 ⟨rfl, hr, hg⟩
  have HT9 := Lib.hid (HS8.out.call hgl hr hg)
  clear hr hg
  clear uf
  obtain ⟨-, -, -, -, -, -, u6, -, -, -, -, -, -, -, uf⟩ := card14 HT9.out.c
  have HS9 : Hid (CS w g (w9.setCell ⟨w.heap.size + 1, 6, none⟩ (.int .i64 x)) [.string (bs nm), .int .i64 kd, .int .i64 a, .int .i64 b, .int .i64 c, .int .i64 d, .int .i64 x, .int .i64 0, .int .i64 0, .int .i64 0, .int .i64 0, .slice none 0 0, .slice none 0 0, .int .i64 ra] s9) := Lib.hid (HT9.out.put hgl 6 _ (.int .i64 0) rfl (by intro x; simp))
  go_wp2_with fail
  clear u6
  refine (number_at E10.out g _ HS9.out.r).mono ?_; rintro v w10 ⟨rfl, hr, hg⟩
  have HT10 := Lib.hid (HS9.out.call hgl hr hg)
  clear hr hg
  clear uf
  obtain ⟨-, -, -, -, -, -, -, u7, -, -, -, -, -, -, uf⟩ := card14 HT10.out.c
  have HS10 : Hid (CS w g (w10.setCell ⟨w.heap.size + 1, 7, none⟩ (.int .i64 ml)) [.string (bs nm), .int .i64 kd, .int .i64 a, .int .i64 b, .int .i64 c, .int .i64 d, .int .i64 x, .int .i64 ml, .int .i64 0, .int .i64 0, .int .i64 0, .slice none 0 0, .slice none 0 0, .int .i64 ra] s10) := Lib.hid (HT10.out.put hgl 7 _ (.int .i64 0) rfl (by intro x; simp))
  go_wp2_with fail
  clear u7
  refine (number_at E11.out g _ HS10.out.r).mono ?_; rintro v w11 ⟨rfl, hr, hg⟩
  have HT11 := Lib.hid (HS10.out.call hgl hr hg)
  clear hr hg
  clear uf
  obtain ⟨-, -, -, -, -, -, -, -, u8, -, -, -, -, -, uf⟩ := card14 HT11.out.c
  have HS11 : Hid (CS w g (w11.setCell ⟨w.heap.size + 1, 8, none⟩ (.int .i64 pw)) [.string (bs nm), .int .i64 kd, .int .i64 a, .int .i64 b, .int .i64 c, .int .i64 d, .int .i64 x, .int .i64 ml, .int .i64 pw, .int .i64 0, .int .i64 0, .slice none 0 0, .slice none 0 0, .int .i64 ra] s11) := Lib.hid (HT11.out.put hgl 8 _ (.int .i64 0) rfl (by intro x; simp))
  go_wp2_with fail
  clear u8
  refine (number_at E12.out g _ HS11.out.r).mono ?_; rintro v w12 ⟨rfl, hr, hg⟩
  have HT12 := Lib.hid (HS11.out.call hgl hr hg)
  clear hr hg
  clear uf
  obtain ⟨-, -, -, -, -, -, -, -, -, u9, -, -, -, -, uf⟩ := card14 HT12.out.c
  have HS12 : Hid (CS w g (w12.setCell ⟨w.heap.size + 1, 9, none⟩ (.int .i64 tg)) [.string (bs nm), .int .i64 kd, .int .i64 a, .int .i64 b, .int .i64 c, .int .i64 d, .int .i64 x, .int .i64 ml, .int .i64 pw, .int .i64 tg, .int .i64 0, .slice none 0 0, .slice none 0 0, .int .i64 ra] s12) := Lib.hid (HT12.out.put hgl 9 _ (.int .i64 0) rfl (by intro x; simp))
  go_wp2_with fail
  clear u9
  refine (number_at E13.out g _ HS12.out.r).mono ?_; rintro v w13 ⟨rfl, hr, hg⟩
  have HT13 := Lib.hid (HS12.out.call hgl hr hg)
  clear hr hg
  clear uf
  obtain ⟨-, -, -, -, -, -, -, -, -, -, u10, -, -, -, uf⟩ := card14 HT13.out.c
  have HS13 : Hid (CS w g (w13.setCell ⟨w.heap.size + 1, 10, none⟩ (.int .i64 kw)) [.string (bs nm), .int .i64 kd, .int .i64 a, .int .i64 b, .int .i64 c, .int .i64 d, .int .i64 x, .int .i64 ml, .int .i64 pw, .int .i64 tg, .int .i64 kw, .slice none 0 0, .slice none 0 0, .int .i64 ra] s13) := Lib.hid (HT13.out.put hgl 10 _ (.int .i64 0) rfl (by intro x; simp))
  go_wp2_with fail
  clear u10
  refine (effects_at E14.out g _ HS13.out.r).mono ?_; rintro v w14 ⟨es, en, ec, rfl, he, hr, hg, hfr⟩
  have HT14 := Lib.hid (HS13.out.call hgl hr hg)
  clear hr hg uf
  obtain ⟨-, -, -, -, -, -, -, -, -, -, -, u11, -, -, uf⟩ := card14 HT14.out.c
  have HF14 : Hid (∀ a, es = some a → 0 < en → w.heap.size + 2 ≤ a.block) := Lib.hid (fun a ha _ => by have h1 := hfr a ha; have h2 := HS13.out.c.lt; have h3 : (w13.setCell ⟨w.heap.size + 1, 10, none⟩ (.int .i64 kw)).heap.size = w13.heap.size := (by simp [World.setCell]); omega)
  clear hfr
  have HE14 := Lib.hid (EfsAt.put he ⟨w.heap.size + 1, 11, none⟩ (.slice es en ec) _ u11 (by intro x; simp))
  clear he
  have HS14 : Hid (CS w g (w14.setCell ⟨w.heap.size + 1, 11, none⟩ (.slice es en ec)) [.string (bs nm), .int .i64 kd, .int .i64 a, .int .i64 b, .int .i64 c, .int .i64 d, .int .i64 x, .int .i64 ml, .int .i64 pw, .int .i64 tg, .int .i64 kw, .slice es en ec, .slice none 0 0, .int .i64 ra] s14) := Lib.hid (HT14.out.put hgl 11 _ (.slice none 0 0) rfl (by intro x; simp))
  go_wp2_with fail
  clear u11
  refine (number_at E15.out g _ HS14.out.r).mono ?_; rintro v w15 ⟨rfl, hr, hg⟩
  have HL0 : Hid (LP w g es en ef [.string (bs nm), .int .i64 kd, .int .i64 a, .int .i64 b, .int .i64 c, .int .i64 d, .int .i64 x, .int .i64 ml, .int .i64 pw, .int .i64 tg, .int .i64 kw, .slice es en ec, .slice none 0 0, .int .i64 ra] [] s15 w15 (.slice none 0 0) []) := Lib.hid (by
    obtain ⟨s0, n0, c0, hbx, _, _, _⟩ := HS14.out.r
    exact ⟨HS14.out.call hgl hr hg, World.ownsRow_nil _ _ _ _, ⟨EfsAt.apart HE14.out hbx hg, by simp [Value.ownBlock], HF14.out⟩, rfl, fun j hj => absurd hj (by simp)⟩)
  clear hr hg uf
  go_wp2_with fail
  go_loopw [50] (fun i wr => ∃ (k : Nat) (st : Option Addr) (sc : Nat) (xs : List Tx), k ≤ m ∧ i = .int .i64 k ∧ Hid (LP w g es en ef [.string (bs nm), .int .i64 kd, .int .i64 a, .int .i64 b, .int .i64 c, .int .i64 d, .int .i64 x, .int .i64 ml, .int .i64 pw, .int .i64 tg, .int .i64 kw, .slice es en ec, .slice st k sc, .int .i64 ra] (trL s15 k) (trS s15 k) wr (.slice st k sc) xs)) (fun i _ => m - (intOf i).toNat)
  case atStart => exact ⟨0, none, 0, [], Nat.zero_le _, rfl, HL0⟩
  case round =>
    obtain ⟨k, st, sc, xs, hk, rfl, HL⟩ := hrel
    by_cases hlt : k < m
    · obtain ⟨sa, wv, q1⟩ : ∃ s' x, nb 255 (trS s15 k) = (x, s') := ⟨_, _, rfl⟩
      obtain ⟨sb, le, q2⟩ : ∃ s' x, efR sa = (x, s') := ⟨_, _, rfl⟩
      have HX : Hid (trS s15 (k + 1) = sb ∧ trL s15 (k + 1) = trL s15 k ++ [⟨wv, le⟩]) := Lib.hid (by simp [trS, trL, q1, q2])
      have Q1 := Lib.hid q1
      have Q2 := Lib.hid q2
      have HLen := Lib.hid (trL_len s15 k)
      clear q1 q2
      generalize trL s15 k = tl at *
      generalize trS s15 k = sk at *
      go_wp2_with fail
      refine (number_at Q1.out g _ HL.out.c.r).mono ?_; rintro vv w1 ⟨rfl, hr, hg⟩
      have HL1 := Lib.hid (HL.out.call hgl hr hg)
      clear hr hg
      go_wp2_with fail
      have HL1d := Lib.hid HL1.out.drew
      have u12 : w1.drew.cell? ⟨w.heap.size + 1, 12, none⟩ = some (.slice st k sc) := HL1d.out.c.c.cell 12
      have zb := HL1d.out.c.c.lt
      have HOn : Hid (w1.drew.ownsRow w.heap.size 44 2 (.slice st k sc) k (txC xs)) := Lib.hid (by have := HL1d.out.own; rwa [HLen.out] at this)
      refine wp_region_held_drew (S := (fun _ => True)) (by kernel_rfl) ?_ (fun hH0 => ?_)
      · exact trivial
      refine wpAnyH_take (i := 0) (oi := _) (v := ?_) rfl (by kernel_rfl) (by kernel_rfl) (by kernel_rfl) (fun _ _ _ h => h) (Or.inl ⟨by rfl, ?_⟩) (by assumption) ?_
      rotate_left
      · intro w hSw; (try dsimp only at hSw); first | (go_simp; done) | (go_simp; with_reducible rfl)
      try simp only [go_sem]
      refine wpAnyH_take (i := 2) (oi := _) (v := ?_) rfl (by kernel_rfl) (by kernel_rfl) (by kernel_rfl) (fun _ _ _ h => h) (Or.inl ⟨by rfl, ?_⟩) (by assumption) ?_
      rotate_left
      · intro w hSw; (try dsimp only at hSw); first | (go_simp; done) | (go_simp; with_reducible rfl)
      try simp only [go_sem]
      refine wpAnyH_take (i := 3) (oi := _) (v := ?_) rfl (by kernel_rfl) (by kernel_rfl) (by kernel_rfl) (fun _ _ _ h => h) (Or.inl ⟨by rfl, ?_⟩) (by assumption) ?_
      rotate_left
      · intro w hSw; (try dsimp only at hSw); first | (go_simp; done) | (go_simp; with_reducible rfl)
      try simp only [go_sem]
      refine wpAnyH_ready (rs := [1, 4]) (by kernel_rfl) (by simp) ?_
      refine AllReadyH.cons (o := _) rfl (fun K hK => ?_) (AllReadyH.cons (o := _) rfl (fun K hK => ?_) AllReadyH.nil)
      · go_simp
        refine hK.out _ _ ?_ (fun hH1 => ?_)
        · exact trivial
        clear hK K hH0
        try simp only [go_sem]
        refine wpAnyH_ready (rs := [4]) (by kernel_rfl) (by simp) ?_
        refine AllReadyH.cons (o := _) rfl (fun K hK => ?_) AllReadyH.nil
        go_simp; refine (effects_at Q2.out g _ HL1d.out.c.r).mono ?_; rintro vv w2 ⟨sp2, n2, c2, rfl, he, hr, hg, hfr⟩; have HL2 := Lib.hid (HL1d.out.call hgl hr hg); have HE2 : Hid (EfsX w2 (w.heap.size + 2) (Value.slice st k sc).ownBlock sp2 n2 le) := Lib.hid ⟨he, (fun a ha _ q => by have h1 := hfr a ha; have h2 := (HL1d.out.own.lt _ q).2; omega), fun a ha _ => by have h1 := hfr a ha; have h2 := HL1d.out.c.c.lt; omega⟩; have u13 : w2.cell? ⟨w.heap.size + 1, 12, none⟩ = some (.slice st k sc) := HL2.out.c.c.cell 12; have u14 : (w2.alloc (.cells #[.int .i64 wv, .slice sp2 n2 c2] 44)).cell? ⟨w.heap.size + 1, 12, none⟩ = some (.slice st k sc) := (HL2.out.c.c.alloc _).cell 12; have zc := HL2.out.c.c.lt; clear he hr hg hfr
        refine hK.out _ _ ?_ (fun hH2 => ?_)
        · exact trivial
        clear hK K hH1
        try simp only [go_sem]
        refine wpAnyH_take (i := 5) (oi := _) (v := ?_) rfl (by kernel_rfl) (by kernel_rfl) (by kernel_rfl) (fun _ _ _ h => h) (Or.inl ⟨by rfl, ?_⟩) (by assumption) ?_
        rotate_left
        · intro w hSw; (try dsimp only at hSw); first | (go_simp; done) | (go_simp; with_reducible rfl)
        try simp only [go_sem]
        refine wpAnyH_ready (rs := [6]) (by kernel_rfl) (by simp) ?_
        refine AllReadyH.cons (o := _) rfl (fun K hK => ?_) AllReadyH.nil
        go_simp
        refine hK.out _ _ ?_ (fun hH3 => ?_)
        · exact trivial
        clear hK K hH2
        try simp only [go_sem]
        refine wpAnyH_ready (rs := [7]) (by kernel_rfl) (by simp) ?_
        refine AllReadyH.cons (o := _) rfl (fun K hK => ?_) AllReadyH.nil
        refine step_append_lies _ (by rfl) _ _ _ (by rfl) w.heap.size 44 i0 (.agg #[.int .i64 0, .slice none 0 0]) 2 32 Tryd.underlying32 hi hz0 hz1 hz2 rfl (by omega) (.slice st k sc) k (txC xs) (by rfl) (by have := (HL2.out.own.alloc (.cells #[.int .i64 wv, .slice sp2 n2 c2] 44)); rw [HLen.out] at this; exact this) ⟨w2.heap.size, 0, none⟩ 1 1 [.int .i64 wv, .slice sp2 n2 c2] (by rfl) (by rfl) (World.news_of_block (cs := #[.int .i64 wv, .slice sp2 n2 c2]) (t := 44) (fr := (0, 0)) (heap_alloc_new w2 _)) (by simp [Value.oneCell']) (by omega) (by unfold maxLen; omega) (by omega) (by have := HL2.out.c.b.size; simp; omega) (w2.heap.size + 1) (by simp) ?_; intro g5 cap5 w5 hown hgrow hat _; have HA := Lib.hid (LP.alloc HL2.out (.cells #[.int .i64 wv, .slice sp2 n2 c2] 44)); have hc5 := own_has' hgrow HA.out.own HA.out.c.c (by decide); have u15 : w5.cell? ⟨w.heap.size + 1, 12, none⟩ = some (.slice st k sc) := hc5.cell 12; have f15 : w5.frozen? ⟨w.heap.size + 1, 12, none⟩ = false := hc5.free 12; have HP5 := Lib.hid (LP.app (t := ⟨wv, le⟩) (x := ⟨wv, sp2, n2, c2⟩) HA.out hgl rfl (HE2.out.alloc _) (by rw [HLen.out]; exact hown) hgrow (by simpa using hat) ⟨.slice st k sc, rfl, by intro y; simp, by intro y; simp⟩); clear hown hgrow hat hc5
        refine hK.out _ _ ?_ (fun hH4 => ?_)
        · exact trivial
        clear hK K hH3
        try simp only [go_sem]
        refine wpAnyH_take (i := 8) (oi := _) (v := ?_) rfl (by kernel_rfl) (by kernel_rfl) (by kernel_rfl) (fun _ _ _ h => h) (Or.inl ⟨by rfl, ?_⟩) (by assumption) ?_
        rotate_left
        · intro w hSw; (try dsimp only at hSw); first | (go_simp; done) | (go_simp; with_reducible rfl)
        try simp only [go_sem]
        refine wpAnyH_ready (rs := [9]) (by kernel_rfl) (by simp) ?_
        refine AllReadyH.cons (o := _) rfl (fun K hK => ?_) AllReadyH.nil
        go_simp
        refine hK.out _ _ ?_ (fun hH5 => ?_)
        · exact trivial
        clear hK K hH4
        try simp only [go_sem]
        refine wpAnyH_done (by kernel_rfl) ?_ _
        have HP6 := HP5.out
        rw [HLen.out] at HP6
        have HP7 := Lib.hid HP6
        clear HP6 u15 f15
        go_wp2_with fail
        exact ⟨⟨k + 1, _, _, _, by omega, by go_num, Lib.hid (by rw [HX.out.1, HX.out.2]; exact HP7.out)⟩, by simp [intOf]; omega⟩
      · go_simp; refine (effects_at Q2.out g _ HL1d.out.c.r).mono ?_; rintro vv w2 ⟨sp2, n2, c2, rfl, he, hr, hg, hfr⟩; have HL2 := Lib.hid (HL1d.out.call hgl hr hg); have HE2 : Hid (EfsX w2 (w.heap.size + 2) (Value.slice st k sc).ownBlock sp2 n2 le) := Lib.hid ⟨he, (fun a ha _ q => by have h1 := hfr a ha; have h2 := (HL1d.out.own.lt _ q).2; omega), fun a ha _ => by have h1 := hfr a ha; have h2 := HL1d.out.c.c.lt; omega⟩; have u13 : w2.cell? ⟨w.heap.size + 1, 12, none⟩ = some (.slice st k sc) := HL2.out.c.c.cell 12; have u14 : (w2.alloc (.cells #[.int .i64 wv, .slice sp2 n2 c2] 44)).cell? ⟨w.heap.size + 1, 12, none⟩ = some (.slice st k sc) := (HL2.out.c.c.alloc _).cell 12; have zc := HL2.out.c.c.lt; clear he hr hg hfr
        refine hK.out _ _ ?_ (fun hH1 => ?_)
        · exact trivial
        clear hK K hH0
        try simp only [go_sem]
        refine wpAnyH_take (i := 5) (oi := _) (v := ?_) rfl (by kernel_rfl) (by kernel_rfl) (by kernel_rfl) (fun _ _ _ h => h) (Or.inl ⟨by rfl, ?_⟩) (by assumption) ?_
        rotate_left
        · intro w hSw; (try dsimp only at hSw); first | (go_simp; done) | (go_simp; with_reducible rfl)
        try simp only [go_sem]
        refine wpAnyH_ready (rs := [1, 6]) (by kernel_rfl) (by simp) ?_
        refine AllReadyH.cons (o := _) rfl (fun K hK => ?_) (AllReadyH.cons (o := _) rfl (fun K hK => ?_) AllReadyH.nil)
        · go_simp
          refine hK.out _ _ ?_ (fun hH2 => ?_)
          · exact trivial
          clear hK K hH1
          try simp only [go_sem]
          refine wpAnyH_ready (rs := [6]) (by kernel_rfl) (by simp) ?_
          refine AllReadyH.cons (o := _) rfl (fun K hK => ?_) AllReadyH.nil
          go_simp
          refine hK.out _ _ ?_ (fun hH3 => ?_)
          · exact trivial
          clear hK K hH2
          try simp only [go_sem]
          refine wpAnyH_ready (rs := [7]) (by kernel_rfl) (by simp) ?_
          refine AllReadyH.cons (o := _) rfl (fun K hK => ?_) AllReadyH.nil
          refine step_append_lies _ (by rfl) _ _ _ (by rfl) w.heap.size 44 i0 (.agg #[.int .i64 0, .slice none 0 0]) 2 32 Tryd.underlying32 hi hz0 hz1 hz2 rfl (by omega) (.slice st k sc) k (txC xs) (by rfl) (by have := (HL2.out.own.alloc (.cells #[.int .i64 wv, .slice sp2 n2 c2] 44)); rw [HLen.out] at this; exact this) ⟨w2.heap.size, 0, none⟩ 1 1 [.int .i64 wv, .slice sp2 n2 c2] (by rfl) (by rfl) (World.news_of_block (cs := #[.int .i64 wv, .slice sp2 n2 c2]) (t := 44) (fr := (0, 0)) (heap_alloc_new w2 _)) (by simp [Value.oneCell']) (by omega) (by unfold maxLen; omega) (by omega) (by have := HL2.out.c.b.size; simp; omega) (w2.heap.size + 1) (by simp) ?_; intro g5 cap5 w5 hown hgrow hat _; have HA := Lib.hid (LP.alloc HL2.out (.cells #[.int .i64 wv, .slice sp2 n2 c2] 44)); have hc5 := own_has' hgrow HA.out.own HA.out.c.c (by decide); have u15 : w5.cell? ⟨w.heap.size + 1, 12, none⟩ = some (.slice st k sc) := hc5.cell 12; have f15 : w5.frozen? ⟨w.heap.size + 1, 12, none⟩ = false := hc5.free 12; have HP5 := Lib.hid (LP.app (t := ⟨wv, le⟩) (x := ⟨wv, sp2, n2, c2⟩) HA.out hgl rfl (HE2.out.alloc _) (by rw [HLen.out]; exact hown) hgrow (by simpa using hat) ⟨.slice st k sc, rfl, by intro y; simp, by intro y; simp⟩); clear hown hgrow hat hc5
          refine hK.out _ _ ?_ (fun hH4 => ?_)
          · exact trivial
          clear hK K hH3
          try simp only [go_sem]
          refine wpAnyH_take (i := 8) (oi := _) (v := ?_) rfl (by kernel_rfl) (by kernel_rfl) (by kernel_rfl) (fun _ _ _ h => h) (Or.inl ⟨by rfl, ?_⟩) (by assumption) ?_
          rotate_left
          · intro w hSw; (try dsimp only at hSw); first | (go_simp; done) | (go_simp; with_reducible rfl)
          try simp only [go_sem]
          refine wpAnyH_ready (rs := [9]) (by kernel_rfl) (by simp) ?_
          refine AllReadyH.cons (o := _) rfl (fun K hK => ?_) AllReadyH.nil
          go_simp
          refine hK.out _ _ ?_ (fun hH5 => ?_)
          · exact trivial
          clear hK K hH4
          try simp only [go_sem]
          refine wpAnyH_done (by kernel_rfl) ?_ _
          have HP6 := HP5.out
          rw [HLen.out] at HP6
          have HP7 := Lib.hid HP6
          clear HP6 u15 f15
          go_wp2_with fail
          exact ⟨⟨k + 1, _, _, _, by omega, by go_num, Lib.hid (by rw [HX.out.1, HX.out.2]; exact HP7.out)⟩, by simp [intOf]; omega⟩
        · go_simp
          refine hK.out _ _ ?_ (fun hH2 => ?_)
          · exact trivial
          clear hK K hH1
          try simp only [go_sem]
          refine wpAnyH_ready (rs := [1]) (by kernel_rfl) (by simp) ?_
          refine AllReadyH.cons (o := _) rfl (fun K hK => ?_) AllReadyH.nil
          go_simp
          refine hK.out _ _ ?_ (fun hH3 => ?_)
          · exact trivial
          clear hK K hH2
          try simp only [go_sem]
          refine wpAnyH_ready (rs := [7]) (by kernel_rfl) (by simp) ?_
          refine AllReadyH.cons (o := _) rfl (fun K hK => ?_) AllReadyH.nil
          refine step_append_lies _ (by rfl) _ _ _ (by rfl) w.heap.size 44 i0 (.agg #[.int .i64 0, .slice none 0 0]) 2 32 Tryd.underlying32 hi hz0 hz1 hz2 rfl (by omega) (.slice st k sc) k (txC xs) (by rfl) (by have := (HL2.out.own.alloc (.cells #[.int .i64 wv, .slice sp2 n2 c2] 44)); rw [HLen.out] at this; exact this) ⟨w2.heap.size, 0, none⟩ 1 1 [.int .i64 wv, .slice sp2 n2 c2] (by rfl) (by rfl) (World.news_of_block (cs := #[.int .i64 wv, .slice sp2 n2 c2]) (t := 44) (fr := (0, 0)) (heap_alloc_new w2 _)) (by simp [Value.oneCell']) (by omega) (by unfold maxLen; omega) (by omega) (by have := HL2.out.c.b.size; simp; omega) (w2.heap.size + 1) (by simp) ?_; intro g5 cap5 w5 hown hgrow hat _; have HA := Lib.hid (LP.alloc HL2.out (.cells #[.int .i64 wv, .slice sp2 n2 c2] 44)); have hc5 := own_has' hgrow HA.out.own HA.out.c.c (by decide); have u15 : w5.cell? ⟨w.heap.size + 1, 12, none⟩ = some (.slice st k sc) := hc5.cell 12; have f15 : w5.frozen? ⟨w.heap.size + 1, 12, none⟩ = false := hc5.free 12; have HP5 := Lib.hid (LP.app (t := ⟨wv, le⟩) (x := ⟨wv, sp2, n2, c2⟩) HA.out hgl rfl (HE2.out.alloc _) (by rw [HLen.out]; exact hown) hgrow (by simpa using hat) ⟨.slice st k sc, rfl, by intro y; simp, by intro y; simp⟩); clear hown hgrow hat hc5
          refine hK.out _ _ ?_ (fun hH4 => ?_)
          · exact trivial
          clear hK K hH3
          try simp only [go_sem]
          refine wpAnyH_take (i := 8) (oi := _) (v := ?_) rfl (by kernel_rfl) (by kernel_rfl) (by kernel_rfl) (fun _ _ _ h => h) (Or.inl ⟨by rfl, ?_⟩) (by assumption) ?_
          rotate_left
          · intro w hSw; (try dsimp only at hSw); first | (go_simp; done) | (go_simp; with_reducible rfl)
          try simp only [go_sem]
          refine wpAnyH_ready (rs := [9]) (by kernel_rfl) (by simp) ?_
          refine AllReadyH.cons (o := _) rfl (fun K hK => ?_) AllReadyH.nil
          go_simp
          refine hK.out _ _ ?_ (fun hH5 => ?_)
          · exact trivial
          clear hK K hH4
          try simp only [go_sem]
          refine wpAnyH_done (by kernel_rfl) ?_ _
          have HP6 := HP5.out
          rw [HLen.out] at HP6
          have HP7 := Lib.hid HP6
          clear HP6 u15 f15
          go_wp2_with fail
          exact ⟨⟨k + 1, _, _, _, by omega, by go_num, Lib.hid (by rw [HX.out.1, HX.out.2]; exact HP7.out)⟩, by simp [intOf]; omega⟩
    · obtain rfl : k = m := by omega
      obtain ⟨p0, p1, p2, p3, p4, p5, p6, p7, p8, p9, pa, pb, pc, pd, pf⟩ := card14 HL.out.c.c
      obtain ⟨y0, y1, y2, y3, y4, y5, y6, y7, y8, y9, ya, yb, yc, yd, yf⟩ := card14 HL.out.c.a
      go_wp2_with fail
      have RR : has ((((((((((((((wr.setCell ⟨w.heap.size, 0, none⟩ (.string (bs nm))).setCell ⟨w.heap.size, 1, none⟩ (.int .i64 kd)).setCell ⟨w.heap.size, 2, none⟩ (.int .i64 a)).setCell ⟨w.heap.size, 3, none⟩ (.int .i64 b)).setCell ⟨w.heap.size, 4, none⟩ (.int .i64 c)).setCell ⟨w.heap.size, 5, none⟩ (.int .i64 d)).setCell ⟨w.heap.size, 6, none⟩ (.int .i64 x)).setCell ⟨w.heap.size, 7, none⟩ (.int .i64 ml)).setCell ⟨w.heap.size, 8, none⟩ (.int .i64 pw)).setCell ⟨w.heap.size, 9, none⟩ (.int .i64 tg)).setCell ⟨w.heap.size, 10, none⟩ (.int .i64 kw)).setCell ⟨w.heap.size, 11, none⟩ (.slice es en ec)).setCell ⟨w.heap.size, 12, none⟩ (.slice st k sc)).setCell ⟨w.heap.size, 13, none⟩ (.int .i64 ra)) w.heap.size 34 (cL (bs nm) kd a b c d x ml pw tg kw es en ec st k sc ra) := ((((((((((((((HL.out.c.a.put 0 (.string (bs nm))).put 1 (.int .i64 kd)).put 2 (.int .i64 a)).put 3 (.int .i64 b)).put 4 (.int .i64 c)).put 5 (.int .i64 d)).put 6 (.int .i64 x)).put 7 (.int .i64 ml)).put 8 (.int .i64 pw)).put 9 (.int .i64 tg)).put 10 (.int .i64 kw)).put 11 (.slice es en ec)).put 12 (.slice st k sc)).put 13 (.int .i64 ra))
      have RG : wr.grownBy ((((((((((((((wr.setCell ⟨w.heap.size, 0, none⟩ (.string (bs nm))).setCell ⟨w.heap.size, 1, none⟩ (.int .i64 kd)).setCell ⟨w.heap.size, 2, none⟩ (.int .i64 a)).setCell ⟨w.heap.size, 3, none⟩ (.int .i64 b)).setCell ⟨w.heap.size, 4, none⟩ (.int .i64 c)).setCell ⟨w.heap.size, 5, none⟩ (.int .i64 d)).setCell ⟨w.heap.size, 6, none⟩ (.int .i64 x)).setCell ⟨w.heap.size, 7, none⟩ (.int .i64 ml)).setCell ⟨w.heap.size, 8, none⟩ (.int .i64 pw)).setCell ⟨w.heap.size, 9, none⟩ (.int .i64 tg)).setCell ⟨w.heap.size, 10, none⟩ (.int .i64 kw)).setCell ⟨w.heap.size, 11, none⟩ (.slice es en ec)).setCell ⟨w.heap.size, 12, none⟩ (.slice st k sc)).setCell ⟨w.heap.size, 13, none⟩ (.int .i64 ra)) (some w.heap.size) := (grown_trans (grown_trans (grown_trans (grown_trans (grown_trans (grown_trans (grown_trans (grown_trans (grown_trans (grown_trans (grown_trans (grown_trans (grown_trans (grown_trans (grown_refl wr (some w.heap.size)) (grown_set _ ⟨w.heap.size, 0, none⟩ (.string (bs nm)))) (grown_set _ ⟨w.heap.size, 1, none⟩ (.int .i64 kd))) (grown_set _ ⟨w.heap.size, 2, none⟩ (.int .i64 a))) (grown_set _ ⟨w.heap.size, 3, none⟩ (.int .i64 b))) (grown_set _ ⟨w.heap.size, 4, none⟩ (.int .i64 c))) (grown_set _ ⟨w.heap.size, 5, none⟩ (.int .i64 d))) (grown_set _ ⟨w.heap.size, 6, none⟩ (.int .i64 x))) (grown_set _ ⟨w.heap.size, 7, none⟩ (.int .i64 ml))) (grown_set _ ⟨w.heap.size, 8, none⟩ (.int .i64 pw))) (grown_set _ ⟨w.heap.size, 9, none⟩ (.int .i64 tg))) (grown_set _ ⟨w.heap.size, 10, none⟩ (.int .i64 kw))) (grown_set _ ⟨w.heap.size, 11, none⟩ (.slice es en ec))) (grown_set _ ⟨w.heap.size, 12, none⟩ (.slice st k sc))) (grown_set _ ⟨w.heap.size, 13, none⟩ (.int .i64 ra)))
      obtain ⟨F, hF⟩ : ∃ F, ((((((((((((((wr.setCell ⟨w.heap.size, 0, none⟩ (.string (bs nm))).setCell ⟨w.heap.size, 1, none⟩ (.int .i64 kd)).setCell ⟨w.heap.size, 2, none⟩ (.int .i64 a)).setCell ⟨w.heap.size, 3, none⟩ (.int .i64 b)).setCell ⟨w.heap.size, 4, none⟩ (.int .i64 c)).setCell ⟨w.heap.size, 5, none⟩ (.int .i64 d)).setCell ⟨w.heap.size, 6, none⟩ (.int .i64 x)).setCell ⟨w.heap.size, 7, none⟩ (.int .i64 ml)).setCell ⟨w.heap.size, 8, none⟩ (.int .i64 pw)).setCell ⟨w.heap.size, 9, none⟩ (.int .i64 tg)).setCell ⟨w.heap.size, 10, none⟩ (.int .i64 kw)).setCell ⟨w.heap.size, 11, none⟩ (.slice es en ec)).setCell ⟨w.heap.size, 12, none⟩ (.slice st k sc)).setCell ⟨w.heap.size, 13, none⟩ (.int .i64 ra)) = F := ⟨_, rfl⟩
      rw [hF] at RR RG ⊢
      clear hF
      have hlen := trL_len s15 k
      obtain ⟨sp', c', hv, hcd, hle, hrd, hgw, hfar⟩ := HL.out.fin hgl RG (by rw [hlen]; omega) (trL_ok s15 k)
      rw [hlen] at hv hcd hle hfar
      cases hv
      obtain ⟨k0, k1, k2, k3, k4, k5, k6, k7, k8, k9, ka, kb, kc, kk, kf⟩ := card14 RR
      refine bodyPost_ret (v := cV (bs nm) kd a b c d x ml pw tg kw es en ec st k sc ra) (by simp [results, Tryd.results35, go_sem, k0, k1, k2, k3, k4, k5, k6, k7, k8, k9, ka, kb, kc, kk]) rfl ?_
      exact ⟨_, _, es, en, ec, st, k, sc, HRD.out, rfl, hcd, hle, hrd, hgw, hfar⟩
end Go.Proofs.YtkappnnoienhnaaDoor.caFn
