/- The walk of the theorem of stage 1. -/
import Derived.Test.YtgnmiifkafedjaaSatFn2
namespace Go.Proofs.Ytgnmiifkafedjaa.satFn
open Go.ChangeShapes Go.WideShapes Go.ChangeAt Go.RowKit
set_option linter.unusedVariables false

theorem two (n : Nat) (x y : Int) (w : World) (hn : n = w.heap.size) (k : Nat) (hk : k < 2) : (w.alloc (.cells #[.int .i64 x, .int .i64 y] 3)).cell? ⟨n, 0 + k, none⟩ = some (.int .i64 ([x, y].getD k 0)) := by
  subst hn
  match k, hk with
  | 0, _ => go_simp; done
  | 1, _ => go_simp; done
theorem two_in (x y : Int) (hx : -9223372036854775808 ≤ x ∧ x ≤ 9223372036854775807) (hy : -9223372036854775808 ≤ y ∧ y ≤ 9223372036854775807) (k : Nat) (hk : k < 2) : -9223372036854775808 ≤ [x, y].getD k 0 ∧ [x, y].getD k 0 ≤ 9223372036854775807 := by
  match k, hk with
  | 0, _ => exact hx
  | 1, _ => exact hy
theorem Sum2 (n : Nat) (x y m : Int) (w : World) (hn : n = w.heap.size) (hx : -9223372036854775808 ≤ x ∧ x ≤ 9223372036854775807) (hy : -9223372036854775808 ≤ y ∧ y ≤ 9223372036854775807) (m0 : -9223372036854775808 ≤ m) (m1 : m ≤ 9223372036854775807) :
    Calls Try.prog 20 #[.slice (some ⟨n, 0, none⟩) 2 2, .int .i64 m] (w.alloc (.cells #[.int .i64 x, .int .i64 y] 3)) fun e w' => e = .returned (.int .i64 (su [x, y] m 2)) ∧ w.alloc (.cells #[.int .i64 x, .int .i64 y] 3) = w' :=
  Sum_any _ 0 2 2 [x, y] m _ (by omega) m0 m1 (two n x y w hn) (two_in x y hx hy)

theorem five (n : Nat) (x y z c s : Int) (o : Obj) (w : World) (hn : n = w.heap.size + 1) (k : Nat) (hk : k < 5) :
    ((w.alloc o).alloc (.cells #[.int .i64 x, .int .i64 y, .int .i64 z, .int .i64 c, .int .i64 s] 3)).cell? ⟨n, k, none⟩ = some (.int .i64 ([x, y, z, c, s].getD k 0)) := by
  subst hn
  match k, hk with
  | 0, _ => go_simp; done
  | 1, _ => go_simp; done
  | 2, _ => go_simp; done
  | 3, _ => go_simp; done
  | 4, _ => go_simp; done
theorem five_in (x y z c s m : Int) (hx : 0 ≤ x ∧ x ≤ max 0 m) (hy : 0 ≤ y ∧ y ≤ max 0 m) (hz : 0 ≤ z ∧ z ≤ max 0 m) (hc : 0 ≤ c ∧ c ≤ max 0 m) (hs : 0 ≤ s ∧ s ≤ max 0 m) (k : Nat) (hk : k < 5) : 0 ≤ [x, y, z, c, s].getD k 0 ∧ [x, y, z, c, s].getD k 0 ≤ max 0 m := by
  match k, hk with
  | 0, _ => exact hx
  | 1, _ => exact hy
  | 2, _ => exact hz
  | 3, _ => exact hc
  | 4, _ => exact hs

theorem grown_trans {a b c : World} (h1 : Grown a b) (h2 : Grown b c) : Grown a c :=
  ⟨World.keptBut_trans h1.1 h2.1, fun x => (h2.2.1 x).trans (h1.2.1 x), Nat.le_trans h1.2.2 h2.2.2⟩
theorem grown2 {w w' : World} {c d : Array Value} {t u : TypeId} (h : Grown ((w.alloc (.cells c t)).alloc (.cells d u)) w') : Grown w w' :=
  grown_trans (((Grown.refl w).alloc c t).alloc d u) h
/- what a call with these three numbers returns -/
def Gives3 (f : FuncId) (a b m r : Int) : Prop := ∀ w : World, Calls Try.prog f #[.int .i64 a, .int .i64 b, .int .i64 m] w fun e w' => e = .returned (.int .i64 r) ∧ w = w'

set_option maxRecDepth 100000 in
set_option maxHeartbeats 4000000 in
theorem core (a b m x y z c s d u : Int) (w : World) (a0 : -9223372036854775808 ≤ a) (a1 : a ≤ 9223372036854775807) (b0 : -9223372036854775808 ≤ b) (b1 : b ≤ 9223372036854775807) (m0 : -9223372036854775808 ≤ m) (m1 : m ≤ 9223372036854775807)
    (hx : 0 ≤ x ∧ x ≤ max 0 m) (hy : 0 ≤ y ∧ y ≤ max 0 m) (hz : 0 ≤ z ∧ z ≤ max 0 m) (hc : 0 ≤ c ∧ c ≤ max 0 m) (hs : 0 ≤ s ∧ s ≤ max 0 m) (d0 : 0 ≤ d) (d1 : d ≤ 9223372036854775807)
    (A : Gives3 11 a b m x) (A' : Gives3 11 b a m x) (S : Gives3 14 a b m y) (T : Gives3 16 a b m z) (T' : Gives3 16 b a m z)
    (D : Gives3 18 a b m d) (D' : Gives3 18 b a m d) (U : Gives3 14 x b m u)
    (C : Hid (∀ w : World, Calls Try.prog 9 #[.int .i64 a, .int .i64 m] w fun e w' => e = .returned (.int .i64 c) ∧ w = w'))
    (M : Hid (∀ (n : Nat) (w : World), n = w.heap.size → Calls Try.prog 20 #[.slice (some ⟨n, 0, none⟩) 2 2, .int .i64 m] (w.alloc (.cells #[.int .i64 a, .int .i64 b] 3)) fun e w' => e = .returned (.int .i64 s) ∧ w.alloc (.cells #[.int .i64 a, .int .i64 b] 3) = w'))
    (hsum : Hid (0 ≤ a + b → a + b ≤ 9223372036854775807 → x + d = a + b)) (hneg : Hid (a + b < 0 → x = 0 ∧ d = 0)) (hu : Hid (0 ≤ a → 0 ≤ b → d = 0 → u = a)) :
    Calls Try.prog 8 #[.int .i64 a, .int .i64 b, .int .i64 m] w fun e w' => e = .returned (.bool true) ∧ Grown w w' := by
  have HC := fun (o : Obj) (w : World) (k : Nat) (hk : k < 5) => five (w.heap.size + 1) x y z c s o w rfl k hk
  have HB := five_in x y z c s m hx hy hz hc hs
  have H5 := Lib.hid HC; have H6 := Lib.hid HB
  clear HC HB
  obtain ⟨x0, x1⟩ := hx
  clear hy hz hc hs
  by_cases hm : 0 < m
  all_goals
    go_enter Try.func8, Try.ntmps8
    go_wp2_with fail
    refine (A _).mono ?_; rintro e w' ⟨rfl, rfl⟩
    go_wp2_with fail
    refine (S _).mono ?_; rintro e w' ⟨rfl, rfl⟩
    go_wp2_with fail
    refine (T _).mono ?_; rintro e w' ⟨rfl, rfl⟩
    go_wp2_with fail
    refine (C.out _).mono ?_; rintro e w' ⟨rfl, rfl⟩
    go_wp2_with fail
    refine (M.out _ _ (by simp)).mono ?_; rintro e w' ⟨rfl, rfl⟩
    go_wp2_with fail
    go_loop [42] (fun i => ∃ k : Nat, k ≤ 5 ∧ i = .int .i64 k) (fun i => 5 - (intOf i).toNat)
    case atStart => exact ⟨0, Nat.zero_le _, rfl⟩
    case round =>
      obtain ⟨k, hk, rfl⟩ := hrel
      by_cases hlt : k < 5
      · have hcell := H5.out (.cells #[.int .i64 a, .int .i64 b] 3) w k hlt
        obtain ⟨v0, v1⟩ := H6.out k hlt
        generalize [x, y, z, c, s].getD k 0 = v at *
        go_wp2
        go_round
        case rel => exact ⟨k + 1, by omega, by go_num⟩
        case measure => simp [intOf]; omega
      · obtain rfl : k = 5 := by omega
        go_wp2_with fail
        refine (A' _).mono ?_; rintro e w' ⟨rfl, rfl⟩
        go_wp2_with fail
        refine (T' _).mono ?_; rintro e w' ⟨rfl, rfl⟩
        go_wp2_with fail
        refine (D' _).mono ?_; rintro e w' ⟨rfl, rfl⟩
        go_wp2_with fail
        refine (D _).mono ?_; rintro e w' ⟨rfl, rfl⟩
        by_cases h1 : -1152921504606846976 < a ∧ a < 1152921504606846976 ∧ -1152921504606846976 < b ∧ b < 1152921504606846976 ∧ m < 1152921504606846976
        · obtain ⟨c1, c2, c3, c4, c5⟩ := h1
          go_wp2_with fail
          refine (D _).mono ?_; rintro e w' ⟨rfl, rfl⟩
          by_cases hab : 0 ≤ a + b
          · have hxd := hsum.out hab (by omega)
            have d2 : d ≤ a + b := by omega
            have hne : (x + d != a + b) = false := by rw [bne_eq_false_iff_eq]; exact hxd
            clear hxd
            by_cases ha : 0 ≤ a ∧ 0 ≤ b ∧ d = 0
            · obtain ⟨ha, hb, hd⟩ := ha
              have hua : (u != a) = false := by rw [bne_eq_false_iff_eq]; exact hu.out ha hb hd
              have hd' : (d == 0) = true := by rw [beq_iff_eq]; exact hd
              clear hd
              go_wp2_with fail
              refine (U _).mono ?_; rintro e w' ⟨rfl, rfl⟩
              go_wp2_with fail
              refine (known_any _).mono ?_; rintro e w' ⟨rfl, hg⟩
              go_wp2
              go_ret
              exact ⟨rfl, grown2 hg⟩
            · by_cases ha0 : 0 ≤ a
              · by_cases hb0 : 0 ≤ b
                · have hd : (d == 0) = false := by rw [beq_eq_false_iff_ne]; omega
                  clear ha
                  go_wp2_with fail
                  refine (known_any _).mono ?_; rintro e w' ⟨rfl, hg⟩
                  go_wp2
                  go_ret
                  exact ⟨rfl, grown2 hg⟩
                · clear ha
                  go_wp2_with fail
                  refine (known_any _).mono ?_; rintro e w' ⟨rfl, hg⟩
                  go_wp2
                  go_ret
                  exact ⟨rfl, grown2 hg⟩
              · clear ha
                go_wp2_with fail
                refine (known_any _).mono ?_; rintro e w' ⟨rfl, hg⟩
                go_wp2
                go_ret
                exact ⟨rfl, grown2 hg⟩
          · have hxz : (x != 0) = false := by rw [bne_eq_false_iff_eq]; exact (hneg.out (by omega)).1
            have hdz : (d != 0) = false := by rw [bne_eq_false_iff_eq]; exact (hneg.out (by omega)).2
            have hdz' : (d == 0) = true := by rw [beq_iff_eq]; exact (hneg.out (by omega)).2
            have hx9 : x ≤ 0 := by have := hneg.out (by omega); omega
            have hd9 : d ≤ 0 := by have := hneg.out (by omega); omega
            by_cases ha0 : 0 ≤ a
            · go_wp2_with fail
              refine (known_any _).mono ?_; rintro e w' ⟨rfl, hg⟩
              go_wp2
              go_ret
              exact ⟨rfl, grown2 hg⟩
            · go_wp2_with fail
              refine (known_any _).mono ?_; rintro e w' ⟨rfl, hg⟩
              go_wp2
              go_ret
              exact ⟨rfl, grown2 hg⟩
        · by_cases c1 : -1152921504606846976 < a
          · by_cases c2 : a < 1152921504606846976
            · by_cases c3 : -1152921504606846976 < b
              · by_cases c4 : b < 1152921504606846976
                · have c5 : ¬ m < 1152921504606846976 := by omega
                  clear h1
                  go_wp2_with fail
                  all_goals (refine (known_any _).mono ?_; rintro e w' ⟨rfl, hg⟩; go_wp2; go_ret; exact ⟨rfl, grown2 hg⟩)
                · clear h1
                  go_wp2_with fail
                  refine (known_any _).mono ?_; rintro e w' ⟨rfl, hg⟩
                  go_wp2
                  go_ret
                  exact ⟨rfl, grown2 hg⟩
              · clear h1
                go_wp2_with fail
                refine (known_any _).mono ?_; rintro e w' ⟨rfl, hg⟩
                go_wp2
                go_ret
                exact ⟨rfl, grown2 hg⟩
            · clear h1
              go_wp2_with fail
              refine (known_any _).mono ?_; rintro e w' ⟨rfl, hg⟩
              go_wp2
              go_ret
              exact ⟨rfl, grown2 hg⟩
          · clear h1
            go_wp2_with fail
            refine (known_any _).mono ?_; rintro e w' ⟨rfl, hg⟩
            go_wp2
            go_ret
            exact ⟨rfl, grown2 hg⟩

theorem two_sum (a b m : Int) (a0 : -9223372036854775808 ≤ a) (a1 : a ≤ 9223372036854775807) (b0 : -9223372036854775808 ≤ b) (b1 : b ≤ 9223372036854775807) (m0 : -9223372036854775808 ≤ m) (m1 : m ≤ 9223372036854775807) (n : Nat) (w : World) (hn : n = w.heap.size) :
    Calls Try.prog 20 #[.slice (some ⟨n, 0, none⟩) 2 2, .int .i64 m] (w.alloc (.cells #[.int .i64 a, .int .i64 b] 3)) fun e w' => e = .returned (.int .i64 (su [a, b] m 2)) ∧ w.alloc (.cells #[.int .i64 a, .int .i64 b] 3) = w' :=
  Sum2 n a b m w hn ⟨a0, a1⟩ ⟨b0, b1⟩ m0 m1

theorem holds (a b m : Int) (w : World) (a0 : -9223372036854775808 ≤ a ∧ a ≤ 9223372036854775807) (b0 : -9223372036854775808 ≤ b ∧ b ≤ 9223372036854775807) (m0 : -9223372036854775808 ≤ m ∧ m ≤ 9223372036854775807) :
    Calls Try.prog 8 #[.int .i64 a, .int .i64 b, .int .i64 m] w fun e w' => e = .returned (.bool true) ∧ Grown w w' := by
  obtain ⟨a0, a1⟩ := a0; obtain ⟨b0, b1⟩ := b0; obtain ⟨m0, m1⟩ := m0
  have x0 := cl_lo (a + b) m
  have x1 := cl_hi (a + b) m
  refine core a b m (cl (a + b) m) (cl (a - b) m) (cl (a * b) m) (cl a m) (su [a, b] m 2) (dr a b m) (cl (cl (a + b) m - b) m) w a0 a1 b0 b1 m0 m1
    ⟨x0, x1⟩ ⟨cl_lo _ _, cl_hi _ _⟩ ⟨cl_lo _ _, cl_hi _ _⟩ ⟨cl_lo _ _, cl_hi _ _⟩ ⟨su_lo _ _ _, su_hi _ _ _⟩ (by unfold dr; omega) (by unfold dr; omega)
    (fun w => Add_any a b m w a0 a1 b0 b1 m0 m1) (fun w => by rw [Int.add_comm a b]; exact Add_any b a m w b0 b1 a0 a1 m0 m1)
    (fun w => Sub_any a b m w a0 a1 b0 b1 m0 m1) (fun w => Times_any a b m w a0 a1 b0 b1 m0 m1) (fun w => by rw [Int.mul_comm a b]; exact Times_any b a m w b0 b1 a0 a1 m0 m1)
    (fun w => Dropped_any a b m w a0 a1 b0 b1 m0 m1) (fun w => by rw [show dr a b m = dr b a m from by unfold dr; rw [Int.add_comm]]; exact Dropped_any b a m w b0 b1 a0 a1 m0 m1)
    (fun w => Sub_any _ b m w (by omega) (by omega) b0 b1 m0 m1)
    (Lib.hid fun w => Clamp_any a m w) (Lib.hid fun n w hn => two_sum a b m a0 a1 b0 b1 m0 m1 n w hn)
    (Lib.hid fun h h' => by unfold cl dr; omega) (Lib.hid fun h => by unfold cl dr; omega) (Lib.hid fun h1 h2 h3 => by unfold dr at h3; unfold cl; omega)

end Go.Proofs.Ytgnmiifkafedjaa.satFn
