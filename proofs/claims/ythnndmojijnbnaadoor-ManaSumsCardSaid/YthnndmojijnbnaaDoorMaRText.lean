/- What the reference's Text returns. -/
import Derived.Test.YthnndmojijnbnaaDoorMaRef
import Derived.Test.YthnndmojijnbnaaDoorMaPMath
import Derived.LoopTactic
import Derived.Laws.Strings2
namespace Go.Proofs.YthnndmojijnbnaaDoor.maFn
open Go.ChangeShapes Go.WideShapes Go.ChangeAt Go.RowKit drMem
set_option linter.unusedVariables false

theorem rlet (k : Int) (c : UInt8) (w : World) (h : 0 ≤ k ∧ k ≤ 3) (hc : letB k = bs [c]) :
    Calls Tryd.prog 36 #[.int .i64 k] w fun e w' => e = .returned (.string (bs [c])) ∧ w = w' :=
  (rletter_at k w h).mono fun e w' ⟨h1, h2⟩ => ⟨by rw [h1, hc], h2⟩
theorem cat_bs (a b : List UInt8) (h : a.length + b.length ≤ 1000) : ∀ w, (Op.stringOp .add (bs a) (bs b)).run Tryd.prog w = .ok (.string (bs (a ++ b))) w := fun w => by
  rw [cat_run _ _ (by rw [bs_size, bs_size]; exact h) w, bs_app]
theorem dig_at : ∀ k : Nat, k < 10 → (ByteArray.mk #[48, 49, 50, 51, 52, 53, 54, 55, 56, 57]).extract k (k + 1) = bs [UInt8.ofNat (48 + k)] := by
  intro k hk
  have : k = 0 ∨ k = 1 ∨ k = 2 ∨ k = 3 ∨ k = 4 ∨ k = 5 ∨ k = 6 ∨ k = 7 ∨ k = 8 ∨ k = 9 := by omega
  rcases this with rfl | rfl | rfl | rfl | rfl | rfl | rfl | rfl | rfl | rfl <;> rfl
theorem dig_run (i j : Int) (k : Nat) (hi : i = k) (hj : j = k + 1) (hk : k < 10) : ∀ w, (Instr.slice 9 (.string ⟨#[48, 49, 50, 51, 52, 53, 54, 55, 56, 57]⟩) (some (.int .i64 i)) (some (.int .i64 j)) none).run Tryd.prog w = .ok (.string (bs [UInt8.ofNat (48 + k)])) w := fun w => by
  subst hi hj
  rw [run_slice_string w 9 _ .i64 .i64 (k : Int) ((k : Int) + 1) Tryd.underlying9 (by omega) (by omega) (by show (k : Int) + 1 ≤ ((10 : Nat) : Int); omega), ← dig_at k hk]
  rfl
theorem rep_snoc (k : UInt8) (n : Nat) : List.replicate n k ++ [k] = List.replicate (n + 1) k := by
  rw [← List.replicate_succ']

theorem ret_str {a b : ByteArray} (h : a = b) : Ending.returned (.string a) = .returned (.string b) := by rw [h]


set_option maxRecDepth 100000 in
set_option maxHeartbeats 4000000 in
theorem rText_ten (p q r s x : Nat) (w : World) (h : okC p q r s x = true) (hx : 10 ≤ x) :
    Calls Tryd.prog 25 #[.agg #[.int .i64 (p : Nat), .int .i64 (q : Nat), .int .i64 (r : Nat), .int .i64 (s : Nat), .int .i64 (x : Nat)]] w fun e w' => e = .returned (.string (bs (textL p q r s x))) ∧ Below w.heap.size w w' := by
  obtain ⟨⟨⟨p0, p1⟩, ⟨q0, q1⟩, ⟨r0, r1⟩, ⟨s0, s1⟩⟩, x0, x1⟩ := (okC_iff _ _ _ _ _).1 h
  have HK := Lib.hid h
  clear h p0 q0 r0 s0 x0
  obtain ⟨n, hn⟩ : ∃ n, numL p q r s x = n := ⟨_, rfl⟩
  have hl : n.length ≤ 2 := by rw [← hn]; unfold numL; split; (exact dec_len x (by omega)); simp
  have ht : n ++ List.replicate p 69 ++ List.replicate q 84 ++ List.replicate r 76 ++ List.replicate s 83 = textL p q r s x := by
    unfold textL letL; rw [hn]; simp only [List.append_assoc]
  have HT := Lib.hid ht
  have HN := Lib.hid hn
  clear hn ht
  obtain ⟨c1, hc1⟩ : ∃ c1, UInt8.ofNat (48 + x / 10) = c1 := ⟨_, rfl⟩
  obtain ⟨c2, hc2⟩ : ∃ c2, UInt8.ofNat (48 + x % 10) = c2 := ⟨_, rfl⟩
  have h1 := dig_run ((x : Int) / 10) ((x : Int) / 10 + 1) (x / 10) (by omega) (by omega) (by omega)
  have h2 := dig_run ((x : Int) % 10) ((x : Int) % 10 + 1) (x % 10) (by omega) (by omega) (by omega)
  rw [hc1] at h1
  rw [hc2] at h2
  have hc := cat_bs [c1] [c2] (by simp)
  have e : [c1] ++ [c2] = n := by rw [← HN.out, ← hc1, ← hc2]; unfold numL; rw [if_pos (.inl (by omega)), dec_tab x (by omega)]; unfold tab; rw [if_neg (by omega)]; rfl
  rw [e] at hc
  clear e hc1 hc2
  go_enter Tryd.func25, Tryd.ntmps25
  go_wp2_with fail
  clear h1 h2 hc
  refine wp_loop_rounds 5 ?_
  rw [rounds_succ]
  go_wp2_with fail
  have HX0 := Lib.hid (rlet 0 69)
  go_loop [3, 5] (fun oo nn => ∃ k : Nat, k ≤ p ∧ nn = .int .i64 k ∧ oo = .string (bs (n ++ List.replicate k 69))) (fun _ nn => p - (intOf nn).toNat)
  case atStart => exact ⟨0, Nat.zero_le _, rfl, by rw [List.replicate_zero, List.append_nil]⟩
  case round =>
    obtain ⟨k0, hk0, rfl, rfl⟩ := hrel
    by_cases hlt : k0 < p
    · have hb := cat_bs (n ++ List.replicate k0 69) [69] (by simp; omega)
      rw [show n ++ List.replicate k0 69 ++ [69] = n ++ List.replicate (k0 + 1) 69 from by rw [List.append_assoc, rep_snoc]] at hb
      go_wp2_with (go_at_call 36; refine (HX0.out _ (by omega) rfl).mono ?_; rintro y w' ⟨rfl, rfl⟩)
      go_round
      case rel => exact ⟨k0 + 1, by omega, by go_num, rfl⟩
      case measure => simp [intOf]; omega
    · obtain rfl : p = k0 := by omega
      have hl0 : (n ++ List.replicate p 69).length ≤ 22 := by simp; omega
      generalize hm0 : n ++ List.replicate p 69 = m0 at *
      have HM0 := Lib.hid hm0
      clear hm0
      go_wp2_with fail
      rw [rounds_succ]
      go_wp2_with fail
      have HX1 := Lib.hid (rlet 1 84)
      go_loop [3, 5] (fun oo nn => ∃ k : Nat, k ≤ q ∧ nn = .int .i64 k ∧ oo = .string (bs (m0 ++ List.replicate k 84))) (fun _ nn => q - (intOf nn).toNat)
      case atStart => exact ⟨0, Nat.zero_le _, rfl, by rw [List.replicate_zero, List.append_nil]⟩
      case round =>
        obtain ⟨k1, hk1, rfl, rfl⟩ := hrel
        by_cases hlt : k1 < q
        · have hb := cat_bs (m0 ++ List.replicate k1 84) [84] (by simp; omega)
          rw [show m0 ++ List.replicate k1 84 ++ [84] = m0 ++ List.replicate (k1 + 1) 84 from by rw [List.append_assoc, rep_snoc]] at hb
          go_wp2_with (go_at_call 36; refine (HX1.out _ (by omega) rfl).mono ?_; rintro y w' ⟨rfl, rfl⟩)
          go_round
          case rel => exact ⟨k1 + 1, by omega, by go_num, rfl⟩
          case measure => simp [intOf]; omega
        · obtain rfl : q = k1 := by omega
          have hl1 : (m0 ++ List.replicate q 84).length ≤ 42 := by simp; omega
          generalize hm1 : m0 ++ List.replicate q 84 = m1 at *
          have HM1 := Lib.hid hm1
          clear hm1
          go_wp2_with fail
          rw [rounds_succ]
          go_wp2_with fail
          have HX2 := Lib.hid (rlet 2 76)
          go_loop [3, 5] (fun oo nn => ∃ k : Nat, k ≤ r ∧ nn = .int .i64 k ∧ oo = .string (bs (m1 ++ List.replicate k 76))) (fun _ nn => r - (intOf nn).toNat)
          case atStart => exact ⟨0, Nat.zero_le _, rfl, by rw [List.replicate_zero, List.append_nil]⟩
          case round =>
            obtain ⟨k2, hk2, rfl, rfl⟩ := hrel
            by_cases hlt : k2 < r
            · have hb := cat_bs (m1 ++ List.replicate k2 76) [76] (by simp; omega)
              rw [show m1 ++ List.replicate k2 76 ++ [76] = m1 ++ List.replicate (k2 + 1) 76 from by rw [List.append_assoc, rep_snoc]] at hb
              go_wp2_with (go_at_call 36; refine (HX2.out _ (by omega) rfl).mono ?_; rintro y w' ⟨rfl, rfl⟩)
              go_round
              case rel => exact ⟨k2 + 1, by omega, by go_num, rfl⟩
              case measure => simp [intOf]; omega
            · obtain rfl : r = k2 := by omega
              have hl2 : (m1 ++ List.replicate r 76).length ≤ 62 := by simp; omega
              generalize hm2 : m1 ++ List.replicate r 76 = m2 at *
              have HM2 := Lib.hid hm2
              clear hm2
              go_wp2_with fail
              rw [rounds_succ]
              go_wp2_with fail
              have HX3 := Lib.hid (rlet 3 83)
              go_loop [3, 5] (fun oo nn => ∃ k : Nat, k ≤ s ∧ nn = .int .i64 k ∧ oo = .string (bs (m2 ++ List.replicate k 83))) (fun _ nn => s - (intOf nn).toNat)
              case atStart => exact ⟨0, Nat.zero_le _, rfl, by rw [List.replicate_zero, List.append_nil]⟩
              case round =>
                obtain ⟨k3, hk3, rfl, rfl⟩ := hrel
                by_cases hlt : k3 < s
                · have hb := cat_bs (m2 ++ List.replicate k3 83) [83] (by simp; omega)
                  rw [show m2 ++ List.replicate k3 83 ++ [83] = m2 ++ List.replicate (k3 + 1) 83 from by rw [List.append_assoc, rep_snoc]] at hb
                  go_wp2_with (go_at_call 36; refine (HX3.out _ (by omega) rfl).mono ?_; rintro y w' ⟨rfl, rfl⟩)
                  go_round
                  case rel => exact ⟨k3 + 1, by omega, by go_num, rfl⟩
                  case measure => simp [intOf]; omega
                · obtain rfl : s = k3 := by omega
                  have hl3 : (m2 ++ List.replicate s 83).length ≤ 82 := by simp; omega
                  generalize hm3 : m2 ++ List.replicate s 83 = m3 at *
                  have HM3 := Lib.hid hm3
                  clear hm3
                  go_wp2_with fail
                  rw [rounds_succ]
                  go_wp2_with fail
                  go_ret
                  exact ⟨ret_str (by rw [← HT.out]), (Below.refl _ _).alloc (Nat.le_refl _) _⟩


set_option maxRecDepth 100000 in
set_option maxHeartbeats 4000000 in
theorem rText_one (p q r s x : Nat) (w : World) (h : okC p q r s x = true) (hx : 0 < x) (hx' : x < 10) :
    Calls Tryd.prog 25 #[.agg #[.int .i64 (p : Nat), .int .i64 (q : Nat), .int .i64 (r : Nat), .int .i64 (s : Nat), .int .i64 (x : Nat)]] w fun e w' => e = .returned (.string (bs (textL p q r s x))) ∧ Below w.heap.size w w' := by
  obtain ⟨⟨⟨p0, p1⟩, ⟨q0, q1⟩, ⟨r0, r1⟩, ⟨s0, s1⟩⟩, x0, x1⟩ := (okC_iff _ _ _ _ _).1 h
  have HK := Lib.hid h
  clear h p0 q0 r0 s0 x0
  obtain ⟨n, hn⟩ : ∃ n, numL p q r s x = n := ⟨_, rfl⟩
  have hl : n.length ≤ 2 := by rw [← hn]; unfold numL; split; (exact dec_len x (by omega)); simp
  have ht : n ++ List.replicate p 69 ++ List.replicate q 84 ++ List.replicate r 76 ++ List.replicate s 83 = textL p q r s x := by
    unfold textL letL; rw [hn]; simp only [List.append_assoc]
  have HT := Lib.hid ht
  have HN := Lib.hid hn
  clear hn ht
  obtain ⟨c2, hc2⟩ : ∃ c2, UInt8.ofNat (48 + x) = c2 := ⟨_, rfl⟩
  have h2 := dig_run ((x : Int) % 10) ((x : Int) % 10 + 1) x (by omega) (by omega) (by omega)
  rw [hc2] at h2
  have hc := cat_bs [] [c2] (by simp)
  have e : [] ++ [c2] = n := by rw [← HN.out, ← hc2]; unfold numL; rw [if_pos (.inl (by omega)), dec_tab x (by omega)]; unfold tab; rw [if_pos (by omega)]; rfl
  rw [e, show bs [] = ByteArray.mk #[] from rfl] at hc
  clear e hc2
  go_enter Tryd.func25, Tryd.ntmps25
  go_wp2_with fail
  clear h2 hc
  refine wp_loop_rounds 5 ?_
  rw [rounds_succ]
  go_wp2_with fail
  have HX0 := Lib.hid (rlet 0 69)
  go_loop [3, 5] (fun oo nn => ∃ k : Nat, k ≤ p ∧ nn = .int .i64 k ∧ oo = .string (bs (n ++ List.replicate k 69))) (fun _ nn => p - (intOf nn).toNat)
  case atStart => exact ⟨0, Nat.zero_le _, rfl, by rw [List.replicate_zero, List.append_nil]⟩
  case round =>
    obtain ⟨k0, hk0, rfl, rfl⟩ := hrel
    by_cases hlt : k0 < p
    · have hb := cat_bs (n ++ List.replicate k0 69) [69] (by simp; omega)
      rw [show n ++ List.replicate k0 69 ++ [69] = n ++ List.replicate (k0 + 1) 69 from by rw [List.append_assoc, rep_snoc]] at hb
      go_wp2_with (go_at_call 36; refine (HX0.out _ (by omega) rfl).mono ?_; rintro y w' ⟨rfl, rfl⟩)
      go_round
      case rel => exact ⟨k0 + 1, by omega, by go_num, rfl⟩
      case measure => simp [intOf]; omega
    · obtain rfl : p = k0 := by omega
      have hl0 : (n ++ List.replicate p 69).length ≤ 22 := by simp; omega
      generalize hm0 : n ++ List.replicate p 69 = m0 at *
      have HM0 := Lib.hid hm0
      clear hm0
      go_wp2_with fail
      rw [rounds_succ]
      go_wp2_with fail
      have HX1 := Lib.hid (rlet 1 84)
      go_loop [3, 5] (fun oo nn => ∃ k : Nat, k ≤ q ∧ nn = .int .i64 k ∧ oo = .string (bs (m0 ++ List.replicate k 84))) (fun _ nn => q - (intOf nn).toNat)
      case atStart => exact ⟨0, Nat.zero_le _, rfl, by rw [List.replicate_zero, List.append_nil]⟩
      case round =>
        obtain ⟨k1, hk1, rfl, rfl⟩ := hrel
        by_cases hlt : k1 < q
        · have hb := cat_bs (m0 ++ List.replicate k1 84) [84] (by simp; omega)
          rw [show m0 ++ List.replicate k1 84 ++ [84] = m0 ++ List.replicate (k1 + 1) 84 from by rw [List.append_assoc, rep_snoc]] at hb
          go_wp2_with (go_at_call 36; refine (HX1.out _ (by omega) rfl).mono ?_; rintro y w' ⟨rfl, rfl⟩)
          go_round
          case rel => exact ⟨k1 + 1, by omega, by go_num, rfl⟩
          case measure => simp [intOf]; omega
        · obtain rfl : q = k1 := by omega
          have hl1 : (m0 ++ List.replicate q 84).length ≤ 42 := by simp; omega
          generalize hm1 : m0 ++ List.replicate q 84 = m1 at *
          have HM1 := Lib.hid hm1
          clear hm1
          go_wp2_with fail
          rw [rounds_succ]
          go_wp2_with fail
          have HX2 := Lib.hid (rlet 2 76)
          go_loop [3, 5] (fun oo nn => ∃ k : Nat, k ≤ r ∧ nn = .int .i64 k ∧ oo = .string (bs (m1 ++ List.replicate k 76))) (fun _ nn => r - (intOf nn).toNat)
          case atStart => exact ⟨0, Nat.zero_le _, rfl, by rw [List.replicate_zero, List.append_nil]⟩
          case round =>
            obtain ⟨k2, hk2, rfl, rfl⟩ := hrel
            by_cases hlt : k2 < r
            · have hb := cat_bs (m1 ++ List.replicate k2 76) [76] (by simp; omega)
              rw [show m1 ++ List.replicate k2 76 ++ [76] = m1 ++ List.replicate (k2 + 1) 76 from by rw [List.append_assoc, rep_snoc]] at hb
              go_wp2_with (go_at_call 36; refine (HX2.out _ (by omega) rfl).mono ?_; rintro y w' ⟨rfl, rfl⟩)
              go_round
              case rel => exact ⟨k2 + 1, by omega, by go_num, rfl⟩
              case measure => simp [intOf]; omega
            · obtain rfl : r = k2 := by omega
              have hl2 : (m1 ++ List.replicate r 76).length ≤ 62 := by simp; omega
              generalize hm2 : m1 ++ List.replicate r 76 = m2 at *
              have HM2 := Lib.hid hm2
              clear hm2
              go_wp2_with fail
              rw [rounds_succ]
              go_wp2_with fail
              have HX3 := Lib.hid (rlet 3 83)
              go_loop [3, 5] (fun oo nn => ∃ k : Nat, k ≤ s ∧ nn = .int .i64 k ∧ oo = .string (bs (m2 ++ List.replicate k 83))) (fun _ nn => s - (intOf nn).toNat)
              case atStart => exact ⟨0, Nat.zero_le _, rfl, by rw [List.replicate_zero, List.append_nil]⟩
              case round =>
                obtain ⟨k3, hk3, rfl, rfl⟩ := hrel
                by_cases hlt : k3 < s
                · have hb := cat_bs (m2 ++ List.replicate k3 83) [83] (by simp; omega)
                  rw [show m2 ++ List.replicate k3 83 ++ [83] = m2 ++ List.replicate (k3 + 1) 83 from by rw [List.append_assoc, rep_snoc]] at hb
                  go_wp2_with (go_at_call 36; refine (HX3.out _ (by omega) rfl).mono ?_; rintro y w' ⟨rfl, rfl⟩)
                  go_round
                  case rel => exact ⟨k3 + 1, by omega, by go_num, rfl⟩
                  case measure => simp [intOf]; omega
                · obtain rfl : s = k3 := by omega
                  have hl3 : (m2 ++ List.replicate s 83).length ≤ 82 := by simp; omega
                  generalize hm3 : m2 ++ List.replicate s 83 = m3 at *
                  have HM3 := Lib.hid hm3
                  clear hm3
                  go_wp2_with fail
                  rw [rounds_succ]
                  go_wp2_with fail
                  go_ret
                  exact ⟨ret_str (by rw [← HT.out]), (Below.refl _ _).alloc (Nat.le_refl _) _⟩


set_option maxRecDepth 100000 in
set_option maxHeartbeats 4000000 in
theorem rText_zero (p q r s : Nat) (w : World) (h : okC p q r s 0 = true) (hx : p + q + r + s = 0) :
    Calls Tryd.prog 25 #[.agg #[.int .i64 (p : Nat), .int .i64 (q : Nat), .int .i64 (r : Nat), .int .i64 (s : Nat), .int .i64 0]] w fun e w' => e = .returned (.string (bs (textL p q r s 0))) ∧ Below w.heap.size w w' := by
  obtain ⟨⟨⟨p0, p1⟩, ⟨q0, q1⟩, ⟨r0, r1⟩, ⟨s0, s1⟩⟩, x0, x1⟩ := (okC_iff _ _ _ _ _).1 h
  have HK := Lib.hid h
  clear h p0 q0 r0 s0 x0
  obtain ⟨n, hn⟩ : ∃ n, numL p q r s 0 = n := ⟨_, rfl⟩
  have hl : n.length ≤ 2 := by rw [← hn]; unfold numL; split; (exact dec_len 0 (by omega)); simp
  have ht : n ++ List.replicate p 69 ++ List.replicate q 84 ++ List.replicate r 76 ++ List.replicate s 83 = textL p q r s 0 := by
    unfold textL letL; rw [hn]; simp only [List.append_assoc]
  have HT := Lib.hid ht
  have HN := Lib.hid hn
  clear hn ht
  have hs0 : (p : Int) + q + r + s = 0 := by omega
  have HV : ∀ w, Calls Tryd.prog 9 #[.agg #[.int .i64 (p : Nat), .int .i64 (q : Nat), .int .i64 (r : Nat), .int .i64 (s : Nat)]] w fun e w' => e = .returned (.int .i64 0) ∧ Below w.heap.size w w' :=
    fun w => (rSum_any p q r s w (by rw [okM_iff]; omega)).mono fun e w' ⟨h1, h2⟩ => ⟨h1.trans (ret_int hs0), h2⟩
  have h2 := dig_run 0 1 0 (by omega) (by omega) (by omega)
  have hc := cat_bs [] [48] (by simp)
  have e : [] ++ [48] = n := by rw [← HN.out]; unfold numL; rw [if_pos (.inr hx), dec_tab 0 (by omega)]; rfl
  rw [e, show bs [] = ByteArray.mk #[] from rfl] at hc
  rw [show UInt8.ofNat (48 + 0) = 48 from rfl] at h2
  have H2 := Lib.hid h2; have HC := Lib.hid hc
  clear e hs0 hx h2 hc
  go_enter Tryd.func25, Tryd.ntmps25
  go_wp2_with fail
  refine (HV _).mono ?_; rintro e w1 ⟨rfl, hb1⟩
  have K1 := (new0 w 25 [.int .i64 (p : Nat), .int .i64 (q : Nat), .int .i64 (r : Nat), .int .i64 (s : Nat), .int .i64 0]).below hb1 (by simp)
  have B1 : Below w.heap.size w w1 := next (by go_grown) hb1
  clear hb1 HV
  obtain ⟨u0, u1, u2, u3, u4, u5⟩ := five K1
  have h2 := H2.out; have hc := HC.out
  go_wp2_with fail
  clear h2 hc H2 HC
  refine wp_loop_rounds 5 ?_
  rw [rounds_succ]
  go_wp2_with fail
  have HX0 := Lib.hid (rlet 0 69)
  go_loop [3, 5] (fun oo nn => ∃ k : Nat, k ≤ p ∧ nn = .int .i64 k ∧ oo = .string (bs (n ++ List.replicate k 69))) (fun _ nn => p - (intOf nn).toNat)
  case atStart => exact ⟨0, Nat.zero_le _, rfl, by rw [List.replicate_zero, List.append_nil]⟩
  case round =>
    obtain ⟨k0, hk0, rfl, rfl⟩ := hrel
    by_cases hlt : k0 < p
    · have hb := cat_bs (n ++ List.replicate k0 69) [69] (by simp; omega)
      rw [show n ++ List.replicate k0 69 ++ [69] = n ++ List.replicate (k0 + 1) 69 from by rw [List.append_assoc, rep_snoc]] at hb
      go_wp2_with (go_at_call 36; refine (HX0.out _ (by omega) rfl).mono ?_; rintro y w' ⟨rfl, rfl⟩)
      go_round
      case rel => exact ⟨k0 + 1, by omega, by go_num, rfl⟩
      case measure => simp [intOf]; omega
    · obtain rfl : p = k0 := by omega
      have hl0 : (n ++ List.replicate p 69).length ≤ 22 := by simp; omega
      generalize hm0 : n ++ List.replicate p 69 = m0 at *
      have HM0 := Lib.hid hm0
      clear hm0
      go_wp2_with fail
      rw [rounds_succ]
      go_wp2_with fail
      have HX1 := Lib.hid (rlet 1 84)
      go_loop [3, 5] (fun oo nn => ∃ k : Nat, k ≤ q ∧ nn = .int .i64 k ∧ oo = .string (bs (m0 ++ List.replicate k 84))) (fun _ nn => q - (intOf nn).toNat)
      case atStart => exact ⟨0, Nat.zero_le _, rfl, by rw [List.replicate_zero, List.append_nil]⟩
      case round =>
        obtain ⟨k1, hk1, rfl, rfl⟩ := hrel
        by_cases hlt : k1 < q
        · have hb := cat_bs (m0 ++ List.replicate k1 84) [84] (by simp; omega)
          rw [show m0 ++ List.replicate k1 84 ++ [84] = m0 ++ List.replicate (k1 + 1) 84 from by rw [List.append_assoc, rep_snoc]] at hb
          go_wp2_with (go_at_call 36; refine (HX1.out _ (by omega) rfl).mono ?_; rintro y w' ⟨rfl, rfl⟩)
          go_round
          case rel => exact ⟨k1 + 1, by omega, by go_num, rfl⟩
          case measure => simp [intOf]; omega
        · obtain rfl : q = k1 := by omega
          have hl1 : (m0 ++ List.replicate q 84).length ≤ 42 := by simp; omega
          generalize hm1 : m0 ++ List.replicate q 84 = m1 at *
          have HM1 := Lib.hid hm1
          clear hm1
          go_wp2_with fail
          rw [rounds_succ]
          go_wp2_with fail
          have HX2 := Lib.hid (rlet 2 76)
          go_loop [3, 5] (fun oo nn => ∃ k : Nat, k ≤ r ∧ nn = .int .i64 k ∧ oo = .string (bs (m1 ++ List.replicate k 76))) (fun _ nn => r - (intOf nn).toNat)
          case atStart => exact ⟨0, Nat.zero_le _, rfl, by rw [List.replicate_zero, List.append_nil]⟩
          case round =>
            obtain ⟨k2, hk2, rfl, rfl⟩ := hrel
            by_cases hlt : k2 < r
            · have hb := cat_bs (m1 ++ List.replicate k2 76) [76] (by simp; omega)
              rw [show m1 ++ List.replicate k2 76 ++ [76] = m1 ++ List.replicate (k2 + 1) 76 from by rw [List.append_assoc, rep_snoc]] at hb
              go_wp2_with (go_at_call 36; refine (HX2.out _ (by omega) rfl).mono ?_; rintro y w' ⟨rfl, rfl⟩)
              go_round
              case rel => exact ⟨k2 + 1, by omega, by go_num, rfl⟩
              case measure => simp [intOf]; omega
            · obtain rfl : r = k2 := by omega
              have hl2 : (m1 ++ List.replicate r 76).length ≤ 62 := by simp; omega
              generalize hm2 : m1 ++ List.replicate r 76 = m2 at *
              have HM2 := Lib.hid hm2
              clear hm2
              go_wp2_with fail
              rw [rounds_succ]
              go_wp2_with fail
              have HX3 := Lib.hid (rlet 3 83)
              go_loop [3, 5] (fun oo nn => ∃ k : Nat, k ≤ s ∧ nn = .int .i64 k ∧ oo = .string (bs (m2 ++ List.replicate k 83))) (fun _ nn => s - (intOf nn).toNat)
              case atStart => exact ⟨0, Nat.zero_le _, rfl, by rw [List.replicate_zero, List.append_nil]⟩
              case round =>
                obtain ⟨k3, hk3, rfl, rfl⟩ := hrel
                by_cases hlt : k3 < s
                · have hb := cat_bs (m2 ++ List.replicate k3 83) [83] (by simp; omega)
                  rw [show m2 ++ List.replicate k3 83 ++ [83] = m2 ++ List.replicate (k3 + 1) 83 from by rw [List.append_assoc, rep_snoc]] at hb
                  go_wp2_with (go_at_call 36; refine (HX3.out _ (by omega) rfl).mono ?_; rintro y w' ⟨rfl, rfl⟩)
                  go_round
                  case rel => exact ⟨k3 + 1, by omega, by go_num, rfl⟩
                  case measure => simp [intOf]; omega
                · obtain rfl : s = k3 := by omega
                  have hl3 : (m2 ++ List.replicate s 83).length ≤ 82 := by simp; omega
                  generalize hm3 : m2 ++ List.replicate s 83 = m3 at *
                  have HM3 := Lib.hid hm3
                  clear hm3
                  go_wp2_with fail
                  rw [rounds_succ]
                  go_wp2_with fail
                  go_ret
                  exact ⟨ret_str (by rw [← HT.out]), B1⟩


set_option maxRecDepth 100000 in
set_option maxHeartbeats 4000000 in
theorem rText_let (p q r s : Nat) (w : World) (h : okC p q r s 0 = true) (hx : 0 < p + q + r + s) :
    Calls Tryd.prog 25 #[.agg #[.int .i64 (p : Nat), .int .i64 (q : Nat), .int .i64 (r : Nat), .int .i64 (s : Nat), .int .i64 0]] w fun e w' => e = .returned (.string (bs (textL p q r s 0))) ∧ Below w.heap.size w w' := by
  obtain ⟨⟨⟨p0, p1⟩, ⟨q0, q1⟩, ⟨r0, r1⟩, ⟨s0, s1⟩⟩, x0, x1⟩ := (okC_iff _ _ _ _ _).1 h
  have HK := Lib.hid h
  clear h p0 q0 r0 s0 x0
  obtain ⟨n, hn⟩ : ∃ n, numL p q r s 0 = n := ⟨_, rfl⟩
  have hl : n.length ≤ 2 := by rw [← hn]; unfold numL; split; (exact dec_len 0 (by omega)); simp
  have ht : n ++ List.replicate p 69 ++ List.replicate q 84 ++ List.replicate r 76 ++ List.replicate s 83 = textL p q r s 0 := by
    unfold textL letL; rw [hn]; simp only [List.append_assoc]
  have HT := Lib.hid ht
  have HN := Lib.hid hn
  clear hn ht
  obtain ⟨v, hv⟩ : ∃ v : Int, (p : Int) + q + r + s = v := ⟨_, rfl⟩
  have hne : (v == 0) = false := by rw [beq_eq_false_iff_ne]; omega
  have HV : ∀ w, Calls Tryd.prog 9 #[.agg #[.int .i64 (p : Nat), .int .i64 (q : Nat), .int .i64 (r : Nat), .int .i64 (s : Nat)]] w fun e w' => e = .returned (.int .i64 v) ∧ Below w.heap.size w w' :=
    fun w => (rSum_any p q r s w (by rw [okM_iff]; omega)).mono fun e w' ⟨h1, h2⟩ => ⟨h1.trans (ret_int hv), h2⟩
  have hd : ([] : List UInt8) = n := by rw [← HN.out]; unfold numL; rw [if_neg (by omega)]
  have HD := Lib.hid hd
  clear hv hx hd
  go_enter Tryd.func25, Tryd.ntmps25
  go_wp2_with fail
  refine (HV _).mono ?_; rintro e w1 ⟨rfl, hb1⟩
  have K1 := (new0 w 25 [.int .i64 (p : Nat), .int .i64 (q : Nat), .int .i64 (r : Nat), .int .i64 (s : Nat), .int .i64 0]).below hb1 (by simp)
  have B1 : Below w.heap.size w w1 := next (by go_grown) hb1
  clear hb1 HV
  obtain ⟨u0, u1, u2, u3, u4, u5⟩ := five K1
  go_wp2_with fail
  refine wp_loop_rounds 5 ?_
  rw [rounds_succ]
  go_wp2_with fail
  have HX0 := Lib.hid (rlet 0 69)
  go_loop [3, 5] (fun oo nn => ∃ k : Nat, k ≤ p ∧ nn = .int .i64 k ∧ oo = .string (bs (n ++ List.replicate k 69))) (fun _ nn => p - (intOf nn).toNat)
  case atStart => exact ⟨0, Nat.zero_le _, rfl, by rw [List.replicate_zero, List.append_nil]; rw [← HD.out]; rfl⟩
  case round =>
    obtain ⟨k0, hk0, rfl, rfl⟩ := hrel
    by_cases hlt : k0 < p
    · have hb := cat_bs (n ++ List.replicate k0 69) [69] (by simp; omega)
      rw [show n ++ List.replicate k0 69 ++ [69] = n ++ List.replicate (k0 + 1) 69 from by rw [List.append_assoc, rep_snoc]] at hb
      go_wp2_with (go_at_call 36; refine (HX0.out _ (by omega) rfl).mono ?_; rintro y w' ⟨rfl, rfl⟩)
      go_round
      case rel => exact ⟨k0 + 1, by omega, by go_num, rfl⟩
      case measure => simp [intOf]; omega
    · obtain rfl : p = k0 := by omega
      have hl0 : (n ++ List.replicate p 69).length ≤ 22 := by simp; omega
      generalize hm0 : n ++ List.replicate p 69 = m0 at *
      have HM0 := Lib.hid hm0
      clear hm0
      go_wp2_with fail
      rw [rounds_succ]
      go_wp2_with fail
      have HX1 := Lib.hid (rlet 1 84)
      go_loop [3, 5] (fun oo nn => ∃ k : Nat, k ≤ q ∧ nn = .int .i64 k ∧ oo = .string (bs (m0 ++ List.replicate k 84))) (fun _ nn => q - (intOf nn).toNat)
      case atStart => exact ⟨0, Nat.zero_le _, rfl, by rw [List.replicate_zero, List.append_nil]⟩
      case round =>
        obtain ⟨k1, hk1, rfl, rfl⟩ := hrel
        by_cases hlt : k1 < q
        · have hb := cat_bs (m0 ++ List.replicate k1 84) [84] (by simp; omega)
          rw [show m0 ++ List.replicate k1 84 ++ [84] = m0 ++ List.replicate (k1 + 1) 84 from by rw [List.append_assoc, rep_snoc]] at hb
          go_wp2_with (go_at_call 36; refine (HX1.out _ (by omega) rfl).mono ?_; rintro y w' ⟨rfl, rfl⟩)
          go_round
          case rel => exact ⟨k1 + 1, by omega, by go_num, rfl⟩
          case measure => simp [intOf]; omega
        · obtain rfl : q = k1 := by omega
          have hl1 : (m0 ++ List.replicate q 84).length ≤ 42 := by simp; omega
          generalize hm1 : m0 ++ List.replicate q 84 = m1 at *
          have HM1 := Lib.hid hm1
          clear hm1
          go_wp2_with fail
          rw [rounds_succ]
          go_wp2_with fail
          have HX2 := Lib.hid (rlet 2 76)
          go_loop [3, 5] (fun oo nn => ∃ k : Nat, k ≤ r ∧ nn = .int .i64 k ∧ oo = .string (bs (m1 ++ List.replicate k 76))) (fun _ nn => r - (intOf nn).toNat)
          case atStart => exact ⟨0, Nat.zero_le _, rfl, by rw [List.replicate_zero, List.append_nil]⟩
          case round =>
            obtain ⟨k2, hk2, rfl, rfl⟩ := hrel
            by_cases hlt : k2 < r
            · have hb := cat_bs (m1 ++ List.replicate k2 76) [76] (by simp; omega)
              rw [show m1 ++ List.replicate k2 76 ++ [76] = m1 ++ List.replicate (k2 + 1) 76 from by rw [List.append_assoc, rep_snoc]] at hb
              go_wp2_with (go_at_call 36; refine (HX2.out _ (by omega) rfl).mono ?_; rintro y w' ⟨rfl, rfl⟩)
              go_round
              case rel => exact ⟨k2 + 1, by omega, by go_num, rfl⟩
              case measure => simp [intOf]; omega
            · obtain rfl : r = k2 := by omega
              have hl2 : (m1 ++ List.replicate r 76).length ≤ 62 := by simp; omega
              generalize hm2 : m1 ++ List.replicate r 76 = m2 at *
              have HM2 := Lib.hid hm2
              clear hm2
              go_wp2_with fail
              rw [rounds_succ]
              go_wp2_with fail
              have HX3 := Lib.hid (rlet 3 83)
              go_loop [3, 5] (fun oo nn => ∃ k : Nat, k ≤ s ∧ nn = .int .i64 k ∧ oo = .string (bs (m2 ++ List.replicate k 83))) (fun _ nn => s - (intOf nn).toNat)
              case atStart => exact ⟨0, Nat.zero_le _, rfl, by rw [List.replicate_zero, List.append_nil]⟩
              case round =>
                obtain ⟨k3, hk3, rfl, rfl⟩ := hrel
                by_cases hlt : k3 < s
                · have hb := cat_bs (m2 ++ List.replicate k3 83) [83] (by simp; omega)
                  rw [show m2 ++ List.replicate k3 83 ++ [83] = m2 ++ List.replicate (k3 + 1) 83 from by rw [List.append_assoc, rep_snoc]] at hb
                  go_wp2_with (go_at_call 36; refine (HX3.out _ (by omega) rfl).mono ?_; rintro y w' ⟨rfl, rfl⟩)
                  go_round
                  case rel => exact ⟨k3 + 1, by omega, by go_num, rfl⟩
                  case measure => simp [intOf]; omega
                · obtain rfl : s = k3 := by omega
                  have hl3 : (m2 ++ List.replicate s 83).length ≤ 82 := by simp; omega
                  generalize hm3 : m2 ++ List.replicate s 83 = m3 at *
                  have HM3 := Lib.hid hm3
                  clear hm3
                  go_wp2_with fail
                  rw [rounds_succ]
                  go_wp2_with fail
                  go_ret
                  exact ⟨ret_str (by rw [← HT.out]), B1⟩


theorem rText_yes (p q r s x : Nat) (w : World) (h : okC p q r s x = true) :
    Calls Tryd.prog 25 #[.agg #[.int .i64 (p : Nat), .int .i64 (q : Nat), .int .i64 (r : Nat), .int .i64 (s : Nat), .int .i64 (x : Nat)]] w fun e w' => e = .returned (.string (bs (textL p q r s x))) ∧ Below w.heap.size w w' := by
  by_cases hx : 10 ≤ x
  · exact rText_ten p q r s x w h hx
  · by_cases hx' : 0 < x
    · exact rText_one p q r s x w h hx' (by omega)
    · obtain rfl : x = 0 := by omega
      by_cases h0 : p + q + r + s = 0
      · exact rText_zero p q r s w h h0
      · exact rText_let p q r s w h (by omega)

end Go.Proofs.YthnndmojijnbnaaDoor.maFn
