/- The text of an effect: what the reference's Text returns. -/
import Derived.Test.YtfdolapiikgebaaDoorEfTextE
import Derived.Laws.Concat
import Derived.Deep.QuietTactic
import Derived.BigQuiet
namespace Go.Proofs.YtfdolapiikgebaaDoor.efFn
open Go.ChangeShapes Go.WideShapes Go.ChangeAt Go.RowKit drMem
set_option linter.unusedVariables false

theorem bs_app (a b : List UInt8) : bs a ++ bs b = bs (a ++ b) := ByteArray.mk_append_mk a b
theorem bs_len (l : List UInt8) : (bs l).size = l.length := by simp [bs, ByteArray.size]
theorem cat_run (a b : List UInt8) (h : a.length + b.length ≤ 1000) : ∀ w, (Op.stringOp .add (bs a) (bs b)).run Tryd.prog w = .ok (.string (bs (a ++ b))) w := fun w => by
  rw [run_string_add_sum w (bs a) (bs b) (by rw [bs_len, bs_len]; omega), bs_app]
def dg (p : Nat) : List UInt8 := [UInt8.ofNat (48 + p)]
theorem dig_small (p : Nat) (w : World) (h : p < 10) : Calls Tryd.prog 35 #[.int .i64 (p : Int)] w fun e w' => e = .returned (.string (bs (tab p))) ∧ w = w' := by
  have hk : p = 0 ∨ p = 1 ∨ p = 2 ∨ p = 3 ∨ p = 4 ∨ p = 5 ∨ p = 6 ∨ p = 7 ∨ p = 8 ∨ p = 9 := by omega
  rcases hk with rfl | rfl | rfl | rfl | rfl | rfl | rfl | rfl | rfl | rfl
  all_goals
    go_enter Tryd.func35, Tryd.ntmps35
    go_wp2
    go_ret
    exact ⟨rfl, rfl⟩
set_option maxRecDepth 100000 in
theorem dig_any (p : Nat) (w : World) (h : p ≤ 99) : Calls Tryd.prog 35 #[.int .i64 (p : Int)] w fun e w' => e = .returned (.string (bs (tab p))) ∧ w = w' := by
  by_cases hp : p < 10
  · exact dig_small p w hp
  · have H1 := fun w => dig_small (p / 10) w (by omega)
    have H2 := fun w => dig_small (p % 10) w (by omega)
    have hc := cat_run (tab (p / 10)) (tab (p % 10)) (by have := tab_len (p / 10); have := tab_len (p % 10); omega)
    have e1 : tab (p / 10) ++ tab (p % 10) = tab p := by
      have a1 : tab (p / 10) = [UInt8.ofNat (48 + p / 10)] := by unfold tab; rw [if_pos (by omega)]
      have a2 : tab (p % 10) = [UInt8.ofNat (48 + p % 10)] := by unfold tab; rw [if_pos (by omega)]
      rw [a1, a2]; unfold tab; rw [if_neg hp]; rfl
    rw [e1] at hc
    have e2 : (p : Int).tdiv 10 = ((p / 10 : Nat) : Int) := by rw [Int.tdiv_eq_ediv_of_nonneg (by omega)]; omega
    have e3 : (p : Int).tmod 10 = ((p % 10 : Nat) : Int) := by rw [Int.tmod_eq_emod_of_nonneg (by omega)]; omega
    have a9 : p / 10 ≤ 9 := by omega
    have b9 : p % 10 ≤ 9 := by omega
    have hd : decide ((p : Int) < 10) = false := decide_eq_false (by omega)
    generalize p / 10 = a at *
    generalize p % 10 = b at *
    go_enter Tryd.func35, Tryd.ntmps35
    go_wp2_with (first | (go_at_call 35; (with_reducible refine (H1 _).mono ?_); rintro e w' ⟨rfl, rfl⟩) | (go_at_call 35; (with_reducible refine (H2 _).mono ?_); rintro e w' ⟨rfl, rfl⟩))
    go_ret
    exact ⟨rfl, rfl⟩
theorem catG (a b : ByteArray) (h : a.size + b.size ≤ 1000) : ∀ w, (Op.stringOp .add a b).run Tryd.prog w = .ok (.string (a ++ b)) w := fun w => run_string_add_sum w a b (by omega)
theorem tx2 (a b : List UInt8) : Lib.join [a, b] [32] = a ++ [32] ++ b := by rw [join2, join1]; simp
theorem tx3 (a b c : List UInt8) : Lib.join [a, b, c] [32] = a ++ [32] ++ b ++ [32] ++ c := by rw [join2, join2, join1]; simp
theorem tx4 (a b c d : List UInt8) : Lib.join [a, b, c, d] [32] = a ++ [32] ++ b ++ [32] ++ c ++ [32] ++ d := by rw [join2, join2, join2, join1]; simp
set_option maxRecDepth 100000 in
set_option maxHeartbeats 4000000 in
theorem rText_1_1 (p : Nat) (hp : p ≤ 99) (w : World) : Calls Tryd.prog 21 #[eV 1 1 (p : Int) 0 0] w fun e w' => e = .returned (.string (bs (textE ⟨1, 1, p, 0, 0⟩))) ∧ Below w.heap.size w w' := by
  have k0 := catG (((⟨#[100, 97, 109, 97, 103, 101]⟩ : ByteArray) ++ (⟨#[32]⟩ : ByteArray))) (bs (tab p)) (by simp only [ByteArray.size_append]; have : (⟨#[100, 97, 109, 97, 103, 101]⟩ : ByteArray).size = 6 := rfl; have : (⟨#[32]⟩ : ByteArray).size = 1 := rfl; have : (bs (tab p)).size ≤ 2 := (by rw [bs_len]; exact tab_len p); omega)
  have k1 := catG ((((⟨#[100, 97, 109, 97, 103, 101]⟩ : ByteArray) ++ (⟨#[32]⟩ : ByteArray)) ++ bs (tab p))) ((⟨#[32]⟩ : ByteArray)) (by simp only [ByteArray.size_append]; have : (⟨#[100, 97, 109, 97, 103, 101]⟩ : ByteArray).size = 6 := rfl; have : (⟨#[32]⟩ : ByteArray).size = 1 := rfl; have : (bs (tab p)).size ≤ 2 := (by rw [bs_len]; exact tab_len p); omega)
  have k2 := catG (((((⟨#[100, 97, 109, 97, 103, 101]⟩ : ByteArray) ++ (⟨#[32]⟩ : ByteArray)) ++ bs (tab p)) ++ (⟨#[32]⟩ : ByteArray))) ((⟨#[99, 114, 101, 97, 116, 117, 114, 101]⟩ : ByteArray)) (by simp only [ByteArray.size_append]; have : (⟨#[100, 97, 109, 97, 103, 101]⟩ : ByteArray).size = 6 := rfl; have : (⟨#[32]⟩ : ByteArray).size = 1 := rfl; have : (⟨#[99, 114, 101, 97, 116, 117, 114, 101]⟩ : ByteArray).size = 8 := rfl; have : (bs (tab p)).size ≤ 2 := (by rw [bs_len]; exact tab_len p); omega)
  have HDp := fun w => dig_any p w (by omega)
  go_enter Tryd.func21, Tryd.ntmps21
  go_wp2_with (go_at_call 35; refine (HDp _).mono ?_; rintro e w' ⟨rfl, hw⟩; subst hw)
  go_ret
  exact ⟨ret_str (by show bs [100, 97, 109, 97, 103, 101] ++ bs [32] ++ bs (tab p) ++ bs [32] ++ bs [99, 114, 101, 97, 116, 117, 114, 101] = bs (Lib.join [[100, 97, 109, 97, 103, 101], tab p, [99, 114, 101, 97, 116, 117, 114, 101]] [32]); rw [tx3]; simp only [bs_app]), by go_grown⟩
set_option maxRecDepth 100000 in
set_option maxHeartbeats 4000000 in
theorem rText_1_2 (p : Nat) (hp : p ≤ 99) (w : World) : Calls Tryd.prog 21 #[eV 1 2 (p : Int) 0 0] w fun e w' => e = .returned (.string (bs (textE ⟨1, 2, p, 0, 0⟩))) ∧ Below w.heap.size w w' := by
  have k0 := catG (((⟨#[100, 97, 109, 97, 103, 101]⟩ : ByteArray) ++ (⟨#[32]⟩ : ByteArray))) (bs (tab p)) (by simp only [ByteArray.size_append]; have : (⟨#[100, 97, 109, 97, 103, 101]⟩ : ByteArray).size = 6 := rfl; have : (⟨#[32]⟩ : ByteArray).size = 1 := rfl; have : (bs (tab p)).size ≤ 2 := (by rw [bs_len]; exact tab_len p); omega)
  have k1 := catG ((((⟨#[100, 97, 109, 97, 103, 101]⟩ : ByteArray) ++ (⟨#[32]⟩ : ByteArray)) ++ bs (tab p))) ((⟨#[32]⟩ : ByteArray)) (by simp only [ByteArray.size_append]; have : (⟨#[100, 97, 109, 97, 103, 101]⟩ : ByteArray).size = 6 := rfl; have : (⟨#[32]⟩ : ByteArray).size = 1 := rfl; have : (bs (tab p)).size ≤ 2 := (by rw [bs_len]; exact tab_len p); omega)
  have k2 := catG (((((⟨#[100, 97, 109, 97, 103, 101]⟩ : ByteArray) ++ (⟨#[32]⟩ : ByteArray)) ++ bs (tab p)) ++ (⟨#[32]⟩ : ByteArray))) ((⟨#[111, 119, 110]⟩ : ByteArray)) (by simp only [ByteArray.size_append]; have : (⟨#[100, 97, 109, 97, 103, 101]⟩ : ByteArray).size = 6 := rfl; have : (⟨#[32]⟩ : ByteArray).size = 1 := rfl; have : (⟨#[111, 119, 110]⟩ : ByteArray).size = 3 := rfl; have : (bs (tab p)).size ≤ 2 := (by rw [bs_len]; exact tab_len p); omega)
  have HDp := fun w => dig_any p w (by omega)
  go_enter Tryd.func21, Tryd.ntmps21
  go_wp2_with (go_at_call 35; refine (HDp _).mono ?_; rintro e w' ⟨rfl, hw⟩; subst hw)
  go_ret
  exact ⟨ret_str (by show bs [100, 97, 109, 97, 103, 101] ++ bs [32] ++ bs (tab p) ++ bs [32] ++ bs [111, 119, 110] = bs (Lib.join [[100, 97, 109, 97, 103, 101], tab p, [111, 119, 110]] [32]); rw [tx3]; simp only [bs_app]), by go_grown⟩
set_option maxRecDepth 100000 in
set_option maxHeartbeats 4000000 in
theorem rText_1_3 (p : Nat) (hp : p ≤ 99) (w : World) : Calls Tryd.prog 21 #[eV 1 3 (p : Int) 0 0] w fun e w' => e = .returned (.string (bs (textE ⟨1, 3, p, 0, 0⟩))) ∧ Below w.heap.size w w' := by
  have k0 := catG (((⟨#[100, 97, 109, 97, 103, 101]⟩ : ByteArray) ++ (⟨#[32]⟩ : ByteArray))) (bs (tab p)) (by simp only [ByteArray.size_append]; have : (⟨#[100, 97, 109, 97, 103, 101]⟩ : ByteArray).size = 6 := rfl; have : (⟨#[32]⟩ : ByteArray).size = 1 := rfl; have : (bs (tab p)).size ≤ 2 := (by rw [bs_len]; exact tab_len p); omega)
  have k1 := catG ((((⟨#[100, 97, 109, 97, 103, 101]⟩ : ByteArray) ++ (⟨#[32]⟩ : ByteArray)) ++ bs (tab p))) ((⟨#[32]⟩ : ByteArray)) (by simp only [ByteArray.size_append]; have : (⟨#[100, 97, 109, 97, 103, 101]⟩ : ByteArray).size = 6 := rfl; have : (⟨#[32]⟩ : ByteArray).size = 1 := rfl; have : (bs (tab p)).size ≤ 2 := (by rw [bs_len]; exact tab_len p); omega)
  have k2 := catG (((((⟨#[100, 97, 109, 97, 103, 101]⟩ : ByteArray) ++ (⟨#[32]⟩ : ByteArray)) ++ bs (tab p)) ++ (⟨#[32]⟩ : ByteArray))) ((⟨#[111, 116, 104, 101, 114]⟩ : ByteArray)) (by simp only [ByteArray.size_append]; have : (⟨#[100, 97, 109, 97, 103, 101]⟩ : ByteArray).size = 6 := rfl; have : (⟨#[32]⟩ : ByteArray).size = 1 := rfl; have : (⟨#[111, 116, 104, 101, 114]⟩ : ByteArray).size = 5 := rfl; have : (bs (tab p)).size ≤ 2 := (by rw [bs_len]; exact tab_len p); omega)
  have HDp := fun w => dig_any p w (by omega)
  go_enter Tryd.func21, Tryd.ntmps21
  go_wp2_with (go_at_call 35; refine (HDp _).mono ?_; rintro e w' ⟨rfl, hw⟩; subst hw)
  go_ret
  exact ⟨ret_str (by show bs [100, 97, 109, 97, 103, 101] ++ bs [32] ++ bs (tab p) ++ bs [32] ++ bs [111, 116, 104, 101, 114] = bs (Lib.join [[100, 97, 109, 97, 103, 101], tab p, [111, 116, 104, 101, 114]] [32]); rw [tx3]; simp only [bs_app]), by go_grown⟩
set_option maxRecDepth 100000 in
set_option maxHeartbeats 4000000 in
theorem rText_1_4 (p : Nat) (hp : p ≤ 99) (w : World) : Calls Tryd.prog 21 #[eV 1 4 (p : Int) 0 0] w fun e w' => e = .returned (.string (bs (textE ⟨1, 4, p, 0, 0⟩))) ∧ Below w.heap.size w w' := by
  have k0 := catG (((⟨#[100, 97, 109, 97, 103, 101]⟩ : ByteArray) ++ (⟨#[32]⟩ : ByteArray))) (bs (tab p)) (by simp only [ByteArray.size_append]; have : (⟨#[100, 97, 109, 97, 103, 101]⟩ : ByteArray).size = 6 := rfl; have : (⟨#[32]⟩ : ByteArray).size = 1 := rfl; have : (bs (tab p)).size ≤ 2 := (by rw [bs_len]; exact tab_len p); omega)
  have k1 := catG ((((⟨#[100, 97, 109, 97, 103, 101]⟩ : ByteArray) ++ (⟨#[32]⟩ : ByteArray)) ++ bs (tab p))) ((⟨#[32]⟩ : ByteArray)) (by simp only [ByteArray.size_append]; have : (⟨#[100, 97, 109, 97, 103, 101]⟩ : ByteArray).size = 6 := rfl; have : (⟨#[32]⟩ : ByteArray).size = 1 := rfl; have : (bs (tab p)).size ≤ 2 := (by rw [bs_len]; exact tab_len p); omega)
  have k2 := catG (((((⟨#[100, 97, 109, 97, 103, 101]⟩ : ByteArray) ++ (⟨#[32]⟩ : ByteArray)) ++ bs (tab p)) ++ (⟨#[32]⟩ : ByteArray))) ((⟨#[112, 108, 97, 121, 101, 114]⟩ : ByteArray)) (by simp only [ByteArray.size_append]; have : (⟨#[100, 97, 109, 97, 103, 101]⟩ : ByteArray).size = 6 := rfl; have : (⟨#[32]⟩ : ByteArray).size = 1 := rfl; have : (⟨#[112, 108, 97, 121, 101, 114]⟩ : ByteArray).size = 6 := rfl; have : (bs (tab p)).size ≤ 2 := (by rw [bs_len]; exact tab_len p); omega)
  have HDp := fun w => dig_any p w (by omega)
  go_enter Tryd.func21, Tryd.ntmps21
  go_wp2_with (go_at_call 35; refine (HDp _).mono ?_; rintro e w' ⟨rfl, hw⟩; subst hw)
  go_ret
  exact ⟨ret_str (by show bs [100, 97, 109, 97, 103, 101] ++ bs [32] ++ bs (tab p) ++ bs [32] ++ bs [112, 108, 97, 121, 101, 114] = bs (Lib.join [[100, 97, 109, 97, 103, 101], tab p, [112, 108, 97, 121, 101, 114]] [32]); rw [tx3]; simp only [bs_app]), by go_grown⟩
set_option maxRecDepth 100000 in
set_option maxHeartbeats 4000000 in
theorem rText_1_5 (p : Nat) (hp : p ≤ 99) (w : World) : Calls Tryd.prog 21 #[eV 1 5 (p : Int) 0 0] w fun e w' => e = .returned (.string (bs (textE ⟨1, 5, p, 0, 0⟩))) ∧ Below w.heap.size w w' := by
  have k0 := catG (((⟨#[100, 97, 109, 97, 103, 101]⟩ : ByteArray) ++ (⟨#[32]⟩ : ByteArray))) (bs (tab p)) (by simp only [ByteArray.size_append]; have : (⟨#[100, 97, 109, 97, 103, 101]⟩ : ByteArray).size = 6 := rfl; have : (⟨#[32]⟩ : ByteArray).size = 1 := rfl; have : (bs (tab p)).size ≤ 2 := (by rw [bs_len]; exact tab_len p); omega)
  have k1 := catG ((((⟨#[100, 97, 109, 97, 103, 101]⟩ : ByteArray) ++ (⟨#[32]⟩ : ByteArray)) ++ bs (tab p))) ((⟨#[32]⟩ : ByteArray)) (by simp only [ByteArray.size_append]; have : (⟨#[100, 97, 109, 97, 103, 101]⟩ : ByteArray).size = 6 := rfl; have : (⟨#[32]⟩ : ByteArray).size = 1 := rfl; have : (bs (tab p)).size ≤ 2 := (by rw [bs_len]; exact tab_len p); omega)
  have k2 := catG (((((⟨#[100, 97, 109, 97, 103, 101]⟩ : ByteArray) ++ (⟨#[32]⟩ : ByteArray)) ++ bs (tab p)) ++ (⟨#[32]⟩ : ByteArray))) ((⟨#[101, 105, 116, 104, 101, 114]⟩ : ByteArray)) (by simp only [ByteArray.size_append]; have : (⟨#[100, 97, 109, 97, 103, 101]⟩ : ByteArray).size = 6 := rfl; have : (⟨#[32]⟩ : ByteArray).size = 1 := rfl; have : (⟨#[101, 105, 116, 104, 101, 114]⟩ : ByteArray).size = 6 := rfl; have : (bs (tab p)).size ≤ 2 := (by rw [bs_len]; exact tab_len p); omega)
  have HDp := fun w => dig_any p w (by omega)
  go_enter Tryd.func21, Tryd.ntmps21
  go_wp2_with (go_at_call 35; refine (HDp _).mono ?_; rintro e w' ⟨rfl, hw⟩; subst hw)
  go_ret
  exact ⟨ret_str (by show bs [100, 97, 109, 97, 103, 101] ++ bs [32] ++ bs (tab p) ++ bs [32] ++ bs [101, 105, 116, 104, 101, 114] = bs (Lib.join [[100, 97, 109, 97, 103, 101], tab p, [101, 105, 116, 104, 101, 114]] [32]); rw [tx3]; simp only [bs_app]), by go_grown⟩
set_option maxRecDepth 100000 in
set_option maxHeartbeats 4000000 in
theorem rText_2_0 (p : Nat) (hp : p ≤ 99) (w : World) : Calls Tryd.prog 21 #[eV 2 0 (p : Int) 0 0] w fun e w' => e = .returned (.string (bs (textE ⟨2, 0, p, 0, 0⟩))) ∧ Below w.heap.size w w' := by
  have k0 := catG (((⟨#[100, 114, 97, 119]⟩ : ByteArray) ++ (⟨#[32]⟩ : ByteArray))) (bs (tab p)) (by simp only [ByteArray.size_append]; have : (⟨#[100, 114, 97, 119]⟩ : ByteArray).size = 4 := rfl; have : (⟨#[32]⟩ : ByteArray).size = 1 := rfl; have : (bs (tab p)).size ≤ 2 := (by rw [bs_len]; exact tab_len p); omega)
  have HDp := fun w => dig_any p w (by omega)
  go_enter Tryd.func21, Tryd.ntmps21
  go_wp2_with (go_at_call 35; refine (HDp _).mono ?_; rintro e w' ⟨rfl, hw⟩; subst hw)
  go_ret
  exact ⟨ret_str (by show bs [100, 114, 97, 119] ++ bs [32] ++ bs (tab p) = bs (Lib.join [[100, 114, 97, 119], tab p] [32]); rw [tx2]; simp only [bs_app]), by go_grown⟩
set_option maxRecDepth 100000 in
set_option maxHeartbeats 4000000 in
theorem rText_2_4 (p : Nat) (hp : p ≤ 99) (w : World) : Calls Tryd.prog 21 #[eV 2 4 (p : Int) 0 0] w fun e w' => e = .returned (.string (bs (textE ⟨2, 4, p, 0, 0⟩))) ∧ Below w.heap.size w w' := by
  have k0 := catG (((⟨#[100, 114, 97, 119]⟩ : ByteArray) ++ (⟨#[32]⟩ : ByteArray))) (bs (tab p)) (by simp only [ByteArray.size_append]; have : (⟨#[100, 114, 97, 119]⟩ : ByteArray).size = 4 := rfl; have : (⟨#[32]⟩ : ByteArray).size = 1 := rfl; have : (bs (tab p)).size ≤ 2 := (by rw [bs_len]; exact tab_len p); omega)
  have k1 := catG ((((⟨#[100, 114, 97, 119]⟩ : ByteArray) ++ (⟨#[32]⟩ : ByteArray)) ++ bs (tab p))) ((⟨#[32]⟩ : ByteArray)) (by simp only [ByteArray.size_append]; have : (⟨#[100, 114, 97, 119]⟩ : ByteArray).size = 4 := rfl; have : (⟨#[32]⟩ : ByteArray).size = 1 := rfl; have : (bs (tab p)).size ≤ 2 := (by rw [bs_len]; exact tab_len p); omega)
  have k2 := catG (((((⟨#[100, 114, 97, 119]⟩ : ByteArray) ++ (⟨#[32]⟩ : ByteArray)) ++ bs (tab p)) ++ (⟨#[32]⟩ : ByteArray))) ((⟨#[112, 108, 97, 121, 101, 114]⟩ : ByteArray)) (by simp only [ByteArray.size_append]; have : (⟨#[100, 114, 97, 119]⟩ : ByteArray).size = 4 := rfl; have : (⟨#[32]⟩ : ByteArray).size = 1 := rfl; have : (⟨#[112, 108, 97, 121, 101, 114]⟩ : ByteArray).size = 6 := rfl; have : (bs (tab p)).size ≤ 2 := (by rw [bs_len]; exact tab_len p); omega)
  have HDp := fun w => dig_any p w (by omega)
  go_enter Tryd.func21, Tryd.ntmps21
  go_wp2_with (go_at_call 35; refine (HDp _).mono ?_; rintro e w' ⟨rfl, hw⟩; subst hw)
  go_ret
  exact ⟨ret_str (by show bs [100, 114, 97, 119] ++ bs [32] ++ bs (tab p) ++ bs [32] ++ bs [112, 108, 97, 121, 101, 114] = bs (Lib.join [[100, 114, 97, 119], tab p, [112, 108, 97, 121, 101, 114]] [32]); rw [tx3]; simp only [bs_app]), by go_grown⟩
set_option maxRecDepth 100000 in
set_option maxHeartbeats 4000000 in
theorem rText_3_0 (p : Nat) (hp : p ≤ 99) (w : World) : Calls Tryd.prog 21 #[eV 3 0 (p : Int) 0 0] w fun e w' => e = .returned (.string (bs (textE ⟨3, 0, p, 0, 0⟩))) ∧ Below w.heap.size w w' := by
  have k0 := catG (((⟨#[103, 97, 105, 110]⟩ : ByteArray) ++ (⟨#[32]⟩ : ByteArray))) (bs (tab p)) (by simp only [ByteArray.size_append]; have : (⟨#[103, 97, 105, 110]⟩ : ByteArray).size = 4 := rfl; have : (⟨#[32]⟩ : ByteArray).size = 1 := rfl; have : (bs (tab p)).size ≤ 2 := (by rw [bs_len]; exact tab_len p); omega)
  have HDp := fun w => dig_any p w (by omega)
  go_enter Tryd.func21, Tryd.ntmps21
  go_wp2_with (go_at_call 35; refine (HDp _).mono ?_; rintro e w' ⟨rfl, hw⟩; subst hw)
  go_ret
  exact ⟨ret_str (by show bs [103, 97, 105, 110] ++ bs [32] ++ bs (tab p) = bs (Lib.join [[103, 97, 105, 110], tab p] [32]); rw [tx2]; simp only [bs_app]), by go_grown⟩
set_option maxRecDepth 100000 in
set_option maxHeartbeats 4000000 in
theorem rText_3_4 (p : Nat) (hp : p ≤ 99) (w : World) : Calls Tryd.prog 21 #[eV 3 4 (p : Int) 0 0] w fun e w' => e = .returned (.string (bs (textE ⟨3, 4, p, 0, 0⟩))) ∧ Below w.heap.size w w' := by
  have k0 := catG (((⟨#[103, 97, 105, 110]⟩ : ByteArray) ++ (⟨#[32]⟩ : ByteArray))) (bs (tab p)) (by simp only [ByteArray.size_append]; have : (⟨#[103, 97, 105, 110]⟩ : ByteArray).size = 4 := rfl; have : (⟨#[32]⟩ : ByteArray).size = 1 := rfl; have : (bs (tab p)).size ≤ 2 := (by rw [bs_len]; exact tab_len p); omega)
  have k1 := catG ((((⟨#[103, 97, 105, 110]⟩ : ByteArray) ++ (⟨#[32]⟩ : ByteArray)) ++ bs (tab p))) ((⟨#[32]⟩ : ByteArray)) (by simp only [ByteArray.size_append]; have : (⟨#[103, 97, 105, 110]⟩ : ByteArray).size = 4 := rfl; have : (⟨#[32]⟩ : ByteArray).size = 1 := rfl; have : (bs (tab p)).size ≤ 2 := (by rw [bs_len]; exact tab_len p); omega)
  have k2 := catG (((((⟨#[103, 97, 105, 110]⟩ : ByteArray) ++ (⟨#[32]⟩ : ByteArray)) ++ bs (tab p)) ++ (⟨#[32]⟩ : ByteArray))) ((⟨#[112, 108, 97, 121, 101, 114]⟩ : ByteArray)) (by simp only [ByteArray.size_append]; have : (⟨#[103, 97, 105, 110]⟩ : ByteArray).size = 4 := rfl; have : (⟨#[32]⟩ : ByteArray).size = 1 := rfl; have : (⟨#[112, 108, 97, 121, 101, 114]⟩ : ByteArray).size = 6 := rfl; have : (bs (tab p)).size ≤ 2 := (by rw [bs_len]; exact tab_len p); omega)
  have HDp := fun w => dig_any p w (by omega)
  go_enter Tryd.func21, Tryd.ntmps21
  go_wp2_with (go_at_call 35; refine (HDp _).mono ?_; rintro e w' ⟨rfl, hw⟩; subst hw)
  go_ret
  exact ⟨ret_str (by show bs [103, 97, 105, 110] ++ bs [32] ++ bs (tab p) ++ bs [32] ++ bs [112, 108, 97, 121, 101, 114] = bs (Lib.join [[103, 97, 105, 110], tab p, [112, 108, 97, 121, 101, 114]] [32]); rw [tx3]; simp only [bs_app]), by go_grown⟩
set_option maxRecDepth 100000 in
set_option maxHeartbeats 4000000 in
theorem rText_4_0 (p : Nat) (hp : p ≤ 99) (w : World) : Calls Tryd.prog 21 #[eV 4 0 (p : Int) 0 0] w fun e w' => e = .returned (.string (bs (textE ⟨4, 0, p, 0, 0⟩))) ∧ Below w.heap.size w w' := by
  have k0 := catG (((⟨#[108, 111, 115, 101]⟩ : ByteArray) ++ (⟨#[32]⟩ : ByteArray))) (bs (tab p)) (by simp only [ByteArray.size_append]; have : (⟨#[108, 111, 115, 101]⟩ : ByteArray).size = 4 := rfl; have : (⟨#[32]⟩ : ByteArray).size = 1 := rfl; have : (bs (tab p)).size ≤ 2 := (by rw [bs_len]; exact tab_len p); omega)
  have HDp := fun w => dig_any p w (by omega)
  go_enter Tryd.func21, Tryd.ntmps21
  go_wp2_with (go_at_call 35; refine (HDp _).mono ?_; rintro e w' ⟨rfl, hw⟩; subst hw)
  go_ret
  exact ⟨ret_str (by show bs [108, 111, 115, 101] ++ bs [32] ++ bs (tab p) = bs (Lib.join [[108, 111, 115, 101], tab p] [32]); rw [tx2]; simp only [bs_app]), by go_grown⟩
set_option maxRecDepth 100000 in
set_option maxHeartbeats 4000000 in
theorem rText_4_4 (p : Nat) (hp : p ≤ 99) (w : World) : Calls Tryd.prog 21 #[eV 4 4 (p : Int) 0 0] w fun e w' => e = .returned (.string (bs (textE ⟨4, 4, p, 0, 0⟩))) ∧ Below w.heap.size w w' := by
  have k0 := catG (((⟨#[108, 111, 115, 101]⟩ : ByteArray) ++ (⟨#[32]⟩ : ByteArray))) (bs (tab p)) (by simp only [ByteArray.size_append]; have : (⟨#[108, 111, 115, 101]⟩ : ByteArray).size = 4 := rfl; have : (⟨#[32]⟩ : ByteArray).size = 1 := rfl; have : (bs (tab p)).size ≤ 2 := (by rw [bs_len]; exact tab_len p); omega)
  have k1 := catG ((((⟨#[108, 111, 115, 101]⟩ : ByteArray) ++ (⟨#[32]⟩ : ByteArray)) ++ bs (tab p))) ((⟨#[32]⟩ : ByteArray)) (by simp only [ByteArray.size_append]; have : (⟨#[108, 111, 115, 101]⟩ : ByteArray).size = 4 := rfl; have : (⟨#[32]⟩ : ByteArray).size = 1 := rfl; have : (bs (tab p)).size ≤ 2 := (by rw [bs_len]; exact tab_len p); omega)
  have k2 := catG (((((⟨#[108, 111, 115, 101]⟩ : ByteArray) ++ (⟨#[32]⟩ : ByteArray)) ++ bs (tab p)) ++ (⟨#[32]⟩ : ByteArray))) ((⟨#[112, 108, 97, 121, 101, 114]⟩ : ByteArray)) (by simp only [ByteArray.size_append]; have : (⟨#[108, 111, 115, 101]⟩ : ByteArray).size = 4 := rfl; have : (⟨#[32]⟩ : ByteArray).size = 1 := rfl; have : (⟨#[112, 108, 97, 121, 101, 114]⟩ : ByteArray).size = 6 := rfl; have : (bs (tab p)).size ≤ 2 := (by rw [bs_len]; exact tab_len p); omega)
  have HDp := fun w => dig_any p w (by omega)
  go_enter Tryd.func21, Tryd.ntmps21
  go_wp2_with (go_at_call 35; refine (HDp _).mono ?_; rintro e w' ⟨rfl, hw⟩; subst hw)
  go_ret
  exact ⟨ret_str (by show bs [108, 111, 115, 101] ++ bs [32] ++ bs (tab p) ++ bs [32] ++ bs [112, 108, 97, 121, 101, 114] = bs (Lib.join [[108, 111, 115, 101], tab p, [112, 108, 97, 121, 101, 114]] [32]); rw [tx3]; simp only [bs_app]), by go_grown⟩
end Go.Proofs.YtfdolapiikgebaaDoor.efFn
