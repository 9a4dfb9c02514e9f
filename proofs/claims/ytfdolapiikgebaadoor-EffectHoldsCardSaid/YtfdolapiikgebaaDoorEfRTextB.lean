/- The text of an effect: what the reference's Text returns. -/
import Derived.Test.YtfdolapiikgebaaDoorEfRText
import Derived.Laws.Concat
import Derived.Deep.QuietTactic
import Derived.BigQuiet
namespace Go.Proofs.YtfdolapiikgebaaDoor.efFn
open Go.ChangeShapes Go.WideShapes Go.ChangeAt Go.RowKit drMem
set_option linter.unusedVariables false

set_option maxRecDepth 100000 in
set_option maxHeartbeats 4000000 in
theorem rText_5_1 (w : World) : Calls Tryd.prog 21 #[eV 5 1 0 0 0] w fun e w' => e = .returned (.string (bs (textE ⟨5, 1, 0, 0, 0⟩))) ∧ Below w.heap.size w w' := by
  go_enter Tryd.func21, Tryd.ntmps21
  go_wp2
  go_ret
  exact ⟨ret_str (by show bs [100, 101, 115, 116, 114, 111, 121] ++ bs [32] ++ bs [99, 114, 101, 97, 116, 117, 114, 101] = bs (Lib.join [[100, 101, 115, 116, 114, 111, 121], [99, 114, 101, 97, 116, 117, 114, 101]] [32]); rw [tx2]; simp only [bs_app]), by go_grown⟩
set_option maxRecDepth 100000 in
set_option maxHeartbeats 4000000 in
theorem rText_5_2 (w : World) : Calls Tryd.prog 21 #[eV 5 2 0 0 0] w fun e w' => e = .returned (.string (bs (textE ⟨5, 2, 0, 0, 0⟩))) ∧ Below w.heap.size w w' := by
  go_enter Tryd.func21, Tryd.ntmps21
  go_wp2
  go_ret
  exact ⟨ret_str (by show bs [100, 101, 115, 116, 114, 111, 121] ++ bs [32] ++ bs [111, 119, 110] = bs (Lib.join [[100, 101, 115, 116, 114, 111, 121], [111, 119, 110]] [32]); rw [tx2]; simp only [bs_app]), by go_grown⟩
set_option maxRecDepth 100000 in
set_option maxHeartbeats 4000000 in
theorem rText_5_3 (w : World) : Calls Tryd.prog 21 #[eV 5 3 0 0 0] w fun e w' => e = .returned (.string (bs (textE ⟨5, 3, 0, 0, 0⟩))) ∧ Below w.heap.size w w' := by
  go_enter Tryd.func21, Tryd.ntmps21
  go_wp2
  go_ret
  exact ⟨ret_str (by show bs [100, 101, 115, 116, 114, 111, 121] ++ bs [32] ++ bs [111, 116, 104, 101, 114] = bs (Lib.join [[100, 101, 115, 116, 114, 111, 121], [111, 116, 104, 101, 114]] [32]); rw [tx2]; simp only [bs_app]), by go_grown⟩
set_option maxRecDepth 100000 in
set_option maxHeartbeats 4000000 in
theorem rText_6_1 (w : World) : Calls Tryd.prog 21 #[eV 6 1 0 0 0] w fun e w' => e = .returned (.string (bs (textE ⟨6, 1, 0, 0, 0⟩))) ∧ Below w.heap.size w w' := by
  go_enter Tryd.func21, Tryd.ntmps21
  go_wp2
  go_ret
  exact ⟨ret_str (by show bs [114, 101, 116, 117, 114, 110] ++ bs [32] ++ bs [99, 114, 101, 97, 116, 117, 114, 101] = bs (Lib.join [[114, 101, 116, 117, 114, 110], [99, 114, 101, 97, 116, 117, 114, 101]] [32]); rw [tx2]; simp only [bs_app]), by go_grown⟩
set_option maxRecDepth 100000 in
set_option maxHeartbeats 4000000 in
theorem rText_6_2 (w : World) : Calls Tryd.prog 21 #[eV 6 2 0 0 0] w fun e w' => e = .returned (.string (bs (textE ⟨6, 2, 0, 0, 0⟩))) ∧ Below w.heap.size w w' := by
  go_enter Tryd.func21, Tryd.ntmps21
  go_wp2
  go_ret
  exact ⟨ret_str (by show bs [114, 101, 116, 117, 114, 110] ++ bs [32] ++ bs [111, 119, 110] = bs (Lib.join [[114, 101, 116, 117, 114, 110], [111, 119, 110]] [32]); rw [tx2]; simp only [bs_app]), by go_grown⟩
set_option maxRecDepth 100000 in
set_option maxHeartbeats 4000000 in
theorem rText_6_3 (w : World) : Calls Tryd.prog 21 #[eV 6 3 0 0 0] w fun e w' => e = .returned (.string (bs (textE ⟨6, 3, 0, 0, 0⟩))) ∧ Below w.heap.size w w' := by
  go_enter Tryd.func21, Tryd.ntmps21
  go_wp2
  go_ret
  exact ⟨ret_str (by show bs [114, 101, 116, 117, 114, 110] ++ bs [32] ++ bs [111, 116, 104, 101, 114] = bs (Lib.join [[114, 101, 116, 117, 114, 110], [111, 116, 104, 101, 114]] [32]); rw [tx2]; simp only [bs_app]), by go_grown⟩
set_option maxRecDepth 100000 in
set_option maxHeartbeats 4000000 in
theorem rText_7_6 (w : World) : Calls Tryd.prog 21 #[eV 7 6 0 0 0] w fun e w' => e = .returned (.string (bs (textE ⟨7, 6, 0, 0, 0⟩))) ∧ Below w.heap.size w w' := by
  go_enter Tryd.func21, Tryd.ntmps21
  go_wp2
  go_ret
  exact ⟨ret_str (by show bs [99, 111, 117, 110, 116, 101, 114] ++ bs [32] ++ bs [115, 112, 101, 108, 108] = bs (Lib.join [[99, 111, 117, 110, 116, 101, 114], [115, 112, 101, 108, 108]] [32]); rw [tx2]; simp only [bs_app]), by go_grown⟩
set_option maxRecDepth 100000 in
set_option maxHeartbeats 4000000 in
theorem rText_9_0 (p : Nat) (hp : p ≤ 99) (w : World) : Calls Tryd.prog 21 #[eV 9 0 (p : Int) 0 0] w fun e w' => e = .returned (.string (bs (textE ⟨9, 0, p, 0, 0⟩))) ∧ Below w.heap.size w w' := by
  have k0 := catG (((⟨#[99, 111, 117, 110, 116, 101, 114, 115]⟩ : ByteArray) ++ (⟨#[32]⟩ : ByteArray))) (bs (tab p)) (by simp only [ByteArray.size_append]; have : (⟨#[99, 111, 117, 110, 116, 101, 114, 115]⟩ : ByteArray).size = 8 := rfl; have : (⟨#[32]⟩ : ByteArray).size = 1 := rfl; have : (bs (tab p)).size ≤ 2 := (by rw [bs_len]; exact tab_len p); omega)
  have HDp := fun w => dig_any p w (by omega)
  go_enter Tryd.func21, Tryd.ntmps21
  go_wp2_with (go_at_call 35; refine (HDp _).mono ?_; rintro e w' ⟨rfl, hw⟩; subst hw)
  go_ret
  exact ⟨ret_str (by show bs [99, 111, 117, 110, 116, 101, 114, 115] ++ bs [32] ++ bs (tab p) = bs (Lib.join [[99, 111, 117, 110, 116, 101, 114, 115], tab p] [32]); rw [tx2]; simp only [bs_app]), by go_grown⟩
set_option maxRecDepth 100000 in
set_option maxHeartbeats 4000000 in
theorem rText_9_1 (p : Nat) (hp : p ≤ 99) (w : World) : Calls Tryd.prog 21 #[eV 9 1 (p : Int) 0 0] w fun e w' => e = .returned (.string (bs (textE ⟨9, 1, p, 0, 0⟩))) ∧ Below w.heap.size w w' := by
  have k0 := catG (((⟨#[99, 111, 117, 110, 116, 101, 114, 115]⟩ : ByteArray) ++ (⟨#[32]⟩ : ByteArray))) (bs (tab p)) (by simp only [ByteArray.size_append]; have : (⟨#[99, 111, 117, 110, 116, 101, 114, 115]⟩ : ByteArray).size = 8 := rfl; have : (⟨#[32]⟩ : ByteArray).size = 1 := rfl; have : (bs (tab p)).size ≤ 2 := (by rw [bs_len]; exact tab_len p); omega)
  have k1 := catG ((((⟨#[99, 111, 117, 110, 116, 101, 114, 115]⟩ : ByteArray) ++ (⟨#[32]⟩ : ByteArray)) ++ bs (tab p))) ((⟨#[32]⟩ : ByteArray)) (by simp only [ByteArray.size_append]; have : (⟨#[99, 111, 117, 110, 116, 101, 114, 115]⟩ : ByteArray).size = 8 := rfl; have : (⟨#[32]⟩ : ByteArray).size = 1 := rfl; have : (bs (tab p)).size ≤ 2 := (by rw [bs_len]; exact tab_len p); omega)
  have k2 := catG (((((⟨#[99, 111, 117, 110, 116, 101, 114, 115]⟩ : ByteArray) ++ (⟨#[32]⟩ : ByteArray)) ++ bs (tab p)) ++ (⟨#[32]⟩ : ByteArray))) ((⟨#[99, 114, 101, 97, 116, 117, 114, 101]⟩ : ByteArray)) (by simp only [ByteArray.size_append]; have : (⟨#[99, 111, 117, 110, 116, 101, 114, 115]⟩ : ByteArray).size = 8 := rfl; have : (⟨#[32]⟩ : ByteArray).size = 1 := rfl; have : (⟨#[99, 114, 101, 97, 116, 117, 114, 101]⟩ : ByteArray).size = 8 := rfl; have : (bs (tab p)).size ≤ 2 := (by rw [bs_len]; exact tab_len p); omega)
  have HDp := fun w => dig_any p w (by omega)
  go_enter Tryd.func21, Tryd.ntmps21
  go_wp2_with (go_at_call 35; refine (HDp _).mono ?_; rintro e w' ⟨rfl, hw⟩; subst hw)
  go_ret
  exact ⟨ret_str (by show bs [99, 111, 117, 110, 116, 101, 114, 115] ++ bs [32] ++ bs (tab p) ++ bs [32] ++ bs [99, 114, 101, 97, 116, 117, 114, 101] = bs (Lib.join [[99, 111, 117, 110, 116, 101, 114, 115], tab p, [99, 114, 101, 97, 116, 117, 114, 101]] [32]); rw [tx3]; simp only [bs_app]), by go_grown⟩
set_option maxRecDepth 100000 in
set_option maxHeartbeats 4000000 in
theorem rText_9_2 (p : Nat) (hp : p ≤ 99) (w : World) : Calls Tryd.prog 21 #[eV 9 2 (p : Int) 0 0] w fun e w' => e = .returned (.string (bs (textE ⟨9, 2, p, 0, 0⟩))) ∧ Below w.heap.size w w' := by
  have k0 := catG (((⟨#[99, 111, 117, 110, 116, 101, 114, 115]⟩ : ByteArray) ++ (⟨#[32]⟩ : ByteArray))) (bs (tab p)) (by simp only [ByteArray.size_append]; have : (⟨#[99, 111, 117, 110, 116, 101, 114, 115]⟩ : ByteArray).size = 8 := rfl; have : (⟨#[32]⟩ : ByteArray).size = 1 := rfl; have : (bs (tab p)).size ≤ 2 := (by rw [bs_len]; exact tab_len p); omega)
  have k1 := catG ((((⟨#[99, 111, 117, 110, 116, 101, 114, 115]⟩ : ByteArray) ++ (⟨#[32]⟩ : ByteArray)) ++ bs (tab p))) ((⟨#[32]⟩ : ByteArray)) (by simp only [ByteArray.size_append]; have : (⟨#[99, 111, 117, 110, 116, 101, 114, 115]⟩ : ByteArray).size = 8 := rfl; have : (⟨#[32]⟩ : ByteArray).size = 1 := rfl; have : (bs (tab p)).size ≤ 2 := (by rw [bs_len]; exact tab_len p); omega)
  have k2 := catG (((((⟨#[99, 111, 117, 110, 116, 101, 114, 115]⟩ : ByteArray) ++ (⟨#[32]⟩ : ByteArray)) ++ bs (tab p)) ++ (⟨#[32]⟩ : ByteArray))) ((⟨#[111, 119, 110]⟩ : ByteArray)) (by simp only [ByteArray.size_append]; have : (⟨#[99, 111, 117, 110, 116, 101, 114, 115]⟩ : ByteArray).size = 8 := rfl; have : (⟨#[32]⟩ : ByteArray).size = 1 := rfl; have : (⟨#[111, 119, 110]⟩ : ByteArray).size = 3 := rfl; have : (bs (tab p)).size ≤ 2 := (by rw [bs_len]; exact tab_len p); omega)
  have HDp := fun w => dig_any p w (by omega)
  go_enter Tryd.func21, Tryd.ntmps21
  go_wp2_with (go_at_call 35; refine (HDp _).mono ?_; rintro e w' ⟨rfl, hw⟩; subst hw)
  go_ret
  exact ⟨ret_str (by show bs [99, 111, 117, 110, 116, 101, 114, 115] ++ bs [32] ++ bs (tab p) ++ bs [32] ++ bs [111, 119, 110] = bs (Lib.join [[99, 111, 117, 110, 116, 101, 114, 115], tab p, [111, 119, 110]] [32]); rw [tx3]; simp only [bs_app]), by go_grown⟩
set_option maxRecDepth 100000 in
set_option maxHeartbeats 4000000 in
theorem rText_9_3 (p : Nat) (hp : p ≤ 99) (w : World) : Calls Tryd.prog 21 #[eV 9 3 (p : Int) 0 0] w fun e w' => e = .returned (.string (bs (textE ⟨9, 3, p, 0, 0⟩))) ∧ Below w.heap.size w w' := by
  have k0 := catG (((⟨#[99, 111, 117, 110, 116, 101, 114, 115]⟩ : ByteArray) ++ (⟨#[32]⟩ : ByteArray))) (bs (tab p)) (by simp only [ByteArray.size_append]; have : (⟨#[99, 111, 117, 110, 116, 101, 114, 115]⟩ : ByteArray).size = 8 := rfl; have : (⟨#[32]⟩ : ByteArray).size = 1 := rfl; have : (bs (tab p)).size ≤ 2 := (by rw [bs_len]; exact tab_len p); omega)
  have k1 := catG ((((⟨#[99, 111, 117, 110, 116, 101, 114, 115]⟩ : ByteArray) ++ (⟨#[32]⟩ : ByteArray)) ++ bs (tab p))) ((⟨#[32]⟩ : ByteArray)) (by simp only [ByteArray.size_append]; have : (⟨#[99, 111, 117, 110, 116, 101, 114, 115]⟩ : ByteArray).size = 8 := rfl; have : (⟨#[32]⟩ : ByteArray).size = 1 := rfl; have : (bs (tab p)).size ≤ 2 := (by rw [bs_len]; exact tab_len p); omega)
  have k2 := catG (((((⟨#[99, 111, 117, 110, 116, 101, 114, 115]⟩ : ByteArray) ++ (⟨#[32]⟩ : ByteArray)) ++ bs (tab p)) ++ (⟨#[32]⟩ : ByteArray))) ((⟨#[111, 116, 104, 101, 114]⟩ : ByteArray)) (by simp only [ByteArray.size_append]; have : (⟨#[99, 111, 117, 110, 116, 101, 114, 115]⟩ : ByteArray).size = 8 := rfl; have : (⟨#[32]⟩ : ByteArray).size = 1 := rfl; have : (⟨#[111, 116, 104, 101, 114]⟩ : ByteArray).size = 5 := rfl; have : (bs (tab p)).size ≤ 2 := (by rw [bs_len]; exact tab_len p); omega)
  have HDp := fun w => dig_any p w (by omega)
  go_enter Tryd.func21, Tryd.ntmps21
  go_wp2_with (go_at_call 35; refine (HDp _).mono ?_; rintro e w' ⟨rfl, hw⟩; subst hw)
  go_ret
  exact ⟨ret_str (by show bs [99, 111, 117, 110, 116, 101, 114, 115] ++ bs [32] ++ bs (tab p) ++ bs [32] ++ bs [111, 116, 104, 101, 114] = bs (Lib.join [[99, 111, 117, 110, 116, 101, 114, 115], tab p, [111, 116, 104, 101, 114]] [32]); rw [tx3]; simp only [bs_app]), by go_grown⟩
set_option maxRecDepth 100000 in
set_option maxHeartbeats 4000000 in
theorem rText_11_1 (w : World) : Calls Tryd.prog 21 #[eV 11 1 0 0 0] w fun e w' => e = .returned (.string (bs (textE ⟨11, 1, 0, 0, 0⟩))) ∧ Below w.heap.size w w' := by
  go_enter Tryd.func21, Tryd.ntmps21
  go_wp2
  go_ret
  exact ⟨ret_str (by show bs [116, 97, 112] ++ bs [32] ++ bs [99, 114, 101, 97, 116, 117, 114, 101] = bs (Lib.join [[116, 97, 112], [99, 114, 101, 97, 116, 117, 114, 101]] [32]); rw [tx2]; simp only [bs_app]), by go_grown⟩
set_option maxRecDepth 100000 in
set_option maxHeartbeats 4000000 in
theorem rText_11_2 (w : World) : Calls Tryd.prog 21 #[eV 11 2 0 0 0] w fun e w' => e = .returned (.string (bs (textE ⟨11, 2, 0, 0, 0⟩))) ∧ Below w.heap.size w w' := by
  go_enter Tryd.func21, Tryd.ntmps21
  go_wp2
  go_ret
  exact ⟨ret_str (by show bs [116, 97, 112] ++ bs [32] ++ bs [111, 119, 110] = bs (Lib.join [[116, 97, 112], [111, 119, 110]] [32]); rw [tx2]; simp only [bs_app]), by go_grown⟩
set_option maxRecDepth 100000 in
set_option maxHeartbeats 4000000 in
theorem rText_11_3 (w : World) : Calls Tryd.prog 21 #[eV 11 3 0 0 0] w fun e w' => e = .returned (.string (bs (textE ⟨11, 3, 0, 0, 0⟩))) ∧ Below w.heap.size w w' := by
  go_enter Tryd.func21, Tryd.ntmps21
  go_wp2
  go_ret
  exact ⟨ret_str (by show bs [116, 97, 112] ++ bs [32] ++ bs [111, 116, 104, 101, 114] = bs (Lib.join [[116, 97, 112], [111, 116, 104, 101, 114]] [32]); rw [tx2]; simp only [bs_app]), by go_grown⟩
end Go.Proofs.YtfdolapiikgebaaDoor.efFn
