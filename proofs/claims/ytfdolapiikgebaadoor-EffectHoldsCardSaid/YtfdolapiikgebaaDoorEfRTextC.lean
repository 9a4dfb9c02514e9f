/- The text of an effect: what the reference's Text returns. -/
import Derived.Test.YtfdolapiikgebaaDoorEfRText
import Derived.Laws.Concat
import Derived.Deep.QuietTactic
import Derived.BigQuiet
namespace Go.Proofs.YtfdolapiikgebaaDoor.efFn
open Go.ChangeShapes Go.WideShapes Go.ChangeAt Go.RowKit drMem
set_option linter.unusedVariables false

set_option maxRecDepth 100000 in
set_option maxHeartbeats 4000000 in
theorem rText_8_0 (p q : Nat) (hp : p ≤ 99) (hq : q ≤ 9) (w : World) : Calls Tryd.prog 21 #[eV 8 0 (p : Int) (q : Int) 0] w fun e w' => e = .returned (.string (bs (textE ⟨8, 0, p, q, 0⟩))) ∧ Below w.heap.size w w' := by
  have k0 := catG (((⟨#[112, 117, 109, 112]⟩ : ByteArray) ++ (⟨#[32]⟩ : ByteArray))) (bs (tab p)) (by simp only [ByteArray.size_append]; have : (⟨#[112, 117, 109, 112]⟩ : ByteArray).size = 4 := rfl; have : (⟨#[32]⟩ : ByteArray).size = 1 := rfl; have : (bs (tab p)).size ≤ 2 := (by rw [bs_len]; exact tab_len p); omega)
  have k1 := catG ((((⟨#[112, 117, 109, 112]⟩ : ByteArray) ++ (⟨#[32]⟩ : ByteArray)) ++ bs (tab p))) ((⟨#[32]⟩ : ByteArray)) (by simp only [ByteArray.size_append]; have : (⟨#[112, 117, 109, 112]⟩ : ByteArray).size = 4 := rfl; have : (⟨#[32]⟩ : ByteArray).size = 1 := rfl; have : (bs (tab p)).size ≤ 2 := (by rw [bs_len]; exact tab_len p); omega)
  have k2 := catG (((((⟨#[112, 117, 109, 112]⟩ : ByteArray) ++ (⟨#[32]⟩ : ByteArray)) ++ bs (tab p)) ++ (⟨#[32]⟩ : ByteArray))) (bs (tab q)) (by simp only [ByteArray.size_append]; have : (⟨#[112, 117, 109, 112]⟩ : ByteArray).size = 4 := rfl; have : (⟨#[32]⟩ : ByteArray).size = 1 := rfl; have : (bs (tab p)).size ≤ 2 := (by rw [bs_len]; exact tab_len p); have : (bs (tab q)).size ≤ 2 := (by rw [bs_len]; exact tab_len q); omega)
  have HDp := fun w => dig_any p w (by omega)
  have HDq := fun w => dig_any q w (by omega)
  go_enter Tryd.func21, Tryd.ntmps21
  go_wp2_with fail
  go_quiet (first | (go_at_call 35; (with_reducible refine Calls.quiet_of_same ((HDp _).mono (fun _ _ h => ⟨h.1, h.2.symm⟩)))) | (go_at_call 35; (with_reducible refine Calls.quiet_of_same ((HDq _).mono (fun _ _ h => ⟨h.1, h.2.symm⟩)))))
  go_wp2
  go_ret
  exact ⟨ret_str (by show bs [112, 117, 109, 112] ++ bs [32] ++ bs (tab p) ++ bs [32] ++ bs (tab q) = bs (Lib.join [[112, 117, 109, 112], tab p, tab q] [32]); rw [tx3]; simp only [bs_app]), by first | exact dN (by go_grown) _ | (refine Below.alloc (dN (by go_grown) _) ?_ _; first | (simp; done) | (simp; omega))⟩
set_option maxRecDepth 100000 in
set_option maxHeartbeats 4000000 in
theorem rText_8_1 (p q : Nat) (hp : p ≤ 99) (hq : q ≤ 9) (w : World) : Calls Tryd.prog 21 #[eV 8 1 (p : Int) (q : Int) 0] w fun e w' => e = .returned (.string (bs (textE ⟨8, 1, p, q, 0⟩))) ∧ Below w.heap.size w w' := by
  have k0 := catG (((⟨#[112, 117, 109, 112]⟩ : ByteArray) ++ (⟨#[32]⟩ : ByteArray))) (bs (tab p)) (by simp only [ByteArray.size_append]; have : (⟨#[112, 117, 109, 112]⟩ : ByteArray).size = 4 := rfl; have : (⟨#[32]⟩ : ByteArray).size = 1 := rfl; have : (bs (tab p)).size ≤ 2 := (by rw [bs_len]; exact tab_len p); omega)
  have k1 := catG ((((⟨#[112, 117, 109, 112]⟩ : ByteArray) ++ (⟨#[32]⟩ : ByteArray)) ++ bs (tab p))) ((⟨#[32]⟩ : ByteArray)) (by simp only [ByteArray.size_append]; have : (⟨#[112, 117, 109, 112]⟩ : ByteArray).size = 4 := rfl; have : (⟨#[32]⟩ : ByteArray).size = 1 := rfl; have : (bs (tab p)).size ≤ 2 := (by rw [bs_len]; exact tab_len p); omega)
  have k2 := catG (((((⟨#[112, 117, 109, 112]⟩ : ByteArray) ++ (⟨#[32]⟩ : ByteArray)) ++ bs (tab p)) ++ (⟨#[32]⟩ : ByteArray))) (bs (tab q)) (by simp only [ByteArray.size_append]; have : (⟨#[112, 117, 109, 112]⟩ : ByteArray).size = 4 := rfl; have : (⟨#[32]⟩ : ByteArray).size = 1 := rfl; have : (bs (tab p)).size ≤ 2 := (by rw [bs_len]; exact tab_len p); have : (bs (tab q)).size ≤ 2 := (by rw [bs_len]; exact tab_len q); omega)
  have k3 := catG ((((((⟨#[112, 117, 109, 112]⟩ : ByteArray) ++ (⟨#[32]⟩ : ByteArray)) ++ bs (tab p)) ++ (⟨#[32]⟩ : ByteArray)) ++ bs (tab q))) ((⟨#[32]⟩ : ByteArray)) (by simp only [ByteArray.size_append]; have : (⟨#[112, 117, 109, 112]⟩ : ByteArray).size = 4 := rfl; have : (⟨#[32]⟩ : ByteArray).size = 1 := rfl; have : (bs (tab p)).size ≤ 2 := (by rw [bs_len]; exact tab_len p); have : (bs (tab q)).size ≤ 2 := (by rw [bs_len]; exact tab_len q); omega)
  have k4 := catG (((((((⟨#[112, 117, 109, 112]⟩ : ByteArray) ++ (⟨#[32]⟩ : ByteArray)) ++ bs (tab p)) ++ (⟨#[32]⟩ : ByteArray)) ++ bs (tab q)) ++ (⟨#[32]⟩ : ByteArray))) ((⟨#[99, 114, 101, 97, 116, 117, 114, 101]⟩ : ByteArray)) (by simp only [ByteArray.size_append]; have : (⟨#[112, 117, 109, 112]⟩ : ByteArray).size = 4 := rfl; have : (⟨#[32]⟩ : ByteArray).size = 1 := rfl; have : (⟨#[99, 114, 101, 97, 116, 117, 114, 101]⟩ : ByteArray).size = 8 := rfl; have : (bs (tab p)).size ≤ 2 := (by rw [bs_len]; exact tab_len p); have : (bs (tab q)).size ≤ 2 := (by rw [bs_len]; exact tab_len q); omega)
  have HDp := fun w => dig_any p w (by omega)
  have HDq := fun w => dig_any q w (by omega)
  go_enter Tryd.func21, Tryd.ntmps21
  go_wp2_with fail
  go_quiet (first | (go_at_call 35; (with_reducible refine Calls.quiet_of_same ((HDp _).mono (fun _ _ h => ⟨h.1, h.2.symm⟩)))) | (go_at_call 35; (with_reducible refine Calls.quiet_of_same ((HDq _).mono (fun _ _ h => ⟨h.1, h.2.symm⟩)))))
  go_wp2
  go_ret
  exact ⟨ret_str (by show bs [112, 117, 109, 112] ++ bs [32] ++ bs (tab p) ++ bs [32] ++ bs (tab q) ++ bs [32] ++ bs [99, 114, 101, 97, 116, 117, 114, 101] = bs (Lib.join [[112, 117, 109, 112], tab p, tab q, [99, 114, 101, 97, 116, 117, 114, 101]] [32]); rw [tx4]; simp only [bs_app]), by first | exact dN (by go_grown) _ | (refine Below.alloc (dN (by go_grown) _) ?_ _; first | (simp; done) | (simp; omega))⟩
set_option maxRecDepth 100000 in
set_option maxHeartbeats 4000000 in
theorem rText_8_2 (p q : Nat) (hp : p ≤ 99) (hq : q ≤ 9) (w : World) : Calls Tryd.prog 21 #[eV 8 2 (p : Int) (q : Int) 0] w fun e w' => e = .returned (.string (bs (textE ⟨8, 2, p, q, 0⟩))) ∧ Below w.heap.size w w' := by
  have k0 := catG (((⟨#[112, 117, 109, 112]⟩ : ByteArray) ++ (⟨#[32]⟩ : ByteArray))) (bs (tab p)) (by simp only [ByteArray.size_append]; have : (⟨#[112, 117, 109, 112]⟩ : ByteArray).size = 4 := rfl; have : (⟨#[32]⟩ : ByteArray).size = 1 := rfl; have : (bs (tab p)).size ≤ 2 := (by rw [bs_len]; exact tab_len p); omega)
  have k1 := catG ((((⟨#[112, 117, 109, 112]⟩ : ByteArray) ++ (⟨#[32]⟩ : ByteArray)) ++ bs (tab p))) ((⟨#[32]⟩ : ByteArray)) (by simp only [ByteArray.size_append]; have : (⟨#[112, 117, 109, 112]⟩ : ByteArray).size = 4 := rfl; have : (⟨#[32]⟩ : ByteArray).size = 1 := rfl; have : (bs (tab p)).size ≤ 2 := (by rw [bs_len]; exact tab_len p); omega)
  have k2 := catG (((((⟨#[112, 117, 109, 112]⟩ : ByteArray) ++ (⟨#[32]⟩ : ByteArray)) ++ bs (tab p)) ++ (⟨#[32]⟩ : ByteArray))) (bs (tab q)) (by simp only [ByteArray.size_append]; have : (⟨#[112, 117, 109, 112]⟩ : ByteArray).size = 4 := rfl; have : (⟨#[32]⟩ : ByteArray).size = 1 := rfl; have : (bs (tab p)).size ≤ 2 := (by rw [bs_len]; exact tab_len p); have : (bs (tab q)).size ≤ 2 := (by rw [bs_len]; exact tab_len q); omega)
  have k3 := catG ((((((⟨#[112, 117, 109, 112]⟩ : ByteArray) ++ (⟨#[32]⟩ : ByteArray)) ++ bs (tab p)) ++ (⟨#[32]⟩ : ByteArray)) ++ bs (tab q))) ((⟨#[32]⟩ : ByteArray)) (by simp only [ByteArray.size_append]; have : (⟨#[112, 117, 109, 112]⟩ : ByteArray).size = 4 := rfl; have : (⟨#[32]⟩ : ByteArray).size = 1 := rfl; have : (bs (tab p)).size ≤ 2 := (by rw [bs_len]; exact tab_len p); have : (bs (tab q)).size ≤ 2 := (by rw [bs_len]; exact tab_len q); omega)
  have k4 := catG (((((((⟨#[112, 117, 109, 112]⟩ : ByteArray) ++ (⟨#[32]⟩ : ByteArray)) ++ bs (tab p)) ++ (⟨#[32]⟩ : ByteArray)) ++ bs (tab q)) ++ (⟨#[32]⟩ : ByteArray))) ((⟨#[111, 119, 110]⟩ : ByteArray)) (by simp only [ByteArray.size_append]; have : (⟨#[112, 117, 109, 112]⟩ : ByteArray).size = 4 := rfl; have : (⟨#[32]⟩ : ByteArray).size = 1 := rfl; have : (⟨#[111, 119, 110]⟩ : ByteArray).size = 3 := rfl; have : (bs (tab p)).size ≤ 2 := (by rw [bs_len]; exact tab_len p); have : (bs (tab q)).size ≤ 2 := (by rw [bs_len]; exact tab_len q); omega)
  have HDp := fun w => dig_any p w (by omega)
  have HDq := fun w => dig_any q w (by omega)
  go_enter Tryd.func21, Tryd.ntmps21
  go_wp2_with fail
  go_quiet (first | (go_at_call 35; (with_reducible refine Calls.quiet_of_same ((HDp _).mono (fun _ _ h => ⟨h.1, h.2.symm⟩)))) | (go_at_call 35; (with_reducible refine Calls.quiet_of_same ((HDq _).mono (fun _ _ h => ⟨h.1, h.2.symm⟩)))))
  go_wp2
  go_ret
  exact ⟨ret_str (by show bs [112, 117, 109, 112] ++ bs [32] ++ bs (tab p) ++ bs [32] ++ bs (tab q) ++ bs [32] ++ bs [111, 119, 110] = bs (Lib.join [[112, 117, 109, 112], tab p, tab q, [111, 119, 110]] [32]); rw [tx4]; simp only [bs_app]), by first | exact dN (by go_grown) _ | (refine Below.alloc (dN (by go_grown) _) ?_ _; first | (simp; done) | (simp; omega))⟩
set_option maxRecDepth 100000 in
set_option maxHeartbeats 4000000 in
theorem rText_8_3 (p q : Nat) (hp : p ≤ 99) (hq : q ≤ 9) (w : World) : Calls Tryd.prog 21 #[eV 8 3 (p : Int) (q : Int) 0] w fun e w' => e = .returned (.string (bs (textE ⟨8, 3, p, q, 0⟩))) ∧ Below w.heap.size w w' := by
  have k0 := catG (((⟨#[112, 117, 109, 112]⟩ : ByteArray) ++ (⟨#[32]⟩ : ByteArray))) (bs (tab p)) (by simp only [ByteArray.size_append]; have : (⟨#[112, 117, 109, 112]⟩ : ByteArray).size = 4 := rfl; have : (⟨#[32]⟩ : ByteArray).size = 1 := rfl; have : (bs (tab p)).size ≤ 2 := (by rw [bs_len]; exact tab_len p); omega)
  have k1 := catG ((((⟨#[112, 117, 109, 112]⟩ : ByteArray) ++ (⟨#[32]⟩ : ByteArray)) ++ bs (tab p))) ((⟨#[32]⟩ : ByteArray)) (by simp only [ByteArray.size_append]; have : (⟨#[112, 117, 109, 112]⟩ : ByteArray).size = 4 := rfl; have : (⟨#[32]⟩ : ByteArray).size = 1 := rfl; have : (bs (tab p)).size ≤ 2 := (by rw [bs_len]; exact tab_len p); omega)
  have k2 := catG (((((⟨#[112, 117, 109, 112]⟩ : ByteArray) ++ (⟨#[32]⟩ : ByteArray)) ++ bs (tab p)) ++ (⟨#[32]⟩ : ByteArray))) (bs (tab q)) (by simp only [ByteArray.size_append]; have : (⟨#[112, 117, 109, 112]⟩ : ByteArray).size = 4 := rfl; have : (⟨#[32]⟩ : ByteArray).size = 1 := rfl; have : (bs (tab p)).size ≤ 2 := (by rw [bs_len]; exact tab_len p); have : (bs (tab q)).size ≤ 2 := (by rw [bs_len]; exact tab_len q); omega)
  have k3 := catG ((((((⟨#[112, 117, 109, 112]⟩ : ByteArray) ++ (⟨#[32]⟩ : ByteArray)) ++ bs (tab p)) ++ (⟨#[32]⟩ : ByteArray)) ++ bs (tab q))) ((⟨#[32]⟩ : ByteArray)) (by simp only [ByteArray.size_append]; have : (⟨#[112, 117, 109, 112]⟩ : ByteArray).size = 4 := rfl; have : (⟨#[32]⟩ : ByteArray).size = 1 := rfl; have : (bs (tab p)).size ≤ 2 := (by rw [bs_len]; exact tab_len p); have : (bs (tab q)).size ≤ 2 := (by rw [bs_len]; exact tab_len q); omega)
  have k4 := catG (((((((⟨#[112, 117, 109, 112]⟩ : ByteArray) ++ (⟨#[32]⟩ : ByteArray)) ++ bs (tab p)) ++ (⟨#[32]⟩ : ByteArray)) ++ bs (tab q)) ++ (⟨#[32]⟩ : ByteArray))) ((⟨#[111, 116, 104, 101, 114]⟩ : ByteArray)) (by simp only [ByteArray.size_append]; have : (⟨#[112, 117, 109, 112]⟩ : ByteArray).size = 4 := rfl; have : (⟨#[32]⟩ : ByteArray).size = 1 := rfl; have : (⟨#[111, 116, 104, 101, 114]⟩ : ByteArray).size = 5 := rfl; have : (bs (tab p)).size ≤ 2 := (by rw [bs_len]; exact tab_len p); have : (bs (tab q)).size ≤ 2 := (by rw [bs_len]; exact tab_len q); omega)
  have HDp := fun w => dig_any p w (by omega)
  have HDq := fun w => dig_any q w (by omega)
  go_enter Tryd.func21, Tryd.ntmps21
  go_wp2_with fail
  go_quiet (first | (go_at_call 35; (with_reducible refine Calls.quiet_of_same ((HDp _).mono (fun _ _ h => ⟨h.1, h.2.symm⟩)))) | (go_at_call 35; (with_reducible refine Calls.quiet_of_same ((HDq _).mono (fun _ _ h => ⟨h.1, h.2.symm⟩)))))
  go_wp2
  go_ret
  exact ⟨ret_str (by show bs [112, 117, 109, 112] ++ bs [32] ++ bs (tab p) ++ bs [32] ++ bs (tab q) ++ bs [32] ++ bs [111, 116, 104, 101, 114] = bs (Lib.join [[112, 117, 109, 112], tab p, tab q, [111, 116, 104, 101, 114]] [32]); rw [tx4]; simp only [bs_app]), by first | exact dN (by go_grown) _ | (refine Below.alloc (dN (by go_grown) _) ?_ _; first | (simp; done) | (simp; omega))⟩
set_option maxRecDepth 100000 in
set_option maxHeartbeats 4000000 in
theorem rText_10_0 (p q : Nat) (hp : p ≤ 99) (hq : q ≤ 9) (w : World) : Calls Tryd.prog 21 #[eV 10 0 (p : Int) (q : Int) 0] w fun e w' => e = .returned (.string (bs (textE ⟨10, 0, p, q, 0⟩))) ∧ Below w.heap.size w w' := by
  have k0 := catG (((⟨#[116, 111, 107, 101, 110]⟩ : ByteArray) ++ (⟨#[32]⟩ : ByteArray))) (bs (tab p)) (by simp only [ByteArray.size_append]; have : (⟨#[116, 111, 107, 101, 110]⟩ : ByteArray).size = 5 := rfl; have : (⟨#[32]⟩ : ByteArray).size = 1 := rfl; have : (bs (tab p)).size ≤ 2 := (by rw [bs_len]; exact tab_len p); omega)
  have k1 := catG ((((⟨#[116, 111, 107, 101, 110]⟩ : ByteArray) ++ (⟨#[32]⟩ : ByteArray)) ++ bs (tab p))) ((⟨#[32]⟩ : ByteArray)) (by simp only [ByteArray.size_append]; have : (⟨#[116, 111, 107, 101, 110]⟩ : ByteArray).size = 5 := rfl; have : (⟨#[32]⟩ : ByteArray).size = 1 := rfl; have : (bs (tab p)).size ≤ 2 := (by rw [bs_len]; exact tab_len p); omega)
  have k2 := catG (((((⟨#[116, 111, 107, 101, 110]⟩ : ByteArray) ++ (⟨#[32]⟩ : ByteArray)) ++ bs (tab p)) ++ (⟨#[32]⟩ : ByteArray))) (bs (tab q)) (by simp only [ByteArray.size_append]; have : (⟨#[116, 111, 107, 101, 110]⟩ : ByteArray).size = 5 := rfl; have : (⟨#[32]⟩ : ByteArray).size = 1 := rfl; have : (bs (tab p)).size ≤ 2 := (by rw [bs_len]; exact tab_len p); have : (bs (tab q)).size ≤ 2 := (by rw [bs_len]; exact tab_len q); omega)
  have HDp := fun w => dig_any p w (by omega)
  have HDq := fun w => dig_any q w (by omega)
  go_enter Tryd.func21, Tryd.ntmps21
  go_wp2_with fail
  go_quiet (first | (go_at_call 35; (with_reducible refine Calls.quiet_of_same ((HDp _).mono (fun _ _ h => ⟨h.1, h.2.symm⟩)))) | (go_at_call 35; (with_reducible refine Calls.quiet_of_same ((HDq _).mono (fun _ _ h => ⟨h.1, h.2.symm⟩)))))
  go_wp2
  go_ret
  exact ⟨ret_str (by show bs [116, 111, 107, 101, 110] ++ bs [32] ++ bs (tab p) ++ bs [32] ++ bs (tab q) = bs (Lib.join [[116, 111, 107, 101, 110], tab p, tab q] [32]); rw [tx3]; simp only [bs_app]), by first | exact dN (by go_grown) _ | (refine Below.alloc (dN (by go_grown) _) ?_ _; first | (simp; done) | (simp; omega))⟩
set_option maxRecDepth 100000 in
set_option maxHeartbeats 4000000 in
theorem rText_12_0_0 (p : Nat) (hp : p ≤ 99) (w : World) : Calls Tryd.prog 21 #[eV 12 0 (p : Int) 0 0] w fun e w' => e = .returned (.string (bs (textE ⟨12, 0, p, 0, 0⟩))) ∧ Below w.heap.size w w' := by
  have k0 := catG (((⟨#[109, 97, 110, 97]⟩ : ByteArray) ++ (⟨#[32]⟩ : ByteArray))) (bs (tab p)) (by simp only [ByteArray.size_append]; have : (⟨#[109, 97, 110, 97]⟩ : ByteArray).size = 4 := rfl; have : (⟨#[32]⟩ : ByteArray).size = 1 := rfl; have : (bs (tab p)).size ≤ 2 := (by rw [bs_len]; exact tab_len p); omega)
  have k1 := catG ((((⟨#[109, 97, 110, 97]⟩ : ByteArray) ++ (⟨#[32]⟩ : ByteArray)) ++ bs (tab p))) ((⟨#[32]⟩ : ByteArray)) (by simp only [ByteArray.size_append]; have : (⟨#[109, 97, 110, 97]⟩ : ByteArray).size = 4 := rfl; have : (⟨#[32]⟩ : ByteArray).size = 1 := rfl; have : (bs (tab p)).size ≤ 2 := (by rw [bs_len]; exact tab_len p); omega)
  have k2 := catG (((((⟨#[109, 97, 110, 97]⟩ : ByteArray) ++ (⟨#[32]⟩ : ByteArray)) ++ bs (tab p)) ++ (⟨#[32]⟩ : ByteArray))) ((⟨#[69]⟩ : ByteArray)) (by simp only [ByteArray.size_append]; have : (⟨#[109, 97, 110, 97]⟩ : ByteArray).size = 4 := rfl; have : (⟨#[32]⟩ : ByteArray).size = 1 := rfl; have : (⟨#[69]⟩ : ByteArray).size = 1 := rfl; have : (bs (tab p)).size ≤ 2 := (by rw [bs_len]; exact tab_len p); omega)
  have HDp := fun w => dig_any p w (by omega)
  go_enter Tryd.func21, Tryd.ntmps21
  have ks : ∀ w, Sem.run Tryd.prog (Instr.slice 9 (Value.string { data := #[69, 84, 76, 83] }) (some (Value.int IntKind.i64 0)) (some (Value.int IntKind.i64 (IntKind.i64.wrap 1))) none) w = Result.ok (Value.string ⟨#[69]⟩) w := fun w => by kernel_rfl
  go_wp2_with fail
  go_quiet ((go_at_call 35; refine Calls.quiet_of_same ((HDp _).mono (fun _ _ h => ⟨h.1, h.2.symm⟩))))
  go_wp2
  go_ret
  exact ⟨ret_str (by show bs [109, 97, 110, 97] ++ bs [32] ++ bs (tab p) ++ bs [32] ++ bs [69] = bs (Lib.join [[109, 97, 110, 97], tab p, [69]] [32]); rw [tx3]; simp only [bs_app]), by first | exact dN (by go_grown) _ | (refine Below.alloc (dN (by go_grown) _) ?_ _; first | (simp; done) | (simp; omega))⟩
set_option maxRecDepth 100000 in
set_option maxHeartbeats 4000000 in
theorem rText_12_0_1 (p : Nat) (hp : p ≤ 99) (w : World) : Calls Tryd.prog 21 #[eV 12 0 (p : Int) 0 1] w fun e w' => e = .returned (.string (bs (textE ⟨12, 0, p, 0, 1⟩))) ∧ Below w.heap.size w w' := by
  have k0 := catG (((⟨#[109, 97, 110, 97]⟩ : ByteArray) ++ (⟨#[32]⟩ : ByteArray))) (bs (tab p)) (by simp only [ByteArray.size_append]; have : (⟨#[109, 97, 110, 97]⟩ : ByteArray).size = 4 := rfl; have : (⟨#[32]⟩ : ByteArray).size = 1 := rfl; have : (bs (tab p)).size ≤ 2 := (by rw [bs_len]; exact tab_len p); omega)
  have k1 := catG ((((⟨#[109, 97, 110, 97]⟩ : ByteArray) ++ (⟨#[32]⟩ : ByteArray)) ++ bs (tab p))) ((⟨#[32]⟩ : ByteArray)) (by simp only [ByteArray.size_append]; have : (⟨#[109, 97, 110, 97]⟩ : ByteArray).size = 4 := rfl; have : (⟨#[32]⟩ : ByteArray).size = 1 := rfl; have : (bs (tab p)).size ≤ 2 := (by rw [bs_len]; exact tab_len p); omega)
  have k2 := catG (((((⟨#[109, 97, 110, 97]⟩ : ByteArray) ++ (⟨#[32]⟩ : ByteArray)) ++ bs (tab p)) ++ (⟨#[32]⟩ : ByteArray))) ((⟨#[84]⟩ : ByteArray)) (by simp only [ByteArray.size_append]; have : (⟨#[109, 97, 110, 97]⟩ : ByteArray).size = 4 := rfl; have : (⟨#[32]⟩ : ByteArray).size = 1 := rfl; have : (⟨#[84]⟩ : ByteArray).size = 1 := rfl; have : (bs (tab p)).size ≤ 2 := (by rw [bs_len]; exact tab_len p); omega)
  have HDp := fun w => dig_any p w (by omega)
  go_enter Tryd.func21, Tryd.ntmps21
  have ks : ∀ w, Sem.run Tryd.prog (Instr.slice 9 (Value.string { data := #[69, 84, 76, 83] }) (some (Value.int IntKind.i64 1)) (some (Value.int IntKind.i64 (IntKind.i64.wrap 2))) none) w = Result.ok (Value.string ⟨#[84]⟩) w := fun w => by kernel_rfl
  go_wp2_with fail
  go_quiet ((go_at_call 35; refine Calls.quiet_of_same ((HDp _).mono (fun _ _ h => ⟨h.1, h.2.symm⟩))))
  go_wp2
  go_ret
  exact ⟨ret_str (by show bs [109, 97, 110, 97] ++ bs [32] ++ bs (tab p) ++ bs [32] ++ bs [84] = bs (Lib.join [[109, 97, 110, 97], tab p, [84]] [32]); rw [tx3]; simp only [bs_app]), by first | exact dN (by go_grown) _ | (refine Below.alloc (dN (by go_grown) _) ?_ _; first | (simp; done) | (simp; omega))⟩
set_option maxRecDepth 100000 in
set_option maxHeartbeats 4000000 in
theorem rText_12_0_2 (p : Nat) (hp : p ≤ 99) (w : World) : Calls Tryd.prog 21 #[eV 12 0 (p : Int) 0 2] w fun e w' => e = .returned (.string (bs (textE ⟨12, 0, p, 0, 2⟩))) ∧ Below w.heap.size w w' := by
  have k0 := catG (((⟨#[109, 97, 110, 97]⟩ : ByteArray) ++ (⟨#[32]⟩ : ByteArray))) (bs (tab p)) (by simp only [ByteArray.size_append]; have : (⟨#[109, 97, 110, 97]⟩ : ByteArray).size = 4 := rfl; have : (⟨#[32]⟩ : ByteArray).size = 1 := rfl; have : (bs (tab p)).size ≤ 2 := (by rw [bs_len]; exact tab_len p); omega)
  have k1 := catG ((((⟨#[109, 97, 110, 97]⟩ : ByteArray) ++ (⟨#[32]⟩ : ByteArray)) ++ bs (tab p))) ((⟨#[32]⟩ : ByteArray)) (by simp only [ByteArray.size_append]; have : (⟨#[109, 97, 110, 97]⟩ : ByteArray).size = 4 := rfl; have : (⟨#[32]⟩ : ByteArray).size = 1 := rfl; have : (bs (tab p)).size ≤ 2 := (by rw [bs_len]; exact tab_len p); omega)
  have k2 := catG (((((⟨#[109, 97, 110, 97]⟩ : ByteArray) ++ (⟨#[32]⟩ : ByteArray)) ++ bs (tab p)) ++ (⟨#[32]⟩ : ByteArray))) ((⟨#[76]⟩ : ByteArray)) (by simp only [ByteArray.size_append]; have : (⟨#[109, 97, 110, 97]⟩ : ByteArray).size = 4 := rfl; have : (⟨#[32]⟩ : ByteArray).size = 1 := rfl; have : (⟨#[76]⟩ : ByteArray).size = 1 := rfl; have : (bs (tab p)).size ≤ 2 := (by rw [bs_len]; exact tab_len p); omega)
  have HDp := fun w => dig_any p w (by omega)
  go_enter Tryd.func21, Tryd.ntmps21
  have ks : ∀ w, Sem.run Tryd.prog (Instr.slice 9 (Value.string { data := #[69, 84, 76, 83] }) (some (Value.int IntKind.i64 2)) (some (Value.int IntKind.i64 (IntKind.i64.wrap 3))) none) w = Result.ok (Value.string ⟨#[76]⟩) w := fun w => by kernel_rfl
  go_wp2_with fail
  go_quiet ((go_at_call 35; refine Calls.quiet_of_same ((HDp _).mono (fun _ _ h => ⟨h.1, h.2.symm⟩))))
  go_wp2
  go_ret
  exact ⟨ret_str (by show bs [109, 97, 110, 97] ++ bs [32] ++ bs (tab p) ++ bs [32] ++ bs [76] = bs (Lib.join [[109, 97, 110, 97], tab p, [76]] [32]); rw [tx3]; simp only [bs_app]), by first | exact dN (by go_grown) _ | (refine Below.alloc (dN (by go_grown) _) ?_ _; first | (simp; done) | (simp; omega))⟩
set_option maxRecDepth 100000 in
set_option maxHeartbeats 4000000 in
theorem rText_12_0_3 (p : Nat) (hp : p ≤ 99) (w : World) : Calls Tryd.prog 21 #[eV 12 0 (p : Int) 0 3] w fun e w' => e = .returned (.string (bs (textE ⟨12, 0, p, 0, 3⟩))) ∧ Below w.heap.size w w' := by
  have k0 := catG (((⟨#[109, 97, 110, 97]⟩ : ByteArray) ++ (⟨#[32]⟩ : ByteArray))) (bs (tab p)) (by simp only [ByteArray.size_append]; have : (⟨#[109, 97, 110, 97]⟩ : ByteArray).size = 4 := rfl; have : (⟨#[32]⟩ : ByteArray).size = 1 := rfl; have : (bs (tab p)).size ≤ 2 := (by rw [bs_len]; exact tab_len p); omega)
  have k1 := catG ((((⟨#[109, 97, 110, 97]⟩ : ByteArray) ++ (⟨#[32]⟩ : ByteArray)) ++ bs (tab p))) ((⟨#[32]⟩ : ByteArray)) (by simp only [ByteArray.size_append]; have : (⟨#[109, 97, 110, 97]⟩ : ByteArray).size = 4 := rfl; have : (⟨#[32]⟩ : ByteArray).size = 1 := rfl; have : (bs (tab p)).size ≤ 2 := (by rw [bs_len]; exact tab_len p); omega)
  have k2 := catG (((((⟨#[109, 97, 110, 97]⟩ : ByteArray) ++ (⟨#[32]⟩ : ByteArray)) ++ bs (tab p)) ++ (⟨#[32]⟩ : ByteArray))) ((⟨#[83]⟩ : ByteArray)) (by simp only [ByteArray.size_append]; have : (⟨#[109, 97, 110, 97]⟩ : ByteArray).size = 4 := rfl; have : (⟨#[32]⟩ : ByteArray).size = 1 := rfl; have : (⟨#[83]⟩ : ByteArray).size = 1 := rfl; have : (bs (tab p)).size ≤ 2 := (by rw [bs_len]; exact tab_len p); omega)
  have HDp := fun w => dig_any p w (by omega)
  go_enter Tryd.func21, Tryd.ntmps21
  have ks : ∀ w, Sem.run Tryd.prog (Instr.slice 9 (Value.string { data := #[69, 84, 76, 83] }) (some (Value.int IntKind.i64 3)) (some (Value.int IntKind.i64 (IntKind.i64.wrap 4))) none) w = Result.ok (Value.string ⟨#[83]⟩) w := fun w => by kernel_rfl
  go_wp2_with fail
  go_quiet ((go_at_call 35; refine Calls.quiet_of_same ((HDp _).mono (fun _ _ h => ⟨h.1, h.2.symm⟩))))
  go_wp2
  go_ret
  exact ⟨ret_str (by show bs [109, 97, 110, 97] ++ bs [32] ++ bs (tab p) ++ bs [32] ++ bs [83] = bs (Lib.join [[109, 97, 110, 97], tab p, [83]] [32]); rw [tx3]; simp only [bs_app]), by first | exact dN (by go_grown) _ | (refine Below.alloc (dN (by go_grown) _) ?_ _; first | (simp; done) | (simp; omega))⟩
end Go.Proofs.YtfdolapiikgebaaDoor.efFn
