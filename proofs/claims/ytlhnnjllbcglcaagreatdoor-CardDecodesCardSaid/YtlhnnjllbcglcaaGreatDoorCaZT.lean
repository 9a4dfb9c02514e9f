/- Joined texts: CeRText CeRTextB CeRTextC CeRTextZ CeREnc CaMaRef CaMaRText -/
import Derived.Test.YtlhnnjllbcglcaaGreatDoorCeTextE
import Derived.Test.YtlhnnjllbcglcaaGreatDoorCeKind
import Derived.Laws.Concat
import Derived.Deep.QuietTactic
import Derived.BigQuiet
import Derived.Test.YtlhnnjllbcglcaaGreatDoorCeEnc
import Derived.Deep.AppendLies
import Derived.Test.YtlhnnjllbcglcaaGreatDoorCaMaText
import Derived.LoopTactic
import Derived.Laws.Strings2
/- The reference's text of effects, the first four codes. -/
namespace Go.Proofs.YtlhnnjllbcglcaaGreatDoor.efFn
open Go.ChangeShapes Go.WideShapes Go.ChangeAt Go.RowKit drMem
set_option linter.unusedVariables false

theorem join2 (a b : List UInt8) (r : List (List UInt8)) : Lib.join (a :: b :: r) [32] = a ++ 32 :: Lib.join (b :: r) [32] := by
  rw [Lib.join_cons, Lib.join_cons]
  simp [Lib.joinTail]
theorem join1 (a : List UInt8) : Lib.join [a] [32] = a := Lib.join_one _ _
theorem bs_app (a b : List UInt8) : bs a ++ bs b = bs (a ++ b) := ByteArray.mk_append_mk a b
theorem bs_len (l : List UInt8) : (bs l).size = l.length := by simp [bs, ByteArray.size]
theorem cat_run (a b : List UInt8) (h : a.length + b.length ≤ 1000) : ∀ w, (Op.stringOp .add (bs a) (bs b)).run Tryz.prog w = .ok (.string (bs (a ++ b))) w := fun w => by
  rw [run_string_add_sum w (bs a) (bs b) (by rw [bs_len, bs_len]; omega), bs_app]
def dg (p : Nat) : List UInt8 := [UInt8.ofNat (48 + p)]
theorem dig_small (p : Nat) (w : World) (h : p < 10) : Calls Tryz.prog 39 #[.int .i64 (p : Int)] w fun e w' => e = .returned (.string (bs (tab p))) ∧ w = w' := by
  have hk : p = 0 ∨ p = 1 ∨ p = 2 ∨ p = 3 ∨ p = 4 ∨ p = 5 ∨ p = 6 ∨ p = 7 ∨ p = 8 ∨ p = 9 := by omega
  rcases hk with rfl | rfl | rfl | rfl | rfl | rfl | rfl | rfl | rfl | rfl
  all_goals
    go_enter Tryz.func39, Tryz.ntmps39
    go_wp2
    go_ret
    exact ⟨rfl, rfl⟩
set_option maxRecDepth 100000 in
theorem dig_any (p : Nat) (w : World) (h : p ≤ 99) : Calls Tryz.prog 39 #[.int .i64 (p : Int)] w fun e w' => e = .returned (.string (bs (tab p))) ∧ w = w' := by
  by_cases hp : p < 10
  · exact dig_small p w hp
  · have H1 := fun w => dig_small (p / 10) w (by omega)
    have H2 := fun w => dig_small (p % 10) w (by omega)
    have hc := cat_run (tab (p / 10)) (tab (p % 10)) (by have := tab_len (p / 10); have := tab_len (p % 10); omega)
    have e1 : tab (p / 10) ++ tab (p % 10) = tab p := by
      have a1 : tab (p / 10) = [UInt8.ofNat (48 + p / 10)] := by unfold tab; rw [if_pos (by omega)]
      have a2 : tab (p % 10) = [UInt8.ofNat (48 + p % 10)] := by unfold tab; rw [if_pos (by omega)]
      rw [a1, a2]; unfold tab; rw [if_neg hp]; rfl
    rw [e1] at hc
    have e2 : (p : Int).tdiv 10 = ((p / 10 : Nat) : Int) := by rw [Int.tdiv_eq_ediv_of_nonneg (by omega)]; omega
    have e3 : (p : Int).tmod 10 = ((p % 10 : Nat) : Int) := by rw [Int.tmod_eq_emod_of_nonneg (by omega)]; omega
    have a9 : p / 10 ≤ 9 := by omega
    have b9 : p % 10 ≤ 9 := by omega
    have hd : decide ((p : Int) < 10) = false := decide_eq_false (by omega)
    generalize p / 10 = a at *
    generalize p % 10 = b at *
    go_enter Tryz.func39, Tryz.ntmps39
    go_wp2_with (first | (go_at_call 39; (with_reducible refine (H1 _).mono ?_); rintro e w' ⟨rfl, rfl⟩) | (go_at_call 39; (with_reducible refine (H2 _).mono ?_); rintro e w' ⟨rfl, rfl⟩))
    go_ret
    exact ⟨rfl, rfl⟩
theorem catG (a b : ByteArray) (h : a.size + b.size ≤ 1000) : ∀ w, (Op.stringOp .add a b).run Tryz.prog w = .ok (.string (a ++ b)) w := fun w => run_string_add_sum w a b (by omega)
theorem tx2 (a b : List UInt8) : Lib.join [a, b] [32] = a ++ [32] ++ b := by rw [join2, join1]; simp
theorem tx3 (a b c : List UInt8) : Lib.join [a, b, c] [32] = a ++ [32] ++ b ++ [32] ++ c := by rw [join2, join2, join1]; simp
theorem tx4 (a b c d : List UInt8) : Lib.join [a, b, c, d] [32] = a ++ [32] ++ b ++ [32] ++ c ++ [32] ++ d := by rw [join2, join2, join2, join1]; simp
set_option maxRecDepth 100000 in
set_option maxHeartbeats 4000000 in
theorem rText_1_1 (p : Nat) (hp : p ≤ 99) (w : World) : Calls Tryz.prog 25 #[eV 1 1 (p : Int) 0 0] w fun e w' => e = .returned (.string (bs (textE ⟨1, 1, p, 0, 0⟩))) ∧ Below w.heap.size w w' := by
  have k0 := catG (((⟨#[100, 97, 109, 97, 103, 101]⟩ : ByteArray) ++ (⟨#[32]⟩ : ByteArray))) (bs (tab p)) (by simp only [ByteArray.size_append]; have : (⟨#[100, 97, 109, 97, 103, 101]⟩ : ByteArray).size = 6 := rfl; have : (⟨#[32]⟩ : ByteArray).size = 1 := rfl; have : (bs (tab p)).size ≤ 2 := (by rw [bs_len]; exact tab_len p); omega)
  have k1 := catG ((((⟨#[100, 97, 109, 97, 103, 101]⟩ : ByteArray) ++ (⟨#[32]⟩ : ByteArray)) ++ bs (tab p))) ((⟨#[32]⟩ : ByteArray)) (by simp only [ByteArray.size_append]; have : (⟨#[100, 97, 109, 97, 103, 101]⟩ : ByteArray).size = 6 := rfl; have : (⟨#[32]⟩ : ByteArray).size = 1 := rfl; have : (bs (tab p)).size ≤ 2 := (by rw [bs_len]; exact tab_len p); omega)
  have k2 := catG (((((⟨#[100, 97, 109, 97, 103, 101]⟩ : ByteArray) ++ (⟨#[32]⟩ : ByteArray)) ++ bs (tab p)) ++ (⟨#[32]⟩ : ByteArray))) ((⟨#[99, 114, 101, 97, 116, 117, 114, 101]⟩ : ByteArray)) (by simp only [ByteArray.size_append]; have : (⟨#[100, 97, 109, 97, 103, 101]⟩ : ByteArray).size = 6 := rfl; have : (⟨#[32]⟩ : ByteArray).size = 1 := rfl; have : (⟨#[99, 114, 101, 97, 116, 117, 114, 101]⟩ : ByteArray).size = 8 := rfl; have : (bs (tab p)).size ≤ 2 := (by rw [bs_len]; exact tab_len p); omega)
  have HDp := fun w => dig_any p w (by omega)
  go_enter Tryz.func25, Tryz.ntmps25
  go_wp2_with (go_at_call 39; refine (HDp _).mono ?_; rintro e w' ⟨rfl, hw⟩; subst hw)
  go_ret
  exact ⟨ret_str (by show bs [100, 97, 109, 97, 103, 101] ++ bs [32] ++ bs (tab p) ++ bs [32] ++ bs [99, 114, 101, 97, 116, 117, 114, 101] = bs (Lib.join [[100, 97, 109, 97, 103, 101], tab p, [99, 114, 101, 97, 116, 117, 114, 101]] [32]); rw [tx3]; simp only [bs_app]), by go_grown⟩
set_option maxRecDepth 100000 in
set_option maxHeartbeats 4000000 in
theorem rText_1_2 (p : Nat) (hp : p ≤ 99) (w : World) : Calls Tryz.prog 25 #[eV 1 2 (p : Int) 0 0] w fun e w' => e = .returned (.string (bs (textE ⟨1, 2, p, 0, 0⟩))) ∧ Below w.heap.size w w' := by
  have k0 := catG (((⟨#[100, 97, 109, 97, 103, 101]⟩ : ByteArray) ++ (⟨#[32]⟩ : ByteArray))) (bs (tab p)) (by simp only [ByteArray.size_append]; have : (⟨#[100, 97, 109, 97, 103, 101]⟩ : ByteArray).size = 6 := rfl; have : (⟨#[32]⟩ : ByteArray).size = 1 := rfl; have : (bs (tab p)).size ≤ 2 := (by rw [bs_len]; exact tab_len p); omega)
  have k1 := catG ((((⟨#[100, 97, 109, 97, 103, 101]⟩ : ByteArray) ++ (⟨#[32]⟩ : ByteArray)) ++ bs (tab p))) ((⟨#[32]⟩ : ByteArray)) (by simp only [ByteArray.size_append]; have : (⟨#[100, 97, 109, 97, 103, 101]⟩ : ByteArray).size = 6 := rfl; have : (⟨#[32]⟩ : ByteArray).size = 1 := rfl; have : (bs (tab p)).size ≤ 2 := (by rw [bs_len]; exact tab_len p); omega)
  have k2 := catG (((((⟨#[100, 97, 109, 97, 103, 101]⟩ : ByteArray) ++ (⟨#[32]⟩ : ByteArray)) ++ bs (tab p)) ++ (⟨#[32]⟩ : ByteArray))) ((⟨#[111, 119, 110]⟩ : ByteArray)) (by simp only [ByteArray.size_append]; have : (⟨#[100, 97, 109, 97, 103, 101]⟩ : ByteArray).size = 6 := rfl; have : (⟨#[32]⟩ : ByteArray).size = 1 := rfl; have : (⟨#[111, 119, 110]⟩ : ByteArray).size = 3 := rfl; have : (bs (tab p)).size ≤ 2 := (by rw [bs_len]; exact tab_len p); omega)
  have HDp := fun w => dig_any p w (by omega)
  go_enter Tryz.func25, Tryz.ntmps25
  go_wp2_with (go_at_call 39; refine (HDp _).mono ?_; rintro e w' ⟨rfl, hw⟩; subst hw)
  go_ret
  exact ⟨ret_str (by show bs [100, 97, 109, 97, 103, 101] ++ bs [32] ++ bs (tab p) ++ bs [32] ++ bs [111, 119, 110] = bs (Lib.join [[100, 97, 109, 97, 103, 101], tab p, [111, 119, 110]] [32]); rw [tx3]; simp only [bs_app]), by go_grown⟩
set_option maxRecDepth 100000 in
set_option maxHeartbeats 4000000 in
theorem rText_1_3 (p : Nat) (hp : p ≤ 99) (w : World) : Calls Tryz.prog 25 #[eV 1 3 (p : Int) 0 0] w fun e w' => e = .returned (.string (bs (textE ⟨1, 3, p, 0, 0⟩))) ∧ Below w.heap.size w w' := by
  have k0 := catG (((⟨#[100, 97, 109, 97, 103, 101]⟩ : ByteArray) ++ (⟨#[32]⟩ : ByteArray))) (bs (tab p)) (by simp only [ByteArray.size_append]; have : (⟨#[100, 97, 109, 97, 103, 101]⟩ : ByteArray).size = 6 := rfl; have : (⟨#[32]⟩ : ByteArray).size = 1 := rfl; have : (bs (tab p)).size ≤ 2 := (by rw [bs_len]; exact tab_len p); omega)
  have k1 := catG ((((⟨#[100, 97, 109, 97, 103, 101]⟩ : ByteArray) ++ (⟨#[32]⟩ : ByteArray)) ++ bs (tab p))) ((⟨#[32]⟩ : ByteArray)) (by simp only [ByteArray.size_append]; have : (⟨#[100, 97, 109, 97, 103, 101]⟩ : ByteArray).size = 6 := rfl; have : (⟨#[32]⟩ : ByteArray).size = 1 := rfl; have : (bs (tab p)).size ≤ 2 := (by rw [bs_len]; exact tab_len p); omega)
  have k2 := catG (((((⟨#[100, 97, 109, 97, 103, 101]⟩ : ByteArray) ++ (⟨#[32]⟩ : ByteArray)) ++ bs (tab p)) ++ (⟨#[32]⟩ : ByteArray))) ((⟨#[111, 116, 104, 101, 114]⟩ : ByteArray)) (by simp only [ByteArray.size_append]; have : (⟨#[100, 97, 109, 97, 103, 101]⟩ : ByteArray).size = 6 := rfl; have : (⟨#[32]⟩ : ByteArray).size = 1 := rfl; have : (⟨#[111, 116, 104, 101, 114]⟩ : ByteArray).size = 5 := rfl; have : (bs (tab p)).size ≤ 2 := (by rw [bs_len]; exact tab_len p); omega)
  have HDp := fun w => dig_any p w (by omega)
  go_enter Tryz.func25, Tryz.ntmps25
  go_wp2_with (go_at_call 39; refine (HDp _).mono ?_; rintro e w' ⟨rfl, hw⟩; subst hw)
  go_ret
  exact ⟨ret_str (by show bs [100, 97, 109, 97, 103, 101] ++ bs [32] ++ bs (tab p) ++ bs [32] ++ bs [111, 116, 104, 101, 114] = bs (Lib.join [[100, 97, 109, 97, 103, 101], tab p, [111, 116, 104, 101, 114]] [32]); rw [tx3]; simp only [bs_app]), by go_grown⟩
set_option maxRecDepth 100000 in
set_option maxHeartbeats 4000000 in
theorem rText_1_4 (p : Nat) (hp : p ≤ 99) (w : World) : Calls Tryz.prog 25 #[eV 1 4 (p : Int) 0 0] w fun e w' => e = .returned (.string (bs (textE ⟨1, 4, p, 0, 0⟩))) ∧ Below w.heap.size w w' := by
  have k0 := catG (((⟨#[100, 97, 109, 97, 103, 101]⟩ : ByteArray) ++ (⟨#[32]⟩ : ByteArray))) (bs (tab p)) (by simp only [ByteArray.size_append]; have : (⟨#[100, 97, 109, 97, 103, 101]⟩ : ByteArray).size = 6 := rfl; have : (⟨#[32]⟩ : ByteArray).size = 1 := rfl; have : (bs (tab p)).size ≤ 2 := (by rw [bs_len]; exact tab_len p); omega)
  have k1 := catG ((((⟨#[100, 97, 109, 97, 103, 101]⟩ : ByteArray) ++ (⟨#[32]⟩ : ByteArray)) ++ bs (tab p))) ((⟨#[32]⟩ : ByteArray)) (by simp only [ByteArray.size_append]; have : (⟨#[100, 97, 109, 97, 103, 101]⟩ : ByteArray).size = 6 := rfl; have : (⟨#[32]⟩ : ByteArray).size = 1 := rfl; have : (bs (tab p)).size ≤ 2 := (by rw [bs_len]; exact tab_len p); omega)
  have k2 := catG (((((⟨#[100, 97, 109, 97, 103, 101]⟩ : ByteArray) ++ (⟨#[32]⟩ : ByteArray)) ++ bs (tab p)) ++ (⟨#[32]⟩ : ByteArray))) ((⟨#[112, 108, 97, 121, 101, 114]⟩ : ByteArray)) (by simp only [ByteArray.size_append]; have : (⟨#[100, 97, 109, 97, 103, 101]⟩ : ByteArray).size = 6 := rfl; have : (⟨#[32]⟩ : ByteArray).size = 1 := rfl; have : (⟨#[112, 108, 97, 121, 101, 114]⟩ : ByteArray).size = 6 := rfl; have : (bs (tab p)).size ≤ 2 := (by rw [bs_len]; exact tab_len p); omega)
  have HDp := fun w => dig_any p w (by omega)
  go_enter Tryz.func25, Tryz.ntmps25
  go_wp2_with (go_at_call 39; refine (HDp _).mono ?_; rintro e w' ⟨rfl, hw⟩; subst hw)
  go_ret
  exact ⟨ret_str (by show bs [100, 97, 109, 97, 103, 101] ++ bs [32] ++ bs (tab p) ++ bs [32] ++ bs [112, 108, 97, 121, 101, 114] = bs (Lib.join [[100, 97, 109, 97, 103, 101], tab p, [112, 108, 97, 121, 101, 114]] [32]); rw [tx3]; simp only [bs_app]), by go_grown⟩
set_option maxRecDepth 100000 in
set_option maxHeartbeats 4000000 in
theorem rText_1_5 (p : Nat) (hp : p ≤ 99) (w : World) : Calls Tryz.prog 25 #[eV 1 5 (p : Int) 0 0] w fun e w' => e = .returned (.string (bs (textE ⟨1, 5, p, 0, 0⟩))) ∧ Below w.heap.size w w' := by
  have k0 := catG (((⟨#[100, 97, 109, 97, 103, 101]⟩ : ByteArray) ++ (⟨#[32]⟩ : ByteArray))) (bs (tab p)) (by simp only [ByteArray.size_append]; have : (⟨#[100, 97, 109, 97, 103, 101]⟩ : ByteArray).size = 6 := rfl; have : (⟨#[32]⟩ : ByteArray).size = 1 := rfl; have : (bs (tab p)).size ≤ 2 := (by rw [bs_len]; exact tab_len p); omega)
  have k1 := catG ((((⟨#[100, 97, 109, 97, 103, 101]⟩ : ByteArray) ++ (⟨#[32]⟩ : ByteArray)) ++ bs (tab p))) ((⟨#[32]⟩ : ByteArray)) (by simp only [ByteArray.size_append]; have : (⟨#[100, 97, 109, 97, 103, 101]⟩ : ByteArray).size = 6 := rfl; have : (⟨#[32]⟩ : ByteArray).size = 1 := rfl; have : (bs (tab p)).size ≤ 2 := (by rw [bs_len]; exact tab_len p); omega)
  have k2 := catG (((((⟨#[100, 97, 109, 97, 103, 101]⟩ : ByteArray) ++ (⟨#[32]⟩ : ByteArray)) ++ bs (tab p)) ++ (⟨#[32]⟩ : ByteArray))) ((⟨#[101, 105, 116, 104, 101, 114]⟩ : ByteArray)) (by simp only [ByteArray.size_append]; have : (⟨#[100, 97, 109, 97, 103, 101]⟩ : ByteArray).size = 6 := rfl; have : (⟨#[32]⟩ : ByteArray).size = 1 := rfl; have : (⟨#[101, 105, 116, 104, 101, 114]⟩ : ByteArray).size = 6 := rfl; have : (bs (tab p)).size ≤ 2 := (by rw [bs_len]; exact tab_len p); omega)
  have HDp := fun w => dig_any p w (by omega)
  go_enter Tryz.func25, Tryz.ntmps25
  go_wp2_with (go_at_call 39; refine (HDp _).mono ?_; rintro e w' ⟨rfl, hw⟩; subst hw)
  go_ret
  exact ⟨ret_str (by show bs [100, 97, 109, 97, 103, 101] ++ bs [32] ++ bs (tab p) ++ bs [32] ++ bs [101, 105, 116, 104, 101, 114] = bs (Lib.join [[100, 97, 109, 97, 103, 101], tab p, [101, 105, 116, 104, 101, 114]] [32]); rw [tx3]; simp only [bs_app]), by go_grown⟩
set_option maxRecDepth 100000 in
set_option maxHeartbeats 4000000 in
theorem rText_2_0 (p : Nat) (hp : p ≤ 99) (w : World) : Calls Tryz.prog 25 #[eV 2 0 (p : Int) 0 0] w fun e w' => e = .returned (.string (bs (textE ⟨2, 0, p, 0, 0⟩))) ∧ Below w.heap.size w w' := by
  have k0 := catG (((⟨#[100, 114, 97, 119]⟩ : ByteArray) ++ (⟨#[32]⟩ : ByteArray))) (bs (tab p)) (by simp only [ByteArray.size_append]; have : (⟨#[100, 114, 97, 119]⟩ : ByteArray).size = 4 := rfl; have : (⟨#[32]⟩ : ByteArray).size = 1 := rfl; have : (bs (tab p)).size ≤ 2 := (by rw [bs_len]; exact tab_len p); omega)
  have HDp := fun w => dig_any p w (by omega)
  go_enter Tryz.func25, Tryz.ntmps25
  go_wp2_with (go_at_call 39; refine (HDp _).mono ?_; rintro e w' ⟨rfl, hw⟩; subst hw)
  go_ret
  exact ⟨ret_str (by show bs [100, 114, 97, 119] ++ bs [32] ++ bs (tab p) = bs (Lib.join [[100, 114, 97, 119], tab p] [32]); rw [tx2]; simp only [bs_app]), by go_grown⟩
set_option maxRecDepth 100000 in
set_option maxHeartbeats 4000000 in
theorem rText_2_4 (p : Nat) (hp : p ≤ 99) (w : World) : Calls Tryz.prog 25 #[eV 2 4 (p : Int) 0 0] w fun e w' => e = .returned (.string (bs (textE ⟨2, 4, p, 0, 0⟩))) ∧ Below w.heap.size w w' := by
  have k0 := catG (((⟨#[100, 114, 97, 119]⟩ : ByteArray) ++ (⟨#[32]⟩ : ByteArray))) (bs (tab p)) (by simp only [ByteArray.size_append]; have : (⟨#[100, 114, 97, 119]⟩ : ByteArray).size = 4 := rfl; have : (⟨#[32]⟩ : ByteArray).size = 1 := rfl; have : (bs (tab p)).size ≤ 2 := (by rw [bs_len]; exact tab_len p); omega)
  have k1 := catG ((((⟨#[100, 114, 97, 119]⟩ : ByteArray) ++ (⟨#[32]⟩ : ByteArray)) ++ bs (tab p))) ((⟨#[32]⟩ : ByteArray)) (by simp only [ByteArray.size_append]; have : (⟨#[100, 114, 97, 119]⟩ : ByteArray).size = 4 := rfl; have : (⟨#[32]⟩ : ByteArray).size = 1 := rfl; have : (bs (tab p)).size ≤ 2 := (by rw [bs_len]; exact tab_len p); omega)
  have k2 := catG (((((⟨#[100, 114, 97, 119]⟩ : ByteArray) ++ (⟨#[32]⟩ : ByteArray)) ++ bs (tab p)) ++ (⟨#[32]⟩ : ByteArray))) ((⟨#[112, 108, 97, 121, 101, 114]⟩ : ByteArray)) (by simp only [ByteArray.size_append]; have : (⟨#[100, 114, 97, 119]⟩ : ByteArray).size = 4 := rfl; have : (⟨#[32]⟩ : ByteArray).size = 1 := rfl; have : (⟨#[112, 108, 97, 121, 101, 114]⟩ : ByteArray).size = 6 := rfl; have : (bs (tab p)).size ≤ 2 := (by rw [bs_len]; exact tab_len p); omega)
  have HDp := fun w => dig_any p w (by omega)
  go_enter Tryz.func25, Tryz.ntmps25
  go_wp2_with (go_at_call 39; refine (HDp _).mono ?_; rintro e w' ⟨rfl, hw⟩; subst hw)
  go_ret
  exact ⟨ret_str (by show bs [100, 114, 97, 119] ++ bs [32] ++ bs (tab p) ++ bs [32] ++ bs [112, 108, 97, 121, 101, 114] = bs (Lib.join [[100, 114, 97, 119], tab p, [112, 108, 97, 121, 101, 114]] [32]); rw [tx3]; simp only [bs_app]), by go_grown⟩
set_option maxRecDepth 100000 in
set_option maxHeartbeats 4000000 in
theorem rText_3_0 (p : Nat) (hp : p ≤ 99) (w : World) : Calls Tryz.prog 25 #[eV 3 0 (p : Int) 0 0] w fun e w' => e = .returned (.string (bs (textE ⟨3, 0, p, 0, 0⟩))) ∧ Below w.heap.size w w' := by
  have k0 := catG (((⟨#[103, 97, 105, 110]⟩ : ByteArray) ++ (⟨#[32]⟩ : ByteArray))) (bs (tab p)) (by simp only [ByteArray.size_append]; have : (⟨#[103, 97, 105, 110]⟩ : ByteArray).size = 4 := rfl; have : (⟨#[32]⟩ : ByteArray).size = 1 := rfl; have : (bs (tab p)).size ≤ 2 := (by rw [bs_len]; exact tab_len p); omega)
  have HDp := fun w => dig_any p w (by omega)
  go_enter Tryz.func25, Tryz.ntmps25
  go_wp2_with (go_at_call 39; refine (HDp _).mono ?_; rintro e w' ⟨rfl, hw⟩; subst hw)
  go_ret
  exact ⟨ret_str (by show bs [103, 97, 105, 110] ++ bs [32] ++ bs (tab p) = bs (Lib.join [[103, 97, 105, 110], tab p] [32]); rw [tx2]; simp only [bs_app]), by go_grown⟩
set_option maxRecDepth 100000 in
set_option maxHeartbeats 4000000 in
theorem rText_3_4 (p : Nat) (hp : p ≤ 99) (w : World) : Calls Tryz.prog 25 #[eV 3 4 (p : Int) 0 0] w fun e w' => e = .returned (.string (bs (textE ⟨3, 4, p, 0, 0⟩))) ∧ Below w.heap.size w w' := by
  have k0 := catG (((⟨#[103, 97, 105, 110]⟩ : ByteArray) ++ (⟨#[32]⟩ : ByteArray))) (bs (tab p)) (by simp only [ByteArray.size_append]; have : (⟨#[103, 97, 105, 110]⟩ : ByteArray).size = 4 := rfl; have : (⟨#[32]⟩ : ByteArray).size = 1 := rfl; have : (bs (tab p)).size ≤ 2 := (by rw [bs_len]; exact tab_len p); omega)
  have k1 := catG ((((⟨#[103, 97, 105, 110]⟩ : ByteArray) ++ (⟨#[32]⟩ : ByteArray)) ++ bs (tab p))) ((⟨#[32]⟩ : ByteArray)) (by simp only [ByteArray.size_append]; have : (⟨#[103, 97, 105, 110]⟩ : ByteArray).size = 4 := rfl; have : (⟨#[32]⟩ : ByteArray).size = 1 := rfl; have : (bs (tab p)).size ≤ 2 := (by rw [bs_len]; exact tab_len p); omega)
  have k2 := catG (((((⟨#[103, 97, 105, 110]⟩ : ByteArray) ++ (⟨#[32]⟩ : ByteArray)) ++ bs (tab p)) ++ (⟨#[32]⟩ : ByteArray))) ((⟨#[112, 108, 97, 121, 101, 114]⟩ : ByteArray)) (by simp only [ByteArray.size_append]; have : (⟨#[103, 97, 105, 110]⟩ : ByteArray).size = 4 := rfl; have : (⟨#[32]⟩ : ByteArray).size = 1 := rfl; have : (⟨#[112, 108, 97, 121, 101, 114]⟩ : ByteArray).size = 6 := rfl; have : (bs (tab p)).size ≤ 2 := (by rw [bs_len]; exact tab_len p); omega)
  have HDp := fun w => dig_any p w (by omega)
  go_enter Tryz.func25, Tryz.ntmps25
  go_wp2_with (go_at_call 39; refine (HDp _).mono ?_; rintro e w' ⟨rfl, hw⟩; subst hw)
  go_ret
  exact ⟨ret_str (by show bs [103, 97, 105, 110] ++ bs [32] ++ bs (tab p) ++ bs [32] ++ bs [112, 108, 97, 121, 101, 114] = bs (Lib.join [[103, 97, 105, 110], tab p, [112, 108, 97, 121, 101, 114]] [32]); rw [tx3]; simp only [bs_app]), by go_grown⟩
set_option maxRecDepth 100000 in
set_option maxHeartbeats 4000000 in
theorem rText_4_0 (p : Nat) (hp : p ≤ 99) (w : World) : Calls Tryz.prog 25 #[eV 4 0 (p : Int) 0 0] w fun e w' => e = .returned (.string (bs (textE ⟨4, 0, p, 0, 0⟩))) ∧ Below w.heap.size w w' := by
  have k0 := catG (((⟨#[108, 111, 115, 101]⟩ : ByteArray) ++ (⟨#[32]⟩ : ByteArray))) (bs (tab p)) (by simp only [ByteArray.size_append]; have : (⟨#[108, 111, 115, 101]⟩ : ByteArray).size = 4 := rfl; have : (⟨#[32]⟩ : ByteArray).size = 1 := rfl; have : (bs (tab p)).size ≤ 2 := (by rw [bs_len]; exact tab_len p); omega)
  have HDp := fun w => dig_any p w (by omega)
  go_enter Tryz.func25, Tryz.ntmps25
  go_wp2_with (go_at_call 39; refine (HDp _).mono ?_; rintro e w' ⟨rfl, hw⟩; subst hw)
  go_ret
  exact ⟨ret_str (by show bs [108, 111, 115, 101] ++ bs [32] ++ bs (tab p) = bs (Lib.join [[108, 111, 115, 101], tab p] [32]); rw [tx2]; simp only [bs_app]), by go_grown⟩
set_option maxRecDepth 100000 in
set_option maxHeartbeats 4000000 in
theorem rText_4_4 (p : Nat) (hp : p ≤ 99) (w : World) : Calls Tryz.prog 25 #[eV 4 4 (p : Int) 0 0] w fun e w' => e = .returned (.string (bs (textE ⟨4, 4, p, 0, 0⟩))) ∧ Below w.heap.size w w' := by
  have k0 := catG (((⟨#[108, 111, 115, 101]⟩ : ByteArray) ++ (⟨#[32]⟩ : ByteArray))) (bs (tab p)) (by simp only [ByteArray.size_append]; have : (⟨#[108, 111, 115, 101]⟩ : ByteArray).size = 4 := rfl; have : (⟨#[32]⟩ : ByteArray).size = 1 := rfl; have : (bs (tab p)).size ≤ 2 := (by rw [bs_len]; exact tab_len p); omega)
  have k1 := catG ((((⟨#[108, 111, 115, 101]⟩ : ByteArray) ++ (⟨#[32]⟩ : ByteArray)) ++ bs (tab p))) ((⟨#[32]⟩ : ByteArray)) (by simp only [ByteArray.size_append]; have : (⟨#[108, 111, 115, 101]⟩ : ByteArray).size = 4 := rfl; have : (⟨#[32]⟩ : ByteArray).size = 1 := rfl; have : (bs (tab p)).size ≤ 2 := (by rw [bs_len]; exact tab_len p); omega)
  have k2 := catG (((((⟨#[108, 111, 115, 101]⟩ : ByteArray) ++ (⟨#[32]⟩ : ByteArray)) ++ bs (tab p)) ++ (⟨#[32]⟩ : ByteArray))) ((⟨#[112, 108, 97, 121, 101, 114]⟩ : ByteArray)) (by simp only [ByteArray.size_append]; have : (⟨#[108, 111, 115, 101]⟩ : ByteArray).size = 4 := rfl; have : (⟨#[32]⟩ : ByteArray).size = 1 := rfl; have : (⟨#[112, 108, 97, 121, 101, 114]⟩ : ByteArray).size = 6 := rfl; have : (bs (tab p)).size ≤ 2 := (by rw [bs_len]; exact tab_len p); omega)
  have HDp := fun w => dig_any p w (by omega)
  go_enter Tryz.func25, Tryz.ntmps25
  go_wp2_with (go_at_call 39; refine (HDp _).mono ?_; rintro e w' ⟨rfl, hw⟩; subst hw)
  go_ret
  exact ⟨ret_str (by show bs [108, 111, 115, 101] ++ bs [32] ++ bs (tab p) ++ bs [32] ++ bs [112, 108, 97, 121, 101, 114] = bs (Lib.join [[108, 111, 115, 101], tab p, [112, 108, 97, 121, 101, 114]] [32]); rw [tx3]; simp only [bs_app]), by go_grown⟩
end Go.Proofs.YtlhnnjllbcglcaaGreatDoor.efFn

/- The reference's text of effects, further codes. -/
namespace Go.Proofs.YtlhnnjllbcglcaaGreatDoor.efFn
open Go.ChangeShapes Go.WideShapes Go.ChangeAt Go.RowKit drMem
set_option linter.unusedVariables false

set_option maxRecDepth 100000 in
set_option maxHeartbeats 4000000 in
theorem rText_5_1 (w : World) : Calls Tryz.prog 25 #[eV 5 1 0 0 0] w fun e w' => e = .returned (.string (bs (textE ⟨5, 1, 0, 0, 0⟩))) ∧ Below w.heap.size w w' := by
  go_enter Tryz.func25, Tryz.ntmps25
  go_wp2
  go_ret
  exact ⟨ret_str (by show bs [100, 101, 115, 116, 114, 111, 121] ++ bs [32] ++ bs [99, 114, 101, 97, 116, 117, 114, 101] = bs (Lib.join [[100, 101, 115, 116, 114, 111, 121], [99, 114, 101, 97, 116, 117, 114, 101]] [32]); rw [tx2]; simp only [bs_app]), by go_grown⟩
set_option maxRecDepth 100000 in
set_option maxHeartbeats 4000000 in
theorem rText_5_2 (w : World) : Calls Tryz.prog 25 #[eV 5 2 0 0 0] w fun e w' => e = .returned (.string (bs (textE ⟨5, 2, 0, 0, 0⟩))) ∧ Below w.heap.size w w' := by
  go_enter Tryz.func25, Tryz.ntmps25
  go_wp2
  go_ret
  exact ⟨ret_str (by show bs [100, 101, 115, 116, 114, 111, 121] ++ bs [32] ++ bs [111, 119, 110] = bs (Lib.join [[100, 101, 115, 116, 114, 111, 121], [111, 119, 110]] [32]); rw [tx2]; simp only [bs_app]), by go_grown⟩
set_option maxRecDepth 100000 in
set_option maxHeartbeats 4000000 in
theorem rText_5_3 (w : World) : Calls Tryz.prog 25 #[eV 5 3 0 0 0] w fun e w' => e = .returned (.string (bs (textE ⟨5, 3, 0, 0, 0⟩))) ∧ Below w.heap.size w w' := by
  go_enter Tryz.func25, Tryz.ntmps25
  go_wp2
  go_ret
  exact ⟨ret_str (by show bs [100, 101, 115, 116, 114, 111, 121] ++ bs [32] ++ bs [111, 116, 104, 101, 114] = bs (Lib.join [[100, 101, 115, 116, 114, 111, 121], [111, 116, 104, 101, 114]] [32]); rw [tx2]; simp only [bs_app]), by go_grown⟩
set_option maxRecDepth 100000 in
set_option maxHeartbeats 4000000 in
theorem rText_6_1 (w : World) : Calls Tryz.prog 25 #[eV 6 1 0 0 0] w fun e w' => e = .returned (.string (bs (textE ⟨6, 1, 0, 0, 0⟩))) ∧ Below w.heap.size w w' := by
  go_enter Tryz.func25, Tryz.ntmps25
  go_wp2
  go_ret
  exact ⟨ret_str (by show bs [114, 101, 116, 117, 114, 110] ++ bs [32] ++ bs [99, 114, 101, 97, 116, 117, 114, 101] = bs (Lib.join [[114, 101, 116, 117, 114, 110], [99, 114, 101, 97, 116, 117, 114, 101]] [32]); rw [tx2]; simp only [bs_app]), by go_grown⟩
set_option maxRecDepth 100000 in
set_option maxHeartbeats 4000000 in
theorem rText_6_2 (w : World) : Calls Tryz.prog 25 #[eV 6 2 0 0 0] w fun e w' => e = .returned (.string (bs (textE ⟨6, 2, 0, 0, 0⟩))) ∧ Below w.heap.size w w' := by
  go_enter Tryz.func25, Tryz.ntmps25
  go_wp2
  go_ret
  exact ⟨ret_str (by show bs [114, 101, 116, 117, 114, 110] ++ bs [32] ++ bs [111, 119, 110] = bs (Lib.join [[114, 101, 116, 117, 114, 110], [111, 119, 110]] [32]); rw [tx2]; simp only [bs_app]), by go_grown⟩
set_option maxRecDepth 100000 in
set_option maxHeartbeats 4000000 in
theorem rText_6_3 (w : World) : Calls Tryz.prog 25 #[eV 6 3 0 0 0] w fun e w' => e = .returned (.string (bs (textE ⟨6, 3, 0, 0, 0⟩))) ∧ Below w.heap.size w w' := by
  go_enter Tryz.func25, Tryz.ntmps25
  go_wp2
  go_ret
  exact ⟨ret_str (by show bs [114, 101, 116, 117, 114, 110] ++ bs [32] ++ bs [111, 116, 104, 101, 114] = bs (Lib.join [[114, 101, 116, 117, 114, 110], [111, 116, 104, 101, 114]] [32]); rw [tx2]; simp only [bs_app]), by go_grown⟩
set_option maxRecDepth 100000 in
set_option maxHeartbeats 4000000 in
theorem rText_7_6 (w : World) : Calls Tryz.prog 25 #[eV 7 6 0 0 0] w fun e w' => e = .returned (.string (bs (textE ⟨7, 6, 0, 0, 0⟩))) ∧ Below w.heap.size w w' := by
  go_enter Tryz.func25, Tryz.ntmps25
  go_wp2
  go_ret
  exact ⟨ret_str (by show bs [99, 111, 117, 110, 116, 101, 114] ++ bs [32] ++ bs [115, 112, 101, 108, 108] = bs (Lib.join [[99, 111, 117, 110, 116, 101, 114], [115, 112, 101, 108, 108]] [32]); rw [tx2]; simp only [bs_app]), by go_grown⟩
set_option maxRecDepth 100000 in
set_option maxHeartbeats 4000000 in
theorem rText_9_0 (p : Nat) (hp : p ≤ 99) (w : World) : Calls Tryz.prog 25 #[eV 9 0 (p : Int) 0 0] w fun e w' => e = .returned (.string (bs (textE ⟨9, 0, p, 0, 0⟩))) ∧ Below w.heap.size w w' := by
  have k0 := catG (((⟨#[99, 111, 117, 110, 116, 101, 114, 115]⟩ : ByteArray) ++ (⟨#[32]⟩ : ByteArray))) (bs (tab p)) (by simp only [ByteArray.size_append]; have : (⟨#[99, 111, 117, 110, 116, 101, 114, 115]⟩ : ByteArray).size = 8 := rfl; have : (⟨#[32]⟩ : ByteArray).size = 1 := rfl; have : (bs (tab p)).size ≤ 2 := (by rw [bs_len]; exact tab_len p); omega)
  have HDp := fun w => dig_any p w (by omega)
  go_enter Tryz.func25, Tryz.ntmps25
  go_wp2_with (go_at_call 39; refine (HDp _).mono ?_; rintro e w' ⟨rfl, hw⟩; subst hw)
  go_ret
  exact ⟨ret_str (by show bs [99, 111, 117, 110, 116, 101, 114, 115] ++ bs [32] ++ bs (tab p) = bs (Lib.join [[99, 111, 117, 110, 116, 101, 114, 115], tab p] [32]); rw [tx2]; simp only [bs_app]), by go_grown⟩
set_option maxRecDepth 100000 in
set_option maxHeartbeats 4000000 in
theorem rText_9_1 (p : Nat) (hp : p ≤ 99) (w : World) : Calls Tryz.prog 25 #[eV 9 1 (p : Int) 0 0] w fun e w' => e = .returned (.string (bs (textE ⟨9, 1, p, 0, 0⟩))) ∧ Below w.heap.size w w' := by
  have k0 := catG (((⟨#[99, 111, 117, 110, 116, 101, 114, 115]⟩ : ByteArray) ++ (⟨#[32]⟩ : ByteArray))) (bs (tab p)) (by simp only [ByteArray.size_append]; have : (⟨#[99, 111, 117, 110, 116, 101, 114, 115]⟩ : ByteArray).size = 8 := rfl; have : (⟨#[32]⟩ : ByteArray).size = 1 := rfl; have : (bs (tab p)).size ≤ 2 := (by rw [bs_len]; exact tab_len p); omega)
  have k1 := catG ((((⟨#[99, 111, 117, 110, 116, 101, 114, 115]⟩ : ByteArray) ++ (⟨#[32]⟩ : ByteArray)) ++ bs (tab p))) ((⟨#[32]⟩ : ByteArray)) (by simp only [ByteArray.size_append]; have : (⟨#[99, 111, 117, 110, 116, 101, 114, 115]⟩ : ByteArray).size = 8 := rfl; have : (⟨#[32]⟩ : ByteArray).size = 1 := rfl; have : (bs (tab p)).size ≤ 2 := (by rw [bs_len]; exact tab_len p); omega)
  have k2 := catG (((((⟨#[99, 111, 117, 110, 116, 101, 114, 115]⟩ : ByteArray) ++ (⟨#[32]⟩ : ByteArray)) ++ bs (tab p)) ++ (⟨#[32]⟩ : ByteArray))) ((⟨#[99, 114, 101, 97, 116, 117, 114, 101]⟩ : ByteArray)) (by simp only [ByteArray.size_append]; have : (⟨#[99, 111, 117, 110, 116, 101, 114, 115]⟩ : ByteArray).size = 8 := rfl; have : (⟨#[32]⟩ : ByteArray).size = 1 := rfl; have : (⟨#[99, 114, 101, 97, 116, 117, 114, 101]⟩ : ByteArray).size = 8 := rfl; have : (bs (tab p)).size ≤ 2 := (by rw [bs_len]; exact tab_len p); omega)
  have HDp := fun w => dig_any p w (by omega)
  go_enter Tryz.func25, Tryz.ntmps25
  go_wp2_with (go_at_call 39; refine (HDp _).mono ?_; rintro e w' ⟨rfl, hw⟩; subst hw)
  go_ret
  exact ⟨ret_str (by show bs [99, 111, 117, 110, 116, 101, 114, 115] ++ bs [32] ++ bs (tab p) ++ bs [32] ++ bs [99, 114, 101, 97, 116, 117, 114, 101] = bs (Lib.join [[99, 111, 117, 110, 116, 101, 114, 115], tab p, [99, 114, 101, 97, 116, 117, 114, 101]] [32]); rw [tx3]; simp only [bs_app]), by go_grown⟩
set_option maxRecDepth 100000 in
set_option maxHeartbeats 4000000 in
theorem rText_9_2 (p : Nat) (hp : p ≤ 99) (w : World) : Calls Tryz.prog 25 #[eV 9 2 (p : Int) 0 0] w fun e w' => e = .returned (.string (bs (textE ⟨9, 2, p, 0, 0⟩))) ∧ Below w.heap.size w w' := by
  have k0 := catG (((⟨#[99, 111, 117, 110, 116, 101, 114, 115]⟩ : ByteArray) ++ (⟨#[32]⟩ : ByteArray))) (bs (tab p)) (by simp only [ByteArray.size_append]; have : (⟨#[99, 111, 117, 110, 116, 101, 114, 115]⟩ : ByteArray).size = 8 := rfl; have : (⟨#[32]⟩ : ByteArray).size = 1 := rfl; have : (bs (tab p)).size ≤ 2 := (by rw [bs_len]; exact tab_len p); omega)
  have k1 := catG ((((⟨#[99, 111, 117, 110, 116, 101, 114, 115]⟩ : ByteArray) ++ (⟨#[32]⟩ : ByteArray)) ++ bs (tab p))) ((⟨#[32]⟩ : ByteArray)) (by simp only [ByteArray.size_append]; have : (⟨#[99, 111, 117, 110, 116, 101, 114, 115]⟩ : ByteArray).size = 8 := rfl; have : (⟨#[32]⟩ : ByteArray).size = 1 := rfl; have : (bs (tab p)).size ≤ 2 := (by rw [bs_len]; exact tab_len p); omega)
  have k2 := catG (((((⟨#[99, 111, 117, 110, 116, 101, 114, 115]⟩ : ByteArray) ++ (⟨#[32]⟩ : ByteArray)) ++ bs (tab p)) ++ (⟨#[32]⟩ : ByteArray))) ((⟨#[111, 119, 110]⟩ : ByteArray)) (by simp only [ByteArray.size_append]; have : (⟨#[99, 111, 117, 110, 116, 101, 114, 115]⟩ : ByteArray).size = 8 := rfl; have : (⟨#[32]⟩ : ByteArray).size = 1 := rfl; have : (⟨#[111, 119, 110]⟩ : ByteArray).size = 3 := rfl; have : (bs (tab p)).size ≤ 2 := (by rw [bs_len]; exact tab_len p); omega)
  have HDp := fun w => dig_any p w (by omega)
  go_enter Tryz.func25, Tryz.ntmps25
  go_wp2_with (go_at_call 39; refine (HDp _).mono ?_; rintro e w' ⟨rfl, hw⟩; subst hw)
  go_ret
  exact ⟨ret_str (by show bs [99, 111, 117, 110, 116, 101, 114, 115] ++ bs [32] ++ bs (tab p) ++ bs [32] ++ bs [111, 119, 110] = bs (Lib.join [[99, 111, 117, 110, 116, 101, 114, 115], tab p, [111, 119, 110]] [32]); rw [tx3]; simp only [bs_app]), by go_grown⟩
set_option maxRecDepth 100000 in
set_option maxHeartbeats 4000000 in
theorem rText_9_3 (p : Nat) (hp : p ≤ 99) (w : World) : Calls Tryz.prog 25 #[eV 9 3 (p : Int) 0 0] w fun e w' => e = .returned (.string (bs (textE ⟨9, 3, p, 0, 0⟩))) ∧ Below w.heap.size w w' := by
  have k0 := catG (((⟨#[99, 111, 117, 110, 116, 101, 114, 115]⟩ : ByteArray) ++ (⟨#[32]⟩ : ByteArray))) (bs (tab p)) (by simp only [ByteArray.size_append]; have : (⟨#[99, 111, 117, 110, 116, 101, 114, 115]⟩ : ByteArray).size = 8 := rfl; have : (⟨#[32]⟩ : ByteArray).size = 1 := rfl; have : (bs (tab p)).size ≤ 2 := (by rw [bs_len]; exact tab_len p); omega)
  have k1 := catG ((((⟨#[99, 111, 117, 110, 116, 101, 114, 115]⟩ : ByteArray) ++ (⟨#[32]⟩ : ByteArray)) ++ bs (tab p))) ((⟨#[32]⟩ : ByteArray)) (by simp only [ByteArray.size_append]; have : (⟨#[99, 111, 117, 110, 116, 101, 114, 115]⟩ : ByteArray).size = 8 := rfl; have : (⟨#[32]⟩ : ByteArray).size = 1 := rfl; have : (bs (tab p)).size ≤ 2 := (by rw [bs_len]; exact tab_len p); omega)
  have k2 := catG (((((⟨#[99, 111, 117, 110, 116, 101, 114, 115]⟩ : ByteArray) ++ (⟨#[32]⟩ : ByteArray)) ++ bs (tab p)) ++ (⟨#[32]⟩ : ByteArray))) ((⟨#[111, 116, 104, 101, 114]⟩ : ByteArray)) (by simp only [ByteArray.size_append]; have : (⟨#[99, 111, 117, 110, 116, 101, 114, 115]⟩ : ByteArray).size = 8 := rfl; have : (⟨#[32]⟩ : ByteArray).size = 1 := rfl; have : (⟨#[111, 116, 104, 101, 114]⟩ : ByteArray).size = 5 := rfl; have : (bs (tab p)).size ≤ 2 := (by rw [bs_len]; exact tab_len p); omega)
  have HDp := fun w => dig_any p w (by omega)
  go_enter Tryz.func25, Tryz.ntmps25
  go_wp2_with (go_at_call 39; refine (HDp _).mono ?_; rintro e w' ⟨rfl, hw⟩; subst hw)
  go_ret
  exact ⟨ret_str (by show bs [99, 111, 117, 110, 116, 101, 114, 115] ++ bs [32] ++ bs (tab p) ++ bs [32] ++ bs [111, 116, 104, 101, 114] = bs (Lib.join [[99, 111, 117, 110, 116, 101, 114, 115], tab p, [111, 116, 104, 101, 114]] [32]); rw [tx3]; simp only [bs_app]), by go_grown⟩
set_option maxRecDepth 100000 in
set_option maxHeartbeats 4000000 in
theorem rText_11_1 (w : World) : Calls Tryz.prog 25 #[eV 11 1 0 0 0] w fun e w' => e = .returned (.string (bs (textE ⟨11, 1, 0, 0, 0⟩))) ∧ Below w.heap.size w w' := by
  go_enter Tryz.func25, Tryz.ntmps25
  go_wp2
  go_ret
  exact ⟨ret_str (by show bs [116, 97, 112] ++ bs [32] ++ bs [99, 114, 101, 97, 116, 117, 114, 101] = bs (Lib.join [[116, 97, 112], [99, 114, 101, 97, 116, 117, 114, 101]] [32]); rw [tx2]; simp only [bs_app]), by go_grown⟩
set_option maxRecDepth 100000 in
set_option maxHeartbeats 4000000 in
theorem rText_11_2 (w : World) : Calls Tryz.prog 25 #[eV 11 2 0 0 0] w fun e w' => e = .returned (.string (bs (textE ⟨11, 2, 0, 0, 0⟩))) ∧ Below w.heap.size w w' := by
  go_enter Tryz.func25, Tryz.ntmps25
  go_wp2
  go_ret
  exact ⟨ret_str (by show bs [116, 97, 112] ++ bs [32] ++ bs [111, 119, 110] = bs (Lib.join [[116, 97, 112], [111, 119, 110]] [32]); rw [tx2]; simp only [bs_app]), by go_grown⟩
set_option maxRecDepth 100000 in
set_option maxHeartbeats 4000000 in
theorem rText_11_3 (w : World) : Calls Tryz.prog 25 #[eV 11 3 0 0 0] w fun e w' => e = .returned (.string (bs (textE ⟨11, 3, 0, 0, 0⟩))) ∧ Below w.heap.size w w' := by
  go_enter Tryz.func25, Tryz.ntmps25
  go_wp2
  go_ret
  exact ⟨ret_str (by show bs [116, 97, 112] ++ bs [32] ++ bs [111, 116, 104, 101, 114] = bs (Lib.join [[116, 97, 112], [111, 116, 104, 101, 114]] [32]); rw [tx2]; simp only [bs_app]), by go_grown⟩
end Go.Proofs.YtlhnnjllbcglcaaGreatDoor.efFn

/- The reference's text of effects, further codes. -/
namespace Go.Proofs.YtlhnnjllbcglcaaGreatDoor.efFn
open Go.ChangeShapes Go.WideShapes Go.ChangeAt Go.RowKit drMem
set_option linter.unusedVariables false

set_option maxRecDepth 100000 in
set_option maxHeartbeats 4000000 in
theorem rText_8_0 (p q : Nat) (hp : p ≤ 99) (hq : q ≤ 9) (w : World) : Calls Tryz.prog 25 #[eV 8 0 (p : Int) (q : Int) 0] w fun e w' => e = .returned (.string (bs (textE ⟨8, 0, p, q, 0⟩))) ∧ Below w.heap.size w w' := by
  have k0 := catG (((⟨#[112, 117, 109, 112]⟩ : ByteArray) ++ (⟨#[32]⟩ : ByteArray))) (bs (tab p)) (by simp only [ByteArray.size_append]; have : (⟨#[112, 117, 109, 112]⟩ : ByteArray).size = 4 := rfl; have : (⟨#[32]⟩ : ByteArray).size = 1 := rfl; have : (bs (tab p)).size ≤ 2 := (by rw [bs_len]; exact tab_len p); omega)
  have k1 := catG ((((⟨#[112, 117, 109, 112]⟩ : ByteArray) ++ (⟨#[32]⟩ : ByteArray)) ++ bs (tab p))) ((⟨#[32]⟩ : ByteArray)) (by simp only [ByteArray.size_append]; have : (⟨#[112, 117, 109, 112]⟩ : ByteArray).size = 4 := rfl; have : (⟨#[32]⟩ : ByteArray).size = 1 := rfl; have : (bs (tab p)).size ≤ 2 := (by rw [bs_len]; exact tab_len p); omega)
  have k2 := catG (((((⟨#[112, 117, 109, 112]⟩ : ByteArray) ++ (⟨#[32]⟩ : ByteArray)) ++ bs (tab p)) ++ (⟨#[32]⟩ : ByteArray))) (bs (tab q)) (by simp only [ByteArray.size_append]; have : (⟨#[112, 117, 109, 112]⟩ : ByteArray).size = 4 := rfl; have : (⟨#[32]⟩ : ByteArray).size = 1 := rfl; have : (bs (tab p)).size ≤ 2 := (by rw [bs_len]; exact tab_len p); have : (bs (tab q)).size ≤ 2 := (by rw [bs_len]; exact tab_len q); omega)
  have HDp := fun w => dig_any p w (by omega)
  have HDq := fun w => dig_any q w (by omega)
  go_enter Tryz.func25, Tryz.ntmps25
  go_wp2_with fail
  go_quiet (first | (go_at_call 39; (with_reducible refine Calls.quiet_of_same ((HDp _).mono (fun _ _ h => ⟨h.1, h.2.symm⟩)))) | (go_at_call 39; (with_reducible refine Calls.quiet_of_same ((HDq _).mono (fun _ _ h => ⟨h.1, h.2.symm⟩)))))
  go_wp2
  go_ret
  exact ⟨ret_str (by show bs [112, 117, 109, 112] ++ bs [32] ++ bs (tab p) ++ bs [32] ++ bs (tab q) = bs (Lib.join [[112, 117, 109, 112], tab p, tab q] [32]); rw [tx3]; simp only [bs_app]), by first | exact dN (by go_grown) _ | (refine Below.alloc (dN (by go_grown) _) ?_ _; first | (simp; done) | (simp; omega))⟩
set_option maxRecDepth 100000 in
set_option maxHeartbeats 4000000 in
theorem rText_8_1 (p q : Nat) (hp : p ≤ 99) (hq : q ≤ 9) (w : World) : Calls Tryz.prog 25 #[eV 8 1 (p : Int) (q : Int) 0] w fun e w' => e = .returned (.string (bs (textE ⟨8, 1, p, q, 0⟩))) ∧ Below w.heap.size w w' := by
  have k0 := catG (((⟨#[112, 117, 109, 112]⟩ : ByteArray) ++ (⟨#[32]⟩ : ByteArray))) (bs (tab p)) (by simp only [ByteArray.size_append]; have : (⟨#[112, 117, 109, 112]⟩ : ByteArray).size = 4 := rfl; have : (⟨#[32]⟩ : ByteArray).size = 1 := rfl; have : (bs (tab p)).size ≤ 2 := (by rw [bs_len]; exact tab_len p); omega)
  have k1 := catG ((((⟨#[112, 117, 109, 112]⟩ : ByteArray) ++ (⟨#[32]⟩ : ByteArray)) ++ bs (tab p))) ((⟨#[32]⟩ : ByteArray)) (by simp only [ByteArray.size_append]; have : (⟨#[112, 117, 109, 112]⟩ : ByteArray).size = 4 := rfl; have : (⟨#[32]⟩ : ByteArray).size = 1 := rfl; have : (bs (tab p)).size ≤ 2 := (by rw [bs_len]; exact tab_len p); omega)
  have k2 := catG (((((⟨#[112, 117, 109, 112]⟩ : ByteArray) ++ (⟨#[32]⟩ : ByteArray)) ++ bs (tab p)) ++ (⟨#[32]⟩ : ByteArray))) (bs (tab q)) (by simp only [ByteArray.size_append]; have : (⟨#[112, 117, 109, 112]⟩ : ByteArray).size = 4 := rfl; have : (⟨#[32]⟩ : ByteArray).size = 1 := rfl; have : (bs (tab p)).size ≤ 2 := (by rw [bs_len]; exact tab_len p); have : (bs (tab q)).size ≤ 2 := (by rw [bs_len]; exact tab_len q); omega)
  have k3 := catG ((((((⟨#[112, 117, 109, 112]⟩ : ByteArray) ++ (⟨#[32]⟩ : ByteArray)) ++ bs (tab p)) ++ (⟨#[32]⟩ : ByteArray)) ++ bs (tab q))) ((⟨#[32]⟩ : ByteArray)) (by simp only [ByteArray.size_append]; have : (⟨#[112, 117, 109, 112]⟩ : ByteArray).size = 4 := rfl; have : (⟨#[32]⟩ : ByteArray).size = 1 := rfl; have : (bs (tab p)).size ≤ 2 := (by rw [bs_len]; exact tab_len p); have : (bs (tab q)).size ≤ 2 := (by rw [bs_len]; exact tab_len q); omega)
  have k4 := catG (((((((⟨#[112, 117, 109, 112]⟩ : ByteArray) ++ (⟨#[32]⟩ : ByteArray)) ++ bs (tab p)) ++ (⟨#[32]⟩ : ByteArray)) ++ bs (tab q)) ++ (⟨#[32]⟩ : ByteArray))) ((⟨#[99, 114, 101, 97, 116, 117, 114, 101]⟩ : ByteArray)) (by simp only [ByteArray.size_append]; have : (⟨#[112, 117, 109, 112]⟩ : ByteArray).size = 4 := rfl; have : (⟨#[32]⟩ : ByteArray).size = 1 := rfl; have : (⟨#[99, 114, 101, 97, 116, 117, 114, 101]⟩ : ByteArray).size = 8 := rfl; have : (bs (tab p)).size ≤ 2 := (by rw [bs_len]; exact tab_len p); have : (bs (tab q)).size ≤ 2 := (by rw [bs_len]; exact tab_len q); omega)
  have HDp := fun w => dig_any p w (by omega)
  have HDq := fun w => dig_any q w (by omega)
  go_enter Tryz.func25, Tryz.ntmps25
  go_wp2_with fail
  go_quiet (first | (go_at_call 39; (with_reducible refine Calls.quiet_of_same ((HDp _).mono (fun _ _ h => ⟨h.1, h.2.symm⟩)))) | (go_at_call 39; (with_reducible refine Calls.quiet_of_same ((HDq _).mono (fun _ _ h => ⟨h.1, h.2.symm⟩)))))
  go_wp2
  go_ret
  exact ⟨ret_str (by show bs [112, 117, 109, 112] ++ bs [32] ++ bs (tab p) ++ bs [32] ++ bs (tab q) ++ bs [32] ++ bs [99, 114, 101, 97, 116, 117, 114, 101] = bs (Lib.join [[112, 117, 109, 112], tab p, tab q, [99, 114, 101, 97, 116, 117, 114, 101]] [32]); rw [tx4]; simp only [bs_app]), by first | exact dN (by go_grown) _ | (refine Below.alloc (dN (by go_grown) _) ?_ _; first | (simp; done) | (simp; omega))⟩
set_option maxRecDepth 100000 in
set_option maxHeartbeats 4000000 in
theorem rText_8_2 (p q : Nat) (hp : p ≤ 99) (hq : q ≤ 9) (w : World) : Calls Tryz.prog 25 #[eV 8 2 (p : Int) (q : Int) 0] w fun e w' => e = .returned (.string (bs (textE ⟨8, 2, p, q, 0⟩))) ∧ Below w.heap.size w w' := by
  have k0 := catG (((⟨#[112, 117, 109, 112]⟩ : ByteArray) ++ (⟨#[32]⟩ : ByteArray))) (bs (tab p)) (by simp only [ByteArray.size_append]; have : (⟨#[112, 117, 109, 112]⟩ : ByteArray).size = 4 := rfl; have : (⟨#[32]⟩ : ByteArray).size = 1 := rfl; have : (bs (tab p)).size ≤ 2 := (by rw [bs_len]; exact tab_len p); omega)
  have k1 := catG ((((⟨#[112, 117, 109, 112]⟩ : ByteArray) ++ (⟨#[32]⟩ : ByteArray)) ++ bs (tab p))) ((⟨#[32]⟩ : ByteArray)) (by simp only [ByteArray.size_append]; have : (⟨#[112, 117, 109, 112]⟩ : ByteArray).size = 4 := rfl; have : (⟨#[32]⟩ : ByteArray).size = 1 := rfl; have : (bs (tab p)).size ≤ 2 := (by rw [bs_len]; exact tab_len p); omega)
  have k2 := catG (((((⟨#[112, 117, 109, 112]⟩ : ByteArray) ++ (⟨#[32]⟩ : ByteArray)) ++ bs (tab p)) ++ (⟨#[32]⟩ : ByteArray))) (bs (tab q)) (by simp only [ByteArray.size_append]; have : (⟨#[112, 117, 109, 112]⟩ : ByteArray).size = 4 := rfl; have : (⟨#[32]⟩ : ByteArray).size = 1 := rfl; have : (bs (tab p)).size ≤ 2 := (by rw [bs_len]; exact tab_len p); have : (bs (tab q)).size ≤ 2 := (by rw [bs_len]; exact tab_len q); omega)
  have k3 := catG ((((((⟨#[112, 117, 109, 112]⟩ : ByteArray) ++ (⟨#[32]⟩ : ByteArray)) ++ bs (tab p)) ++ (⟨#[32]⟩ : ByteArray)) ++ bs (tab q))) ((⟨#[32]⟩ : ByteArray)) (by simp only [ByteArray.size_append]; have : (⟨#[112, 117, 109, 112]⟩ : ByteArray).size = 4 := rfl; have : (⟨#[32]⟩ : ByteArray).size = 1 := rfl; have : (bs (tab p)).size ≤ 2 := (by rw [bs_len]; exact tab_len p); have : (bs (tab q)).size ≤ 2 := (by rw [bs_len]; exact tab_len q); omega)
  have k4 := catG (((((((⟨#[112, 117, 109, 112]⟩ : ByteArray) ++ (⟨#[32]⟩ : ByteArray)) ++ bs (tab p)) ++ (⟨#[32]⟩ : ByteArray)) ++ bs (tab q)) ++ (⟨#[32]⟩ : ByteArray))) ((⟨#[111, 119, 110]⟩ : ByteArray)) (by simp only [ByteArray.size_append]; have : (⟨#[112, 117, 109, 112]⟩ : ByteArray).size = 4 := rfl; have : (⟨#[32]⟩ : ByteArray).size = 1 := rfl; have : (⟨#[111, 119, 110]⟩ : ByteArray).size = 3 := rfl; have : (bs (tab p)).size ≤ 2 := (by rw [bs_len]; exact tab_len p); have : (bs (tab q)).size ≤ 2 := (by rw [bs_len]; exact tab_len q); omega)
  have HDp := fun w => dig_any p w (by omega)
  have HDq := fun w => dig_any q w (by omega)
  go_enter Tryz.func25, Tryz.ntmps25
  go_wp2_with fail
  go_quiet (first | (go_at_call 39; (with_reducible refine Calls.quiet_of_same ((HDp _).mono (fun _ _ h => ⟨h.1, h.2.symm⟩)))) | (go_at_call 39; (with_reducible refine Calls.quiet_of_same ((HDq _).mono (fun _ _ h => ⟨h.1, h.2.symm⟩)))))
  go_wp2
  go_ret
  exact ⟨ret_str (by show bs [112, 117, 109, 112] ++ bs [32] ++ bs (tab p) ++ bs [32] ++ bs (tab q) ++ bs [32] ++ bs [111, 119, 110] = bs (Lib.join [[112, 117, 109, 112], tab p, tab q, [111, 119, 110]] [32]); rw [tx4]; simp only [bs_app]), by first | exact dN (by go_grown) _ | (refine Below.alloc (dN (by go_grown) _) ?_ _; first | (simp; done) | (simp; omega))⟩
set_option maxRecDepth 100000 in
set_option maxHeartbeats 4000000 in
theorem rText_8_3 (p q : Nat) (hp : p ≤ 99) (hq : q ≤ 9) (w : World) : Calls Tryz.prog 25 #[eV 8 3 (p : Int) (q : Int) 0] w fun e w' => e = .returned (.string (bs (textE ⟨8, 3, p, q, 0⟩))) ∧ Below w.heap.size w w' := by
  have k0 := catG (((⟨#[112, 117, 109, 112]⟩ : ByteArray) ++ (⟨#[32]⟩ : ByteArray))) (bs (tab p)) (by simp only [ByteArray.size_append]; have : (⟨#[112, 117, 109, 112]⟩ : ByteArray).size = 4 := rfl; have : (⟨#[32]⟩ : ByteArray).size = 1 := rfl; have : (bs (tab p)).size ≤ 2 := (by rw [bs_len]; exact tab_len p); omega)
  have k1 := catG ((((⟨#[112, 117, 109, 112]⟩ : ByteArray) ++ (⟨#[32]⟩ : ByteArray)) ++ bs (tab p))) ((⟨#[32]⟩ : ByteArray)) (by simp only [ByteArray.size_append]; have : (⟨#[112, 117, 109, 112]⟩ : ByteArray).size = 4 := rfl; have : (⟨#[32]⟩ : ByteArray).size = 1 := rfl; have : (bs (tab p)).size ≤ 2 := (by rw [bs_len]; exact tab_len p); omega)
  have k2 := catG (((((⟨#[112, 117, 109, 112]⟩ : ByteArray) ++ (⟨#[32]⟩ : ByteArray)) ++ bs (tab p)) ++ (⟨#[32]⟩ : ByteArray))) (bs (tab q)) (by simp only [ByteArray.size_append]; have : (⟨#[112, 117, 109, 112]⟩ : ByteArray).size = 4 := rfl; have : (⟨#[32]⟩ : ByteArray).size = 1 := rfl; have : (bs (tab p)).size ≤ 2 := (by rw [bs_len]; exact tab_len p); have : (bs (tab q)).size ≤ 2 := (by rw [bs_len]; exact tab_len q); omega)
  have k3 := catG ((((((⟨#[112, 117, 109, 112]⟩ : ByteArray) ++ (⟨#[32]⟩ : ByteArray)) ++ bs (tab p)) ++ (⟨#[32]⟩ : ByteArray)) ++ bs (tab q))) ((⟨#[32]⟩ : ByteArray)) (by simp only [ByteArray.size_append]; have : (⟨#[112, 117, 109, 112]⟩ : ByteArray).size = 4 := rfl; have : (⟨#[32]⟩ : ByteArray).size = 1 := rfl; have : (bs (tab p)).size ≤ 2 := (by rw [bs_len]; exact tab_len p); have : (bs (tab q)).size ≤ 2 := (by rw [bs_len]; exact tab_len q); omega)
  have k4 := catG (((((((⟨#[112, 117, 109, 112]⟩ : ByteArray) ++ (⟨#[32]⟩ : ByteArray)) ++ bs (tab p)) ++ (⟨#[32]⟩ : ByteArray)) ++ bs (tab q)) ++ (⟨#[32]⟩ : ByteArray))) ((⟨#[111, 116, 104, 101, 114]⟩ : ByteArray)) (by simp only [ByteArray.size_append]; have : (⟨#[112, 117, 109, 112]⟩ : ByteArray).size = 4 := rfl; have : (⟨#[32]⟩ : ByteArray).size = 1 := rfl; have : (⟨#[111, 116, 104, 101, 114]⟩ : ByteArray).size = 5 := rfl; have : (bs (tab p)).size ≤ 2 := (by rw [bs_len]; exact tab_len p); have : (bs (tab q)).size ≤ 2 := (by rw [bs_len]; exact tab_len q); omega)
  have HDp := fun w => dig_any p w (by omega)
  have HDq := fun w => dig_any q w (by omega)
  go_enter Tryz.func25, Tryz.ntmps25
  go_wp2_with fail
  go_quiet (first | (go_at_call 39; (with_reducible refine Calls.quiet_of_same ((HDp _).mono (fun _ _ h => ⟨h.1, h.2.symm⟩)))) | (go_at_call 39; (with_reducible refine Calls.quiet_of_same ((HDq _).mono (fun _ _ h => ⟨h.1, h.2.symm⟩)))))
  go_wp2
  go_ret
  exact ⟨ret_str (by show bs [112, 117, 109, 112] ++ bs [32] ++ bs (tab p) ++ bs [32] ++ bs (tab q) ++ bs [32] ++ bs [111, 116, 104, 101, 114] = bs (Lib.join [[112, 117, 109, 112], tab p, tab q, [111, 116, 104, 101, 114]] [32]); rw [tx4]; simp only [bs_app]), by first | exact dN (by go_grown) _ | (refine Below.alloc (dN (by go_grown) _) ?_ _; first | (simp; done) | (simp; omega))⟩
set_option maxRecDepth 100000 in
set_option maxHeartbeats 4000000 in
theorem rText_10_0 (p q : Nat) (hp : p ≤ 99) (hq : q ≤ 9) (w : World) : Calls Tryz.prog 25 #[eV 10 0 (p : Int) (q : Int) 0] w fun e w' => e = .returned (.string (bs (textE ⟨10, 0, p, q, 0⟩))) ∧ Below w.heap.size w w' := by
  have k0 := catG (((⟨#[116, 111, 107, 101, 110]⟩ : ByteArray) ++ (⟨#[32]⟩ : ByteArray))) (bs (tab p)) (by simp only [ByteArray.size_append]; have : (⟨#[116, 111, 107, 101, 110]⟩ : ByteArray).size = 5 := rfl; have : (⟨#[32]⟩ : ByteArray).size = 1 := rfl; have : (bs (tab p)).size ≤ 2 := (by rw [bs_len]; exact tab_len p); omega)
  have k1 := catG ((((⟨#[116, 111, 107, 101, 110]⟩ : ByteArray) ++ (⟨#[32]⟩ : ByteArray)) ++ bs (tab p))) ((⟨#[32]⟩ : ByteArray)) (by simp only [ByteArray.size_append]; have : (⟨#[116, 111, 107, 101, 110]⟩ : ByteArray).size = 5 := rfl; have : (⟨#[32]⟩ : ByteArray).size = 1 := rfl; have : (bs (tab p)).size ≤ 2 := (by rw [bs_len]; exact tab_len p); omega)
  have k2 := catG (((((⟨#[116, 111, 107, 101, 110]⟩ : ByteArray) ++ (⟨#[32]⟩ : ByteArray)) ++ bs (tab p)) ++ (⟨#[32]⟩ : ByteArray))) (bs (tab q)) (by simp only [ByteArray.size_append]; have : (⟨#[116, 111, 107, 101, 110]⟩ : ByteArray).size = 5 := rfl; have : (⟨#[32]⟩ : ByteArray).size = 1 := rfl; have : (bs (tab p)).size ≤ 2 := (by rw [bs_len]; exact tab_len p); have : (bs (tab q)).size ≤ 2 := (by rw [bs_len]; exact tab_len q); omega)
  have HDp := fun w => dig_any p w (by omega)
  have HDq := fun w => dig_any q w (by omega)
  go_enter Tryz.func25, Tryz.ntmps25
  go_wp2_with fail
  go_quiet (first | (go_at_call 39; (with_reducible refine Calls.quiet_of_same ((HDp _).mono (fun _ _ h => ⟨h.1, h.2.symm⟩)))) | (go_at_call 39; (with_reducible refine Calls.quiet_of_same ((HDq _).mono (fun _ _ h => ⟨h.1, h.2.symm⟩)))))
  go_wp2
  go_ret
  exact ⟨ret_str (by show bs [116, 111, 107, 101, 110] ++ bs [32] ++ bs (tab p) ++ bs [32] ++ bs (tab q) = bs (Lib.join [[116, 111, 107, 101, 110], tab p, tab q] [32]); rw [tx3]; simp only [bs_app]), by first | exact dN (by go_grown) _ | (refine Below.alloc (dN (by go_grown) _) ?_ _; first | (simp; done) | (simp; omega))⟩
set_option maxRecDepth 100000 in
set_option maxHeartbeats 4000000 in
theorem rText_12_0_0 (p : Nat) (hp : p ≤ 99) (w : World) : Calls Tryz.prog 25 #[eV 12 0 (p : Int) 0 0] w fun e w' => e = .returned (.string (bs (textE ⟨12, 0, p, 0, 0⟩))) ∧ Below w.heap.size w w' := by
  have k0 := catG (((⟨#[109, 97, 110, 97]⟩ : ByteArray) ++ (⟨#[32]⟩ : ByteArray))) (bs (tab p)) (by simp only [ByteArray.size_append]; have : (⟨#[109, 97, 110, 97]⟩ : ByteArray).size = 4 := rfl; have : (⟨#[32]⟩ : ByteArray).size = 1 := rfl; have : (bs (tab p)).size ≤ 2 := (by rw [bs_len]; exact tab_len p); omega)
  have k1 := catG ((((⟨#[109, 97, 110, 97]⟩ : ByteArray) ++ (⟨#[32]⟩ : ByteArray)) ++ bs (tab p))) ((⟨#[32]⟩ : ByteArray)) (by simp only [ByteArray.size_append]; have : (⟨#[109, 97, 110, 97]⟩ : ByteArray).size = 4 := rfl; have : (⟨#[32]⟩ : ByteArray).size = 1 := rfl; have : (bs (tab p)).size ≤ 2 := (by rw [bs_len]; exact tab_len p); omega)
  have k2 := catG (((((⟨#[109, 97, 110, 97]⟩ : ByteArray) ++ (⟨#[32]⟩ : ByteArray)) ++ bs (tab p)) ++ (⟨#[32]⟩ : ByteArray))) ((⟨#[69]⟩ : ByteArray)) (by simp only [ByteArray.size_append]; have : (⟨#[109, 97, 110, 97]⟩ : ByteArray).size = 4 := rfl; have : (⟨#[32]⟩ : ByteArray).size = 1 := rfl; have : (⟨#[69]⟩ : ByteArray).size = 1 := rfl; have : (bs (tab p)).size ≤ 2 := (by rw [bs_len]; exact tab_len p); omega)
  have HDp := fun w => dig_any p w (by omega)
  go_enter Tryz.func25, Tryz.ntmps25
  have ks : ∀ w, Sem.run Tryz.prog (Instr.slice 9 (Value.string { data := #[69, 84, 76, 83] }) (some (Value.int IntKind.i64 0)) (some (Value.int IntKind.i64 (IntKind.i64.wrap 1))) none) w = Result.ok (Value.string ⟨#[69]⟩) w := fun w => by kernel_rfl
  go_wp2_with fail
  go_quiet ((go_at_call 39; refine Calls.quiet_of_same ((HDp _).mono (fun _ _ h => ⟨h.1, h.2.symm⟩))))
  go_wp2
  go_ret
  exact ⟨ret_str (by show bs [109, 97, 110, 97] ++ bs [32] ++ bs (tab p) ++ bs [32] ++ bs [69] = bs (Lib.join [[109, 97, 110, 97], tab p, [69]] [32]); rw [tx3]; simp only [bs_app]), by first | exact dN (by go_grown) _ | (refine Below.alloc (dN (by go_grown) _) ?_ _; first | (simp; done) | (simp; omega))⟩
set_option maxRecDepth 100000 in
set_option maxHeartbeats 4000000 in
theorem rText_12_0_1 (p : Nat) (hp : p ≤ 99) (w : World) : Calls Tryz.prog 25 #[eV 12 0 (p : Int) 0 1] w fun e w' => e = .returned (.string (bs (textE ⟨12, 0, p, 0, 1⟩))) ∧ Below w.heap.size w w' := by
  have k0 := catG (((⟨#[109, 97, 110, 97]⟩ : ByteArray) ++ (⟨#[32]⟩ : ByteArray))) (bs (tab p)) (by simp only [ByteArray.size_append]; have : (⟨#[109, 97, 110, 97]⟩ : ByteArray).size = 4 := rfl; have : (⟨#[32]⟩ : ByteArray).size = 1 := rfl; have : (bs (tab p)).size ≤ 2 := (by rw [bs_len]; exact tab_len p); omega)
  have k1 := catG ((((⟨#[109, 97, 110, 97]⟩ : ByteArray) ++ (⟨#[32]⟩ : ByteArray)) ++ bs (tab p))) ((⟨#[32]⟩ : ByteArray)) (by simp only [ByteArray.size_append]; have : (⟨#[109, 97, 110, 97]⟩ : ByteArray).size = 4 := rfl; have : (⟨#[32]⟩ : ByteArray).size = 1 := rfl; have : (bs (tab p)).size ≤ 2 := (by rw [bs_len]; exact tab_len p); omega)
  have k2 := catG (((((⟨#[109, 97, 110, 97]⟩ : ByteArray) ++ (⟨#[32]⟩ : ByteArray)) ++ bs (tab p)) ++ (⟨#[32]⟩ : ByteArray))) ((⟨#[84]⟩ : ByteArray)) (by simp only [ByteArray.size_append]; have : (⟨#[109, 97, 110, 97]⟩ : ByteArray).size = 4 := rfl; have : (⟨#[32]⟩ : ByteArray).size = 1 := rfl; have : (⟨#[84]⟩ : ByteArray).size = 1 := rfl; have : (bs (tab p)).size ≤ 2 := (by rw [bs_len]; exact tab_len p); omega)
  have HDp := fun w => dig_any p w (by omega)
  go_enter Tryz.func25, Tryz.ntmps25
  have ks : ∀ w, Sem.run Tryz.prog (Instr.slice 9 (Value.string { data := #[69, 84, 76, 83] }) (some (Value.int IntKind.i64 1)) (some (Value.int IntKind.i64 (IntKind.i64.wrap 2))) none) w = Result.ok (Value.string ⟨#[84]⟩) w := fun w => by kernel_rfl
  go_wp2_with fail
  go_quiet ((go_at_call 39; refine Calls.quiet_of_same ((HDp _).mono (fun _ _ h => ⟨h.1, h.2.symm⟩))))
  go_wp2
  go_ret
  exact ⟨ret_str (by show bs [109, 97, 110, 97] ++ bs [32] ++ bs (tab p) ++ bs [32] ++ bs [84] = bs (Lib.join [[109, 97, 110, 97], tab p, [84]] [32]); rw [tx3]; simp only [bs_app]), by first | exact dN (by go_grown) _ | (refine Below.alloc (dN (by go_grown) _) ?_ _; first | (simp; done) | (simp; omega))⟩
set_option maxRecDepth 100000 in
set_option maxHeartbeats 4000000 in
theorem rText_12_0_2 (p : Nat) (hp : p ≤ 99) (w : World) : Calls Tryz.prog 25 #[eV 12 0 (p : Int) 0 2] w fun e w' => e = .returned (.string (bs (textE ⟨12, 0, p, 0, 2⟩))) ∧ Below w.heap.size w w' := by
  have k0 := catG (((⟨#[109, 97, 110, 97]⟩ : ByteArray) ++ (⟨#[32]⟩ : ByteArray))) (bs (tab p)) (by simp only [ByteArray.size_append]; have : (⟨#[109, 97, 110, 97]⟩ : ByteArray).size = 4 := rfl; have : (⟨#[32]⟩ : ByteArray).size = 1 := rfl; have : (bs (tab p)).size ≤ 2 := (by rw [bs_len]; exact tab_len p); omega)
  have k1 := catG ((((⟨#[109, 97, 110, 97]⟩ : ByteArray) ++ (⟨#[32]⟩ : ByteArray)) ++ bs (tab p))) ((⟨#[32]⟩ : ByteArray)) (by simp only [ByteArray.size_append]; have : (⟨#[109, 97, 110, 97]⟩ : ByteArray).size = 4 := rfl; have : (⟨#[32]⟩ : ByteArray).size = 1 := rfl; have : (bs (tab p)).size ≤ 2 := (by rw [bs_len]; exact tab_len p); omega)
  have k2 := catG (((((⟨#[109, 97, 110, 97]⟩ : ByteArray) ++ (⟨#[32]⟩ : ByteArray)) ++ bs (tab p)) ++ (⟨#[32]⟩ : ByteArray))) ((⟨#[76]⟩ : ByteArray)) (by simp only [ByteArray.size_append]; have : (⟨#[109, 97, 110, 97]⟩ : ByteArray).size = 4 := rfl; have : (⟨#[32]⟩ : ByteArray).size = 1 := rfl; have : (⟨#[76]⟩ : ByteArray).size = 1 := rfl; have : (bs (tab p)).size ≤ 2 := (by rw [bs_len]; exact tab_len p); omega)
  have HDp := fun w => dig_any p w (by omega)
  go_enter Tryz.func25, Tryz.ntmps25
  have ks : ∀ w, Sem.run Tryz.prog (Instr.slice 9 (Value.string { data := #[69, 84, 76, 83] }) (some (Value.int IntKind.i64 2)) (some (Value.int IntKind.i64 (IntKind.i64.wrap 3))) none) w = Result.ok (Value.string ⟨#[76]⟩) w := fun w => by kernel_rfl
  go_wp2_with fail
  go_quiet ((go_at_call 39; refine Calls.quiet_of_same ((HDp _).mono (fun _ _ h => ⟨h.1, h.2.symm⟩))))
  go_wp2
  go_ret
  exact ⟨ret_str (by show bs [109, 97, 110, 97] ++ bs [32] ++ bs (tab p) ++ bs [32] ++ bs [76] = bs (Lib.join [[109, 97, 110, 97], tab p, [76]] [32]); rw [tx3]; simp only [bs_app]), by first | exact dN (by go_grown) _ | (refine Below.alloc (dN (by go_grown) _) ?_ _; first | (simp; done) | (simp; omega))⟩
set_option maxRecDepth 100000 in
set_option maxHeartbeats 4000000 in
theorem rText_12_0_3 (p : Nat) (hp : p ≤ 99) (w : World) : Calls Tryz.prog 25 #[eV 12 0 (p : Int) 0 3] w fun e w' => e = .returned (.string (bs (textE ⟨12, 0, p, 0, 3⟩))) ∧ Below w.heap.size w w' := by
  have k0 := catG (((⟨#[109, 97, 110, 97]⟩ : ByteArray) ++ (⟨#[32]⟩ : ByteArray))) (bs (tab p)) (by simp only [ByteArray.size_append]; have : (⟨#[109, 97, 110, 97]⟩ : ByteArray).size = 4 := rfl; have : (⟨#[32]⟩ : ByteArray).size = 1 := rfl; have : (bs (tab p)).size ≤ 2 := (by rw [bs_len]; exact tab_len p); omega)
  have k1 := catG ((((⟨#[109, 97, 110, 97]⟩ : ByteArray) ++ (⟨#[32]⟩ : ByteArray)) ++ bs (tab p))) ((⟨#[32]⟩ : ByteArray)) (by simp only [ByteArray.size_append]; have : (⟨#[109, 97, 110, 97]⟩ : ByteArray).size = 4 := rfl; have : (⟨#[32]⟩ : ByteArray).size = 1 := rfl; have : (bs (tab p)).size ≤ 2 := (by rw [bs_len]; exact tab_len p); omega)
  have k2 := catG (((((⟨#[109, 97, 110, 97]⟩ : ByteArray) ++ (⟨#[32]⟩ : ByteArray)) ++ bs (tab p)) ++ (⟨#[32]⟩ : ByteArray))) ((⟨#[83]⟩ : ByteArray)) (by simp only [ByteArray.size_append]; have : (⟨#[109, 97, 110, 97]⟩ : ByteArray).size = 4 := rfl; have : (⟨#[32]⟩ : ByteArray).size = 1 := rfl; have : (⟨#[83]⟩ : ByteArray).size = 1 := rfl; have : (bs (tab p)).size ≤ 2 := (by rw [bs_len]; exact tab_len p); omega)
  have HDp := fun w => dig_any p w (by omega)
  go_enter Tryz.func25, Tryz.ntmps25
  have ks : ∀ w, Sem.run Tryz.prog (Instr.slice 9 (Value.string { data := #[69, 84, 76, 83] }) (some (Value.int IntKind.i64 3)) (some (Value.int IntKind.i64 (IntKind.i64.wrap 4))) none) w = Result.ok (Value.string ⟨#[83]⟩) w := fun w => by kernel_rfl
  go_wp2_with fail
  go_quiet ((go_at_call 39; refine Calls.quiet_of_same ((HDp _).mono (fun _ _ h => ⟨h.1, h.2.symm⟩))))
  go_wp2
  go_ret
  exact ⟨ret_str (by show bs [109, 97, 110, 97] ++ bs [32] ++ bs (tab p) ++ bs [32] ++ bs [83] = bs (Lib.join [[109, 97, 110, 97], tab p, [83]] [32]); rw [tx3]; simp only [bs_app]), by first | exact dN (by go_grown) _ | (refine Below.alloc (dN (by go_grown) _) ?_ _; first | (simp; done) | (simp; omega))⟩
end Go.Proofs.YtlhnnjllbcglcaaGreatDoor.efFn

/- The reference's text of a valid effect. -/
namespace Go.Proofs.YtlhnnjllbcglcaaGreatDoor.efFn
open Go.ChangeShapes Go.WideShapes Go.ChangeAt Go.RowKit drMem
set_option linter.unusedVariables false

theorem rText_yes (e : Ef) (w : World) (hv : e.ok = true) : Calls Tryz.prog 25 #[e.v] w fun r w' => r = .returned (.string (bs (textE e))) ∧ Below w.heap.size w w' := by
  have hb := ok_bd hv
  obtain ⟨hN, hA⟩ := okE_parts hv
  obtain ⟨c, t, n, m, k⟩ := e
  have h0 : 1 ≤ c := hb.c0
  have h1 : c ≤ 12 := hb.c1
  have t0 : 0 ≤ t := hb.t0
  have t1 : t ≤ 6 := hb.t1
  obtain ⟨p, rfl⟩ := Int.eq_ofNat_of_zero_le (show 0 ≤ n from hb.n0)
  obtain ⟨q, rfl⟩ := Int.eq_ofNat_of_zero_le (show 0 ≤ m from hb.m0)
  obtain ⟨r, rfl⟩ := Int.eq_ofNat_of_zero_le (show 0 ≤ k from hb.k0)
  have p1 : (p : Int) ≤ 99 := hb.n1
  have q1 : (q : Int) ≤ 9 := hb.m1
  have r1 : (r : Int) ≤ 3 := hb.k1
  rcases codesR c h0 h1 with rfl | rfl | rfl | rfl | rfl | rfl | rfl | rfl | rfl | rfl | rfl | rfl
  · have hd := of_decide_eq_true (show decide _ = true from hN)
    dsimp only at hd
    obtain rfl : q = 0 := by omega
    obtain rfl : r = 0 := by omega
    rcases kindsR t t0 t1 with rfl | rfl | rfl | rfl | rfl | rfl | rfl
    · exact absurd (show aimB (kd 1) 0 = true from hA) (by decide)
    · exact rText_1_1 p (by omega) w
    · exact rText_1_2 p (by omega) w
    · exact rText_1_3 p (by omega) w
    · exact rText_1_4 p (by omega) w
    · exact rText_1_5 p (by omega) w
    · exact absurd (show aimB (kd 1) 6 = true from hA) (by decide)
  · have hd := of_decide_eq_true (show decide _ = true from hN)
    dsimp only at hd
    obtain rfl : q = 0 := by omega
    obtain rfl : r = 0 := by omega
    rcases kindsR t t0 t1 with rfl | rfl | rfl | rfl | rfl | rfl | rfl
    · exact rText_2_0 p (by omega) w
    · exact absurd (show aimB (kd 2) 1 = true from hA) (by decide)
    · exact absurd (show aimB (kd 2) 2 = true from hA) (by decide)
    · exact absurd (show aimB (kd 2) 3 = true from hA) (by decide)
    · exact rText_2_4 p (by omega) w
    · exact absurd (show aimB (kd 2) 5 = true from hA) (by decide)
    · exact absurd (show aimB (kd 2) 6 = true from hA) (by decide)
  · have hd := of_decide_eq_true (show decide _ = true from hN)
    dsimp only at hd
    obtain rfl : q = 0 := by omega
    obtain rfl : r = 0 := by omega
    rcases kindsR t t0 t1 with rfl | rfl | rfl | rfl | rfl | rfl | rfl
    · exact rText_3_0 p (by omega) w
    · exact absurd (show aimB (kd 3) 1 = true from hA) (by decide)
    · exact absurd (show aimB (kd 3) 2 = true from hA) (by decide)
    · exact absurd (show aimB (kd 3) 3 = true from hA) (by decide)
    · exact rText_3_4 p (by omega) w
    · exact absurd (show aimB (kd 3) 5 = true from hA) (by decide)
    · exact absurd (show aimB (kd 3) 6 = true from hA) (by decide)
  · have hd := of_decide_eq_true (show decide _ = true from hN)
    dsimp only at hd
    obtain rfl : q = 0 := by omega
    obtain rfl : r = 0 := by omega
    rcases kindsR t t0 t1 with rfl | rfl | rfl | rfl | rfl | rfl | rfl
    · exact rText_4_0 p (by omega) w
    · exact absurd (show aimB (kd 4) 1 = true from hA) (by decide)
    · exact absurd (show aimB (kd 4) 2 = true from hA) (by decide)
    · exact absurd (show aimB (kd 4) 3 = true from hA) (by decide)
    · exact rText_4_4 p (by omega) w
    · exact absurd (show aimB (kd 4) 5 = true from hA) (by decide)
    · exact absurd (show aimB (kd 4) 6 = true from hA) (by decide)
  · have hd := of_decide_eq_true (show decide _ = true from hN)
    dsimp only at hd
    obtain rfl : p = 0 := by omega
    obtain rfl : q = 0 := by omega
    obtain rfl : r = 0 := by omega
    rcases kindsR t t0 t1 with rfl | rfl | rfl | rfl | rfl | rfl | rfl
    · exact absurd (show aimB (kd 5) 0 = true from hA) (by decide)
    · exact rText_5_1 w
    · exact rText_5_2 w
    · exact rText_5_3 w
    · exact absurd (show aimB (kd 5) 4 = true from hA) (by decide)
    · exact absurd (show aimB (kd 5) 5 = true from hA) (by decide)
    · exact absurd (show aimB (kd 5) 6 = true from hA) (by decide)
  · have hd := of_decide_eq_true (show decide _ = true from hN)
    dsimp only at hd
    obtain rfl : p = 0 := by omega
    obtain rfl : q = 0 := by omega
    obtain rfl : r = 0 := by omega
    rcases kindsR t t0 t1 with rfl | rfl | rfl | rfl | rfl | rfl | rfl
    · exact absurd (show aimB (kd 6) 0 = true from hA) (by decide)
    · exact rText_6_1 w
    · exact rText_6_2 w
    · exact rText_6_3 w
    · exact absurd (show aimB (kd 6) 4 = true from hA) (by decide)
    · exact absurd (show aimB (kd 6) 5 = true from hA) (by decide)
    · exact absurd (show aimB (kd 6) 6 = true from hA) (by decide)
  · have hd := of_decide_eq_true (show decide _ = true from hN)
    dsimp only at hd
    obtain rfl : p = 0 := by omega
    obtain rfl : q = 0 := by omega
    obtain rfl : r = 0 := by omega
    rcases kindsR t t0 t1 with rfl | rfl | rfl | rfl | rfl | rfl | rfl
    · exact absurd (show aimB (kd 7) 0 = true from hA) (by decide)
    · exact absurd (show aimB (kd 7) 1 = true from hA) (by decide)
    · exact absurd (show aimB (kd 7) 2 = true from hA) (by decide)
    · exact absurd (show aimB (kd 7) 3 = true from hA) (by decide)
    · exact absurd (show aimB (kd 7) 4 = true from hA) (by decide)
    · exact absurd (show aimB (kd 7) 5 = true from hA) (by decide)
    · exact rText_7_6 w
  · have hd := of_decide_eq_true (show decide _ = true from hN)
    dsimp only at hd
    obtain rfl : r = 0 := by omega
    rcases kindsR t t0 t1 with rfl | rfl | rfl | rfl | rfl | rfl | rfl
    · exact rText_8_0 p q (by omega) (by omega) w
    · exact rText_8_1 p q (by omega) (by omega) w
    · exact rText_8_2 p q (by omega) (by omega) w
    · exact rText_8_3 p q (by omega) (by omega) w
    · exact absurd (show aimB (kd 8) 4 = true from hA) (by decide)
    · exact absurd (show aimB (kd 8) 5 = true from hA) (by decide)
    · exact absurd (show aimB (kd 8) 6 = true from hA) (by decide)
  · have hd := of_decide_eq_true (show decide _ = true from hN)
    dsimp only at hd
    obtain rfl : q = 0 := by omega
    obtain rfl : r = 0 := by omega
    rcases kindsR t t0 t1 with rfl | rfl | rfl | rfl | rfl | rfl | rfl
    · exact rText_9_0 p (by omega) w
    · exact rText_9_1 p (by omega) w
    · exact rText_9_2 p (by omega) w
    · exact rText_9_3 p (by omega) w
    · exact absurd (show aimB (kd 9) 4 = true from hA) (by decide)
    · exact absurd (show aimB (kd 9) 5 = true from hA) (by decide)
    · exact absurd (show aimB (kd 9) 6 = true from hA) (by decide)
  · have hd := of_decide_eq_true (show decide _ = true from hN)
    dsimp only at hd
    obtain rfl : r = 0 := by omega
    rcases kindsR t t0 t1 with rfl | rfl | rfl | rfl | rfl | rfl | rfl
    · exact rText_10_0 p q (by omega) (by omega) w
    · exact absurd (show aimB (kd 10) 1 = true from hA) (by decide)
    · exact absurd (show aimB (kd 10) 2 = true from hA) (by decide)
    · exact absurd (show aimB (kd 10) 3 = true from hA) (by decide)
    · exact absurd (show aimB (kd 10) 4 = true from hA) (by decide)
    · exact absurd (show aimB (kd 10) 5 = true from hA) (by decide)
    · exact absurd (show aimB (kd 10) 6 = true from hA) (by decide)
  · have hd := of_decide_eq_true (show decide _ = true from hN)
    dsimp only at hd
    obtain rfl : p = 0 := by omega
    obtain rfl : q = 0 := by omega
    obtain rfl : r = 0 := by omega
    rcases kindsR t t0 t1 with rfl | rfl | rfl | rfl | rfl | rfl | rfl
    · exact absurd (show aimB (kd 11) 0 = true from hA) (by decide)
    · exact rText_11_1 w
    · exact rText_11_2 w
    · exact rText_11_3 w
    · exact absurd (show aimB (kd 11) 4 = true from hA) (by decide)
    · exact absurd (show aimB (kd 11) 5 = true from hA) (by decide)
    · exact absurd (show aimB (kd 11) 6 = true from hA) (by decide)
  · have hd := of_decide_eq_true (show decide _ = true from hN)
    dsimp only at hd
    obtain rfl : q = 0 := by omega
    rcases kindsR t t0 t1 with rfl | rfl | rfl | rfl | rfl | rfl | rfl
    · obtain rfl | rfl | rfl | rfl : r = 0 ∨ r = 1 ∨ r = 2 ∨ r = 3 := by omega
      · exact rText_12_0_0 p (by omega) w
      · exact rText_12_0_1 p (by omega) w
      · exact rText_12_0_2 p (by omega) w
      · exact rText_12_0_3 p (by omega) w
    · exact absurd (show aimB (kd 12) 1 = true from hA) (by decide)
    · exact absurd (show aimB (kd 12) 2 = true from hA) (by decide)
    · exact absurd (show aimB (kd 12) 3 = true from hA) (by decide)
    · exact absurd (show aimB (kd 12) 4 = true from hA) (by decide)
    · exact absurd (show aimB (kd 12) 5 = true from hA) (by decide)
    · exact absurd (show aimB (kd 12) 6 = true from hA) (by decide)
end Go.Proofs.YtlhnnjllbcglcaaGreatDoor.efFn

/- The reference's bytes of effects. -/
namespace Go.Proofs.YtlhnnjllbcglcaaGreatDoor.efFn
open Go.ChangeShapes Go.WideShapes Go.ChangeAt Go.RowKit drMem
set_option linter.unusedVariables false

def rencPost (l : List UInt8) (w : World) (e : Ending) (w' : World) : Prop := ∃ sp n cap, e = .returned (.slice sp n cap) ∧ BsAt w' sp n l ∧ Below w.heap.size w w'
set_option maxRecDepth 100000 in
set_option maxHeartbeats 4000000 in
theorem rEncode_yes (sp : Option Addr) (n cap : Nat) (l : List Ef) (w : World) (h : EfsAt w sp n l) (ha : allB l = true) :
    Calls Tryz.prog 22 #[.slice sp n cap] w (rencPost (encB l) w) := by
  obtain ⟨i0, hi, hz0, hz1, hz2⟩ := info_parts infoB
  obtain ⟨h4, hbd⟩ := all_bd ha
  have hn := h.n
  rw [hn] at h4
  have HBD := Lib.hid hbd
  have HN := Lib.hid hn
  have HE := Lib.hid h
  have hm := h.m
  clear ha hbd hn h
  have hw8 : IntKind.u8.wrap (n : Int) = n := by rw [IntKind.wrap_u8]; omega
  go_enter Tryz.func22, Tryz.ntmps22
  go_wp2_with fail
  have B1 : Below w.heap.size w (w.alloc (.cells #[.int .u8 (n : Int)] 5)) := (Below.refl _ _).alloc (Nat.le_refl _) _
  have O1 : (w.alloc (.cells #[.int .u8 (n : Int)] 5)).ownsRow w.heap.size 5 1 (.slice (some ⟨w.heap.size, 0, none⟩) 1 1) 1 [.int .u8 (n : Int)] := by
    have := World.ownsRow_lit (base := w.heap.size) (e := 5) (size := 1) w #[.int .u8 (n : Int)] 1 (Nat.le_refl _) (by unfold maxLen; omega) rfl
    exact this
  obtain ⟨W, hW⟩ : ∃ W, w.alloc (.cells #[.int .u8 (n : Int)] 5) = W := ⟨_, rfl⟩
  rw [hW] at B1 O1 ⊢
  clear hW
  rcases Nat.eq_zero_or_pos n with h0 | h0
  · subst h0
    refine wp_loop_rounds 1 ?_
    rw [rounds_succ]
    go_wp2
    go_ret
    have e : encB l = [0] := by rw [List.eq_nil_of_length_eq_zero HN.out]; rfl
    obtain ⟨sv, cv, h1, h2, _⟩ := own_form O1
    cases h1
    exact ⟨_, _, _, rfl, ⟨by rw [e]; rfl, by omega, by rw [e]; exact h2⟩, B1⟩
  · obtain ⟨b, off, rfl, hbl, hc⟩ := HE.out.c h0
    have C : Hid (∀ k, k < n → EfAt w b (off + k * 5) (l.getD k default)) := Lib.hid fun k hk => hc k _ (get_some (by rw [HN.out]; omega))
    have HB : Hid (∀ k, k < n → (l.getD k default).bd) := Lib.hid fun k hk => HBD.out _ (by rw [List.getD_eq_getElem?_getD, List.getElem?_eq_getElem (by rw [HN.out]; exact hk)]; exact List.getElem_mem _)
    have HS : Hid (∀ k, k < n → efB (l.take (k + 1)) = efB (l.take k) ++ (l.getD k default).by) := Lib.hid fun k hk => encB_succ (by rw [HN.out]; exact hk)
    go_loopw [3, 4] (fun v i wr => ∃ k : Nat, k ≤ n ∧ i = .int .i64 k ∧ Hid (wr.ownsRow w.heap.size 5 1 v (1 + 5 * k) (bys (u8 l.length :: efB (l.take k))) ∧ Below w.heap.size w wr)) (fun _ i _ => n - (intOf i).toNat)
    case atStart => exact ⟨0, Nat.zero_le _, rfl, Lib.hid ⟨by
      have e : bys (u8 l.length :: efB (l.take 0)) = [.int .u8 (n : Int)] := by
        simp only [List.take_zero, efB, List.flatMap_nil, bys, List.map_cons, List.map_nil, HN.out]
        rw [u8_of _ (by omega) (by omega)]
      rw [e]; exact O1, B1⟩⟩
    case round =>
      obtain ⟨k, hk, rfl, HT⟩ := hrel
      by_cases hlt : k < n
      · have HC0 := Lib.hid (C.out k hlt)
        obtain ⟨c0, c1, c2, c3, c4⟩ := HC0.out.below HT.out.2 hbl
        obtain ⟨b0, b1, b2, b3, b4, b5, b6, b7, b8, b9⟩ := HB.out k hlt
        have HX := HS.out k hlt
        have HX' := Lib.hid HX
        clear HX
        generalize l.getD k default = x at *
        obtain ⟨xc, xt, xn, xm, xk⟩ := x
        dsimp only at c0 c1 c2 c3 c4 b0 b1 b2 b3 b4 b5 b6 b7 b8 b9
        have v0 : IntKind.u8.wrap xc = xc := by rw [IntKind.wrap_u8]; omega
        have v1 : IntKind.u8.wrap xt = xt := by rw [IntKind.wrap_u8]; omega
        have v2 : IntKind.u8.wrap xn = xn := by rw [IntKind.wrap_u8]; omega
        have v3 : IntKind.u8.wrap xm = xm := by rw [IntKind.wrap_u8]; omega
        have v4 : IntKind.u8.wrap xk = xk := by rw [IntKind.wrap_u8]; omega
        have HY := Lib.hid (by_bys (xc := xc) (xt := xt) (xn := xn) (xm := xm) (xk := xk) ⟨b0, b1, b2, b3, b4, b5, b6, b7, b8, b9⟩)
        have hsz := HT.out.2.size
        go_wp2_with fail
        have CE : Hid (EfAt w b (off + k * 5) ⟨xc, xt, xn, xm, xk⟩) := Lib.hid HC0.out
        have HO : Hid ((wr.alloc (.cells #[.int .u8 xc, .int .u8 xt, .int .u8 xn, .int .u8 xm, .int .u8 xk] 5)).drew.ownsRow w.heap.size 5 1 u3 (1 + 5 * k) (bys (u8 l.length :: efB (l.take k)))) := Lib.hid (HT.out.1.alloc _).drew
        have HBl : Hid (Below w.heap.size w (wr.alloc (.cells #[.int .u8 xc, .int .u8 xt, .int .u8 xn, .int .u8 xm, .int .u8 xk] 5)).drew) := Lib.hid (HT.out.2.alloc hsz _).drew
        go_region_held3 (fun w' => w'.cell? ⟨b, off + k * 5, none⟩ = some (.int .i64 xc) ∧ w'.cell? ⟨b, off + k * 5 + 1, none⟩ = some (.int .i64 xt) ∧ w'.cell? ⟨b, off + k * 5 + 2, none⟩ = some (.int .i64 xn) ∧ w'.cell? ⟨b, off + k * 5 + 3, none⟩ = some (.int .i64 xm) ∧ w'.cell? ⟨b, off + k * 5 + 4, none⟩ = some (.int .i64 xk)) (first | assumption | (exact ⟨by assumption, by assumption, by assumption, by assumption, by assumption⟩) | (exact ⟨(CE.out.below HBl.out hbl).c0, (CE.out.below HBl.out hbl).c1, (CE.out.below HBl.out hbl).c2, (CE.out.below HBl.out hbl).c3, (CE.out.below HBl.out hbl).c4⟩) | (exact ⟨c0, c1, c2, c3, c4⟩) | (refine ⟨?_, ?_, ?_, ?_, ?_⟩ <;> first | assumption | go_keep)) ((refine step_append_lies _ (by rfl) _ _ _ (by rfl) w.heap.size 5 i0 (.int .u8 0) 1 1 Tryz.underlying38 hi hz0 hz1 hz2 rfl (by omega) u3 (1 + 5 * k) (bys (u8 l.length :: efB (l.take k))) (by rfl) HO.out ⟨wr.heap.size, 0, none⟩ 5 5 [.int .u8 xc, .int .u8 xt, .int .u8 xn, .int .u8 xm, .int .u8 xk] (by rfl) (by rfl) (World.news_of_block (cs := #[.int .u8 xc, .int .u8 xt, .int .u8 xn, .int .u8 xm, .int .u8 xk]) (t := 5) (fr := (0, 0)) (heap_alloc_new wr _)) (by simp [Value.oneCell']) (by omega) (by unfold maxLen; omega) (by omega) (by simp; omega) (wr.heap.size + 1) (by simp) ?_; intro g cap' w2 hown' hgrow _ _; have HO2 := Lib.hid hown'; have HB2 := Lib.hid (below_own HBl.out HO.out hgrow (by simp; omega)); clear hown' hgrow; obtain ⟨c0, c1, c2, c3, c4⟩ := CE.out.below HB2.out hbl))
        go_wp2
        refine ⟨⟨k + 1, by omega, by go_num, Lib.hid ⟨?_, HB2.out⟩⟩, by simp [intOf]; omega⟩
        have e : bys (u8 l.length :: efB (l.take (k + 1))) = bys (u8 l.length :: efB (l.take k)) ++ [.int .u8 xc, .int .u8 xt, .int .u8 xn, .int .u8 xm, .int .u8 xk] := by
          rw [HX'.out, ← HY.out, ← bys_app]; rfl
        rw [e]
        exact HO2.out
      · obtain rfl : k = n := by omega
        obtain ⟨sv, cv, rfl, hsv, _⟩ := own_form HT.out.1
        have HV := Lib.hid hsv
        clear hsv
        go_wp2
        go_ret
        have e : u8 l.length :: efB (l.take k) = encB l := by rw [List.take_of_length_le (by rw [HN.out]; exact Nat.le_refl _)]; rfl
        have hv := HV.out
        rw [e] at hv
        exact ⟨_, _, _, rfl, ⟨by rw [encB_len, HN.out], by omega, hv⟩, HT.out.2⟩
end Go.Proofs.YtlhnnjllbcglcaaGreatDoor.efFn

/- The reference's costs. -/
namespace Go.Proofs.YtlhnnjllbcglcaaGreatDoor.maFn
open Go.ChangeShapes Go.WideShapes Go.ChangeAt Go.RowKit
set_option linter.unusedVariables false

/- the decimal digits of a number of at most 20 -/
def tab (x : Nat) : List UInt8 := if x < 10 then [UInt8.ofNat (48 + x)] else [UInt8.ofNat (48 + x / 10), UInt8.ofNat (48 + x % 10)]
theorem dec_tab (x : Nat) (h : x ≤ 99) : Lib.decDigits x = tab x := by
  unfold Lib.decDigits tab
  split
  · rfl
  · unfold Lib.decDigits
    rw [dif_pos (by omega)]
    rfl
set_option maxRecDepth 100000 in
set_option maxHeartbeats 1000000 in
theorem rValidCost_any (p q r s x : Int) (w : World) :
    Calls Tryz.prog 17 #[.agg #[.int .i64 p, .int .i64 q, .int .i64 r, .int .i64 s, .int .i64 x]] w fun e w' => e = .returned (.bool (okC p q r s x)) ∧ Below w.heap.size w w' := by
  go_enter Tryz.func17, Tryz.ntmps17
  go_wp2
  go_rounds 5
  all_goals (go_ret; refine ⟨ret_bool (by unfold okC okM okN; simp [*] <;> omega), (Below.refl _ _).alloc (Nat.le_refl _) _⟩)
theorem rSum_any (a b c d : Int) (w : World) (h : okM 99 a b c d = true) :
    Calls Tryz.prog 37 #[.agg #[.int .i64 a, .int .i64 b, .int .i64 c, .int .i64 d]] w fun e w' => e = .returned (.int .i64 (a + b + c + d)) ∧ Below w.heap.size w w' := by
  obtain ⟨⟨a0, a1⟩, ⟨b0, b1⟩, ⟨c0, c1⟩, ⟨d0, d1⟩⟩ := (okM_iff _ _ _ _ _).1 h
  clear h
  go_enter Tryz.func37, Tryz.ntmps37
  go_wp2
  go_ret
  exact ⟨ret_int (by omega), (Below.refl _ _).alloc (Nat.le_refl _) _⟩
theorem rletter_at (k : Int) (w : World) (h : 0 ≤ k ∧ k ≤ 3) :
    Calls Tryz.prog 38 #[.int .i64 k] w fun e w' => e = .returned (.string (letB k)) ∧ w = w' := by
  have hk' : k = 0 ∨ k = 1 ∨ k = 2 ∨ k = 3 := by omega
  rcases hk' with rfl | rfl | rfl | rfl
  all_goals
    go_enter Tryz.func38, Tryz.ntmps38
    go_wp2
    go_ret
    exact ⟨rfl, rfl⟩
end Go.Proofs.YtlhnnjllbcglcaaGreatDoor.maFn

/- The reference's text of costs. -/
namespace Go.Proofs.YtlhnnjllbcglcaaGreatDoor.maFn
open Go.ChangeShapes Go.WideShapes Go.ChangeAt Go.RowKit
set_option linter.unusedVariables false

theorem rlet (k : Int) (c : UInt8) (w : World) (h : 0 ≤ k ∧ k ≤ 3) (hc : letB k = bs [c]) :
    Calls Tryz.prog 38 #[.int .i64 k] w fun e w' => e = .returned (.string (bs [c])) ∧ w = w' :=
  (rletter_at k w h).mono fun e w' ⟨h1, h2⟩ => ⟨by rw [h1, hc], h2⟩
theorem cat_bs (a b : List UInt8) (h : a.length + b.length ≤ 1000) : ∀ w, (Op.stringOp .add (bs a) (bs b)).run Tryz.prog w = .ok (.string (bs (a ++ b))) w := fun w => by
  rw [cat_run _ _ (by rw [bs_size, bs_size]; exact h) w, bs_app]
theorem dig_at : ∀ k : Nat, k < 10 → (ByteArray.mk #[48, 49, 50, 51, 52, 53, 54, 55, 56, 57]).extract k (k + 1) = bs [UInt8.ofNat (48 + k)] := by
  intro k hk
  have : k = 0 ∨ k = 1 ∨ k = 2 ∨ k = 3 ∨ k = 4 ∨ k = 5 ∨ k = 6 ∨ k = 7 ∨ k = 8 ∨ k = 9 := by omega
  rcases this with rfl | rfl | rfl | rfl | rfl | rfl | rfl | rfl | rfl | rfl <;> rfl
theorem dig_run (i j : Int) (k : Nat) (hi : i = k) (hj : j = k + 1) (hk : k < 10) : ∀ w, (Instr.slice 9 (.string ⟨#[48, 49, 50, 51, 52, 53, 54, 55, 56, 57]⟩) (some (.int .i64 i)) (some (.int .i64 j)) none).run Tryz.prog w = .ok (.string (bs [UInt8.ofNat (48 + k)])) w := fun w => by
  subst hi hj
  rw [run_slice_string w 9 _ .i64 .i64 (k : Int) ((k : Int) + 1) Tryz.underlying9 (by omega) (by omega) (by show (k : Int) + 1 ≤ ((10 : Nat) : Int); omega), ← dig_at k hk]
  rfl
theorem rep_snoc (k : UInt8) (n : Nat) : List.replicate n k ++ [k] = List.replicate (n + 1) k := by
  rw [← List.replicate_succ']
theorem ret_str {a b : ByteArray} (h : a = b) : Ending.returned (.string a) = .returned (.string b) := by rw [h]
set_option maxRecDepth 100000 in
set_option maxHeartbeats 4000000 in
theorem rText_ten (p q r s x : Nat) (w : World) (h : okC p q r s x = true) (hx : 10 ≤ x) :
    Calls Tryz.prog 23 #[.agg #[.int .i64 (p : Nat), .int .i64 (q : Nat), .int .i64 (r : Nat), .int .i64 (s : Nat), .int .i64 (x : Nat)]] w fun e w' => e = .returned (.string (bs (textL p q r s x))) ∧ Below w.heap.size w w' := by
  obtain ⟨⟨⟨p0, p1⟩, ⟨q0, q1⟩, ⟨r0, r1⟩, ⟨s0, s1⟩⟩, x0, x1⟩ := (okC_iff _ _ _ _ _).1 h
  have HK := Lib.hid h
  clear h p0 q0 r0 s0 x0
  obtain ⟨n, hn⟩ : ∃ n, numL p q r s x = n := ⟨_, rfl⟩
  have hl : n.length ≤ 2 := by rw [← hn]; unfold numL; split; (exact dec_len x (by omega)); simp
  have ht : n ++ List.replicate p 69 ++ List.replicate q 84 ++ List.replicate r 76 ++ List.replicate s 83 = textL p q r s x := by
    unfold textL letL; rw [hn]; simp only [List.append_assoc]
  have HT := Lib.hid ht
  have HN := Lib.hid hn
  clear hn ht
  obtain ⟨c1, hc1⟩ : ∃ c1, UInt8.ofNat (48 + x / 10) = c1 := ⟨_, rfl⟩
  obtain ⟨c2, hc2⟩ : ∃ c2, UInt8.ofNat (48 + x % 10) = c2 := ⟨_, rfl⟩
  have h1 := dig_run ((x : Int) / 10) ((x : Int) / 10 + 1) (x / 10) (by omega) (by omega) (by omega)
  have h2 := dig_run ((x : Int) % 10) ((x : Int) % 10 + 1) (x % 10) (by omega) (by omega) (by omega)
  rw [hc1] at h1
  rw [hc2] at h2
  have hc := cat_bs [c1] [c2] (by simp)
  have e : [c1] ++ [c2] = n := by rw [← HN.out, ← hc1, ← hc2]; unfold numL; rw [if_pos (.inl (by omega)), dec_tab x (by omega)]; unfold tab; rw [if_neg (by omega)]; rfl
  rw [e] at hc
  clear e hc1 hc2
  go_enter Tryz.func23, Tryz.ntmps23
  go_wp2_with fail
  clear h1 h2 hc
  refine wp_loop_rounds 5 ?_
  rw [rounds_succ]
  go_wp2_with fail
  have HX0 := Lib.hid (rlet 0 69)
  go_loop [3, 5] (fun oo nn => ∃ k : Nat, k ≤ p ∧ nn = .int .i64 k ∧ oo = .string (bs (n ++ List.replicate k 69))) (fun _ nn => p - (intOf nn).toNat)
  case atStart => exact ⟨0, Nat.zero_le _, rfl, by rw [List.replicate_zero, List.append_nil]⟩
  case round =>
    obtain ⟨k0, hk0, rfl, rfl⟩ := hrel
    by_cases hlt : k0 < p
    · have hb := cat_bs (n ++ List.replicate k0 69) [69] (by simp; omega)
      rw [show n ++ List.replicate k0 69 ++ [69] = n ++ List.replicate (k0 + 1) 69 from by rw [List.append_assoc, rep_snoc]] at hb
      go_wp2_with (go_at_call 38; refine (HX0.out _ (by omega) rfl).mono ?_; rintro y w' ⟨rfl, rfl⟩)
      go_round
      case rel => exact ⟨k0 + 1, by omega, by go_num, rfl⟩
      case measure => simp [intOf]; omega
    · obtain rfl : p = k0 := by omega
      have hl0 : (n ++ List.replicate p 69).length ≤ 22 := by simp; omega
      generalize hm0 : n ++ List.replicate p 69 = m0 at *
      have HM0 := Lib.hid hm0
      clear hm0
      go_wp2_with fail
      rw [rounds_succ]
      go_wp2_with fail
      have HX1 := Lib.hid (rlet 1 84)
      go_loop [3, 5] (fun oo nn => ∃ k : Nat, k ≤ q ∧ nn = .int .i64 k ∧ oo = .string (bs (m0 ++ List.replicate k 84))) (fun _ nn => q - (intOf nn).toNat)
      case atStart => exact ⟨0, Nat.zero_le _, rfl, by rw [List.replicate_zero, List.append_nil]⟩
      case round =>
        obtain ⟨k1, hk1, rfl, rfl⟩ := hrel
        by_cases hlt : k1 < q
        · have hb := cat_bs (m0 ++ List.replicate k1 84) [84] (by simp; omega)
          rw [show m0 ++ List.replicate k1 84 ++ [84] = m0 ++ List.replicate (k1 + 1) 84 from by rw [List.append_assoc, rep_snoc]] at hb
          go_wp2_with (go_at_call 38; refine (HX1.out _ (by omega) rfl).mono ?_; rintro y w' ⟨rfl, rfl⟩)
          go_round
          case rel => exact ⟨k1 + 1, by omega, by go_num, rfl⟩
          case measure => simp [intOf]; omega
        · obtain rfl : q = k1 := by omega
          have hl1 : (m0 ++ List.replicate q 84).length ≤ 42 := by simp; omega
          generalize hm1 : m0 ++ List.replicate q 84 = m1 at *
          have HM1 := Lib.hid hm1
          clear hm1
          go_wp2_with fail
          rw [rounds_succ]
          go_wp2_with fail
          have HX2 := Lib.hid (rlet 2 76)
          go_loop [3, 5] (fun oo nn => ∃ k : Nat, k ≤ r ∧ nn = .int .i64 k ∧ oo = .string (bs (m1 ++ List.replicate k 76))) (fun _ nn => r - (intOf nn).toNat)
          case atStart => exact ⟨0, Nat.zero_le _, rfl, by rw [List.replicate_zero, List.append_nil]⟩
          case round =>
            obtain ⟨k2, hk2, rfl, rfl⟩ := hrel
            by_cases hlt : k2 < r
            · have hb := cat_bs (m1 ++ List.replicate k2 76) [76] (by simp; omega)
              rw [show m1 ++ List.replicate k2 76 ++ [76] = m1 ++ List.replicate (k2 + 1) 76 from by rw [List.append_assoc, rep_snoc]] at hb
              go_wp2_with (go_at_call 38; refine (HX2.out _ (by omega) rfl).mono ?_; rintro y w' ⟨rfl, rfl⟩)
              go_round
              case rel => exact ⟨k2 + 1, by omega, by go_num, rfl⟩
              case measure => simp [intOf]; omega
            · obtain rfl : r = k2 := by omega
              have hl2 : (m1 ++ List.replicate r 76).length ≤ 62 := by simp; omega
              generalize hm2 : m1 ++ List.replicate r 76 = m2 at *
              have HM2 := Lib.hid hm2
              clear hm2
              go_wp2_with fail
              rw [rounds_succ]
              go_wp2_with fail
              have HX3 := Lib.hid (rlet 3 83)
              go_loop [3, 5] (fun oo nn => ∃ k : Nat, k ≤ s ∧ nn = .int .i64 k ∧ oo = .string (bs (m2 ++ List.replicate k 83))) (fun _ nn => s - (intOf nn).toNat)
              case atStart => exact ⟨0, Nat.zero_le _, rfl, by rw [List.replicate_zero, List.append_nil]⟩
              case round =>
                obtain ⟨k3, hk3, rfl, rfl⟩ := hrel
                by_cases hlt : k3 < s
                · have hb := cat_bs (m2 ++ List.replicate k3 83) [83] (by simp; omega)
                  rw [show m2 ++ List.replicate k3 83 ++ [83] = m2 ++ List.replicate (k3 + 1) 83 from by rw [List.append_assoc, rep_snoc]] at hb
                  go_wp2_with (go_at_call 38; refine (HX3.out _ (by omega) rfl).mono ?_; rintro y w' ⟨rfl, rfl⟩)
                  go_round
                  case rel => exact ⟨k3 + 1, by omega, by go_num, rfl⟩
                  case measure => simp [intOf]; omega
                · obtain rfl : s = k3 := by omega
                  have hl3 : (m2 ++ List.replicate s 83).length ≤ 82 := by simp; omega
                  generalize hm3 : m2 ++ List.replicate s 83 = m3 at *
                  have HM3 := Lib.hid hm3
                  clear hm3
                  go_wp2_with fail
                  rw [rounds_succ]
                  go_wp2_with fail
                  go_ret
                  exact ⟨ret_str (by rw [← HT.out]), (Below.refl _ _).alloc (Nat.le_refl _) _⟩
set_option maxRecDepth 100000 in
set_option maxHeartbeats 4000000 in
theorem rText_one (p q r s x : Nat) (w : World) (h : okC p q r s x = true) (hx : 0 < x) (hx' : x < 10) :
    Calls Tryz.prog 23 #[.agg #[.int .i64 (p : Nat), .int .i64 (q : Nat), .int .i64 (r : Nat), .int .i64 (s : Nat), .int .i64 (x : Nat)]] w fun e w' => e = .returned (.string (bs (textL p q r s x))) ∧ Below w.heap.size w w' := by
  obtain ⟨⟨⟨p0, p1⟩, ⟨q0, q1⟩, ⟨r0, r1⟩, ⟨s0, s1⟩⟩, x0, x1⟩ := (okC_iff _ _ _ _ _).1 h
  have HK := Lib.hid h
  clear h p0 q0 r0 s0 x0
  obtain ⟨n, hn⟩ : ∃ n, numL p q r s x = n := ⟨_, rfl⟩
  have hl : n.length ≤ 2 := by rw [← hn]; unfold numL; split; (exact dec_len x (by omega)); simp
  have ht : n ++ List.replicate p 69 ++ List.replicate q 84 ++ List.replicate r 76 ++ List.replicate s 83 = textL p q r s x := by
    unfold textL letL; rw [hn]; simp only [List.append_assoc]
  have HT := Lib.hid ht
  have HN := Lib.hid hn
  clear hn ht
  obtain ⟨c2, hc2⟩ : ∃ c2, UInt8.ofNat (48 + x) = c2 := ⟨_, rfl⟩
  have h2 := dig_run ((x : Int) % 10) ((x : Int) % 10 + 1) x (by omega) (by omega) (by omega)
  rw [hc2] at h2
  have hc := cat_bs [] [c2] (by simp)
  have e : [] ++ [c2] = n := by rw [← HN.out, ← hc2]; unfold numL; rw [if_pos (.inl (by omega)), dec_tab x (by omega)]; unfold tab; rw [if_pos (by omega)]; rfl
  rw [e, show bs [] = ByteArray.mk #[] from rfl] at hc
  clear e hc2
  go_enter Tryz.func23, Tryz.ntmps23
  go_wp2_with fail
  clear h2 hc
  refine wp_loop_rounds 5 ?_
  rw [rounds_succ]
  go_wp2_with fail
  have HX0 := Lib.hid (rlet 0 69)
  go_loop [3, 5] (fun oo nn => ∃ k : Nat, k ≤ p ∧ nn = .int .i64 k ∧ oo = .string (bs (n ++ List.replicate k 69))) (fun _ nn => p - (intOf nn).toNat)
  case atStart => exact ⟨0, Nat.zero_le _, rfl, by rw [List.replicate_zero, List.append_nil]⟩
  case round =>
    obtain ⟨k0, hk0, rfl, rfl⟩ := hrel
    by_cases hlt : k0 < p
    · have hb := cat_bs (n ++ List.replicate k0 69) [69] (by simp; omega)
      rw [show n ++ List.replicate k0 69 ++ [69] = n ++ List.replicate (k0 + 1) 69 from by rw [List.append_assoc, rep_snoc]] at hb
      go_wp2_with (go_at_call 38; refine (HX0.out _ (by omega) rfl).mono ?_; rintro y w' ⟨rfl, rfl⟩)
      go_round
      case rel => exact ⟨k0 + 1, by omega, by go_num, rfl⟩
      case measure => simp [intOf]; omega
    · obtain rfl : p = k0 := by omega
      have hl0 : (n ++ List.replicate p 69).length ≤ 22 := by simp; omega
      generalize hm0 : n ++ List.replicate p 69 = m0 at *
      have HM0 := Lib.hid hm0
      clear hm0
      go_wp2_with fail
      rw [rounds_succ]
      go_wp2_with fail
      have HX1 := Lib.hid (rlet 1 84)
      go_loop [3, 5] (fun oo nn => ∃ k : Nat, k ≤ q ∧ nn = .int .i64 k ∧ oo = .string (bs (m0 ++ List.replicate k 84))) (fun _ nn => q - (intOf nn).toNat)
      case atStart => exact ⟨0, Nat.zero_le _, rfl, by rw [List.replicate_zero, List.append_nil]⟩
      case round =>
        obtain ⟨k1, hk1, rfl, rfl⟩ := hrel
        by_cases hlt : k1 < q
        · have hb := cat_bs (m0 ++ List.replicate k1 84) [84] (by simp; omega)
          rw [show m0 ++ List.replicate k1 84 ++ [84] = m0 ++ List.replicate (k1 + 1) 84 from by rw [List.append_assoc, rep_snoc]] at hb
          go_wp2_with (go_at_call 38; refine (HX1.out _ (by omega) rfl).mono ?_; rintro y w' ⟨rfl, rfl⟩)
          go_round
          case rel => exact ⟨k1 + 1, by omega, by go_num, rfl⟩
          case measure => simp [intOf]; omega
        · obtain rfl : q = k1 := by omega
          have hl1 : (m0 ++ List.replicate q 84).length ≤ 42 := by simp; omega
          generalize hm1 : m0 ++ List.replicate q 84 = m1 at *
          have HM1 := Lib.hid hm1
          clear hm1
          go_wp2_with fail
          rw [rounds_succ]
          go_wp2_with fail
          have HX2 := Lib.hid (rlet 2 76)
          go_loop [3, 5] (fun oo nn => ∃ k : Nat, k ≤ r ∧ nn = .int .i64 k ∧ oo = .string (bs (m1 ++ List.replicate k 76))) (fun _ nn => r - (intOf nn).toNat)
          case atStart => exact ⟨0, Nat.zero_le _, rfl, by rw [List.replicate_zero, List.append_nil]⟩
          case round =>
            obtain ⟨k2, hk2, rfl, rfl⟩ := hrel
            by_cases hlt : k2 < r
            · have hb := cat_bs (m1 ++ List.replicate k2 76) [76] (by simp; omega)
              rw [show m1 ++ List.replicate k2 76 ++ [76] = m1 ++ List.replicate (k2 + 1) 76 from by rw [List.append_assoc, rep_snoc]] at hb
              go_wp2_with (go_at_call 38; refine (HX2.out _ (by omega) rfl).mono ?_; rintro y w' ⟨rfl, rfl⟩)
              go_round
              case rel => exact ⟨k2 + 1, by omega, by go_num, rfl⟩
              case measure => simp [intOf]; omega
            · obtain rfl : r = k2 := by omega
              have hl2 : (m1 ++ List.replicate r 76).length ≤ 62 := by simp; omega
              generalize hm2 : m1 ++ List.replicate r 76 = m2 at *
              have HM2 := Lib.hid hm2
              clear hm2
              go_wp2_with fail
              rw [rounds_succ]
              go_wp2_with fail
              have HX3 := Lib.hid (rlet 3 83)
              go_loop [3, 5] (fun oo nn => ∃ k : Nat, k ≤ s ∧ nn = .int .i64 k ∧ oo = .string (bs (m2 ++ List.replicate k 83))) (fun _ nn => s - (intOf nn).toNat)
              case atStart => exact ⟨0, Nat.zero_le _, rfl, by rw [List.replicate_zero, List.append_nil]⟩
              case round =>
                obtain ⟨k3, hk3, rfl, rfl⟩ := hrel
                by_cases hlt : k3 < s
                · have hb := cat_bs (m2 ++ List.replicate k3 83) [83] (by simp; omega)
                  rw [show m2 ++ List.replicate k3 83 ++ [83] = m2 ++ List.replicate (k3 + 1) 83 from by rw [List.append_assoc, rep_snoc]] at hb
                  go_wp2_with (go_at_call 38; refine (HX3.out _ (by omega) rfl).mono ?_; rintro y w' ⟨rfl, rfl⟩)
                  go_round
                  case rel => exact ⟨k3 + 1, by omega, by go_num, rfl⟩
                  case measure => simp [intOf]; omega
                · obtain rfl : s = k3 := by omega
                  have hl3 : (m2 ++ List.replicate s 83).length ≤ 82 := by simp; omega
                  generalize hm3 : m2 ++ List.replicate s 83 = m3 at *
                  have HM3 := Lib.hid hm3
                  clear hm3
                  go_wp2_with fail
                  rw [rounds_succ]
                  go_wp2_with fail
                  go_ret
                  exact ⟨ret_str (by rw [← HT.out]), (Below.refl _ _).alloc (Nat.le_refl _) _⟩
set_option maxRecDepth 100000 in
set_option maxHeartbeats 4000000 in
theorem rText_zero (p q r s : Nat) (w : World) (h : okC p q r s 0 = true) (hx : p + q + r + s = 0) :
    Calls Tryz.prog 23 #[.agg #[.int .i64 (p : Nat), .int .i64 (q : Nat), .int .i64 (r : Nat), .int .i64 (s : Nat), .int .i64 0]] w fun e w' => e = .returned (.string (bs (textL p q r s 0))) ∧ Below w.heap.size w w' := by
  obtain ⟨⟨⟨p0, p1⟩, ⟨q0, q1⟩, ⟨r0, r1⟩, ⟨s0, s1⟩⟩, x0, x1⟩ := (okC_iff _ _ _ _ _).1 h
  have HK := Lib.hid h
  clear h p0 q0 r0 s0 x0
  obtain ⟨n, hn⟩ : ∃ n, numL p q r s 0 = n := ⟨_, rfl⟩
  have hl : n.length ≤ 2 := by rw [← hn]; unfold numL; split; (exact dec_len 0 (by omega)); simp
  have ht : n ++ List.replicate p 69 ++ List.replicate q 84 ++ List.replicate r 76 ++ List.replicate s 83 = textL p q r s 0 := by
    unfold textL letL; rw [hn]; simp only [List.append_assoc]
  have HT := Lib.hid ht
  have HN := Lib.hid hn
  clear hn ht
  have hs0 : (p : Int) + q + r + s = 0 := by omega
  have HV : ∀ w, Calls Tryz.prog 37 #[.agg #[.int .i64 (p : Nat), .int .i64 (q : Nat), .int .i64 (r : Nat), .int .i64 (s : Nat)]] w fun e w' => e = .returned (.int .i64 0) ∧ Below w.heap.size w w' :=
    fun w => (rSum_any p q r s w (by rw [okM_iff]; omega)).mono fun e w' ⟨h1, h2⟩ => ⟨h1.trans (ret_int hs0), h2⟩
  have h2 := dig_run 0 1 0 (by omega) (by omega) (by omega)
  have hc := cat_bs [] [48] (by simp)
  have e : [] ++ [48] = n := by rw [← HN.out]; unfold numL; rw [if_pos (.inr hx), dec_tab 0 (by omega)]; rfl
  rw [e, show bs [] = ByteArray.mk #[] from rfl] at hc
  rw [show UInt8.ofNat (48 + 0) = 48 from rfl] at h2
  have H2 := Lib.hid h2; have HC := Lib.hid hc
  clear e hs0 hx h2 hc
  go_enter Tryz.func23, Tryz.ntmps23
  go_wp2_with fail
  refine (HV _).mono ?_; rintro e w1 ⟨rfl, hb1⟩
  have K1 := (new0 w 26 [.int .i64 (p : Nat), .int .i64 (q : Nat), .int .i64 (r : Nat), .int .i64 (s : Nat), .int .i64 0]).below hb1 (by simp)
  have B1 : Below w.heap.size w w1 := next (by go_grown) hb1
  clear hb1 HV
  obtain ⟨u0, u1, u2, u3, u4, u5⟩ := five K1
  have h2 := H2.out; have hc := HC.out
  go_wp2_with fail
  clear h2 hc H2 HC
  refine wp_loop_rounds 5 ?_
  rw [rounds_succ]
  go_wp2_with fail
  have HX0 := Lib.hid (rlet 0 69)
  go_loop [3, 5] (fun oo nn => ∃ k : Nat, k ≤ p ∧ nn = .int .i64 k ∧ oo = .string (bs (n ++ List.replicate k 69))) (fun _ nn => p - (intOf nn).toNat)
  case atStart => exact ⟨0, Nat.zero_le _, rfl, by rw [List.replicate_zero, List.append_nil]⟩
  case round =>
    obtain ⟨k0, hk0, rfl, rfl⟩ := hrel
    by_cases hlt : k0 < p
    · have hb := cat_bs (n ++ List.replicate k0 69) [69] (by simp; omega)
      rw [show n ++ List.replicate k0 69 ++ [69] = n ++ List.replicate (k0 + 1) 69 from by rw [List.append_assoc, rep_snoc]] at hb
      go_wp2_with (go_at_call 38; refine (HX0.out _ (by omega) rfl).mono ?_; rintro y w' ⟨rfl, rfl⟩)
      go_round
      case rel => exact ⟨k0 + 1, by omega, by go_num, rfl⟩
      case measure => simp [intOf]; omega
    · obtain rfl : p = k0 := by omega
      have hl0 : (n ++ List.replicate p 69).length ≤ 22 := by simp; omega
      generalize hm0 : n ++ List.replicate p 69 = m0 at *
      have HM0 := Lib.hid hm0
      clear hm0
      go_wp2_with fail
      rw [rounds_succ]
      go_wp2_with fail
      have HX1 := Lib.hid (rlet 1 84)
      go_loop [3, 5] (fun oo nn => ∃ k : Nat, k ≤ q ∧ nn = .int .i64 k ∧ oo = .string (bs (m0 ++ List.replicate k 84))) (fun _ nn => q - (intOf nn).toNat)
      case atStart => exact ⟨0, Nat.zero_le _, rfl, by rw [List.replicate_zero, List.append_nil]⟩
      case round =>
        obtain ⟨k1, hk1, rfl, rfl⟩ := hrel
        by_cases hlt : k1 < q
        · have hb := cat_bs (m0 ++ List.replicate k1 84) [84] (by simp; omega)
          rw [show m0 ++ List.replicate k1 84 ++ [84] = m0 ++ List.replicate (k1 + 1) 84 from by rw [List.append_assoc, rep_snoc]] at hb
          go_wp2_with (go_at_call 38; refine (HX1.out _ (by omega) rfl).mono ?_; rintro y w' ⟨rfl, rfl⟩)
          go_round
          case rel => exact ⟨k1 + 1, by omega, by go_num, rfl⟩
          case measure => simp [intOf]; omega
        · obtain rfl : q = k1 := by omega
          have hl1 : (m0 ++ List.replicate q 84).length ≤ 42 := by simp; omega
          generalize hm1 : m0 ++ List.replicate q 84 = m1 at *
          have HM1 := Lib.hid hm1
          clear hm1
          go_wp2_with fail
          rw [rounds_succ]
          go_wp2_with fail
          have HX2 := Lib.hid (rlet 2 76)
          go_loop [3, 5] (fun oo nn => ∃ k : Nat, k ≤ r ∧ nn = .int .i64 k ∧ oo = .string (bs (m1 ++ List.replicate k 76))) (fun _ nn => r - (intOf nn).toNat)
          case atStart => exact ⟨0, Nat.zero_le _, rfl, by rw [List.replicate_zero, List.append_nil]⟩
          case round =>
            obtain ⟨k2, hk2, rfl, rfl⟩ := hrel
            by_cases hlt : k2 < r
            · have hb := cat_bs (m1 ++ List.replicate k2 76) [76] (by simp; omega)
              rw [show m1 ++ List.replicate k2 76 ++ [76] = m1 ++ List.replicate (k2 + 1) 76 from by rw [List.append_assoc, rep_snoc]] at hb
              go_wp2_with (go_at_call 38; refine (HX2.out _ (by omega) rfl).mono ?_; rintro y w' ⟨rfl, rfl⟩)
              go_round
              case rel => exact ⟨k2 + 1, by omega, by go_num, rfl⟩
              case measure => simp [intOf]; omega
            · obtain rfl : r = k2 := by omega
              have hl2 : (m1 ++ List.replicate r 76).length ≤ 62 := by simp; omega
              generalize hm2 : m1 ++ List.replicate r 76 = m2 at *
              have HM2 := Lib.hid hm2
              clear hm2
              go_wp2_with fail
              rw [rounds_succ]
              go_wp2_with fail
              have HX3 := Lib.hid (rlet 3 83)
              go_loop [3, 5] (fun oo nn => ∃ k : Nat, k ≤ s ∧ nn = .int .i64 k ∧ oo = .string (bs (m2 ++ List.replicate k 83))) (fun _ nn => s - (intOf nn).toNat)
              case atStart => exact ⟨0, Nat.zero_le _, rfl, by rw [List.replicate_zero, List.append_nil]⟩
              case round =>
                obtain ⟨k3, hk3, rfl, rfl⟩ := hrel
                by_cases hlt : k3 < s
                · have hb := cat_bs (m2 ++ List.replicate k3 83) [83] (by simp; omega)
                  rw [show m2 ++ List.replicate k3 83 ++ [83] = m2 ++ List.replicate (k3 + 1) 83 from by rw [List.append_assoc, rep_snoc]] at hb
                  go_wp2_with (go_at_call 38; refine (HX3.out _ (by omega) rfl).mono ?_; rintro y w' ⟨rfl, rfl⟩)
                  go_round
                  case rel => exact ⟨k3 + 1, by omega, by go_num, rfl⟩
                  case measure => simp [intOf]; omega
                · obtain rfl : s = k3 := by omega
                  have hl3 : (m2 ++ List.replicate s 83).length ≤ 82 := by simp; omega
                  generalize hm3 : m2 ++ List.replicate s 83 = m3 at *
                  have HM3 := Lib.hid hm3
                  clear hm3
                  go_wp2_with fail
                  rw [rounds_succ]
                  go_wp2_with fail
                  go_ret
                  exact ⟨ret_str (by rw [← HT.out]), B1⟩
set_option maxRecDepth 100000 in
set_option maxHeartbeats 4000000 in
theorem rText_let (p q r s : Nat) (w : World) (h : okC p q r s 0 = true) (hx : 0 < p + q + r + s) :
    Calls Tryz.prog 23 #[.agg #[.int .i64 (p : Nat), .int .i64 (q : Nat), .int .i64 (r : Nat), .int .i64 (s : Nat), .int .i64 0]] w fun e w' => e = .returned (.string (bs (textL p q r s 0))) ∧ Below w.heap.size w w' := by
  obtain ⟨⟨⟨p0, p1⟩, ⟨q0, q1⟩, ⟨r0, r1⟩, ⟨s0, s1⟩⟩, x0, x1⟩ := (okC_iff _ _ _ _ _).1 h
  have HK := Lib.hid h
  clear h p0 q0 r0 s0 x0
  obtain ⟨n, hn⟩ : ∃ n, numL p q r s 0 = n := ⟨_, rfl⟩
  have hl : n.length ≤ 2 := by rw [← hn]; unfold numL; split; (exact dec_len 0 (by omega)); simp
  have ht : n ++ List.replicate p 69 ++ List.replicate q 84 ++ List.replicate r 76 ++ List.replicate s 83 = textL p q r s 0 := by
    unfold textL letL; rw [hn]; simp only [List.append_assoc]
  have HT := Lib.hid ht
  have HN := Lib.hid hn
  clear hn ht
  obtain ⟨v, hv⟩ : ∃ v : Int, (p : Int) + q + r + s = v := ⟨_, rfl⟩
  have hne : (v == 0) = false := by rw [beq_eq_false_iff_ne]; omega
  have HV : ∀ w, Calls Tryz.prog 37 #[.agg #[.int .i64 (p : Nat), .int .i64 (q : Nat), .int .i64 (r : Nat), .int .i64 (s : Nat)]] w fun e w' => e = .returned (.int .i64 v) ∧ Below w.heap.size w w' :=
    fun w => (rSum_any p q r s w (by rw [okM_iff]; omega)).mono fun e w' ⟨h1, h2⟩ => ⟨h1.trans (ret_int hv), h2⟩
  have hd : ([] : List UInt8) = n := by rw [← HN.out]; unfold numL; rw [if_neg (by omega)]
  have HD := Lib.hid hd
  clear hv hx hd
  go_enter Tryz.func23, Tryz.ntmps23
  go_wp2_with fail
  refine (HV _).mono ?_; rintro e w1 ⟨rfl, hb1⟩
  have K1 := (new0 w 26 [.int .i64 (p : Nat), .int .i64 (q : Nat), .int .i64 (r : Nat), .int .i64 (s : Nat), .int .i64 0]).below hb1 (by simp)
  have B1 : Below w.heap.size w w1 := next (by go_grown) hb1
  clear hb1 HV
  obtain ⟨u0, u1, u2, u3, u4, u5⟩ := five K1
  go_wp2_with fail
  refine wp_loop_rounds 5 ?_
  rw [rounds_succ]
  go_wp2_with fail
  have HX0 := Lib.hid (rlet 0 69)
  go_loop [3, 5] (fun oo nn => ∃ k : Nat, k ≤ p ∧ nn = .int .i64 k ∧ oo = .string (bs (n ++ List.replicate k 69))) (fun _ nn => p - (intOf nn).toNat)
  case atStart => exact ⟨0, Nat.zero_le _, rfl, by rw [List.replicate_zero, List.append_nil]; rw [← HD.out]; rfl⟩
  case round =>
    obtain ⟨k0, hk0, rfl, rfl⟩ := hrel
    by_cases hlt : k0 < p
    · have hb := cat_bs (n ++ List.replicate k0 69) [69] (by simp; omega)
      rw [show n ++ List.replicate k0 69 ++ [69] = n ++ List.replicate (k0 + 1) 69 from by rw [List.append_assoc, rep_snoc]] at hb
      go_wp2_with (go_at_call 38; refine (HX0.out _ (by omega) rfl).mono ?_; rintro y w' ⟨rfl, rfl⟩)
      go_round
      case rel => exact ⟨k0 + 1, by omega, by go_num, rfl⟩
      case measure => simp [intOf]; omega
    · obtain rfl : p = k0 := by omega
      have hl0 : (n ++ List.replicate p 69).length ≤ 22 := by simp; omega
      generalize hm0 : n ++ List.replicate p 69 = m0 at *
      have HM0 := Lib.hid hm0
      clear hm0
      go_wp2_with fail
      rw [rounds_succ]
      go_wp2_with fail
      have HX1 := Lib.hid (rlet 1 84)
      go_loop [3, 5] (fun oo nn => ∃ k : Nat, k ≤ q ∧ nn = .int .i64 k ∧ oo = .string (bs (m0 ++ List.replicate k 84))) (fun _ nn => q - (intOf nn).toNat)
      case atStart => exact ⟨0, Nat.zero_le _, rfl, by rw [List.replicate_zero, List.append_nil]⟩
      case round =>
        obtain ⟨k1, hk1, rfl, rfl⟩ := hrel
        by_cases hlt : k1 < q
        · have hb := cat_bs (m0 ++ List.replicate k1 84) [84] (by simp; omega)
          rw [show m0 ++ List.replicate k1 84 ++ [84] = m0 ++ List.replicate (k1 + 1) 84 from by rw [List.append_assoc, rep_snoc]] at hb
          go_wp2_with (go_at_call 38; refine (HX1.out _ (by omega) rfl).mono ?_; rintro y w' ⟨rfl, rfl⟩)
          go_round
          case rel => exact ⟨k1 + 1, by omega, by go_num, rfl⟩
          case measure => simp [intOf]; omega
        · obtain rfl : q = k1 := by omega
          have hl1 : (m0 ++ List.replicate q 84).length ≤ 42 := by simp; omega
          generalize hm1 : m0 ++ List.replicate q 84 = m1 at *
          have HM1 := Lib.hid hm1
          clear hm1
          go_wp2_with fail
          rw [rounds_succ]
          go_wp2_with fail
          have HX2 := Lib.hid (rlet 2 76)
          go_loop [3, 5] (fun oo nn => ∃ k : Nat, k ≤ r ∧ nn = .int .i64 k ∧ oo = .string (bs (m1 ++ List.replicate k 76))) (fun _ nn => r - (intOf nn).toNat)
          case atStart => exact ⟨0, Nat.zero_le _, rfl, by rw [List.replicate_zero, List.append_nil]⟩
          case round =>
            obtain ⟨k2, hk2, rfl, rfl⟩ := hrel
            by_cases hlt : k2 < r
            · have hb := cat_bs (m1 ++ List.replicate k2 76) [76] (by simp; omega)
              rw [show m1 ++ List.replicate k2 76 ++ [76] = m1 ++ List.replicate (k2 + 1) 76 from by rw [List.append_assoc, rep_snoc]] at hb
              go_wp2_with (go_at_call 38; refine (HX2.out _ (by omega) rfl).mono ?_; rintro y w' ⟨rfl, rfl⟩)
              go_round
              case rel => exact ⟨k2 + 1, by omega, by go_num, rfl⟩
              case measure => simp [intOf]; omega
            · obtain rfl : r = k2 := by omega
              have hl2 : (m1 ++ List.replicate r 76).length ≤ 62 := by simp; omega
              generalize hm2 : m1 ++ List.replicate r 76 = m2 at *
              have HM2 := Lib.hid hm2
              clear hm2
              go_wp2_with fail
              rw [rounds_succ]
              go_wp2_with fail
              have HX3 := Lib.hid (rlet 3 83)
              go_loop [3, 5] (fun oo nn => ∃ k : Nat, k ≤ s ∧ nn = .int .i64 k ∧ oo = .string (bs (m2 ++ List.replicate k 83))) (fun _ nn => s - (intOf nn).toNat)
              case atStart => exact ⟨0, Nat.zero_le _, rfl, by rw [List.replicate_zero, List.append_nil]⟩
              case round =>
                obtain ⟨k3, hk3, rfl, rfl⟩ := hrel
                by_cases hlt : k3 < s
                · have hb := cat_bs (m2 ++ List.replicate k3 83) [83] (by simp; omega)
                  rw [show m2 ++ List.replicate k3 83 ++ [83] = m2 ++ List.replicate (k3 + 1) 83 from by rw [List.append_assoc, rep_snoc]] at hb
                  go_wp2_with (go_at_call 38; refine (HX3.out _ (by omega) rfl).mono ?_; rintro y w' ⟨rfl, rfl⟩)
                  go_round
                  case rel => exact ⟨k3 + 1, by omega, by go_num, rfl⟩
                  case measure => simp [intOf]; omega
                · obtain rfl : s = k3 := by omega
                  have hl3 : (m2 ++ List.replicate s 83).length ≤ 82 := by simp; omega
                  generalize hm3 : m2 ++ List.replicate s 83 = m3 at *
                  have HM3 := Lib.hid hm3
                  clear hm3
                  go_wp2_with fail
                  rw [rounds_succ]
                  go_wp2_with fail
                  go_ret
                  exact ⟨ret_str (by rw [← HT.out]), B1⟩
theorem rText_yes (p q r s x : Nat) (w : World) (h : okC p q r s x = true) :
    Calls Tryz.prog 23 #[.agg #[.int .i64 (p : Nat), .int .i64 (q : Nat), .int .i64 (r : Nat), .int .i64 (s : Nat), .int .i64 (x : Nat)]] w fun e w' => e = .returned (.string (bs (textL p q r s x))) ∧ Below w.heap.size w w' := by
  by_cases hx : 10 ≤ x
  · exact rText_ten p q r s x w h hx
  · by_cases hx' : 0 < x
    · exact rText_one p q r s x w h hx' (by omega)
    · obtain rfl : x = 0 := by omega
      by_cases h0 : p + q + r + s = 0
      · exact rText_zero p q r s w h h0
      · exact rText_let p q r s w h (by omega)
end Go.Proofs.YtlhnnjllbcglcaaGreatDoor.maFn
