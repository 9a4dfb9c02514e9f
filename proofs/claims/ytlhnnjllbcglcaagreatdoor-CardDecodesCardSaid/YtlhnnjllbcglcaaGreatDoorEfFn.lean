/- What the rules of package effect return: words, target kinds, numbers. -/
import Derived.Test.YtlhnnjllbcglcaaGreatDoorRows
import Derived.WalkKit
import Derived.ProofKit
import Derived.OpenShut
import Derived.IntWalk
import Derived.Lib.Hide
import Derived.WalkLawsBesides
import Derived.Handy
import Derived.Below
import Derived.Test.YtlhnnjllbcglcaaGreatDoorDrMem
namespace Go.Proofs.YtlhnnjllbcglcaaGreatDoor.efFn
open Go.ChangeShapes Go.WideShapes Go.ChangeAt Go.RowKit drMem
set_option linter.unusedVariables false

/- strings of bytes -/
def bs (l : List UInt8) : ByteArray := ⟨l.toArray⟩
/- a number, clamped to a maximum -/
def cl (n m : Int) : Int := max 0 (min n m)
theorem ret_int {k : IntKind} {a b : Int} (h : a = b) : Ending.returned (.int k a) = .returned (.int k b) := by rw [h]
theorem ret_bool {a b : Bool} (h : a = b) : Ending.returned (.bool a) = .returned (.bool b) := by rw [h]
theorem next {w W w1 : World} (h : Below w.heap.size w W) (hb : Below W.heap.size W w1) : Below w.heap.size w w1 := h.trans (hb.mono h.size)

theorem clamp_any (n m : Int) (w : World) :
    Calls Tryz.prog 131 #[.int .i64 n, .int .i64 m] w fun e w' => e = .returned (.int .i64 (cl n m)) ∧ w = w' := by
  go_enter Tryz.func131, Tryz.ntmps131
  go_wp2
  all_goals (go_ret; exact ⟨ret_int (by unfold cl; omega), rfl⟩)

abbrev plV (nm : ByteArray) (k : Int) : Value := .iface 141 (.agg #[.string nm, .int .u64 k])
abbrev raV (nm : ByteArray) (k a b c x y z : Int) : Value := .iface 143 (.agg #[.string nm, .int .u64 k, .int .i64 a, .int .i64 b, .int .i64 c, .int .i64 x, .int .i64 y, .int .i64 z])
abbrev soV (nm : ByteArray) (k a b c x y z : Int) : Value := .iface 145 (.agg #[.string nm, .int .u64 k, .int .i64 a, .int .i64 b, .int .i64 c, .int .i64 x, .int .i64 y, .int .i64 z])

/- the rule of a code -/
def ruleV (c : Int) : Value :=
  if c = 1 then raV (bs [100, 97, 109, 97, 103, 101]) 62 1 0 0 99 0 0
  else if c = 2 then raV (bs [100, 114, 97, 119]) 17 1 0 0 7 0 0
  else if c = 3 then raV (bs [103, 97, 105, 110]) 17 1 0 0 99 0 0
  else if c = 4 then raV (bs [108, 111, 115, 101]) 17 1 0 0 99 0 0
  else if c = 5 then plV (bs [100, 101, 115, 116, 114, 111, 121]) 14
  else if c = 6 then plV (bs [114, 101, 116, 117, 114, 110]) 14
  else if c = 7 then plV (bs [99, 111, 117, 110, 116, 101, 114]) 64
  else if c = 8 then soV (bs [112, 117, 109, 112]) 15 0 0 0 9 9 0
  else if c = 9 then raV (bs [99, 111, 117, 110, 116, 101, 114, 115]) 15 1 0 0 9 0 0
  else if c = 10 then raV (bs [116, 111, 107, 101, 110]) 1 0 1 0 9 9 0
  else if c = 11 then plV (bs [116, 97, 112]) 14
  else if c = 12 then raV (bs [109, 97, 110, 97]) 1 1 0 0 9 0 3
  else plV ⟨#[]⟩ 0
theorem ruleV_1 : ruleV 1 = raV (bs [100, 97, 109, 97, 103, 101]) 62 1 0 0 99 0 0 := rfl
theorem ruleV_2 : ruleV 2 = raV (bs [100, 114, 97, 119]) 17 1 0 0 7 0 0 := rfl
theorem ruleV_3 : ruleV 3 = raV (bs [103, 97, 105, 110]) 17 1 0 0 99 0 0 := rfl
theorem ruleV_4 : ruleV 4 = raV (bs [108, 111, 115, 101]) 17 1 0 0 99 0 0 := rfl
theorem ruleV_5 : ruleV 5 = plV (bs [100, 101, 115, 116, 114, 111, 121]) 14 := rfl
theorem ruleV_6 : ruleV 6 = plV (bs [114, 101, 116, 117, 114, 110]) 14 := rfl
theorem ruleV_7 : ruleV 7 = plV (bs [99, 111, 117, 110, 116, 101, 114]) 64 := rfl
theorem ruleV_8 : ruleV 8 = soV (bs [112, 117, 109, 112]) 15 0 0 0 9 9 0 := rfl
theorem ruleV_9 : ruleV 9 = raV (bs [99, 111, 117, 110, 116, 101, 114, 115]) 15 1 0 0 9 0 0 := rfl
theorem ruleV_10 : ruleV 10 = raV (bs [116, 111, 107, 101, 110]) 1 0 1 0 9 9 0 := rfl
theorem ruleV_11 : ruleV 11 = plV (bs [116, 97, 112]) 14 := rfl
theorem ruleV_12 : ruleV 12 = raV (bs [109, 97, 110, 97]) 1 1 0 0 9 0 3 := rfl
theorem codes (c : Int) : c = 1 ∨ c = 2 ∨ c = 3 ∨ c = 4 ∨ c = 5 ∨ c = 6 ∨ c = 7 ∨ c = 8 ∨ c = 9 ∨ c = 10 ∨ c = 11 ∨ c = 12 ∨ ¬ (1 ≤ c ∧ c ≤ 12) := by omega
theorem ruleV_no (c : Int) (h : ¬ (1 ≤ c ∧ c ≤ 12)) : ruleV c = plV ⟨#[]⟩ 0 := by
  unfold ruleV
  repeat rw [if_neg (by omega)]
theorem ret_val {a b : Value} (h : a = b) : Ending.returned a = .returned b := by rw [h]
set_option maxRecDepth 100000 in
set_option maxHeartbeats 2000000 in
theorem ruleOf_any (c : Int) (w : World) :
    Calls Tryz.prog 72 #[.int .i64 c] w fun e w' => e = .returned (ruleV c) ∧ w = w' := by
  rcases codes c with rfl | rfl | rfl | rfl | rfl | rfl | rfl | rfl | rfl | rfl | rfl | rfl | h
  all_goals first
    | (have e : ruleV c = plV ⟨#[]⟩ 0 := ruleV_no c h
       have HE := Lib.hid e
       have n1 : (c == 1) = false := by rw [beq_eq_false_iff_ne]; omega
       have n2 : (c == 2) = false := by rw [beq_eq_false_iff_ne]; omega
       have n3 : (c == 3) = false := by rw [beq_eq_false_iff_ne]; omega
       have n4 : (c == 4) = false := by rw [beq_eq_false_iff_ne]; omega
       have n5 : (c == 5) = false := by rw [beq_eq_false_iff_ne]; omega
       have n6 : (c == 6) = false := by rw [beq_eq_false_iff_ne]; omega
       have n7 : (c == 7) = false := by rw [beq_eq_false_iff_ne]; omega
       have n8 : (c == 8) = false := by rw [beq_eq_false_iff_ne]; omega
       have n9 : (c == 9) = false := by rw [beq_eq_false_iff_ne]; omega
       have n10 : (c == 10) = false := by rw [beq_eq_false_iff_ne]; omega
       have n11 : (c == 11) = false := by rw [beq_eq_false_iff_ne]; omega
       have n12 : (c == 12) = false := by rw [beq_eq_false_iff_ne]; omega
       clear e h
       go_enter Tryz.func72, Tryz.ntmps72
       go_wp2
       go_ret
       exact ⟨ret_val HE.out.symm, rfl⟩)
    | (go_enter Tryz.func72, Tryz.ntmps72
       go_wp2
       go_ret
       exact ⟨ret_val rfl, rfl⟩)

theorem numbersOf_any (a b c d e : Int) (w : World) :
    Calls Tryz.prog 74 #[.agg #[.int .i64 a, .int .i64 b, .int .i64 c, .int .i64 d, .int .i64 e]] w fun r w' => r = .returned (.agg #[.int .i64 c, .int .i64 d, .int .i64 e]) ∧ Below w.heap.size w w' := by
  go_enter Tryz.func74, Tryz.ntmps74
  go_wp2
  exact bodyPost_ret (v := .agg #[.int .i64 c, .int .i64 d, .int .i64 e]) (by simp [results, Tryz.results74, go_sem]) rfl ⟨rfl, by go_grown⟩

theorem word_any (nm : ByteArray) (k : Int) (w : World) :
    Calls Tryz.prog 128 #[.agg #[.string nm, .int .u64 k]] w fun r w' => r = .returned (.string nm) ∧ Below w.heap.size w w' := by
  go_enter Tryz.func128, Tryz.ntmps128
  go_wp2
  go_ret
  exact ⟨rfl, by go_grown⟩

theorem mentions_any (nm : ByteArray) (k a b c x y z : Int) (w : World) : ∀ i : Nat, i < 3 → 
    Calls Tryz.prog 130 #[.agg #[.string nm, .int .u64 k, .int .i64 a, .int .i64 b, .int .i64 c, .int .i64 x, .int .i64 y, .int .i64 z], .int .i64 i] w fun r w' => r = .returned (.bool (decide (0 < [x, y, z].getD i 0))) ∧ Below w.heap.size w w' := by
  intro i hi
  obtain rfl | rfl | rfl : i = 0 ∨ i = 1 ∨ i = 2 := by omega
  all_goals
    go_enter Tryz.func130, Tryz.ntmps130
    go_wp2
    go_ret
    exact ⟨rfl, by go_grown⟩

end Go.Proofs.YtlhnnjllbcglcaaGreatDoor.efFn
