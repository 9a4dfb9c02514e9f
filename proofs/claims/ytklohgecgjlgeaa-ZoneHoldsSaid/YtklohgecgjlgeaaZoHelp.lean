/- What the law's helpers where and top return. -/
import Derived.Test.YtklohgecgjlgeaaZoSet
import Derived.Laws.StructEq
namespace Go.Proofs.Ytklohgecgjlgeaa.zoFn
open Go.ChangeShapes Go.WideShapes Go.ChangeAt Go.RowKit drMem
set_option linter.unusedVariables false
variable {F G : Nat → Prop} {w w' W W' : World} {b gl mb : Nat} {L : List (List Int)}

def whB (L : List (List Int)) (x a c no : Int) : Bool := ((((whZ L.length L x : Nat) : Int) == a) && (((whI L.length L x : Nat) : Int) == c)) && (leaE L.length L x == no)
set_option maxHeartbeats 1000000 in
theorem where_any (h : ZS F w b gl mb L) (x a c no : Int) (hx : i64ok x) : Calls Try.prog 15 #[.pointer (some ⟨b, 0, none⟩), .int .i64 x, .agg #[.int .i64 a, .int .i64 c], .int .i64 no] w (boolB (whB L x a c no) w) := by
  have hA : Below w.heap.size w (w.alloc (.cells #[.int .i64 a, .int .i64 c] 33)) := (Below.refl _ w).alloc (Nat.le_refl _) _
  have HW := Lib.hid (Where_any (h.below' hA) x hx)
  have HA := Lib.hid (has.new w 33 [.int .i64 a, .int .i64 c])
  unfold whB
  clear h hx hA
  generalize ((whZ L.length L x : Nat) : Int) = p at *
  generalize ((whI L.length L x : Nat) : Int) = q at *
  generalize leaE L.length L x = er at *
  go_enter Try.func15, Try.ntmps15
  go_wp2_with (go_at_call 24; refine HW.out.mono ?_; rintro e w1 ⟨rfl, hb⟩; have hA1 := HA.out.below hb HA.out.lt; have a0 := hA1.cell 0; have a1 := hA1.cell 1; simp only [List.getElem?_cons_zero, List.getElem?_cons_succ] at a0 a1; have H1 := Lib.hid hA1; have B := Lib.hid hb; have hlt := H1.out.lt; clear hA1 hb)
  all_goals (go_ret; refine ⟨by simp [*], ?_⟩; exact (((Below.refl _ w).alloc (Nat.le_refl _) _).trans (B.out.mono (by simp))).alloc (Nat.le_of_lt hlt) _)
def topB (L : List (List Int)) (z want no : Int) : Bool := (topV L.length L z == want) && (topE L.length L z == no)
theorem top_any (h : ZS F w b gl mb L) (z want no : Int) : Calls Try.prog 18 #[.pointer (some ⟨b, 0, none⟩), .int .i64 z, .int .i64 want, .int .i64 no] w fun e w' => e = .returned (.bool (topB L z want no)) ∧ w = w' := by
  have HT := Lib.hid (Top_any h z)
  clear h
  unfold topB
  generalize topV L.length L z = v at *
  generalize topE L.length L z = er at *
  by_cases h1 : (v == want) = true
  · rw [h1, Bool.true_and]
    go_enter Try.func18, Try.ntmps18
    go_wp2_with (go_at_call 25; refine HT.out.mono ?_; rintro e w1 ⟨rfl, rfl⟩)
    go_ret
    exact ⟨rfl, rfl⟩
  · have h1' : (v == want) = false := by simpa using h1
    rw [h1', Bool.false_and]
    clear h1
    go_enter Try.func18, Try.ntmps18
    go_wp2_with (go_at_call 25; refine HT.out.mono ?_; rintro e w1 ⟨rfl, rfl⟩)
    go_ret
    exact ⟨rfl, rfl⟩
end Go.Proofs.Ytklohgecgjlgeaa.zoFn
