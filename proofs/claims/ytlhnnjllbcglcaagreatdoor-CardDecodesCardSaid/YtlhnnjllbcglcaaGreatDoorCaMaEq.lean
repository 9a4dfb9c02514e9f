/- Pools and costs that are compared. -/
import Derived.Test.YtlhnnjllbcglcaaGreatDoorCaMana
import Derived.Laws.StructEq
import Derived.ChangeKeysEq
namespace Go.Proofs.YtlhnnjllbcglcaaGreatDoor.maFn
open Go.ChangeShapes Go.WideShapes Go.ChangeAt Go.RowKit
set_option linter.unusedVariables false

def eq4 (a b c d p q r s : Int) : Bool := a == p && (b == q && (c == r && d == s))
def eq5 (a b c d x p q r s y : Int) : Bool := eq4 a b c d p q r s && x == y
theorem eq4_same (a b c d : Int) : eq4 a b c d a b c d = true := by simp [eq4]
theorem eq5_same (a b c d x : Int) : eq5 a b c d x a b c d x = true := by simp [eq5, eq4]
theorem eq4_iff (a b c d p q r s : Int) : eq4 a b c d p q r s = true ↔ a = p ∧ b = q ∧ c = r ∧ d = s := by simp [eq4]
theorem eq5_iff (a b c d x p q r s y : Int) : eq5 a b c d x p q r s y = true ↔ (a = p ∧ b = q ∧ c = r ∧ d = s) ∧ x = y := by simp [eq5, eq4_iff]
theorem info3 : (Tryz.prog.info? 3).isSome = true := by kernel_rfl
theorem cells3 : Tryz.prog.cellsOf 3 = 1 := by kernel_rfl
theorem part3 (cs : Array Value) (k : Nat) (v : Value) (w : World) (h : cs[k]? = some v) (hv : v.oneCell' = true) : (part 3 cs k).run Tryz.prog w = .ok v w := by
  simp [part, h, go_sem]
theorem partA (a b c d x : Int) (w : World) : (part 24 #[.int .i64 a, .int .i64 b, .int .i64 c, .int .i64 d, .int .i64 x] 0).run Tryz.prog w = .ok (.agg #[.int .i64 a, .int .i64 b, .int .i64 c, .int .i64 d]) w := by kernel_rfl
theorem eqA_run (n : Nat) (a b c d p q r s : Int) (w : World) : (Op.equalIn (n + 2) 24 (.agg #[.int .i64 a, .int .i64 b, .int .i64 c, .int .i64 d]) (.agg #[.int .i64 p, .int .i64 q, .int .i64 r, .int .i64 s])).run Tryz.prog w = .ok (eq4 a b c d p q r s) w := by
  obtain ⟨i, hi⟩ := Option.isSome_iff_exists.1 info3
  rw [run_equalIn_array w (n + 1) _ _ Tryz.underlying24 hi]
  rw [cells3]
  have e : ∀ (x y : Int) w, (Op.equalIn (n + 1) 3 (.int .i64 x) (.int .i64 y)).run Tryz.prog w = .ok (x == y) w := fun x y w => run_equalIn_int w n _ _ _ x y Tryz.underlying3
  have p0 : ∀ (x y z u : Int) w, (part 3 #[.int .i64 x, .int .i64 y, .int .i64 z, .int .i64 u] 0).run Tryz.prog w = .ok (.int .i64 x) w := fun x y z u w => part3 _ _ _ _ rfl rfl
  have p1 : ∀ (x y z u : Int) w, (part 3 #[.int .i64 x, .int .i64 y, .int .i64 z, .int .i64 u] 1).run Tryz.prog w = .ok (.int .i64 y) w := fun x y z u w => part3 _ _ _ _ rfl rfl
  have p2 : ∀ (x y z u : Int) w, (part 3 #[.int .i64 x, .int .i64 y, .int .i64 z, .int .i64 u] 2).run Tryz.prog w = .ok (.int .i64 z) w := fun x y z u w => part3 _ _ _ _ rfl rfl
  have p3 : ∀ (x y z u : Int) w, (part 3 #[.int .i64 x, .int .i64 y, .int .i64 z, .int .i64 u] 3).run Tryz.prog w = .ok (.int .i64 u) w := fun x y z u w => part3 _ _ _ _ rfl rfl
  simp only [Op.eqItems, List.range, List.range.loop, Sem.run_bind, Nat.mul_one, p0, e, Result.andThen_ok, eq4]
  generalize (a == p) = b0
  cases b0
  · simp
  · simp only [Bool.not_true, Bool.false_eq_true, if_false, Sem.run_bind, p1, e, Result.andThen_ok, Bool.true_and]
    generalize (b == q) = b1
    cases b1
    · simp
    · simp only [Bool.not_true, Bool.false_eq_true, if_false, Sem.run_bind, p2, e, Result.andThen_ok, Bool.true_and]
      generalize (c == r) = b2
      cases b2
      · simp
      · simp only [Bool.not_true, Bool.false_eq_true, if_false, Sem.run_bind, p3, e, Result.andThen_ok, Bool.true_and]
        generalize (d == s) = b3
        cases b3 <;> simp
theorem eqM_run (a b c d p q r s : Int) (w : World) : (binOp .eql 24 (.agg #[.int .i64 a, .int .i64 b, .int .i64 c, .int .i64 d]) (.agg #[.int .i64 p, .int .i64 q, .int .i64 r, .int .i64 s])).run Tryz.prog w = .ok (.bool (eq4 a b c d p q r s)) w := by
  rw [run_eql_struct, show (10000 : Nat) = 9998 + 2 from rfl, eqA_run]
  rfl
theorem two {α : Type} (l : List α) (h : l.length = 2) : ∃ a b, l = [a, b] := by
  match l, h with
  | [a, b], _ => exact ⟨a, b, rfl⟩
theorem eqC_in (a b c d x p q r s y : Int) (w : World) : (Op.equalIn 10000 26 (.agg #[.int .i64 a, .int .i64 b, .int .i64 c, .int .i64 d, .int .i64 x]) (.agg #[.int .i64 p, .int .i64 q, .int .i64 r, .int .i64 s, .int .i64 y])).run Tryz.prog w = .ok (eq5 a b c d x p q r s y) w := by
  have hs : Tryz.prog.underlying 26 = some (.struct (Tryz.prog.fieldsOf 26)) := by kernel_rfl
  have hp : Tryz.prog.stoodInHeld 26 = false := by kernel_rfl
  have hf : (Tryz.prog.fieldsOf 26).toList.map (fun f => (f.name, f.type, f.offset)) = [("Of", 24, 0), ("Any", 3, 4)] := by kernel_rfl
  rw [show (10000 : Nat) = 9999 + 1 from rfl, run_equalIn_agg w 9999 26 _ _ hs hp]
  generalize (Tryz.prog.fieldsOf 26).toList = fs at hf
  have hl : fs.length = 2 := by have := congrArg List.length hf; simpa using this
  obtain ⟨f, g, rfl⟩ := two fs hl
  simp only [List.map_cons, List.map_nil, List.cons.injEq, Prod.mk.injEq, and_true] at hf
  obtain ⟨⟨n0, t0, o0⟩, n1, t1, o1⟩ := hf
  have e : ∀ (x y : Int) w, (Op.equalIn 9999 3 (.int .i64 x) (.int .i64 y)).run Tryz.prog w = .ok (x == y) w := fun x y w => run_equalIn_int w 9998 _ _ _ x y Tryz.underlying3
  have p4 : ∀ (x y z u v : Int) w, (part 3 #[.int .i64 x, .int .i64 y, .int .i64 z, .int .i64 u, .int .i64 v] 4).run Tryz.prog w = .ok (.int .i64 v) w := fun x y z u v w => part3 _ _ _ _ rfl rfl
  have e9 := fun w => eqA_run 9997 a b c d p q r s w
  simp only [Op.eqFields, n0, t0, o0, n1, t1, o1]
  rw [if_pos (by decide), if_pos (by decide)]
  simp only [Sem.run_bind, partA, Result.andThen_ok, e9, eq5]
  generalize (eq4 a b c d p q r s) = b0
  cases b0
  · simp
  · simp only [Bool.not_true, Bool.false_eq_true, if_false, Sem.run_bind, p4, e, Result.andThen_ok, Bool.true_and]
    generalize (x == y) = b1
    cases b1 <;> simp
theorem eqC_run (a b c d x p q r s y : Int) (w : World) : (binOp .eql 26 (.agg #[.int .i64 a, .int .i64 b, .int .i64 c, .int .i64 d, .int .i64 x]) (.agg #[.int .i64 p, .int .i64 q, .int .i64 r, .int .i64 s, .int .i64 y])).run Tryz.prog w = .ok (.bool (eq5 a b c d x p q r s y)) w := by
  rw [run_eql_struct, eqC_in]
  rfl
theorem neC_run (a b c d x p q r s y : Int) (w : World) : (binOp .neq 26 (.agg #[.int .i64 a, .int .i64 b, .int .i64 c, .int .i64 d, .int .i64 x]) (.agg #[.int .i64 p, .int .i64 q, .int .i64 r, .int .i64 s, .int .i64 y])).run Tryz.prog w = .ok (.bool (!eq5 a b c d x p q r s y)) w := by
  rw [run_neq_struct, eqC_in]
  rfl
end Go.Proofs.YtlhnnjllbcglcaaGreatDoor.maFn
