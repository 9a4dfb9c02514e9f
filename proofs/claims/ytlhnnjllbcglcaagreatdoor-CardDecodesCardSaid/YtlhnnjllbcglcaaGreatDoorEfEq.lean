/- Numbers and effects that are compared. -/
import Derived.Test.YtlhnnjllbcglcaaGreatDoorEfFit
import Derived.Laws.StructEq
import Derived.ChangeKeysEq
namespace Go.Proofs.YtlhnnjllbcglcaaGreatDoor.efFn
open Go.ChangeShapes Go.WideShapes Go.ChangeAt Go.RowKit drMem
set_option linter.unusedVariables false

def eq3 (a b c p q r : Int) : Bool := a == p && (b == q && c == r)
def eq5 (a b c d x p q r s y : Int) : Bool := a == p && (b == q && (c == r && (d == s && x == y)))
theorem eq3_iff (a b c p q r : Int) : eq3 a b c p q r = true ↔ a = p ∧ b = q ∧ c = r := by simp [eq3]
theorem eq5_iff (a b c d x p q r s y : Int) : eq5 a b c d x p q r s y = true ↔ a = p ∧ b = q ∧ c = r ∧ d = s ∧ x = y := by simp [eq5]
theorem eq5_same (a b c d x : Int) : eq5 a b c d x a b c d x = true := by simp [eq5]
theorem info3 : (Tryz.prog.info? 3).isSome = true := by kernel_rfl
theorem cells3 : Tryz.prog.cellsOf 3 = 1 := by kernel_rfl
theorem part3 (t : TypeId) (ha : ∀ w, (isAgg t).run Tryz.prog w = .ok false w) (cs : Array Value) (k : Nat) (v : Value) (w : World) (h : cs[k]? = some v) (hv : v.oneCell' = true) : (part t cs k).run Tryz.prog w = .ok v w := by
  simp [part, h, go_sem, ha]
theorem aggI (w : World) : (isAgg 3).run Tryz.prog w = .ok false w := by simp [go_sem]
theorem aggC (w : World) : (isAgg 48).run Tryz.prog w = .ok false w := by simp [go_sem]
theorem aggT (w : World) : (isAgg 49).run Tryz.prog w = .ok false w := by simp [go_sem]
theorem aggK (w : World) : (isAgg 27).run Tryz.prog w = .ok false w := by simp [go_sem]
theorem eqN_in (a b c p q r : Int) (w : World) : (Op.equalIn 10000 116 (.agg #[.int .i64 a, .int .i64 b, .int .i64 c]) (.agg #[.int .i64 p, .int .i64 q, .int .i64 r])).run Tryz.prog w = .ok (eq3 a b c p q r) w := by
  obtain ⟨i, hi⟩ := Option.isSome_iff_exists.1 info3
  rw [show (10000 : Nat) = 9999 + 1 from rfl, run_equalIn_array w 9999 _ _ Tryz.underlying116 hi]
  rw [cells3]
  have e : ∀ (x y : Int) w, (Op.equalIn 9999 3 (.int .i64 x) (.int .i64 y)).run Tryz.prog w = .ok (x == y) w := fun x y w => run_equalIn_int w 9998 _ _ _ x y Tryz.underlying3
  have p0 : ∀ (x y z : Int) w, (part 3 #[.int .i64 x, .int .i64 y, .int .i64 z] 0).run Tryz.prog w = .ok (.int .i64 x) w := fun x y z w => part3 _ aggI _ _ _ _ rfl rfl
  have p1 : ∀ (x y z : Int) w, (part 3 #[.int .i64 x, .int .i64 y, .int .i64 z] 1).run Tryz.prog w = .ok (.int .i64 y) w := fun x y z w => part3 _ aggI _ _ _ _ rfl rfl
  have p2 : ∀ (x y z : Int) w, (part 3 #[.int .i64 x, .int .i64 y, .int .i64 z] 2).run Tryz.prog w = .ok (.int .i64 z) w := fun x y z w => part3 _ aggI _ _ _ _ rfl rfl
  simp only [Op.eqItems, List.range, List.range.loop, Sem.run_bind, Nat.mul_one, p0, e, Result.andThen_ok, eq3]
  generalize (a == p) = b0
  cases b0
  · simp
  · simp only [Bool.not_true, Bool.false_eq_true, if_false, Sem.run_bind, p1, e, Result.andThen_ok, Bool.true_and]
    generalize (b == q) = b1
    cases b1
    · simp
    · simp only [Bool.not_true, Bool.false_eq_true, if_false, Sem.run_bind, p2, e, Result.andThen_ok, Bool.true_and]
      generalize (c == r) = b2
      cases b2 <;> simp
theorem eqN_run (a b c p q r : Int) (w : World) : (binOp .eql 116 (.agg #[.int .i64 a, .int .i64 b, .int .i64 c]) (.agg #[.int .i64 p, .int .i64 q, .int .i64 r])).run Tryz.prog w = .ok (.bool (eq3 a b c p q r)) w := by
  rw [run_eql_struct, eqN_in]
  rfl
theorem neN_run (a b c p q r : Int) (w : World) : (binOp .neq 116 (.agg #[.int .i64 a, .int .i64 b, .int .i64 c]) (.agg #[.int .i64 p, .int .i64 q, .int .i64 r])).run Tryz.prog w = .ok (.bool (!eq3 a b c p q r)) w := by
  rw [run_neq_struct, eqN_in]
  rfl
theorem fiveL {α : Type} (l : List α) (h : l.length = 5) : ∃ a b c d e, l = [a, b, c, d, e] := by
  match l, h with
  | [a, b, c, d, e], _ => exact ⟨a, b, c, d, e, rfl⟩
theorem eqE_in (a b c d x p q r s y : Int) (w : World) : (Op.equalIn 10000 51 (.agg #[.int .i64 a, .int .i64 b, .int .i64 c, .int .i64 d, .int .i64 x]) (.agg #[.int .i64 p, .int .i64 q, .int .i64 r, .int .i64 s, .int .i64 y])).run Tryz.prog w = .ok (eq5 a b c d x p q r s y) w := by
  have hs : Tryz.prog.underlying 51 = some (.struct (Tryz.prog.fieldsOf 51)) := by kernel_rfl
  have hp : Tryz.prog.stoodInHeld 51 = false := by kernel_rfl
  have hf : (Tryz.prog.fieldsOf 51).toList.map (fun f => (f.name, f.type, f.offset)) = [("Code", 48, 0), ("Target", 49, 1), ("N", 3, 2), ("M", 3, 3), ("Colour", 27, 4)] := by kernel_rfl
  rw [show (10000 : Nat) = 9999 + 1 from rfl, run_equalIn_agg w 9999 51 _ _ hs hp]
  generalize (Tryz.prog.fieldsOf 51).toList = fs at hf
  have hl : fs.length = 5 := by have := congrArg List.length hf; simpa using this
  obtain ⟨f0, f1, f2, f3, f4, rfl⟩ := fiveL fs hl
  simp only [List.map_cons, List.map_nil, List.cons.injEq, Prod.mk.injEq, and_true] at hf
  obtain ⟨⟨n0, t0, o0⟩, ⟨n1, t1, o1⟩, ⟨n2, t2, o2⟩, ⟨n3, t3, o3⟩, n4, t4, o4⟩ := hf
  have e0 : ∀ (x y : Int) w, (Op.equalIn 9999 48 (.int .i64 x) (.int .i64 y)).run Tryz.prog w = .ok (x == y) w := fun x y w => run_equalIn_int w 9998 _ _ _ x y Tryz.underlying48
  have e1 : ∀ (x y : Int) w, (Op.equalIn 9999 49 (.int .i64 x) (.int .i64 y)).run Tryz.prog w = .ok (x == y) w := fun x y w => run_equalIn_int w 9998 _ _ _ x y Tryz.underlying49
  have e2 : ∀ (x y : Int) w, (Op.equalIn 9999 3 (.int .i64 x) (.int .i64 y)).run Tryz.prog w = .ok (x == y) w := fun x y w => run_equalIn_int w 9998 _ _ _ x y Tryz.underlying3
  have e4 : ∀ (x y : Int) w, (Op.equalIn 9999 27 (.int .i64 x) (.int .i64 y)).run Tryz.prog w = .ok (x == y) w := fun x y w => run_equalIn_int w 9998 _ _ _ x y Tryz.underlying27
  have p0 : ∀ (x y z u v : Int) w, (part 48 #[.int .i64 x, .int .i64 y, .int .i64 z, .int .i64 u, .int .i64 v] 0).run Tryz.prog w = .ok (.int .i64 x) w := fun x y z u v w => part3 _ aggC _ _ _ _ rfl rfl
  have p1 : ∀ (x y z u v : Int) w, (part 49 #[.int .i64 x, .int .i64 y, .int .i64 z, .int .i64 u, .int .i64 v] 1).run Tryz.prog w = .ok (.int .i64 y) w := fun x y z u v w => part3 _ aggT _ _ _ _ rfl rfl
  have p2 : ∀ (x y z u v : Int) w, (part 3 #[.int .i64 x, .int .i64 y, .int .i64 z, .int .i64 u, .int .i64 v] 2).run Tryz.prog w = .ok (.int .i64 z) w := fun x y z u v w => part3 _ aggI _ _ _ _ rfl rfl
  have p3 : ∀ (x y z u v : Int) w, (part 3 #[.int .i64 x, .int .i64 y, .int .i64 z, .int .i64 u, .int .i64 v] 3).run Tryz.prog w = .ok (.int .i64 u) w := fun x y z u v w => part3 _ aggI _ _ _ _ rfl rfl
  have p4 : ∀ (x y z u v : Int) w, (part 27 #[.int .i64 x, .int .i64 y, .int .i64 z, .int .i64 u, .int .i64 v] 4).run Tryz.prog w = .ok (.int .i64 v) w := fun x y z u v w => part3 _ aggK _ _ _ _ rfl rfl
  simp only [Op.eqFields, n0, t0, o0, n1, t1, o1, n2, t2, o2, n3, t3, o3, n4, t4, o4]
  rw [if_pos (by decide), if_pos (by decide), if_pos (by decide), if_pos (by decide), if_pos (by decide)]
  simp only [Sem.run_bind, p0, e0, Result.andThen_ok, eq5]
  generalize (a == p) = b0
  cases b0
  · simp
  · simp only [Bool.not_true, Bool.false_eq_true, if_false, Sem.run_bind, p1, e1, Result.andThen_ok, Bool.true_and]
    generalize (b == q) = b1
    cases b1
    · simp
    · simp only [Bool.not_true, Bool.false_eq_true, if_false, Sem.run_bind, p2, e2, Result.andThen_ok, Bool.true_and]
      generalize (c == r) = b2
      cases b2
      · simp
      · simp only [Bool.not_true, Bool.false_eq_true, if_false, Sem.run_bind, p3, e2, Result.andThen_ok, Bool.true_and]
        generalize (d == s) = b3
        cases b3
        · simp
        · simp only [Bool.not_true, Bool.false_eq_true, if_false, Sem.run_bind, p4, e4, Result.andThen_ok, Bool.true_and]
          generalize (x == y) = b4
          cases b4 <;> simp
theorem eqE_run (a b c d x p q r s y : Int) (w : World) : (binOp .eql 51 (.agg #[.int .i64 a, .int .i64 b, .int .i64 c, .int .i64 d, .int .i64 x]) (.agg #[.int .i64 p, .int .i64 q, .int .i64 r, .int .i64 s, .int .i64 y])).run Tryz.prog w = .ok (.bool (eq5 a b c d x p q r s y)) w := by
  rw [run_eql_struct, eqE_in]
  rfl
theorem neE_run (a b c d x p q r s y : Int) (w : World) : (binOp .neq 51 (.agg #[.int .i64 a, .int .i64 b, .int .i64 c, .int .i64 d, .int .i64 x]) (.agg #[.int .i64 p, .int .i64 q, .int .i64 r, .int .i64 s, .int .i64 y])).run Tryz.prog w = .ok (.bool (!eq5 a b c d x p q r s y)) w := by
  rw [run_neq_struct, eqE_in]
  rfl

/- which numbers are those of an effect of the rule with 'at least one that is not 0' -/
set_option maxRecDepth 100000 in
theorem some_fits_any (nm : ByteArray) (k a b c x y z p q r : Int) (w : World) : 
    Calls Tryz.prog 132 #[.agg #[.string nm, .int .u64 k, .int .i64 a, .int .i64 b, .int .i64 c, .int .i64 x, .int .i64 y, .int .i64 z], .agg #[.int .i64 p, .int .i64 q, .int .i64 r]] w fun r' w' => r' = .returned (.bool (!eq3 p q r 0 0 0 && fitB a b c x y z p q r)) ∧ Below w.heap.size w w' := by
  have hne := neN_run p q r 0 0 0
  have HF := fun w => fits_any nm k a b c x y z p q r w
  cases h0 : eq3 p q r 0 0 0
  all_goals
    rw [h0] at hne
    go_enter Tryz.func132, Tryz.ntmps132
    go_wp2_with (go_at_call 129; refine (HF _).mono ?_; rintro e w1 ⟨rfl, hb⟩)
    go_ret
    first
      | exact ⟨ret_bool (by rw [Bool.not_false, Bool.true_and]), next (by go_grown) hb⟩
      | exact ⟨ret_bool (by rw [Bool.not_true, Bool.false_and]), by go_grown⟩
end Go.Proofs.YtlhnnjllbcglcaaGreatDoor.efFn
