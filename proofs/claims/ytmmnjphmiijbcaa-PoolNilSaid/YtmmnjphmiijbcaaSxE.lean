/- The pure operations. -/
import Derived.Test.YtmmnjphmiijbcaaSxD
import Derived.Laws.Strings
namespace Go.Proofs.Ytmmnjphmiijbcaa.sx
set_option linter.unusedVariables false
variable {P : Program}

theorem ren_addr (σ : Sg) (a : Addr) (n : Nat) : σ.addr (a.add n) = (σ.addr a).add n := by
  obtain ⟨k, off, s⟩ := a
  by_cases h : n = 0
  · simp [Addr.add, Sg.addr, h]
  · simp [Addr.add, Sg.addr, h]
theorem add_block (a : Addr) (n : Nat) : (a.add n).block = a.block := by
  unfold Addr.add; split <;> rfl

theorem eqNil_spec {d : TypeDesc} {u v : Value} {b : Bool} (h : eqNil d u v = some b) (σ : Sg) (t : TypeId) (ht : P.underlying t = some d) (w : World) : (Op.equal t (ren σ u) (ren σ v)).run P w = .ok b w := by
  have hm : Op.maxDepth = 9999 + 1 := rfl
  unfold Op.equal
  rw [hm]
  generalize 9999 = D
  unfold eqNil at h
  split at h <;> first | (simp at h; done) | (simp only [Option.some.injEq] at h; subst h; simp [Op.equalIn, run_underlying ht, ren]; done)
theorem eqNil_guard {d : TypeDesc} {u v : Value} {b : Bool} (h : eqNil d u v = some b) (σ : Sg) (t : TypeId) (op : BinOp) (x y : Operand) (w : World) : (eqGuard op t x y (ren σ u) (ren σ v)).run P w = .ok () w ∧
    binOp .eql t (ren σ u) (ren σ v) = (do pure (.bool (← Op.equal t (ren σ u) (ren σ v)))) ∧ binOp .neq t (ren σ u) (ren σ v) = (do pure (.bool (!(← Op.equal t (ren σ u) (ren σ v))))) := by
  unfold eqNil at h
  split at h <;> first | (simp at h; done) | (refine ⟨?_, rfl, rfl⟩; cases op <;> simp [eqGuard, ren]; done)
theorem pureRun_bind {α β : Type} (f : α → Sem β) : ∀ s : Sem α, pureRun P (s >>= f) = (pureRun P s).bind fun a => pureRun P (f a)
  | .pure a => rfl
  | .program k => pureRun_bind f (k P)
  | .load .. | .store .. | .new .. | .shape .. | .freeze .. | .frozen .. | .getObj .. | .setObj .. | .choose .. | .sys .. | .mark .. | .halt .. => rfl
theorem guard_plain {op : BinOp} {t : TypeId} {x y : Operand} {a b : Value} (ha : (a matches .nilIface | .agg _) = false) (w : World) : (eqGuard op t x y a b).run P w = .ok () w := by
  cases a <;> simp at ha <;> cases op <;> simp [eqGuard]
theorem binInt_clean {op : BinOp} {t : TypeId} {k k' : IntKind} {a b : Int} {v : Value} (h : pureRun P (binOp op t (.int k a) (.int k' b)) = some v) : clean v = true := by
  by_cases hk : k = k'
  · subst hk
    cases op <;> simp only [binOp, Op.intArith, Op.intDiv, Op.intBits, Op.intCmp, Op.shift, ne_eq, not_true_eq_false, if_false] at h
    all_goals first
      | (simp [pureRun, pure] at h; subst h; rfl)
      | (split at h <;> first | (simp [pureRun, pure] at h; subst h; rfl) | (simp [pureRun, runtimePanic, bind, Sem.bind, program, goPanic] at h; done))
  · cases op <;> simp only [binOp, Op.shift, ne_eq, hk, not_false_eq_true, if_true] at h
    all_goals first
      | (simp [pureRun, stuck] at h; done)
      | (split at h <;> first | (simp [pureRun, pure] at h; subst h; rfl) | (simp [pureRun, runtimePanic, bind, Sem.bind, program, goPanic] at h; done))
theorem binStr_clean {op : BinOp} {t : TypeId} {a b : ByteArray} {v : Value} (h : pureRun P (binOp op t (.string a) (.string b)) = some v) : clean v = true := by
  cases op <;> simp only [binOp, Op.stringOp] at h <;> first | (simp [pureRun, pure, stuck] at h; subst h; rfl) | (simp [pureRun, pure, stuck] at h; done) | (split at h <;> first | (simp [pureRun, unsupported] at h; done) | (simp [pureRun, pure] at h; subst h; rfl))
theorem binAgg_clean {op : BinOp} {t : TypeId} {x y : Operand} {a b : Array Value} {v : Value} (h : pureRun P (do eqGuard op t x y (.agg a) (.agg b); binOp op t (.agg a) (.agg b)) = some v) : clean v = true := by
  rw [pureRun_bind] at h
  cases hg : pureRun P (eqGuard op t x y (.agg a) (.agg b)) with
  | none => simp [hg] at h
  | some u =>
    simp only [hg, Option.bind_some] at h
    cases op <;> simp only [binOp] at h <;> first | (simp [pureRun, pure, stuck] at h; done) | skip
    all_goals
      rw [pureRun_bind] at h
      cases he : pureRun P (Op.equal t (.agg a) (.agg b)) with
      | none => simp [he] at h
      | some q => simp only [he, Option.bind_some] at h; simp [pureRun, pure] at h; subst h; rfl
theorem unary_clean {u : UnOp} {x v : Value} (h : pureRun P (Op.unary u x) = some v) : clean v = true := by
  unfold Op.unary at h
  split at h <;> first | (simp [Op.intArith, pureRun, pure] at h; subst h; rfl) | (simp only [Op.intBits] at h; simp [pureRun, pure] at h; subst h; rfl) | (simp [pureRun, pure] at h; subst h; rfl) | (simp [pureRun, stuck, unsupported] at h; done)
theorem str_same (a b : ByteArray) : (a.toList == b.toList) = eqBytes a.data.toList b.data.toList := by
  rw [ByteArray.toList_eq, ByteArray.toList_eq, Bool.eq_iff_iff, eqBytes_iff]; simp
theorem minmax_clean (f : Value → Value → Sem Value) (hfc : ∀ a b v, pureRun P (f a b) = some v → clean v = true) : ∀ (l : List Value) (x v : Value), clean x = true → pureRun P (l.foldlM f x) = some v → clean v = true
  | [], x, v, hx, h => by simp [pureRun, pure] at h; subst h; exact hx
  | a :: l, x, v, hx, h => by
    rw [List.foldlM_cons, pureRun_bind] at h
    cases hq : pureRun P (f x a) with
    | none => simp [hq] at h
    | some q => simp only [hq, Option.bind_some] at h; exact minmax_clean f hfc l q v (hfc _ _ _ hq) h
theorem max2_clean (a b v : Value) (h : pureRun P (Builtin.max2 a b) = some v) : clean v = true := by
  unfold Builtin.max2 at h
  split at h
  · simp [pureRun, pure] at h; subst h; rfl
  · split at h <;> first | (simp [pureRun, pure] at h; subst h; rfl) | (simp [pureRun, choose, bind, Sem.bind] at h; done)
  · rename_i sa sb
    rw [pureRun_bind] at h
    cases hq : pureRun P (Op.stringOp .geq sa sb) with
    | none => simp [hq] at h
    | some q =>
      simp only [hq, Option.bind_some] at h
      rw [pureRun_bind] at h
      cases hq2 : pureRun P (asBool q) with
      | none => simp [hq2] at h
      | some q2 => simp only [hq2, Option.bind_some] at h; simp [pureRun, pure] at h; subst h; rfl
  · simp [pureRun, unsupported] at h
  · simp [pureRun, unsupported] at h
  · simp [pureRun, stuck] at h
theorem min2_clean (a b v : Value) (h : pureRun P (Builtin.min2 a b) = some v) : clean v = true := by
  unfold Builtin.min2 at h
  split at h
  · simp [pureRun, pure] at h; subst h; rfl
  · split at h <;> first | (simp [pureRun, pure] at h; subst h; rfl) | (simp [pureRun, choose, bind, Sem.bind] at h; done)
  · rename_i sa sb
    rw [pureRun_bind] at h
    cases hq : pureRun P (Op.stringOp .leq sa sb) with
    | none => simp [hq] at h
    | some q =>
      simp only [hq, Option.bind_some] at h
      rw [pureRun_bind] at h
      cases hq2 : pureRun P (asBool q) with
      | none => simp [hq2] at h
      | some q2 => simp only [hq2, Option.bind_some] at h; simp [pureRun, pure] at h; subst h; rfl
  · simp [pureRun, unsupported] at h
  · simp [pureRun, unsupported] at h
  · simp [pureRun, stuck] at h
theorem max_clean {at_ : Array TypeId} {ty : TypeId} {args : Array Value} {v : Value} (hc : cleanL args.toList = true) (h : pureRun P (Builtin.max_ at_ ty args) = some v) : clean v = true := by
  unfold Builtin.max_ at h
  cases hl : args.toList with
  | nil => simp [hl, pureRun, stuck] at h
  | cons x r =>
    rw [hl] at hc
    simp only [cleanL, Bool.and_eq_true] at hc
    simp only [hl] at h
    exact minmax_clean _ max2_clean r x v hc.1 h
theorem min_clean {at_ : Array TypeId} {ty : TypeId} {args : Array Value} {v : Value} (hc : cleanL args.toList = true) (h : pureRun P (Builtin.min_ at_ ty args) = some v) : clean v = true := by
  unfold Builtin.min_ at h
  cases hl : args.toList with
  | nil => simp [hl, pureRun, stuck] at h
  | cons x r =>
    rw [hl] at hc
    simp only [cleanL, Bool.and_eq_true] at hc
    simp only [hl] at h
    exact minmax_clean _ min2_clean r x v hc.1 h
theorem args_ev (σ : Sg) (T : TV) (l : Array Operand) : l.map (rho σ T) = ((l.toList.map (ev T)).map (ren σ)).toArray := by
  apply Array.ext'; simp [rho]
theorem missing_none {want : Array (String × TypeId)} {got : Array Method} (h : want.toList.all (fun p => got.any fun m => m.name == p.1 && m.sig == p.2) = true) : Instr.missingMethod want got = none := by
  have hf : (want.toList.filter fun (p : String × TypeId) => !got.any fun m => m.name == p.1 && m.sig == p.2) = [] := by
    rw [List.filter_eq_nil_iff]
    intro p hp
    have := List.all_eq_true.1 h p hp
    simp only [this]; simp
  unfold Instr.missingMethod
  have hf' : (want.toList.filter fun (x : String × TypeId) => match x with | (name, sig) => !got.any fun m => m.name == name && m.sig == sig) = [] := hf
  simp only [hf', List.map_nil]
  rfl
theorem ren_slice (σ : Sg) (a : Option Addr) (n c : Nat) : ∃ a' c', ren σ (.slice a n c) = .slice a' n c' := by
  cases a with
  | none => exact ⟨_, _, rfl⟩
  | some a => exact ⟨_, _, rfl⟩
theorem map_ev (σ : Sg) (T : TV) (l : Option Operand) : l.map (rho σ T) = (l.map (ev T)).map (ren σ) := by cases l <;> rfl
theorem parts_ev (σ : Sg) (T : TV) (l : Array (Nat × Operand)) : (l.map fun (p : Nat × Operand) => (p.1, rho σ T p.2)).toList = (l.toList.map fun p => (p.1, ev T p.2)).map fun p => (p.1, ren σ p.2) := by
  simp [rho]
theorem renA_list (σ : Sg) (cs : Array Value) : renA σ cs = (cs.toList.map (ren σ)).toArray := by cases cs; simp [renA, renL_eq]
theorem ren_bool (σ : Sg) (b : Bool) : ren σ (.bool b) = .bool b := rfl
theorem ren_int (σ : Sg) (k : IntKind) (i : Int) : ren σ (.int k i) = .int k i := rfl

def Exact (σ : Sg) (H : HV) : Prop := ∀ k cs t own, H.get k = some (.cells cs t false own) → σ.x k = 0

set_option maxHeartbeats 1000000 in
theorem pure_sound {σ : Sg} {T : TV} {H : HV} {n : Nat} {o : Oper} {v : Value} (hx : Exact σ H) (hf : fitsT n T) (h : pureV P T H o = some v) :
    (∀ w, (execOp (rho σ T) o).run P w = .ok (.value (ren σ v)) w) ∧ fits n v = true := by
  obtain ⟨dst, op, type, pos, after, guard⟩ := o
  cases op <;> simp only [pureV] at h <;> try (simp at h; done)
  case move x => simp only [Option.some.injEq] at h; subst h; exact ⟨fun w => rfl, ev_fits hf x⟩
  case assign x => simp only [Option.some.injEq] at h; subst h; exact ⟨fun w => rfl, ev_fits hf x⟩
  case pick c a b =>
    split at h <;> rename_i hc <;> first | (simp at h; done) | (simp only [Option.some.injEq] at h; subst h)
    · exact ⟨fun w => by simp [execOp, rho, hc, ren_bool, asBool], ev_fits hf a⟩
    · exact ⟨fun w => by simp [execOp, rho, hc, ren_bool, asBool], ev_fits hf b⟩
  case build t parts =>
    cases hz : zeroOf P t with
    | none => simp [hz] at h
    | some z =>
      cases hu : P.underlying t with
      | none => simp [hz, hu] at h
      | some d =>
        have hfit : ∀ (place : Nat → Option (Nat × Nat)) (cs : List Value), clean z = true → fillL place (cellsOf z) (parts.toList.map fun p => (p.1, ev T p.2)) = some cs → fits n (.agg cs.toArray) = true := by
          intro place cs hcz hfl
          simp only [fits, fitsA_iff]
          intro u hu
          rcases fillL_mem _ _ _ hfl u (by simpa using hu) with h1 | ⟨p, hp, h2⟩
          · exact cellsOf_fits (fits_clean n z hcz) u h1
          · obtain ⟨q, hq, rfl⟩ := List.mem_map.1 hp
            exact cellsOf_fits (ev_fits hf q.2) u h2
        have hzc : clean z = true → z.cells = ((cellsOf z).map (ren σ)).toArray := fun hcz => by
          rw [cells_eq, ← cellsOf_ren, ren_clean σ z hcz]
        cases d with
        | struct fs =>
          simp only [hz, hu] at h
          cases hcz : clean z with
          | false => simp [hcz] at h
          | true =>
            simp only [hcz, cond_true] at h
            cases hpl : fs.toList.mapM (fun f => (szOf P f.type).map fun s => (f.offset, s)) with
            | none => simp [hpl] at h
            | some places =>
              simp only [hpl] at h
              cases hfl : fillL (fun i => places[i]?) (cellsOf z) (parts.toList.map fun p => (p.1, ev T p.2)) with
              | none => simp [hfl] at h
              | some cs =>
                simp only [hfl, Option.some.injEq] at h
                subst h
                refine ⟨fun w => ?_, hfit _ _ hcz hfl⟩
                have hm := run_mapM (P := P) (fun f : Field => do pure (f.offset, ← sizeOf f.type)) _ w (fun f b hb => by
                  cases hs : szOf P f.type with
                  | none => simp [hs] at hb
                  | some s => simp [hs] at hb; subst hb; simp [run_sizeOf hs]) fs places hpl
                have hfs := fillL_spec σ (fun i => places[i]?) (fun i => places.toArray[i]?) (fun i => by simp) _ _ _ hfl
                simp only [execOp, Instr.build, Sem.run_bind, run_zeroValue hz, Result.andThen_ok, run_und hu, hm, hzc hcz, parts_ev σ T parts, hfs, Sem.run_pure, ren, renA_eq]
                simp
        | array len e =>
          simp only [hz, hu] at h
          cases hcz : clean z with
          | false => simp [hcz] at h
          | true =>
            simp only [hcz, cond_true] at h
            cases hs : szOf P e with
            | none => simp [hs] at h
            | some s =>
              simp only [hs] at h
              cases hfl : fillL (fun i => some (i * s, s)) (cellsOf z) (parts.toList.map fun p => (p.1, ev T p.2)) with
              | none => simp [hfl] at h
              | some cs =>
                simp only [hfl, Option.some.injEq] at h
                subst h
                refine ⟨fun w => ?_, hfit _ _ hcz hfl⟩
                have hfs := fillL_spec σ (fun i => some (i * s, s)) (fun i => some (i * s, s)) (fun i => rfl) _ _ _ hfl
                simp only [execOp, Instr.build, Sem.run_bind, run_zeroValue hz, Result.andThen_ok, run_und hu, run_sizeOf hs, hzc hcz, parts_ev σ T parts, hfs, Sem.run_pure, ren, renA_eq]
                simp
        | _ => simp [hz, hu] at h
  case nilCheck x =>
    have hfx := ev_fits hf x
    split at h
    · rename_i a hxe
      simp only [Option.some.injEq] at h; subst h
      exact ⟨fun w => by simp [execOp, rho, hxe, ren], by rw [hxe] at hfx; exact hfx⟩
    · rename_i name first captured hxe
      split at h
      · rename_i t w0 hfirst
        cases hcw : clean w0 with
        | false => simp [hcw] at h
        | true =>
          simp only [hcw, cond_true] at h
          split at h
          · rename_i hp
            simp only [Option.some.injEq] at h; subst h
            refine ⟨fun w => ?_, by rw [hxe] at hfx; exact hfx⟩
            have hfa : first = #[.iface t w0] := Array.ext' (by simpa using hfirst)
            have hr := pureRun_run _ hp w
            have hrn : renA σ first = #[.iface t w0] := by
              rw [hfa]
              exact renA_clean σ _ (by simpa [cleanA, cleanL, clean] using hcw)
            simp [execOp, rho, hxe, ren, hrn, hr]
          · simp at h
      · simp at h
    · simp at h
  case unOp u t x =>
    cases hc : clean (ev T x) with
    | false => simp [hc] at h
    | true =>
      simp only [hc, cond_true] at h
      refine ⟨fun w => ?_, ?_⟩
      · have hr := pureRun_run _ h w
        have hcv := unary_clean h
        simp [execOp, rho, ren_clean σ _ hc, hr, ren_clean σ v hcv]
      · exact fits_clean n v (unary_clean h)
  case convert s d x =>
    split at h <;> first | (simp at h; done) | (simp only [Option.some.injEq] at h; subst h)
    · rename_i ds k k' i hs hd hxe
      exact ⟨fun w => by simp [execOp, convert, run_und hs, run_und hd, rho, hxe, ren, Conv.intToInt], rfl⟩
    · rename_i ds b hs hd hxe
      exact ⟨fun w => by simp [execOp, convert, run_und hs, run_und hd, rho, hxe, ren], rfl⟩
  case makeInterface t x =>
    split at h <;> first | (simp at h; done) | (simp only [Option.some.injEq] at h; subst h)
    rename_i d hne hd
    refine ⟨fun w => ?_, ev_fits hf x⟩
    simp only [execOp, Instr.makeInterface, Sem.run_bind, run_und hd, Result.andThen_ok]
    cases d <;> first | (simp [rho, ren]; done) | (exact (hne _ rfl).elim)
  case makeFunc fn first captured =>
    simp only [Option.some.injEq] at h; subst h
    refine ⟨fun w => ?_, ?_⟩
    · simp [execOp, Instr.makeFunc, ren, renA_eq, rho, Function.comp_def]
    · simp only [fits, Bool.and_eq_true, fitsA_iff]
      constructor <;> (intro u hu; simp at hu; obtain ⟨x, _, rfl⟩ := hu; exact ev_fits hf x)
  case fieldAddr s x f =>
    have hfx := ev_fits hf x
    split at h <;> first | (simp at h; done) | skip
    rename_i fs a hs hxe
    split at h <;> first | (simp at h; done) | skip
    rename_i fd hfd
    split at h <;> first | (simp at h; done) | skip
    rename_i q hq
    simp only [Option.some.injEq] at h; subst h
    refine ⟨fun w => ?_, ?_⟩
    · simp [execOp, Instr.fieldAt, run_und hs, hfd, rho, hxe, ren, Instr.sureAddr, fieldPlace, run_sizeOf hq, ren_addr]
    · rw [hxe] at hfx; simpa [fits, add_block] using hfx
  case field t x f =>
    have hfx := ev_fits hf x
    split at h <;> first | (simp at h; done) | skip
    rename_i fs cs hs hxe
    split at h <;> first | (simp at h; done) | skip
    rename_i fd hfd
    refine ⟨fun w => ?_, ?_⟩
    · have hp := partL_spec h σ w
      have he : renA σ cs = (cs.toList.map (ren σ)).toArray := renA_list σ cs
      simp [execOp, Instr.field, run_und hs, hfd, rho, hxe, ren, asAgg, he, hp]
    · rw [hxe] at hfx
      simp only [fits, fitsA_iff] at hfx
      exact partL_fits h hfx
  case extract t i =>
    have hfx := ev_fits hf t
    split at h <;> first | (simp at h; done) | skip
    rename_i vs hxe
    refine ⟨fun w => ?_, ?_⟩
    · have h' : vs[i]? = some v := by simpa using h
      simp [execOp, Instr.extract, rho, hxe, ren, renA_eq, h']
    · rw [hxe] at hfx
      simp only [fits, fitsA_iff] at hfx
      exact hfx v (List.mem_of_getElem? h)
  case indexAddr t x i =>
    have hfx := ev_fits hf x
    split at h <;> first | (simp at h; done) | skip
    · rename_i k j len e a hi ht hxe
      cases hc : (decide (0 ≤ j) && Nat.blt j.toNat len) with
      | false => simp [hc] at h
      | true =>
        simp only [hc, cond_true] at h
        cases hs : szOf P e with
        | none => simp [hs] at h
        | some s =>
          simp only [hs, Option.map_some, Option.some.injEq] at h; subst h
          simp only [Bool.and_eq_true, decide_eq_true_eq, Nat.blt_eq] at hc
          have hb : 0 ≤ j ∧ j < (len : Int) := ⟨hc.1, by omega⟩
          refine ⟨fun w => ?_, ?_⟩
          · simp [execOp, Instr.indexAt, rho, hi, hxe, ren, asIntOf, run_und ht, Instr.sureAddr, hb, run_sizeOf hs, ren_addr]
          · rw [hxe] at hfx; simpa [fits, add_block] using hfx
    · rename_i k j e a len cp hi ht hxe
      cases hc : (decide (0 ≤ j) && Nat.blt j.toNat len) with
      | false => simp [hc] at h
      | true =>
        simp only [hc, cond_true] at h
        cases hs : szOf P e with
        | none => simp [hs] at h
        | some s =>
          simp only [hs, Option.map_some, Option.some.injEq] at h; subst h
          simp only [Bool.and_eq_true, decide_eq_true_eq, Nat.blt_eq] at hc
          have hb : 0 ≤ j ∧ j < (len : Int) := ⟨hc.1, by omega⟩
          refine ⟨fun w => ?_, ?_⟩
          · simp [execOp, Instr.indexAt, rho, hi, hxe, ren, asIntOf, run_und ht, hb, run_sizeOf hs, ren_addr]
          · rw [hxe] at hfx; simpa [fits, add_block] using hfx
  case index t x i =>
    have hfx := ev_fits hf x
    split at h <;> first | (simp at h; done) | skip
    · rename_i k j len e cs hi ht hxe
      cases hc : (decide (0 ≤ j) && Nat.blt j.toNat len) with
      | false => simp [hc] at h
      | true =>
        simp only [hc, cond_true] at h
        cases hs : szOf P e with
        | none => simp [hs] at h
        | some s =>
          simp only [hs] at h
          simp only [Bool.and_eq_true, decide_eq_true_eq, Nat.blt_eq] at hc
          have hb : 0 ≤ j ∧ j < (len : Int) := ⟨hc.1, by omega⟩
          refine ⟨fun w => ?_, ?_⟩
          · have hp := partL_spec h σ w
            have he : renA σ cs = (cs.toList.map (ren σ)).toArray := renA_list σ cs
            simp [execOp, Instr.index, rho, hi, hxe, ren, asIntOf, run_und ht, hb, run_sizeOf hs, he, hp]
          · rw [hxe] at hfx
            simp only [fits, fitsA_iff] at hfx
            exact partL_fits h hfx
    · rename_i k j s hi ht hxe
      cases hc : decide (0 ≤ j) with
      | false => simp [hc] at h
      | true =>
        simp only [hc, cond_true] at h
        have hj : 0 ≤ j := of_decide_eq_true hc
        cases hb : s.data.toList[j.toNat]? with
        | none => simp [hb] at h
        | some b =>
          simp only [hb, Option.map_some, Option.some.injEq] at h; subst h
          have hb' : s[j.toNat]? = some b := by
            rw [← hb]
            have h1 : s.data.toList[j.toNat]? = s.data[j.toNat]? := by simp
            rw [h1]
            rfl
          exact ⟨fun w => by simp [execOp, Instr.index, rho, hi, hxe, ren, asIntOf, run_und ht, hj, hb'], rfl⟩
  case binOp op t x y t' =>
    split at h
    · rename_i a b hxe hye
      simp only [Option.some.injEq] at h; subst h
      refine ⟨fun w => ?_, rfl⟩
      simp [execOp, rho, hxe, hye, ren, guard_plain, binOp, Op.stringOp, str_same]
    · rename_i a b hxe hye
      simp only [Option.some.injEq] at h; subst h
      refine ⟨fun w => ?_, rfl⟩
      simp [execOp, rho, hxe, hye, ren, guard_plain, binOp, Op.stringOp, str_same]
    · rename_i op' k a k' b hxe hye
      refine ⟨fun w => ?_, fits_clean n v (binInt_clean h)⟩
      simp [execOp, rho, hxe, hye, ren, guard_plain, pureRun_run _ h w, ren_clean σ v (binInt_clean h)]
    · rename_i op' a b _ _ hxe hye
      refine ⟨fun w => ?_, fits_clean n v (binStr_clean h)⟩
      simp [execOp, rho, hxe, hye, ren, guard_plain, pureRun_run _ h w, ren_clean σ v (binStr_clean h)]
    · rename_i op' a b hxe hye
      cases hc : cleanA a && cleanA b with
      | false => simp [hc] at h
      | true =>
        simp only [hc, cond_true] at h
        simp only [Bool.and_eq_true] at hc
        have hr := fun w => pureRun_run _ h w
        refine ⟨fun w => ?_, fits_clean n v (binAgg_clean h)⟩
        have hr := hr w
        have e1 : rho σ T x = .agg a := by simp [rho, hxe, ren, renA_clean σ a hc.1]
        have e2 : rho σ T y = .agg b := by simp [rho, hye, ren, renA_clean σ b hc.2]
        simp only [execOp, e1, e2]
        rw [Sem.run_bind, hr, Result.andThen_ok, ren_clean σ v (binAgg_clean h)]
        rfl
    · cases hd : P.underlying t with
      | none => simp [hd] at h
      | some d =>
        simp only [hd] at h
        cases hq : eqNil d (ev T x) (ev T y) with
        | none => simp [hq] at h
        | some q =>
          simp only [hq, Option.map_some, Option.some.injEq] at h; subst h
          refine ⟨fun w => ?_, rfl⟩
          obtain ⟨h1, h2, h3⟩ := eqNil_guard (P := P) hq σ t .eql x y w
          have h4 := eqNil_spec hq σ t hd w
          simp [execOp, rho, h1, h2, h4, ren]
    · cases hd : P.underlying t with
      | none => simp [hd] at h
      | some d =>
        simp only [hd] at h
        cases hq : eqNil d (ev T x) (ev T y) with
        | none => simp [hq] at h
        | some q =>
          simp only [hq, Option.map_some, Option.some.injEq] at h; subst h
          refine ⟨fun w => ?_, rfl⟩
          obtain ⟨h1, h2, h3⟩ := eqNil_guard (P := P) hq σ t .neq x y w
          have h4 := eqNil_spec hq σ t hd w
          simp [execOp, rho, h1, h3, h4, ren]
    · simp at h
  case slice t x lo hi mx =>
    have hfx := ev_fits hf x
    split at h <;> first | (simp at h; done) | skip
    · rename_i s ht hxe
      cases mx with
      | some m => simp at h
      | none =>
        split at h <;> first | (simp at h; done) | skip
        rename_i l h1 m _ hs
        simp only [Option.some.injEq] at h; subst h
        refine ⟨fun w => ?_, rfl⟩
        have hb := (sliceB_spec (P := P) hs σ w false).1
        simp only [Option.map_none] at hb
        simp [execOp, Instr.sliceAt, run_und ht, rho, hxe, ren, Instr.slice]
        simp only [map_ev, hb, Result.andThen_ok]
    · rename_i e len cap ht hxe
      split at h <;> first | (simp at h; done) | skip
      rename_i q l h1 m hs hb0
      simp only [Option.some.injEq] at h; subst h
      refine ⟨fun w => ?_, rfl⟩
      have hb := (sliceB_spec (P := P) hb0 σ w true).1
      simp [execOp, Instr.sliceAt, run_und ht, rho, hxe, ren, Instr.slice]
      simp only [map_ev, hb, Result.andThen_ok, run_sizeOf hs]
    · rename_i e a len cap ht hxe
      rw [hxe] at hfx
      split at h <;> first | (simp at h; done) | skip
      · rename_i s l h1 m c1 t1 o1 hs hb0 hg
        simp only [Option.some.injEq] at h; subst h
        have hx0 := hx _ _ _ _ hg
        refine ⟨fun w => ?_, ?_⟩
        · have hb := (sliceB_spec (P := P) hb0 σ w true).1
          simp [execOp, Instr.sliceAt, run_und ht, rho, hxe, ren, Instr.slice]
          simp only [map_ev, hx0, Nat.add_zero, hb, Result.andThen_ok, run_sizeOf hs]
          by_cases hml : m = l
          · simp [hml, hx0]
          · have e1 : (m == l) = false := by simpa using hml
            simp [hml, e1, ren_addr, add_block, hx0]
        · by_cases hml : m = l
          · simpa [fits, hml] using hfx
          · have e1 : (m == l) = false := by simpa using hml
            simpa [fits, e1, add_block] using hfx
      · rename_i s l h1 m c1 t1 o1 hs hb0 hg
        cases mx with
        | some u => simp at h
        | none =>
          simp only at h
          cases hlm : Nat.blt l m with
          | false => simp [hlm] at h
          | true =>
            simp only [hlm, cond_true, Option.some.injEq] at h; subst h
            have hlt : l < m := by simpa [Nat.blt_eq] using hlm
            obtain ⟨rfl, hb1⟩ := sliceB_ext (x := σ.x a.block) hb0
            refine ⟨fun w => ?_, ?_⟩
            · have hb := (sliceB_spec (P := P) hb1 σ w true).1
              simp only [Option.map_none] at hb
              simp [execOp, Instr.sliceAt, run_und ht, rho, hxe, ren, Instr.slice]
              simp only [map_ev, hb, Result.andThen_ok, run_sizeOf hs]
              have hne : ¬ (m + σ.x a.block = l) := by omega
              have he : m + σ.x a.block - l = m - l + σ.x a.block := by omega
              simp [hne, he, ren_addr, add_block]
            · simpa [fits, add_block] using hfx
  case typeAssert x xt asserted ok =>
    have hfx := ev_fits hf x
    split at h
    · rename_i want t v0 ha hxe
      rw [hxe] at hfx
      split at h
      · rename_i i hi
        cases hall : want.toList.all (fun p => i.methods.any fun m => m.name == p.1 && m.sig == p.2) with
        | false => simp [hall] at h
        | true =>
          simp only [hall, cond_true, Option.some.injEq] at h
          have hm := missing_none hall
          subst h
          cases ok with
          | true => exact ⟨fun w => by simp [execOp, Instr.typeAssert, run_und ha, rho, hxe, ren, typeInfo, hi, hm, renA, renL], by simpa [fits, fitsA, fitsL] using hfx⟩
          | false => exact ⟨fun w => by simp [execOp, Instr.typeAssert, run_und ha, rho, hxe, ren, typeInfo, hi, hm], by simpa [fits] using hfx⟩
      · simp at h
    · simp at h
    · rename_i d t v0 hne ha hxe
      rw [hxe] at hfx
      cases hta : t == asserted with
      | false => simp [hta] at h
      | true =>
        simp only [hta, cond_true, Option.some.injEq] at h
        have hta' : t = asserted := by simpa using hta
        subst h
        have key : ∀ w, (execOp (rho σ T) ⟨dst, .typeAssert x xt asserted ok, type, pos, after, guard⟩).run P w = .ok (.value (if ok then .tuple #[ren σ v0, .bool true] else ren σ v0)) w := fun w => by
          simp only [execOp, Instr.typeAssert, Sem.run_bind, run_und ha, Result.andThen_ok, rho, hxe, ren]
          cases d <;> first | (simp [hta']; done) | (simp [hta']; rfl) | (exact (hne _ rfl).elim)
        cases ok with
        | true => exact ⟨fun w => by rw [key w]; simp [ren, renA, renL], by simpa [fits, fitsA, fitsL] using hfx⟩
        | false => exact ⟨fun w => by rw [key w]; simp, by simpa [fits] using hfx⟩
    · simp at h
  case call c =>
    have ha := args_ev σ T c.args
    split at h
    · rename_i hc
      have hat : ∀ (d : TypeDesc), (c.argTypes[0]?).bind (P.underlying ·) = some d → ∃ t, c.argTypes[0]? = some t ∧ P.underlying t = some d := fun d hd => by
        cases ht : c.argTypes[0]? with
        | none => simp [ht] at hd
        | some t => exact ⟨t, rfl, by simpa [ht] using hd⟩
      split at h <;> first | (simp at h; done) | (simp only [Option.some.injEq] at h; subst h)
      · rename_i el a0 m0 c0 hd hargs
        obtain ⟨a', c', he⟩ := ren_slice σ a0 m0 c0
        refine ⟨fun w => ?_, rfl⟩
        obtain ⟨t, h1, h2⟩ := hat _ hd
        rw [hargs] at ha
        simp [execOp, resolve, hc, invoke, builtin, ha, Builtin.len_, h1, run_und h2, he, goInt, ren]
      all_goals
        refine ⟨fun w => ?_, rfl⟩
        rename_i hd hargs
        obtain ⟨t, h1, h2⟩ := hat _ hd
        rw [hargs] at ha
        simp [execOp, resolve, hc, invoke, builtin, ha, Builtin.len_, h1, run_und h2, ren, goInt]
    · rename_i hc
      cases hcl : cleanL (c.args.toList.map (ev T)) with
      | false => simp [hcl] at h
      | true =>
        simp only [hcl, cond_true] at h
        rw [← renL_eq, renL_clean σ _ hcl] at ha
        have hv := max_clean (by simpa using hcl) h
        exact ⟨fun w => by simp [execOp, resolve, hc, invoke, builtin, ha, pureRun_run _ h w, ren_clean σ v hv], fits_clean n v hv⟩
    · rename_i hc
      cases hcl : cleanL (c.args.toList.map (ev T)) with
      | false => simp [hcl] at h
      | true =>
        simp only [hcl, cond_true] at h
        rw [← renL_eq, renL_clean σ _ hcl] at ha
        have hv := min_clean (by simpa using hcl) h
        exact ⟨fun w => by simp [execOp, resolve, hc, invoke, builtin, ha, pureRun_run _ h w, ren_clean σ v hv], fits_clean n v hv⟩
    · simp at h
end Go.Proofs.Ytmmnjphmiijbcaa.sx
