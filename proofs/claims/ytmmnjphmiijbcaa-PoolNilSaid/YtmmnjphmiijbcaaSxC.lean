/- What an operation of the symbolic machine says of the model's own: those that look at no memory. -/
import Derived.Test.YtmmnjphmiijbcaaSxB
namespace Go.Proofs.Ytmmnjphmiijbcaa.sx
set_option linter.unusedVariables false

def rho (σ : Sg) (T : TV) (x : Operand) : Value := ren σ (ev T x)
def fitsT (n : Nat) (T : TV) : Prop := ∀ t v, T.get t = some v → fits n v = true

theorem ev_fits {n : Nat} {T : TV} (h : fitsT n T) (x : Operand) : fits n (ev T x) = true := by
  cases x with
  | tmp t =>
    simp only [ev]
    cases ht : T.get t with
    | none => rfl
    | some v => exact h t v ht
  | const v =>
    simp only [ev]
    cases hc : clean v with
    | true => exact fits_clean n v hc
    | false => rfl
  | global g => simp [ev, fits, okN]
  | func f => rfl

variable {P : Program}
theorem pureRun_run {α : Type} {a : α} : ∀ (s : Sem α), pureRun P s = some a → ∀ w, s.run P w = .ok a w
  | .pure b, h, w => by simp only [pureRun, Option.some.injEq] at h; subst h; rfl
  | .program k, h, w => by simp only [Sem.run]; exact pureRun_run (k P) h w
  | .load .., h, _ | .store .., h, _ | .new .., h, _ | .shape .., h, _ | .freeze .., h, _ | .frozen .., h, _ | .getObj .., h, _ | .setObj .., h, _ | .choose .., h, _ | .sys .., h, _ | .mark .., h, _ | .halt .., h, _ => by simp [pureRun] at h

theorem eqBytes_iff : ∀ a b, eqBytes a b = true ↔ a = b
  | [], [] => by simp [eqBytes]
  | [], _ :: _ => by simp [eqBytes]
  | _ :: _, [] => by simp [eqBytes]
  | a :: x, b :: y => by
    by_cases h : a.toNat = b.toNat
    · have e : (a.toNat == b.toNat) = true := by simpa using h
      have ha : a = b := UInt8.toNat_inj.1 h
      subst ha
      have e' : (a.toNat == a.toNat) = true := by simp
      simp only [eqBytes, e', cond_true, eqBytes_iff x y, List.cons.injEq, true_and]
    · have e : (a.toNat == b.toNat) = false := by simpa using h
      have ha : a ≠ b := fun q => h (by rw [q])
      simp [eqBytes, e, ha]

theorem ren_oneCell (σ : Sg) (v : Value) : (ren σ v).oneCell' = v.oneCell' := by
  cases v with
  | pointer a => cases a <;> rfl
  | slice a n c => cases a <;> rfl
  | map r => cases r <;> rfl
  | _ => rfl
theorem cellsOf_ren (σ : Sg) (v : Value) : cellsOf (ren σ v) = (cellsOf v).map (ren σ) := by
  cases v with
  | pointer a => cases a <;> rfl
  | slice a n c => cases a <;> rfl
  | map r => cases r <;> rfl
  | agg cs => simp [cellsOf, ren, renA_eq]
  | _ => rfl
theorem cells_eq (v : Value) : v.cells = (cellsOf v).toArray := by cases v <;> simp [Value.cells, cellsOf]

theorem szOf_info {t : TypeId} {s : Nat} (h : szOf P t = some s) : ∃ i, P.info? t = some i ∧ i.size = s := by
  unfold szOf at h
  cases hi : P.info? t with
  | none => simp [hi] at h
  | some i => exact ⟨i, rfl, by simpa [hi] using h⟩
theorem run_sizeOf {t : TypeId} {s : Nat} (h : szOf P t = some s) (w : World) : (sizeOf t).run P w = .ok s w := by
  obtain ⟨i, hi, rfl⟩ := szOf_info h
  simp [sizeOf, typeInfo, hi]
theorem run_zeroValue {t : TypeId} {z : Value} (h : zeroOf P t = some z) (w : World) : (zeroValue t).run P w = .ok z w := by
  unfold zeroOf at h
  cases hi : P.info? t with
  | none => simp [hi] at h
  | some i =>
    have hz : i.zero = some z := by simpa [hi] using h
    simp [zeroValue, typeInfo, hi, hz]
theorem run_und {t : TypeId} {d : TypeDesc} (h : P.underlying t = some d) (w : World) : (underlying t).run P w = .ok d w := run_underlying h w
theorem run_isAgg {t : TypeId} {d : TypeDesc} (h : P.underlying t = some d) (w : World) : (isAgg t).run P w = .ok (aggT d) w := by
  unfold isAgg
  rw [Sem.run_bind, run_underlying h w]
  cases d <;> rfl

theorem partL_spec {t : TypeId} {cs : List Value} {off : Nat} {v : Value} (h : partL P t cs off = some v) (σ : Sg) (w : World) :
    (part t (cs.map (ren σ)).toArray off).run P w = .ok (ren σ v) w := by
  unfold partL at h
  cases hs : szOf P t with
  | none => simp [hs] at h
  | some s =>
    cases hu : P.underlying t with
    | none => simp [hs, hu] at h
    | some d =>
      simp only [hs, hu] at h
      cases hd : aggT d with
      | true =>
        simp only [hd, cond_true] at h
        cases hl : Nat.ble (off + s) cs.length with
        | false => simp [hl] at h
        | true =>
          simp only [hl, cond_true, Option.some.injEq] at h
          subst h
          simp only [part, Sem.run_bind, run_isAgg hu, Result.andThen_ok, hd, if_true, run_sizeOf hs, Sem.run_pure, ren, renA_eq]
          congr 3
          simp [List.map_take, List.map_drop]
      | false =>
        simp only [hd, cond_false] at h
        simp only [part, Sem.run_bind, run_isAgg hu, Result.andThen_ok, hd]
        simp [h]
theorem partL_fits {t : TypeId} {cs : List Value} {off : Nat} {v : Value} (h : partL P t cs off = some v) {n : Nat} (hf : ∀ u ∈ cs, fits n u = true) : fits n v = true := by
  unfold partL at h
  cases hs : szOf P t with
  | none => simp [hs] at h
  | some s =>
    cases hu : P.underlying t with
    | none => simp [hs, hu] at h
    | some d =>
      simp only [hs, hu] at h
      cases hd : aggT d with
      | true =>
        simp only [hd, cond_true] at h
        cases hl : Nat.ble (off + s) cs.length with
        | false => simp [hl] at h
        | true =>
          simp only [hl, cond_true, Option.some.injEq] at h
          subst h
          simp only [fits, fitsA_iff]
          intro u hu
          exact hf u (List.mem_of_mem_drop (List.mem_of_mem_take (by simpa using hu)))
      | false =>
        simp only [hd, cond_false] at h
        exact hf v (List.mem_of_getElem? h)

theorem spliceL_spec {cs new cs' : List Value} {off : Nat} (h : spliceL cs off new = some cs') : off + new.length ≤ cs.length ∧ cs' = cs.take off ++ new ++ cs.drop (off + new.length) := by
  unfold spliceL at h
  cases hb : Nat.ble (off + new.length) cs.length with
  | false => simp [hb] at h
  | true =>
    simp only [hb, cond_true, Option.some.injEq] at h
    exact ⟨Nat.le_of_ble_eq_true hb, h.symm⟩
theorem spliceL_mem {cs new cs' : List Value} {off : Nat} (h : spliceL cs off new = some cs') {u : Value} (hu : u ∈ cs') : u ∈ cs ∨ u ∈ new := by
  obtain ⟨_, rfl⟩ := spliceL_spec h
  simp only [List.mem_append] at hu
  rcases hu with (hu | hu) | hu
  · exact .inl (List.mem_of_mem_take hu)
  · exact .inr hu
  · exact .inl (List.mem_of_mem_drop hu)
theorem spliceL_len {cs new cs' : List Value} {off : Nat} (h : spliceL cs off new = some cs') : cs'.length = cs.length := by
  obtain ⟨hl, rfl⟩ := spliceL_spec h
  simp; omega
theorem foldl_set (new : List Value) : ∀ (cs : Array Value) (off i : Nat), off + i + new.length ≤ cs.size →
    ((new.zipIdx i).foldl (fun cs (p : Value × Nat) => cs.setIfInBounds (off + p.2) p.1) cs).toList = cs.toList.take (off + i) ++ new ++ cs.toList.drop (off + i + new.length) := by
  induction new with
  | nil => intro cs off i h; simp
  | cons v r ih =>
    intro cs off i h
    simp only [List.zipIdx_cons, List.foldl_cons]
    rw [ih _ off (i + 1) (by simp at h ⊢; omega)]
    simp only [List.length_cons] at h
    simp only [Array.toList_setIfInBounds, List.length_cons]
    have hlt : off + i < cs.toList.length := by simp; omega
    rw [List.take_set, List.drop_set_of_lt (by omega)]
    have e : off + (i + 1) = off + i + 1 := by omega
    rw [e, List.take_succ_eq_append_getElem (by simpa using hlt), List.set_append_right _ _ (by simp; omega)]
    simp
    have e3 : off + i - min (off + i) cs.size = 0 := by simp at hlt; omega
    have e2 : off + i + 1 + r.length = off + i + (r.length + 1) := by omega
    simp [e3, e2]
end Go.Proofs.Ytmmnjphmiijbcaa.sx
