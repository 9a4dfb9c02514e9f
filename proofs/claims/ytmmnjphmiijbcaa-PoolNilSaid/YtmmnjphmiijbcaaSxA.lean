/- A symbolic machine: values whose blocks bear numbers of our own, and what they stand for. -/
import Derived.Orders
import Derived.OrdersHeld
import Derived.Below
import Derived.LoopN
import Derived.Laws.AppendOwn
import Derived.Laws.Sem
import Derived.Deep.AppendSrc
import Derived.Laws.CopyRow
import Derived.Laws.Rows
namespace Go.Proofs.Ytmmnjphmiijbcaa.sx
set_option linter.unusedVariables false

/- a map from numbers, as a tree -/
inductive Tr (α : Type) where
  | lf
  | nd (l : Tr α) (v : Option α) (r : Tr α)
def Tr.get {α : Type} : Tr α → Nat → Option α
  | .lf, _ => none
  | .nd l v r, i => bif i == 0 then v else bif i % 2 == 1 then l.get (i / 2) else r.get (i / 2 - 1)
def Tr.setF {α : Type} (x : Option α) : Nat → Tr α → Nat → Tr α
  | 0, t, _ => t
  | f + 1, .lf, i => bif i == 0 then .nd .lf x .lf else bif i % 2 == 1 then .nd (Tr.setF x f .lf (i / 2)) none .lf else .nd .lf none (Tr.setF x f .lf (i / 2 - 1))
  | f + 1, .nd l v r, i => bif i == 0 then .nd l x r else bif i % 2 == 1 then .nd (Tr.setF x f l (i / 2)) v r else .nd l v (Tr.setF x f r (i / 2 - 1))
def Tr.set {α : Type} (t : Tr α) (i : Nat) (x : Option α) : Tr α := Tr.setF x (Nat.log2 (i + 1) + 1) t i

theorem Tr.get_lf {α : Type} (i : Nat) : (Tr.lf : Tr α).get i = none := rfl
theorem Tr.get_setF {α : Type} (x : Option α) : ∀ (f : Nat) (t : Tr α) (i j : Nat), i + 1 < 2 ^ f → (Tr.setF x f t i).get j = if j = i then x else t.get j
  | 0, t, i, j, h => by simp at h
  | f + 1, t, i, j, h => by
    have hp : 2 ^ (f + 1) = 2 * 2 ^ f := by rw [Nat.pow_succ, Nat.mul_comm]
    have main : ∀ (l : Tr α) (v : Option α) (r : Tr α), (bif i == 0 then Tr.nd l x r else bif i % 2 == 1 then .nd (Tr.setF x f l (i / 2)) v r else .nd l v (Tr.setF x f r (i / 2 - 1))).get j = if j = i then x else (Tr.nd l v r).get j := by
      intro l v r
      by_cases h0 : i = 0
      · subst h0
        by_cases hj : j = 0
        · subst hj; simp [Tr.get]
        · have e3 : (j == 0) = false := by simp [hj]
          simp [Tr.get, hj, e3]
      · by_cases h1 : i % 2 = 1
        · have e1 : (i == 0) = false := by simp [h0]
          have e2 : (i % 2 == 1) = true := by simp [h1]
          simp only [e1, e2, cond_false, cond_true, Tr.get]
          by_cases hj : j = 0
          · subst hj; simp [Ne.symm h0]
          · by_cases hj1 : j % 2 = 1
            · have e3 : (j == 0) = false := by simp [hj]
              have e4 : (j % 2 == 1) = true := by simp [hj1]
              simp only [e3, e4, cond_false, cond_true]
              rw [Tr.get_setF x f l (i / 2) (j / 2) (by omega)]
              by_cases hij : j = i
              · subst hij; simp
              · have : j / 2 ≠ i / 2 := by omega
                simp [hij, this]
            · have e3 : (j == 0) = false := by simp [hj]
              have e4 : (j % 2 == 1) = false := by simp; omega
              have : j ≠ i := by intro e; rw [e] at hj1; exact hj1 h1
              simp only [e3, e4, cond_false, this, if_false]
        · have e1 : (i == 0) = false := by simp [h0]
          have e2 : (i % 2 == 1) = false := by simp; omega
          simp only [e1, e2, cond_false, Tr.get]
          by_cases hj : j = 0
          · subst hj; simp [Ne.symm h0]
          · by_cases hj1 : j % 2 = 1
            · have e3 : (j == 0) = false := by simp [hj]
              have e4 : (j % 2 == 1) = true := by simp [hj1]
              have : j ≠ i := by intro e; rw [e] at hj1; exact h1 hj1
              simp only [e3, e4, cond_false, cond_true, this, if_false]
            · have e3 : (j == 0) = false := by simp [hj]
              have e4 : (j % 2 == 1) = false := by simp; omega
              simp only [e3, e4, cond_false]
              rw [Tr.get_setF x f r (i / 2 - 1) (j / 2 - 1) (by omega)]
              by_cases hij : j = i
              · subst hij; simp
              · have : j / 2 - 1 ≠ i / 2 - 1 := by omega
                simp [hij, this]
    cases t with
    | lf =>
      have := main .lf none .lf
      simp only [Tr.setF]
      rw [this]
      simp [Tr.get]
    | nd l v r => simp only [Tr.setF]; exact main l v r
theorem Tr.get_set {α : Type} (t : Tr α) (i : Nat) (x : Option α) (j : Nat) : (t.set i x).get j = if j = i then x else t.get j :=
  Tr.get_setF x _ t i j (by have := Nat.lt_log2_self (n := i + 1); omega)

inductive VO where
  | cells (cs : List Value) (t : TypeId) (loose own : Bool)
  | map (es : List MapEntry) (clock : Nat)
abbrev TV := Tr Value
abbrev HV := Tr VO

/- what our blocks stand for: a block, and how much more a slice in it may grow -/
structure Sg where
  b : Nat → Nat
  x : Nat → Nat

def Sg.addr (σ : Sg) : Addr → Addr
  | ⟨k, off, s⟩ => ⟨σ.b k, off, s⟩

mutual
def ren (σ : Sg) : Value → Value
  | .pointer (some a) => .pointer (some (σ.addr a))
  | .slice (some a) n c => .slice (some (σ.addr a)) n (c + σ.x a.block)
  | .map (some r) => .map (some (σ.b r))
  | .func fn first captured => .func fn (renA σ first) (renA σ captured)
  | .iface t v => .iface t (ren σ v)
  | .agg cs => .agg (renA σ cs)
  | .tuple cs => .tuple (renA σ cs)
  | v => v
def renA (σ : Sg) : Array Value → Array Value
  | ⟨l⟩ => ⟨renL σ l⟩
def renL (σ : Sg) : List Value → List Value
  | [] => []
  | v :: r => ren σ v :: renL σ r
end
theorem renL_eq (σ : Sg) : ∀ l, renL σ l = l.map (ren σ)
  | [] => rfl
  | v :: r => by simp [renL, renL_eq σ r]
theorem renA_eq (σ : Sg) (a : Array Value) : renA σ a = a.map (ren σ) := by
  cases a with | mk l => simp [renA, renL_eq]

/- a block number that may stand in a value: one of a package's variables, or one made so far -/
def okN (n k : Nat) : Bool := k % 2 == 0 || Nat.blt k n
mutual
def fits (n : Nat) : Value → Bool
  | .pointer (some a) => okN n a.block
  | .slice (some a) _ _ => okN n a.block
  | .map (some r) => okN n r
  | .func _ first captured => fitsA n first && fitsA n captured
  | .iface _ v => fits n v
  | .agg cs => fitsA n cs
  | .tuple cs => fitsA n cs
  | _ => true
def fitsA (n : Nat) : Array Value → Bool
  | ⟨l⟩ => fitsL n l
def fitsL (n : Nat) : List Value → Bool
  | [] => true
  | v :: r => fits n v && fitsL n r
end
theorem fitsL_iff (n : Nat) : ∀ l, fitsL n l = true ↔ ∀ v ∈ l, fits n v = true
  | [] => by simp [fitsL]
  | v :: r => by simp [fitsL, fitsL_iff n r]
theorem fitsA_iff (n : Nat) (a : Array Value) : fitsA n a = true ↔ ∀ v ∈ a.toList, fits n v = true := by
  cases a with | mk l => simp [fitsA, fitsL_iff]
mutual
/- no address in it -/
def clean : Value → Bool
  | .bool _ | .int _ _ | .float _ _ | .complex _ _ _ | .string _ | .pointer none | .slice none _ _ | .map none | .chan _ | .nilFunc | .nilIface => true
  | .iface _ v => clean v
  | .agg cs => cleanA cs
  | .tuple cs => cleanA cs
  | _ => false
def cleanA : Array Value → Bool
  | ⟨l⟩ => cleanL l
def cleanL : List Value → Bool
  | [] => true
  | v :: r => clean v && cleanL r
end
mutual
theorem ren_clean (σ : Sg) : ∀ v, clean v = true → ren σ v = v
  | .bool _, _ | .int _ _, _ | .float _ _, _ | .complex _ _ _, _ | .string _, _ | .pointer none, _ | .slice none _ _, _ | .map none, _ | .chan _, _ | .nilFunc, _ | .nilIface, _ => rfl
  | .iface t v, h => by simp only [ren]; rw [ren_clean σ v (by simpa [clean] using h)]
  | .agg cs, h => by simp only [ren]; rw [renA_clean σ cs (by simpa [clean] using h)]
  | .tuple cs, h => by simp only [ren]; rw [renA_clean σ cs (by simpa [clean] using h)]
  | .pointer (some _), h | .slice (some _) _ _, h | .map (some _), h | .func _ _ _, h => by simp [clean] at h
theorem renA_clean (σ : Sg) : ∀ a, cleanA a = true → renA σ a = a
  | ⟨l⟩, h => by simp only [renA]; rw [renL_clean σ l (by simpa [cleanA] using h)]
theorem renL_clean (σ : Sg) : ∀ l, cleanL l = true → renL σ l = l
  | [], _ => rfl
  | v :: r, h => by
    simp only [cleanL, Bool.and_eq_true] at h
    simp only [renL]; rw [ren_clean σ v h.1, renL_clean σ r h.2]
end
mutual
theorem fits_clean (n : Nat) : ∀ v, clean v = true → fits n v = true
  | .bool _, _ | .int _ _, _ | .float _ _, _ | .complex _ _ _, _ | .string _, _ | .pointer none, _ | .slice none _ _, _ | .map none, _ | .chan _, _ | .nilFunc, _ | .nilIface, _ => rfl
  | .iface t v, h => by simp only [fits]; exact fits_clean n v (by simpa [clean] using h)
  | .agg cs, h => by simp only [fits]; exact fitsA_clean n cs (by simpa [clean] using h)
  | .tuple cs, h => by simp only [fits]; exact fitsA_clean n cs (by simpa [clean] using h)
  | .pointer (some _), h | .slice (some _) _ _, h | .map (some _), h | .func _ _ _, h => by simp [clean] at h
theorem fitsA_clean (n : Nat) : ∀ a, cleanA a = true → fitsA n a = true
  | ⟨l⟩, h => by simp only [fitsA]; exact fitsL_clean n l (by simpa [cleanA] using h)
theorem fitsL_clean (n : Nat) : ∀ l, cleanL l = true → fitsL n l = true
  | [], _ => rfl
  | v :: r, h => by
    simp only [cleanL, Bool.and_eq_true] at h
    simp only [fitsL, Bool.and_eq_true]; exact ⟨fits_clean n v h.1, fitsL_clean n r h.2⟩
end

/- two readings that agree on all blocks that were made -/
def Agree (n : Nat) (σ τ : Sg) : Prop := ∀ k, okN n k = true → τ.b k = σ.b k ∧ τ.x k = σ.x k
theorem Agree.refl (n : Nat) (σ : Sg) : Agree n σ σ := fun _ _ => ⟨rfl, rfl⟩
theorem okN_mono {n m k : Nat} (h : okN n k = true) (hm : n ≤ m) : okN m k = true := by
  simp only [okN, Bool.or_eq_true, Nat.blt_eq] at h ⊢
  rcases h with h | h
  · exact .inl h
  · exact .inr (by omega)
theorem Agree.trans {n m : Nat} {σ τ υ : Sg} (h : Agree n σ τ) (h' : Agree m τ υ) (hm : n ≤ m) : Agree n σ υ := fun k hk => by
  obtain ⟨a, b⟩ := h k hk
  obtain ⟨d, e⟩ := h' k (okN_mono hk hm)
  exact ⟨d.trans a, e.trans b⟩
mutual
theorem ren_agree {n : Nat} {σ τ : Sg} (h : Agree n σ τ) : ∀ v, fits n v = true → ren τ v = ren σ v
  | .pointer (some ⟨k, off, s⟩), hv => by obtain ⟨a, b⟩ := h k (by simpa [fits] using hv); simp [ren, Sg.addr, a]
  | .slice (some ⟨k, off, s⟩) _ _, hv => by obtain ⟨a, b⟩ := h k (by simpa [fits] using hv); simp [ren, Sg.addr, a, b]
  | .map (some r), hv => by obtain ⟨a, b⟩ := h r (by simpa [fits] using hv); simp [ren, a]
  | .func fn a b, hv => by simp only [fits, Bool.and_eq_true] at hv; simp only [ren]; rw [renA_agree h a hv.1, renA_agree h b hv.2]
  | .iface t v, hv => by simp only [ren]; rw [ren_agree h v (by simpa [fits] using hv)]
  | .agg cs, hv => by simp only [ren]; rw [renA_agree h cs (by simpa [fits] using hv)]
  | .tuple cs, hv => by simp only [ren]; rw [renA_agree h cs (by simpa [fits] using hv)]
  | .bool _, _ | .int _ _, _ | .float _ _, _ | .complex _ _ _, _ | .string _, _ | .pointer none, _ | .slice none _ _, _ | .map none, _ | .chan _, _ | .nilFunc, _ | .nilIface, _ => rfl
theorem renA_agree {n : Nat} {σ τ : Sg} (h : Agree n σ τ) : ∀ a, fitsA n a = true → renA τ a = renA σ a
  | ⟨l⟩, hl => by simp only [renA]; rw [renL_agree h l (by simpa [fitsA] using hl)]
theorem renL_agree {n : Nat} {σ τ : Sg} (h : Agree n σ τ) : ∀ l, fitsL n l = true → renL τ l = renL σ l
  | [], _ => rfl
  | v :: r, hv => by
    simp only [fitsL, Bool.and_eq_true] at hv
    simp only [renL]; rw [ren_agree h v hv.1, renL_agree h r hv.2]
end
mutual
theorem fits_mono {n m : Nat} (h : n ≤ m) : ∀ v, fits n v = true → fits m v = true
  | .pointer (some ⟨k, off, s⟩), hv => by simp only [fits] at hv ⊢; exact okN_mono hv h
  | .slice (some ⟨k, off, s⟩) _ _, hv => by simp only [fits] at hv ⊢; exact okN_mono hv h
  | .map (some r), hv => by simp only [fits] at hv ⊢; exact okN_mono hv h
  | .func fn a b, hv => by simp only [fits, Bool.and_eq_true] at hv ⊢; exact ⟨fitsA_mono h a hv.1, fitsA_mono h b hv.2⟩
  | .iface t v, hv => by simp only [fits] at hv ⊢; exact fits_mono h v hv
  | .agg cs, hv => by simp only [fits] at hv ⊢; exact fitsA_mono h cs hv
  | .tuple cs, hv => by simp only [fits] at hv ⊢; exact fitsA_mono h cs hv
  | .bool _, _ | .int _ _, _ | .float _ _, _ | .complex _ _ _, _ | .string _, _ | .pointer none, _ | .slice none _ _, _ | .map none, _ | .chan _, _ | .nilFunc, _ | .nilIface, _ => rfl
theorem fitsA_mono {n m : Nat} (h : n ≤ m) : ∀ a, fitsA n a = true → fitsA m a = true
  | ⟨l⟩, hl => by simp only [fitsA] at hl ⊢; exact fitsL_mono h l hl
theorem fitsL_mono {n m : Nat} (h : n ≤ m) : ∀ l, fitsL n l = true → fitsL m l = true
  | [], _ => rfl
  | v :: r, hv => by
    simp only [fitsL, Bool.and_eq_true] at hv ⊢
    exact ⟨fits_mono h v hv.1, fitsL_mono h r hv.2⟩
end
end Go.Proofs.Ytmmnjphmiijbcaa.sx
