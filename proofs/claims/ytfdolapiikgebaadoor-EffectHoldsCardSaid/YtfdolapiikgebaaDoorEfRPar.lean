/- The search through all effects: what the reference's Parse returns (the mathematics). -/
import Derived.Test.YtfdolapiikgebaaDoorEfRTextZ
import Derived.Test.YtfdolapiikgebaaDoorEfParseZ
import Derived.Test.YtfdolapiikgebaaDoorEfRVal
namespace Go.Proofs.YtfdolapiikgebaaDoor.efFn
open Go.ChangeShapes Go.WideShapes Go.ChangeAt Go.RowKit drMem
set_option linter.unusedVariables false

def n1 (l : List UInt8) (c : Int) : Prop := ∀ e : Ef, e.ok = true → e.c < c → textE e ≠ l
def n2 (l : List UInt8) (c t : Int) : Prop := ∀ e : Ef, e.ok = true → e.c = c → e.t < t → textE e ≠ l
def n3 (l : List UInt8) (c t n : Int) : Prop := ∀ e : Ef, e.ok = true → e.c = c → e.t = t → e.n < n → textE e ≠ l
def n4 (l : List UInt8) (c t n m : Int) : Prop := ∀ e : Ef, e.ok = true → e.c = c → e.t = t → e.n = n → e.m < m → textE e ≠ l
def n5 (l : List UInt8) (c t n m k : Int) : Prop := ∀ e : Ef, e.ok = true → e.c = c → e.t = t → e.n = n → e.m = m → e.k < k → textE e ≠ l
theorem n1_0 (l : List UInt8) : n1 l 1 := fun e h hc => by have := (ok_bd h).c0; omega
theorem n2_0 (l : List UInt8) (c : Int) : n2 l c 0 := fun e h _ ht => by have := (ok_bd h).t0; omega
theorem n3_0 (l : List UInt8) (c t : Int) : n3 l c t 0 := fun e h _ _ hn => by have := (ok_bd h).n0; omega
theorem n4_0 (l : List UInt8) (c t n : Int) : n4 l c t n 0 := fun e h _ _ _ hn => by have := (ok_bd h).m0; omega
theorem n5_0 (l : List UInt8) (c t n m : Int) : n5 l c t n m 0 := fun e h _ _ _ _ hn => by have := (ok_bd h).k0; omega
theorem n5_succ {l : List UInt8} {c t n m k : Int} (h : n5 l c t n m k) (hx : okE c t n m k = true → textE ⟨c, t, n, m, k⟩ ≠ l) : n5 l c t n m (k + 1) := fun e he hc ht hn hm hk => by
  by_cases hk2 : e.k < k
  · exact h e he hc ht hn hm hk2
  · obtain ⟨c', t', n', m', k'⟩ := e
    dsimp only at hc ht hn hm hk hk2
    obtain rfl : k' = k := by omega
    subst hc ht hn hm
    exact hx he
theorem n4_succ {l : List UInt8} {c t n m : Int} (h : n4 l c t n m) (hx : n5 l c t n m 4) : n4 l c t n (m + 1) := fun e he hc ht hn hm => by
  by_cases hk2 : e.m < m
  · exact h e he hc ht hn hk2
  · exact hx e he hc ht hn (by omega) (by have := (ok_bd he).k1; omega)
theorem n3_succ {l : List UInt8} {c t n : Int} (h : n3 l c t n) (hx : n4 l c t n 10) : n3 l c t (n + 1) := fun e he hc ht hn => by
  by_cases hk2 : e.n < n
  · exact h e he hc ht hk2
  · exact hx e he hc ht (by omega) (by have := (ok_bd he).m1; omega)
theorem n2_succ {l : List UInt8} {c t : Int} (h : n2 l c t) (hx : n3 l c t 100) : n2 l c (t + 1) := fun e he hc ht => by
  by_cases hk2 : e.t < t
  · exact h e he hc hk2
  · exact hx e he hc (by omega) (by have := (ok_bd he).n1; omega)
theorem n2_skip {l : List UInt8} {c t : Int} (h : n2 l c t) (hx : aimB (kd c) t = false) : n2 l c (t + 1) := fun e he hc ht => by
  by_cases hk2 : e.t < t
  · exact h e he hc hk2
  · have h2 := (okE_parts he).2
    rw [hc, show e.t = t by omega, hx] at h2
    cases h2
theorem n1_succ {l : List UInt8} {c : Int} (h : n1 l c) (hx : n2 l c 7) : n1 l (c + 1) := fun e he hc => by
  by_cases hk2 : e.c < c
  · exact h e he hk2
  · exact hx e he (by omega) (by have := (ok_bd he).t1; omega)
theorem n1_end {l : List UInt8} (h : n1 l 13) : ¬ isTx l := fun hx => h (cand l) hx.1 (by have := (ok_bd hx.1).c1; omega) hx.2
theorem tx_found {l : List UInt8} {e : Ef} (h : e.ok = true) (ht : textE e = l) : isTx l ∧ cand l = e := by
  have hc : cand l = e := by rw [← ht]; exact cand_text e h
  exact ⟨⟨by rw [hc]; exact h, by rw [hc]; exact ht⟩, hc⟩
def rparV (l : List UInt8) : Value × Bool := if isTx l then ((cand l).v, true) else (eV 0 0 0 0 0, false)
theorem rparV_yes {l : List UInt8} {e : Ef} (h : e.ok = true) (ht : textE e = l) : rparV l = (e.v, true) := by
  obtain ⟨h1, h2⟩ := tx_found h ht
  unfold rparV; rw [if_pos h1, h2]
theorem rparV_no {l : List UInt8} (h : n1 l 13) : rparV l = (eV 0 0 0 0 0, false) := if_neg (n1_end h)
def rparPost (l : List UInt8) (w : World) (e : Ending) (w' : World) : Prop := e = .returned (.tuple #[(rparV l).1, .bool (rparV l).2]) ∧ Below w.heap.size w w'
theorem okE_of {c t n m k : Int} (h1 : aimB (kd c) t = true) (h2 : okN c n m k = true) : okE c t n m k = true := by unfold okE; rw [h1, h2]; rfl
theorem okE_no {l : List UInt8} {c t n m k : Int} (h2 : okN c n m k = false) : okE c t n m k = true → textE ⟨c, t, n, m, k⟩ ≠ l := fun h => by
  have := (okE_parts (e := ⟨c, t, n, m, k⟩) h).1
  rw [show okN c n m k = true from this] at h2; cases h2

/- the world of the search: the result's block stands as it was laid -/
def SR (w wr : World) : Prop := has wr w.heap.size 28 (eL 0 0 0 0 0) ∧ Below w.heap.size w wr
theorem SR.next {w wr w' : World} (h : SR w wr) (hb : Below wr.heap.size wr w') : SR w w' := ⟨h.1.below hb h.1.lt, efFn.next h.2 hb⟩
theorem SR.drew {w wr : World} (h : SR w wr) : SR w wr.drew := h.next (Below.refl _ _).drew
theorem SR.new (w : World) : SR w (w.alloc (.cells #[.int .i64 0, .int .i64 0, .int .i64 0, .int .i64 0, .int .i64 0] 28)) :=
  ⟨new0 w 28 (eL 0 0 0 0 0), (Below.refl _ _).alloc (Nat.le_refl _) _⟩
end Go.Proofs.YtfdolapiikgebaaDoor.efFn
