/- Encoding and decoding, writing and reading, undo each other. -/
import Derived.Test.YtfdolapiikgebaaDoorEfHelp
namespace Go.Proofs.YtfdolapiikgebaaDoor.efFn
open Go.ChangeShapes Go.WideShapes Go.ChangeAt Go.RowKit drMem
set_option linter.unusedVariables false

theorem by_len (e : Ef) : e.by.length = 5 := rfl
theorem efB_get : ∀ (l : List Ef) (i j : Nat) (h : i < l.length), j < 5 → (efB l)[5 * i + j]? = (l[i].by)[j]?
  | a :: r, 0, j, _, hj => by
    show (a.by ++ efB r)[5 * 0 + j]? = a.by[j]?
    rw [Nat.mul_zero, Nat.zero_add, List.getElem?_append_left (by rw [by_len]; omega)]
  | a :: r, i + 1, j, h, hj => by
    show (a.by ++ efB r)[5 * (i + 1) + j]? = (r[i]'(by simpa using h)).by[j]?
    rw [List.getElem?_append_right (by rw [by_len]; omega), by_len, show 5 * (i + 1) + j - 5 = 5 * i + j by omega]
    exact efB_get r i j (by simpa using h) hj
theorem enc_at {l : List Ef} {lb : List UInt8} {i : Nat} (j : Nat) (h : i < l.length) (hj : j < 5) : (encB l ++ lb).getD (1 + 5 * i + j) 0 = (l[i].by).getD j 0 := by
  rw [List.getD_eq_getElem?_getD, List.getD_eq_getElem?_getD]
  show (((u8 l.length :: efB l) ++ lb)[1 + 5 * i + j]?).getD 0 = _
  rw [show 1 + 5 * i + j = (5 * i + j) + 1 by omega, List.cons_append, List.getElem?_cons_succ, List.getElem?_append_left (by rw [efB_len]; omega), efB_get l i j h hj]
theorem efAt_enc {l : List Ef} {lb : List UInt8} {i : Nat} (h : i < l.length) (hb : l[i].bd) : efAt (encB l ++ lb) i = l[i] := by
  have k0 := enc_at (lb := lb) 0 h (by omega)
  have k1 := enc_at (lb := lb) 1 h (by omega)
  have k2 := enc_at (lb := lb) 2 h (by omega)
  have k3 := enc_at (lb := lb) 3 h (by omega)
  have k4 := enc_at (lb := lb) 4 h (by omega)
  rw [Nat.add_zero] at k0
  unfold efAt byAt
  rw [k0, k1, k2, k3, k4]
  generalize l[i] = x at hb
  obtain ⟨c, t, n, m, k⟩ := x
  obtain ⟨b0, b1, b2, b3, b4, b5, b6, b7, b8, b9⟩ := hb
  dsimp only at b0 b1 b2 b3 b4 b5 b6 b7 b8 b9
  show (⟨((u8 c).toNat : Int), ((u8 t).toNat : Int), ((u8 n).toNat : Int), ((u8 m).toNat : Int), ((u8 k).toNat : Int)⟩ : Ef) = _
  rw [u8_of c (by omega) (by omega), u8_of t (by omega) (by omega), u8_of n (by omega) (by omega), u8_of m (by omega) (by omega), u8_of k (by omega) (by omega)]
theorem nB_enc {l : List Ef} {lb : List UInt8} (h : l.length ≤ 4) : nB (encB l ++ lb) = l.length := by
  have e : ((u8 l.length).toNat : Int) = l.length := u8_of _ (by omega) (by omega)
  show (u8 l.length).toNat = l.length
  omega
theorem dec_enc {l : List Ef} (lb : List UInt8) (h : allB l = true) : decR (encB l ++ lb) = (l, 1 + 5 * l.length, 0) := by
  obtain ⟨h4, hbd⟩ := all_bd h
  have hn := nB_enc (lb := lb) h4
  have hL : decL (encB l ++ lb) l.length = l := by
    apply List.ext_getElem (by rw [decL_len])
    intro i h1 h2
    rw [show (decL (encB l ++ lb) l.length)[i] = efAt (encB l ++ lb) i by simp [decL]]
    exact efAt_enc h2 (hbd _ (List.getElem_mem h2))
  have hlen : (encB l ++ lb).length = 1 + 5 * l.length + lb.length := by rw [List.length_append, encB_len]
  have hall : l.all Ef.ok = true := by unfold allB at h; rw [Bool.and_eq_true] at h; exact h.2
  rw [decR_4 (by omega) (by rw [hn]; omega) (by rw [hn]; omega) (by rw [hn, hL]; exact hall), hn, hL]
theorem u8_nat (x : UInt8) : u8 (x.toNat : Int) = x := by
  unfold u8
  rw [Int.toNat_natCast]
  exact UInt8.ofNat_toNat
theorem efB_dec (lb : List UInt8) (n : Nat) (h : 1 + 5 * n ≤ lb.length) : efB (decL lb n) = (lb.drop 1).take (5 * n) := by
  apply List.ext_getElem (by rw [efB_len, decL_len]; simp; omega)
  intro q h1 h2
  rw [efB_len, decL_len] at h1
  have e := efB_get (decL lb n) (q / 5) (q % 5) (by rw [decL_len]; omega) (by omega)
  rw [show 5 * (q / 5) + q % 5 = q by omega] at e
  have e2 : (decL lb n)[q / 5]'(by rw [decL_len]; omega) = efAt lb (q / 5) := by simp [decL]
  rw [e2] at e
  have hs : ((lb.drop 1).take (5 * n))[q] = lb[1 + q]'(by omega) := by simp only [List.getElem_take, List.getElem_drop]
  have hg : ∀ j (hj : j < lb.length), u8 (byAt lb j) = lb[j] := fun j hj => by
    unfold byAt
    rw [u8_nat]
    simp [List.getD_eq_getElem?_getD, hj]
  have hx : ((efAt lb (q / 5)).by)[q % 5]? = some (lb[1 + q]'(by omega)) := by
    obtain h5 | h5 | h5 | h5 | h5 : q % 5 = 0 ∨ q % 5 = 1 ∨ q % 5 = 2 ∨ q % 5 = 3 ∨ q % 5 = 4 := by omega
    · rw [h5]; show some (u8 (byAt lb (1 + 5 * (q / 5)))) = _; rw [hg _ (by omega)]; congr 2; omega
    · rw [h5]; show some (u8 (byAt lb (1 + 5 * (q / 5) + 1))) = _; rw [hg _ (by omega)]; congr 2; omega
    · rw [h5]; show some (u8 (byAt lb (1 + 5 * (q / 5) + 2))) = _; rw [hg _ (by omega)]; congr 2; omega
    · rw [h5]; show some (u8 (byAt lb (1 + 5 * (q / 5) + 3))) = _; rw [hg _ (by omega)]; congr 2; omega
    · rw [h5]; show some (u8 (byAt lb (1 + 5 * (q / 5) + 4))) = _; rw [hg _ (by omega)]; congr 2; omega
  rw [hs]
  rw [hx] at e
  exact (List.getElem?_eq_some_iff.1 e).2
theorem enc_dec {lb : List UInt8} (h : (decR lb).2.2 = 0) : ∃ n : Nat, n ≤ 4 ∧ (decR lb).2.1 = 1 + 5 * n ∧ 1 + 5 * n ≤ lb.length ∧ encZ (decR lb).1 = (lb.take (1 + 5 * n), 0) := by
  by_cases h0 : lb.length = 0
  · rw [decR_0 h0] at h; cases h
  by_cases h1 : 4 < nB lb
  · rw [decR_1 (by omega) h1] at h; cases h
  by_cases h2 : lb.length < 1 + 5 * nB lb
  · rw [decR_2 (by omega) h1 h2] at h; cases h
  cases h3 : (decL lb (nB lb)).all Ef.ok
  · rw [decR_3 (by omega) h1 h2 h3] at h; cases h
  rw [decR_4 (by omega) h1 h2 h3]
  refine ⟨nB lb, by omega, rfl, by omega, ?_⟩
  have ha : allB (decL lb (nB lb)) = true := by unfold allB; rw [h3, decL_len, Bool.and_true]; exact decide_eq_true (by omega)
  rw [encZ_yes ha]
  congr 1
  unfold encB
  rw [efB_dec lb _ (by omega), decL_len]
  obtain _ | ⟨x, r⟩ := lb
  · simp at h0
  · show u8 ((x.toNat : Nat) : Int) :: List.take (5 * x.toNat) r = List.take (1 + 5 * x.toNat) (x :: r)
    rw [u8_nat, Nat.add_comm, List.take_succ_cons]
theorem pa_text {e : Ef} (h : e.ok = true) : paZ (textE e) = (e, 0) := by
  obtain ⟨h1, h2⟩ := tx_found h rfl
  unfold paZ; rw [if_pos h1, h2]
theorem tx_parse {l : List UInt8} (h : isTx l) : txZ (cand l) = (l, 0) := by rw [txZ_yes h.1, h.2]
end Go.Proofs.YtfdolapiikgebaaDoor.efFn
