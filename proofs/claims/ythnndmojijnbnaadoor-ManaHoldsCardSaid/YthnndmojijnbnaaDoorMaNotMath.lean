/- What a pool is missing, and the pool with it. -/
import Derived.Test.YthnndmojijnbnaaDoorMaLHolds
namespace Go.Proofs.YthnndmojijnbnaaDoor.maFn
open Go.ChangeShapes Go.WideShapes Go.ChangeAt Go.RowKit drMem
set_option linter.unusedVariables false

/- what is missing, and the pool with it -/
structure MF (a b c d : Int) (p q r s x : Nat) (i j l n : Int) (y : Nat) : Prop where
  hi : 0 ≤ i ∧ p ≤ a + i ∧ (0 < i → a + i = p) ∧ i ≤ 20
  hj : 0 ≤ j ∧ q ≤ b + j ∧ (0 < j → b + j = q) ∧ j ≤ 20
  hl : 0 ≤ l ∧ r ≤ c + l ∧ (0 < l → c + l = r) ∧ l ≤ 20
  hn : 0 ≤ n ∧ s ≤ d + n ∧ (0 < n → d + n = s) ∧ n ≤ 20
  hy : y ≤ 20
  one : 1 ≤ i + j + l + n + y
  val : okC i j l n y = true
  least : i + j + l + n + y ≤ p + q + r + s + x
  full : okM 99 (a + i + ((y + 3) / 4 : Nat)) (b + j + ((y + 2) / 4 : Nat)) (c + l + ((y + 1) / 4 : Nat)) (d + n + (y / 4 : Nat)) = true
  can : may (a + i + ((y + 3) / 4 : Nat)) (b + j + ((y + 2) / 4 : Nat)) (c + l + ((y + 1) / 4 : Nat)) (d + n + (y / 4 : Nat)) p q r s x = true
theorem col (a p : Int) (a0 : 0 ≤ a) (a1 : a ≤ 99) (p0 : 0 ≤ p) (p1 : p ≤ 20) : 0 ≤ de p a ∧ de p a ≤ p ∧ p ≤ a + de p a ∧ (0 < de p a → a + de p a = p) ∧ a + de p a ≤ 99 ∧ de a p = a + de p a - p ∧ (de p a = 0 ∨ p > a) ∧ (p ≤ a → de p a = 0) := by
  unfold de
  refine ⟨?_, ?_, ?_, ?_, ?_, ?_, ?_, ?_⟩ <;> omega
theorem de_ge (a p : Int) (h : p ≤ a) : de a p = a - p := by unfold de; omega
theorem quarters (y : Nat) : (y + 3) / 4 + (y + 2) / 4 + (y + 1) / 4 + y / 4 = y := by omega
theorem ful1 (A P o z x y q : Int) (hA : A ≤ 99) (hP : P ≤ 20) (ho : 0 ≤ o) (hz : z = (A - P) + o) (hx : x ≤ 20) (hy : y = 0 ∨ z < x) (hq : q ≤ 5) (hqy : q ≤ y) : A + q ≤ 99 := by
  rcases hy with h | h <;> omega
theorem mf_ex (a b c d : Int) (p q r s x : Nat) (hm : okM 99 a b c d = true) (hk : okC p q r s x = true) (hy : may a b c d p q r s x = false) : ∃ (i j l n : Int) (y : Nat), MF a b c d p q r s x i j l n y ∧
    ∀ w, Calls Tryd.prog 22 #[.agg #[.int .i64 a, .int .i64 b, .int .i64 c, .int .i64 d], .agg #[.int .i64 ((p : Nat)), .int .i64 ((q : Nat)), .int .i64 ((r : Nat)), .int .i64 ((s : Nat)), .int .i64 ((x : Nat))]] w fun z w' => z = .returned (.agg #[.int .i64 i, .int .i64 j, .int .i64 l, .int .i64 n, .int .i64 (y : Nat)]) ∧ Below w.heap.size w w' := by
  have HM := fun w => Missing_yes a b c d p q r s x w hm hk
  have hny : ¬ may a b c d p q r s x = true := by rw [hy]; decide
  rw [may_iff] at hny
  rw [okM_iff] at hm
  rw [okC_iff] at hk
  obtain ⟨⟨m1, m2⟩, ⟨m3, m4⟩, ⟨m5, m6⟩, ⟨m7, m8⟩⟩ := hm
  obtain ⟨⟨⟨k1, k2⟩, ⟨k3, k4⟩, ⟨k5, k6⟩, ⟨k7, k8⟩⟩, k9, k10⟩ := hk
  obtain ⟨y, hy'⟩ := Int.eq_ofNat_of_zero_le (de_bd x (lf a b c d p q r s))
  obtain ⟨A1, A2, A3, A4, A5, A6, A7, A8⟩ := col a p m1 m2 k1 k2
  obtain ⟨B1, B2, B3, B4, B5, B6, B7, B8⟩ := col b q m3 m4 k3 k4
  obtain ⟨C1, C2, C3, C4, C5, C6, C7, C8⟩ := col c r m5 m6 k5 k6
  obtain ⟨D1, D2, D3, D4, D5, D6, D7, D8⟩ := col d s m7 m8 k7 k8
  have hz : lf a b c d p q r s = (a + de p a - p) + (b + de q b - q) + (c + de r c - r) + (d + de s d - s) := by unfold lf; rw [A6, B6, C6, D6]
  have hyx : ((y : Int) = 0 ∧ (x : Int) ≤ lf a b c d p q r s) ∨ ((y : Int) = x - lf a b c d p q r s ∧ lf a b c d p q r s < x) := by rw [← show de x (lf a b c d p q r s) = (y : Int) from hy']; unfold de; omega
  rw [hy'] at HM
  refine ⟨_, _, _, _, y, ?_, HM⟩
  clear HM hy hy' A6 B6 C6 D6
  generalize de p a = i at *
  generalize de q b = j at *
  generalize de r c = l at *
  generalize de s d = n at *
  generalize lf a b c d p q r s = z at *
  have hq := quarters y
  have HA := Lib.hid A4; have HB := Lib.hid B4; have HC := Lib.hid C4; have HD := Lib.hid D4
  clear A4 B4 C4 D4 A7 B7 C7 D7 A8 B8 C8 D8
  have hone : 1 ≤ i + j + l + n + y := by
    rcases hyx with ⟨h1, h2⟩ | ⟨h1, h2⟩
    · by_cases h0 : i + j + l + n = 0
      · exact absurd ⟨⟨by omega, by omega, by omega, by omega⟩, h2⟩ hny
      · omega
    · omega
  clear hny
  have hy20 : y ≤ 20 := by rcases hyx with ⟨h1, _⟩ | ⟨h1, _⟩ <;> omega
  generalize h3 : (y + 3) / 4 = y3 at *
  generalize h2 : (y + 2) / 4 = y2 at *
  generalize h1 : (y + 1) / 4 = y1 at *
  generalize h0 : y / 4 = y0 at *
  have q3 : y3 ≤ y ∧ y2 ≤ y ∧ y1 ≤ y ∧ y0 ≤ y ∧ y3 ≤ 5 ∧ y2 ≤ 5 ∧ y1 ≤ 5 ∧ y0 ≤ 5 := by omega
  have E3 := Lib.hid h3; have E2 := Lib.hid h2; have E1 := Lib.hid h1; have E0 := Lib.hid h0
  clear h3 h2 h1 h0
  obtain ⟨q1, q2, q3, q4, q5, q6, q7, q8⟩ := q3
  have hyz : (y : Int) = 0 ∨ z < x := by rcases hyx with ⟨h1, h2⟩ | ⟨h1, h2⟩; exact .inl h1; exact .inr h2
  have g1 : a + i + y3 ≤ 99 := ful1 (a + i) p ((b + j - q) + (c + l - r) + (d + n - s)) z x y y3 A5 k2 (by clear hyx hz hq; omega) (by clear hyx; omega) k10 hyz (by omega) (by omega)
  have g2 : b + j + y2 ≤ 99 := ful1 (b + j) q ((a + i - p) + (c + l - r) + (d + n - s)) z x y y2 B5 k4 (by clear hyx hz hq; omega) (by clear hyx; omega) k10 hyz (by omega) (by omega)
  have g3 : c + l + y1 ≤ 99 := ful1 (c + l) r ((b + j - q) + (a + i - p) + (d + n - s)) z x y y1 C5 k6 (by clear hyx hz hq; omega) (by clear hyx; omega) k10 hyz (by omega) (by omega)
  have g4 : d + n + y0 ≤ 99 := ful1 (d + n) s ((b + j - q) + (c + l - r) + (a + i - p)) z x y y0 D5 k8 (by clear hyx hz hq; omega) (by clear hyx; omega) k10 hyz (by omega) (by omega)
  have hyc : (y : Int) ≤ x := by rcases hyx with ⟨h1, h2⟩ | ⟨h1, h2⟩ <;> (clear hq; omega)
  have hxz : (x : Int) ≤ z + y := by rcases hyx with ⟨h1, h2⟩ | ⟨h1, h2⟩ <;> (clear hq hz; omega)
  clear hyx hyz
  refine ⟨⟨A1, A3, HA.out, by omega⟩, ⟨B1, B3, HB.out, by omega⟩, ⟨C1, C3, HC.out, by omega⟩, ⟨D1, D3, HD.out, by omega⟩, hy20, hone, ?_, by omega, ?_, ?_⟩
  · rw [okC_iff]; clear hz hq hxz hyc hone g1 g2 g3 g4; refine ⟨⟨⟨?_, ?_⟩, ⟨?_, ?_⟩, ⟨?_, ?_⟩, ?_, ?_⟩, ?_, ?_⟩ <;> omega
  · rw [okM_iff, E3.out, E2.out, E1.out, E0.out]; refine ⟨⟨?_, g1⟩, ⟨?_, g2⟩, ⟨?_, g3⟩, ?_, g4⟩ <;> (clear hz hq hxz hyc hone g1 g2 g3 g4; omega)
  · rw [may_iff, E3.out, E2.out, E1.out, E0.out]
    clear g1 g2 g3 g4 hone
    have r1 : (p : Int) ≤ a + i + y3 := by clear hz hq hxz hyc; omega
    have r2 : (q : Int) ≤ b + j + y2 := by clear hz hq hxz hyc r1; omega
    have r3 : (r : Int) ≤ c + l + y1 := by clear hz hq hxz hyc r1 r2; omega
    have r4 : (s : Int) ≤ d + n + y0 := by clear hz hq hxz hyc r1 r2 r3; omega
    refine ⟨⟨r1, r2, r3, r4⟩, ?_⟩
    unfold lf
    rw [de_ge _ _ r1, de_ge _ _ r2, de_ge _ _ r3, de_ge _ _ r4]
    clear r1 r2 r3 r4 A1 A2 A3 A5 B1 B2 B3 B5 C1 C2 C3 C5 D1 D2 D3 D5 m1 m2 m3 m4 m5 m6 m7 m8 k1 k2 k3 k4 k5 k6 k7 k8 q1 q2 q3 q4 q5 q6 q7 q8 hyc
    omega


end Go.Proofs.YthnndmojijnbnaaDoor.maFn
