/- Plain arithmetic: how many bits of a word are set, by sums of neighbours; words as lists of flags. -/
namespace Go.Proofs.YtefncefmolphfaaDoor.idBits

/- how many of the first n bits are set -/
def popN : Nat → Nat → Nat
  | 0, _ => 0
  | n + 1, w => w % 2 + popN n (w / 2)
/- bytes, the least one first -/
def val : List Nat → Nat
  | [] => 0
  | b :: bs => b + 256 * val bs
def mask (m : Nat) : Nat → Nat
  | 0 => 0
  | n + 1 => m + 256 * mask m n
def bytes : Nat → Nat → List Nat
  | 0, _ => []
  | n + 1, w => (w % 256) :: bytes n (w / 256)
theorem bytes_len : ∀ n w, (bytes n w).length = n
  | 0, _ => rfl
  | n + 1, w => by simp [bytes, bytes_len n]
theorem bytes_lt : ∀ n w, ∀ b ∈ bytes n w, b < 256
  | 0, _ => by simp [bytes]
  | n + 1, w => by
    intro b hb
    simp only [bytes, List.mem_cons] at hb
    rcases hb with rfl | hb
    · omega
    · exact bytes_lt n _ b hb
theorem val_bytes : ∀ n w, w < 256 ^ n → val (bytes n w) = w
  | 0, w, h => by simp at h; simp [bytes, val, h]
  | n + 1, w, h => by
    have h1 : w / 256 < 256 ^ n := by rw [Nat.pow_succ] at h; omega
    simp only [bytes, val, val_bytes n _ h1]
    omega

theorem and_split (a b c d : Nat) (hb : b < 256) (hd : d < 256) : (b + 256 * a) &&& (d + 256 * c) = (b &&& d) + 256 * (a &&& c) := by
  apply Nat.eq_of_testBit_eq
  intro i
  have hbd : b &&& d < 2 ^ 8 := Nat.and_lt_two_pow _ (by omega)
  rw [Nat.testBit_and, Nat.add_comm b, Nat.add_comm d, Nat.add_comm (b &&& d)]
  rw [show (256 : Nat) = 2 ^ 8 from rfl, Nat.testBit_two_pow_mul_add _ (by omega), Nat.testBit_two_pow_mul_add _ (by omega), Nat.testBit_two_pow_mul_add _ hbd]
  split <;> rw [Nat.testBit_and]

/- one byte's part of the three masked steps; a byte beside e, what the next one hands down -/
def f1 (b : Nat) : Nat := (b / 2 &&& 85) + (b &&& 85)
def f2 (b : Nat) : Nat := (b / 4 &&& 51) + (b &&& 51)
def f3 (b : Nat) : Nat := (b / 16 + b) &&& 15
theorem lo1 : ∀ b, b < 256 → ∀ e, e < 2 → ((b / 2 + 128 * e) &&& 85) = (b / 2 &&& 85) := by decide +kernel
theorem lo2 : ∀ b, b < 256 → ∀ e, e < 4 → ((b / 4 + 64 * e) &&& 51) = (b / 4 &&& 51) := by decide +kernel
theorem f1_lt : ∀ b, b < 256 → f1 b < 256 := by decide +kernel
theorem f2_lt : ∀ b, b < 256 → f2 (f1 b) < 256 := by decide +kernel
theorem f2_le : ∀ b, b < 256 → f2 (f1 b) % 16 + f2 (f1 b) / 16 < 16 := by decide +kernel
theorem f3_eq : ∀ b, b < 256 → f3 (f2 (f1 b)) = popN 8 b := by decide +kernel
theorem f3_le : ∀ b, b < 256 → popN 8 b ≤ 8 := by decide +kernel

theorem step1 : ∀ l : List Nat, (∀ b ∈ l, b < 256) → (val l / 2 &&& mask 85 l.length) + (val l &&& mask 85 l.length) = val (l.map f1)
  | [], _ => rfl
  | b :: l, h => by
    have hb := h b (by simp)
    have ih := step1 l fun x hx => h x (by simp [hx])
    have e1 : (b + 256 * val l) / 2 = (b / 2 + 128 * (val l % 2)) + 256 * (val l / 2) := by omega
    simp only [val, List.length_cons, mask, List.map_cons]
    rw [e1, and_split _ _ _ _ (by omega) (by omega), and_split _ _ _ _ hb (by omega), lo1 b hb _ (by omega), ← ih]
    unfold f1
    omega
theorem step2 : ∀ l : List Nat, (∀ b ∈ l, b < 256) → (val l / 4 &&& mask 51 l.length) + (val l &&& mask 51 l.length) = val (l.map f2)
  | [], _ => rfl
  | b :: l, h => by
    have hb := h b (by simp)
    have ih := step2 l fun x hx => h x (by simp [hx])
    have e1 : (b + 256 * val l) / 4 = (b / 4 + 64 * (val l % 4)) + 256 * (val l / 4) := by omega
    simp only [val, List.length_cons, mask, List.map_cons]
    rw [e1, and_split _ _ _ _ (by omega) (by omega), and_split _ _ _ _ hb (by omega), lo2 b hb _ (by omega), ← ih]
    unfold f2
    omega
/- the third one adds before the mask: no carry leaves a half byte -/
def nib (b : Nat) : Prop := b < 256 ∧ b % 16 + b / 16 < 16 ∧ b % 16 ≤ 4 ∧ b / 16 ≤ 4
instance (b : Nat) : Decidable (nib b) := by unfold nib; infer_instance
theorem nib_of : ∀ b, b < 256 → nib (f2 (f1 b)) := by decide +kernel
theorem lo3 : ∀ b, b < 256 → nib b → ∀ e, e < 5 → (b / 16 + b + 16 * e < 256 ∧ ((b / 16 + b + 16 * e) &&& 15) = f3 b) := by decide +kernel
theorem step3 : ∀ l : List Nat, (∀ b ∈ l, nib b) → (val l / 16 + val l) &&& mask 15 l.length = val (l.map f3)
  | [], _ => rfl
  | b :: l, h => by
    have hb := h b (by simp)
    have ih := step3 l fun x hx => h x (by simp [hx])
    have hq : val l % 16 < 5 := by
      cases l with
      | nil => simp [val]
      | cons c l =>
        have := h c (by simp)
        unfold nib at this
        simp only [val]; omega
    obtain ⟨l1, l2⟩ := lo3 b hb.1 hb _ hq
    have e1 : (b + 256 * val l) / 16 + (b + 256 * val l) = (b / 16 + b + 16 * (val l % 16)) + 256 * (val l / 16 + val l) := by omega
    simp only [val, List.length_cons, mask, List.map_cons]
    rw [e1, and_split _ _ _ _ l1 (by omega), l2, ih]
def sum8 : List Nat → Nat
  | [] => 0
  | b :: l => b + sum8 l
theorem div1 (b q : Nat) (h : b < 256) : (b + 256 * q) / 256 = q := by omega
theorem div2 (b c q : Nat) (h : b < 256) (h1 : c < 256) : (b + 256 * (c + 256 * q)) / 65536 = q := by omega
theorem div4 (a b c d q : Nat) (h : a < 256) (h1 : b < 256) (h2 : c < 256) (h3 : d < 256) : (a + 256 * (b + 256 * (c + 256 * (d + 256 * q)))) / 4294967296 = q := by omega
theorem last {b0 b1 b2 b3 b4 b5 b6 b7 : Nat} (h0 : b0 ≤ 8) (h1 : b1 ≤ 8) (h2 : b2 ≤ 8) (h3 : b3 ≤ 8) (h4 : b4 ≤ 8) (h5 : b5 ≤ 8) (h6 : b6 ≤ 8) (h7 : b7 ≤ 8) {x y z t : Nat}
    (hx : x = val [b0, b1, b2, b3, b4, b5, b6, b7]) (hy : y = x + x / 256) (hz : z = y + y / 65536) (ht : t = z + z / 4294967296) :
    x < 1000000000000000000 ∧ y < 2000000000000000000 ∧ z < 4000000000000000000 ∧ t < 8000000000000000000 ∧ t % 128 = b0 + b1 + b2 + b3 + b4 + b5 + b6 + b7 := by
  simp only [val] at hx
  have e1 : x / 256 = b1 + 256 * (b2 + 256 * (b3 + 256 * (b4 + 256 * (b5 + 256 * (b6 + 256 * b7))))) := by rw [hx, div1 _ _ (by omega)]; rfl
  have e2 : y = (b0 + b1) + 256 * ((b1 + b2) + 256 * ((b2 + b3) + 256 * ((b3 + b4) + 256 * ((b4 + b5) + 256 * ((b5 + b6) + 256 * ((b6 + b7) + 256 * b7)))))) := by rw [hy, e1, hx]; clear hx hy hz ht e1; omega
  have e3 : y / 65536 = (b2 + b3) + 256 * ((b3 + b4) + 256 * ((b4 + b5) + 256 * ((b5 + b6) + 256 * ((b6 + b7) + 256 * b7)))) := by rw [e2, div2 _ _ _ (by omega) (by omega)]
  have e4 : z = (b0 + b1 + b2 + b3) + 256 * ((b1 + b2 + b3 + b4) + 256 * ((b2 + b3 + b4 + b5) + 256 * ((b3 + b4 + b5 + b6) + 256 * ((b4 + b5 + b6 + b7) + 256 * ((b5 + b6 + b7) + 256 * ((b6 + b7) + 256 * b7)))))) := by rw [hz, e3, e2]; clear hx hy hz ht e1 e2 e3; omega
  have e5 : z / 4294967296 = (b4 + b5 + b6 + b7) + 256 * ((b5 + b6 + b7) + 256 * ((b6 + b7) + 256 * b7)) := by rw [e4, div4 _ _ _ _ _ (by omega) (by omega) (by omega) (by omega)]
  have e6 : t = (b0 + b1 + b2 + b3 + b4 + b5 + b6 + b7) + 256 * ((b1 + b2 + b3 + b4 + b5 + b6 + b7) + 256 * ((b2 + b3 + b4 + b5 + b6 + b7) + 256 * ((b3 + b4 + b5 + b6 + b7) + 256 * ((b4 + b5 + b6 + b7) + 256 * ((b5 + b6 + b7) + 256 * ((b6 + b7) + 256 * b7)))))) := by rw [ht, e5, e4]; clear hx hy hz ht e1 e2 e3 e4 e5; omega
  clear hy hz ht e1 e3 e5
  refine ⟨by clear e2 e4 e6; omega, by clear hx e4 e6; omega, by clear hx e2 e6; omega, by clear hx e2 e4; omega, by clear hx e2 e4; omega⟩

theorem popN_add : ∀ (m n w : Nat), popN (m + n) w = popN m w + popN n (w / 2 ^ m)
  | 0, n, w => by simp [popN]
  | m + 1, n, w => by
    rw [Nat.add_right_comm]
    simp only [popN]
    rw [popN_add m n, Nat.div_div_eq_div_mul, Nat.pow_succ, Nat.mul_comm 2]
    omega
theorem popN_mod (m w : Nat) : ∀ k, popN m (w + 2 ^ m * k) = popN m w := by
  induction m generalizing w with
  | zero => intro k; rfl
  | succ m ih =>
    intro k
    have e : (w + 2 ^ (m + 1) * k) / 2 = w / 2 + 2 ^ m * k := by rw [Nat.pow_succ, Nat.mul_comm (2 ^ m) 2, Nat.mul_assoc]; omega
    have e2 : (w + 2 ^ (m + 1) * k) % 2 = w % 2 := by rw [Nat.pow_succ, Nat.mul_comm (2 ^ m) 2, Nat.mul_assoc]; omega
    simp only [popN]
    rw [e, e2, ih]
theorem popN_byte (n b q : Nat) (hb : b < 256) : popN (8 + n) (b + 256 * q) = popN 8 b + popN n q := by
  rw [popN_add, show (256 : Nat) = 2 ^ 8 from rfl, popN_mod, show (b + 2 ^ 8 * q) / 2 ^ 8 = q by omega]
theorem popN_val : ∀ l : List Nat, (∀ b ∈ l, b < 256) → popN (8 * l.length) (val l) = sum8 (l.map (popN 8))
  | [], _ => rfl
  | b :: l, h => by
    have ih := popN_val l fun x hx => h x (by simp [hx])
    rw [show 8 * (b :: l).length = 8 + 8 * l.length by simp; omega]
    simp only [val, List.map_cons, sum8]
    rw [popN_byte _ _ _ (h b (by simp)), ih]
def a1 (x : Nat) : Nat := (x / 2 &&& 6148914691236517205) + (x &&& 6148914691236517205)
def a2 (x : Nat) : Nat := (x / 4 &&& 3689348814741910323) + (x &&& 3689348814741910323)
def a3 (x : Nat) : Nat := (x / 16 + x) &&& 1085102592571150095
def a4 (x : Nat) : Nat := x + x / 256
def a5 (x : Nat) : Nat := x + x / 65536
def a6 (x : Nat) : Nat := x + x / 4294967296
theorem val_lt : ∀ (l : List Nat), (∀ b ∈ l, b < 256) → val l < 256 ^ l.length
  | [], _ => by simp [val]
  | b :: l, h => by
    have := val_lt l fun x hx => h x (by simp [hx])
    have := h b (by simp)
    simp only [val, List.length_cons, Nat.pow_succ]
    omega
/- the program's own steps: each of them stays below 2^64, and the last one ends in the sum -/
theorem pop_eq (x : Nat) (hx : x < 18446744073709551616) : (a1 x < 18446744073709551616 ∧ a2 (a1 x) < 18446744073709551616 ∧ a2 (a1 x) / 16 + a2 (a1 x) < 18446744073709551616) ∧
    a4 (a3 (a2 (a1 x))) < 18446744073709551616 ∧ a5 (a4 (a3 (a2 (a1 x)))) < 18446744073709551616 ∧ a6 (a5 (a4 (a3 (a2 (a1 x))))) < 9223372036854775808 ∧ a6 (a5 (a4 (a3 (a2 (a1 x))))) % 128 = popN 64 x := by
  have hl := bytes_lt 8 x
  have hn := bytes_len 8 x
  have hv := val_bytes 8 x (by simpa using hx)
  have m1 : mask 85 8 = 6148914691236517205 := by simp [mask]
  have m2 : mask 51 8 = 3689348814741910323 := by simp [mask]
  have m3 : mask 15 8 = 1085102592571150095 := by simp [mask]
  have s1 := step1 (bytes 8 x) hl
  rw [hn, hv, m1] at s1
  have hl1 : ∀ b ∈ (bytes 8 x).map f1, b < 256 := by
    intro b hb; obtain ⟨c, hc, rfl⟩ := List.mem_map.1 hb; exact f1_lt c (hl c hc)
  have s2 := step2 ((bytes 8 x).map f1) hl1
  rw [List.length_map, hn, m2, ← s1] at s2
  have hl2 : ∀ b ∈ ((bytes 8 x).map f1).map f2, nib b := by
    intro b hb
    rw [List.map_map] at hb
    obtain ⟨c, hc, rfl⟩ := List.mem_map.1 hb; exact nib_of c (hl c hc)
  have s3 := step3 (((bytes 8 x).map f1).map f2) hl2
  rw [List.length_map, List.length_map, hn, m3, ← s2] at s3
  have h1 := val_lt ((bytes 8 x).map f1) hl1
  rw [← s1, List.length_map, hn] at h1
  have h2 := val_lt (((bytes 8 x).map f1).map f2) fun b hb => (hl2 b hb).1
  rw [← s2, List.length_map, List.length_map, hn] at h2
  have hp := popN_val (bytes 8 x) hl
  rw [hn, hv] at hp
  change popN 64 x = _ at hp
  have e3 : (((bytes 8 x).map f1).map f2).map f3 = (bytes 8 x).map (popN 8) := by
    rw [List.map_map, List.map_map]
    exact List.map_congr_left fun c hc => f3_eq c (hl c hc)
  rw [e3] at s3
  have h3 : a2 (a1 x) / 16 + a2 (a1 x) < 18446744073709551616 := by
    have hq : ∀ l : List Nat, (∀ b ∈ l, nib b) → l.length = 8 → val l / 16 + val l < 18446744073709551616 := by
      intro l h8 hlen
      match l, hlen with
      | [b0, b1, b2, b3, b4, b5, b6, b7], _ =>
        have := h8 b7 (by simp); have := h8 b6 (by simp); have := h8 b5 (by simp); have := h8 b4 (by simp)
        have := h8 b3 (by simp); have := h8 b2 (by simp); have := h8 b1 (by simp); have := h8 b0 (by simp)
        unfold nib at *
        simp only [val]; omega
    have := hq _ hl2 (by simp [hn])
    rw [← s2] at this
    exact this
  have hle : ∀ b ∈ (bytes 8 x).map (popN 8), b ≤ 8 := by
    intro b hb; obtain ⟨c, hc, rfl⟩ := List.mem_map.1 hb; exact f3_le c (hl c hc)
  have hlen : ((bytes 8 x).map (popN 8)).length = 8 := by simp [hn]
  generalize (bytes 8 x).map (popN 8) = ps at *
  match ps, hlen with
  | [b0, b1, b2, b3, b4, b5, b6, b7], _ =>
    have := last (hle b0 (by simp)) (hle b1 (by simp)) (hle b2 (by simp)) (hle b3 (by simp)) (hle b4 (by simp)) (hle b5 (by simp)) (hle b6 (by simp)) (hle b7 (by simp)) s3 rfl rfl rfl
    simp only [sum8] at hp
    refine ⟨⟨h1, h2, h3⟩, ?_⟩
    unfold a1 a2 a3 a4 a5 a6
    refine ⟨by omega, by omega, by omega, by omega⟩

/- a word made of flags -/
def ofB : List Bool → Nat
  | [] => 0
  | b :: l => b.toNat + 2 * ofB l
theorem ofB_lt : ∀ l : List Bool, ofB l < 2 ^ l.length
  | [] => by simp [ofB]
  | b :: l => by
    have := ofB_lt l
    have hb : b.toNat ≤ 1 := Bool.toNat_le b
    simp only [ofB, List.length_cons, Nat.pow_succ]; omega
theorem ofB_bit : ∀ (l : List Bool) (j : Nat), (ofB l).testBit j = l.getD j false
  | [], j => by simp [ofB]
  | b :: l, 0 => by
    simp only [ofB, Nat.testBit_zero, List.getD_cons_zero]
    cases b <;> simp <;> omega
  | b :: l, j + 1 => by
    simp only [ofB, Nat.testBit_succ, List.getD_cons_succ]
    rw [show (b.toNat + 2 * ofB l) / 2 = ofB l by cases b <;> simp <;> omega]
    exact ofB_bit l j
theorem ofB_pop : ∀ (l : List Bool) (n : Nat), l.length ≤ n → popN n (ofB l) = l.count true
  | [], n, _ => by
    induction n with
    | zero => rfl
    | succ n ih => simp only [ofB, popN] at ih ⊢; simpa using ih (by simp)
  | b :: l, 0, h => by simp at h
  | b :: l, n + 1, h => by
    simp only [ofB, popN]
    rw [show (b.toNat + 2 * ofB l) / 2 = ofB l by cases b <;> simp <;> omega, ofB_pop l n (by simpa using h)]
    cases b <;> simp <;> omega
end Go.Proofs.YtefncefmolphfaaDoor.idBits
