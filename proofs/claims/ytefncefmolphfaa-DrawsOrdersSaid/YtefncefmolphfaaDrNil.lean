/- The walk of the statement on nil and zero draws. -/
import Derived.Test.YtefncefmolphfaaDrKnown
namespace Go.Proofs.Ytefncefmolphfaa.drFn
open Go.ChangeShapes Go.WideShapes Go.ChangeAt Go.RowKit drMem
set_option linter.unusedVariables false

structure NS (w W : World) : Prop where
  z : has W w.heap.size 58 [.slice none 0 0, .int .i64 0]
  p : has W (w.heap.size + 1) 26 [.pointer none, .pointer (some ⟨w.heap.size, 0, none⟩)]
  f : Below w.heap.size w W
theorem NS.below {w W W' : World} (h : NS w W) (hb : Below W.heap.size W W') : NS w W' := ⟨h.z.below hb h.z.lt, h.p.below hb h.p.lt, h.f.trans (hb.mono h.f.size)⟩
theorem NS.alloc {w W : World} (h : NS w W) (o : Obj) : NS w (W.alloc o) := h.below ((Below.refl _ _).alloc (Nat.le_refl _) _)
theorem NS.drewN {w W : World} (h : NS w W) (n : Nat) : NS w (W.drewN n) := h.below ⟨rfl, rfl, rfl, Nat.le_refl _, fun _ _ => rfl⟩
theorem NS.of {w W : World} {p : Option Addr} (h : NS w W) (hp : p = none ∨ p = some ⟨w.heap.size, 0, none⟩) : p = none ∨ ∃ b, p = some ⟨b, 0, none⟩ ∧ W.cell? ⟨b, 0, none⟩ = some (.slice none 0 0) := by
  rcases hp with rfl | rfl
  · exact .inl rfl
  · exact .inr ⟨_, rfl, by rw [h.z.cell]; rfl⟩

theorem nn1 {w W : World} {p : Option Addr} (n : Int) (h : NS w W) (hp : p = none ∨ p = some ⟨w.heap.size, 0, none⟩) : Calls Try.prog 12 #[.pointer p, .int .i64 n, .int .i64 0, .int .i64 1] W fun e w' => e = .returned (.bool true) ∧ NS w w' :=
  (next_none p n 0 1 W (h.of hp)).mono fun e w' ⟨he, hw⟩ => ⟨he, hw ▸ h⟩
theorem nn2 {w W : World} {p : Option Addr} (len cap : Nat) (sp : Option Addr) (h : NS w W) (hp : p = none ∨ p = some ⟨w.heap.size, 0, none⟩) : Calls Try.prog 14 #[.pointer p, .slice sp len cap, .slice none 0 0, .int .i64 1] W fun e w' => e = .returned (.bool true) ∧ NS w w' :=
  (shuffles_none p sp len cap W (h.of hp)).mono fun e w' ⟨he, n, hw⟩ => ⟨he, hw ▸ h.drewN n⟩
theorem nn3 {w W : World} {p : Option Addr} (m n : Int) (h : NS w W) (hp : p = none ∨ p = some ⟨w.heap.size, 0, none⟩) : Calls Try.prog 17 #[.pointer p, .int .i64 m, .int .i64 n, .slice none 0 0, .int .i64 1] W fun e w' => e = .returned (.bool true) ∧ NS w w' :=
  (picks_none p m n W (h.of hp)).mono fun e w' ⟨he, n, hw⟩ => ⟨he, hw ▸ h.drewN n⟩
theorem nn4 {w W : World} {p : Option Addr} (h : NS w W) (hp : p = none ∨ p = some ⟨w.heap.size, 0, none⟩) : Calls Try.prog 24 #[.pointer p] W fun e w' => e = .returned (.int .i64 0) ∧ NS w w' := by
  rcases h.of hp with rfl | ⟨b, rfl, hc⟩
  · exact (Used_nil W).mono fun e w' ⟨he, hw⟩ => ⟨he, hw ▸ h⟩
  · exact (Used_zero b W hc).mono fun e w' ⟨he, hw⟩ => ⟨he, hw ▸ h⟩
theorem nn5 {w W : World} {p : Option Addr} (h : NS w W) (hp : p = none ∨ p = some ⟨w.heap.size, 0, none⟩) : Calls Try.prog 23 #[.pointer p] W fun e w' => e = .returned (.int .i64 0) ∧ NS w w' := by
  rcases h.of hp with rfl | ⟨b, rfl, hc⟩
  · exact (Left_nil W).mono fun e w' ⟨he, n, hw⟩ => ⟨he, hw ▸ h.drewN n⟩
  · exact (Left_zero b W hc).mono fun e w' ⟨he, n, hw⟩ => ⟨he, hw ▸ h.drewN n⟩
theorem nn6 {w W : World} {p : Option Addr} (h : NS w W) (hp : p = none ∨ p = some ⟨w.heap.size, 0, none⟩) : Calls Try.prog 21 #[.pointer p] W fun e w' => e = .returned (.slice none 0 0) ∧ NS w w' := by
  rcases h.of hp with rfl | ⟨b, rfl, hc⟩
  · exact (Rest_nil W).mono fun e w' ⟨he, hw⟩ => ⟨he, hw ▸ h⟩
  · exact (Rest_zero b W hc).mono fun e w' ⟨he, hw⟩ => ⟨he, hw ▸ h⟩
theorem nn7 {w W : World} {p : Option Addr} (h : NS w W) (hp : p = none ∨ p = some ⟨w.heap.size, 0, none⟩) : Calls Try.prog 18 #[.pointer p] W fun e w' => e = .returned (.pointer none) ∧ NS w w' := by
  rcases h.of hp with rfl | ⟨b, rfl, hc⟩
  · exact (Copy_nil W).mono fun e w' ⟨he, hw⟩ => ⟨he, hw ▸ h⟩
  · exact (Copy_zero b W hc).mono fun e w' ⟨he, hw⟩ => ⟨he, hw ▸ h⟩
theorem nn8 {w W : World} (hf : Below w.heap.size w W) : Calls Try.prog 10 #[.slice none 0 0] W fun e w' => ∃ b g, e = .returned (.tuple #[.pointer (some ⟨b, 0, none⟩), .int .i64 0]) ∧ St w b g [] 0 w' := by
  refine (New_ok none 0 0 [] W rfl (by omega) (src.nil _ _) (by simp)).mono ?_
  rintro e w' ⟨b, rfl, hd, hlt, hb⟩
  have hs := hf.size
  exact ⟨b, _, rfl, hd, hf.trans (hb.mono hs), by omega, by omega⟩
theorem nn9 {w W : World} {b g : Nat} (h : St w b g [] 0 W) : Calls Try.prog 12 #[.pointer (some ⟨b, 0, none⟩), .int .i64 1, .int .i64 0, .int .i64 16] W (fun e w' => e = .returned (.bool true) ∧ St w b g [] 0 w') :=
  (next_any 1 0 16 h.d).mono fun e w' ⟨he, hd, hg⟩ => ⟨he, h.step hd hg⟩
theorem nn10 {w W : World} {b g : Nat} (n : Int) (h : St w b g [] 0 W) : Calls Try.prog 14 #[.pointer (some ⟨b, 0, none⟩), .slice (some ⟨W.heap.size, 0, none⟩) 1 1, .slice (some ⟨W.heap.size + 1, 0, none⟩) 1 1, .int .i64 0]
    ((W.alloc (.cells #[.int .i64 n] 3)).alloc (.cells #[.int .i64 n] 3)) (fun e w' => e = .returned (.bool true) ∧ St w b g [] 0 w') := by
  have h1 := (h.alloc (.cells #[.int .i64 n] 3)).alloc (.cells #[.int .i64 n] 3)
  have a1 := (has.new W 3 [.int .i64 n]).alloc (.cells #[.int .i64 n] 3)
  have a2 := has.new (W.alloc (.cells #[.int .i64 n] 3)) 3 [.int .i64 n]
  have hl := h.d.d.lt
  have e : (W.alloc (.cells #[.int .i64 n] 3)).heap.size = W.heap.size + 1 := by simp
  rw [e] at a2
  have c := shuffles_any (some ⟨W.heap.size, 0, none⟩) (some ⟨W.heap.size + 1, 0, none⟩) 1 1 1 1 [n] [n] 0 h1.d (src.of a1) rfl (by omega) (src.of a2) rfl (by omega) (by rintro a ⟨⟩; show W.heap.size + 1 ≠ b; omega)
  have e1 : shOut [] 0 [n] = [n] := rfl
  rw [e1, sameB_of rfl] at c
  exact c.mono fun e w' ⟨he, hd, hg⟩ => ⟨he, h1.step hd hg⟩
theorem known_in {w W : World} (hf : Below w.heap.size w W) : Calls Try.prog 9 #[] W fun e w' => e = .returned (.bool true) ∧ Below w.heap.size w w' :=
  (known_any W).mono fun e w' ⟨he, hb⟩ => ⟨he, hf.trans (hb.mono hf.size)⟩

set_option maxRecDepth 100000 in
set_option maxHeartbeats 2000000 in
theorem nil_law (n many : Int) (w : World) : Calls Try.prog 6 #[.int .i64 n, .int .i64 many] w fun e w' => e = .returned (.bool true) ∧ Below w.heap.size w w' := by
  have hst : NS w ((w.alloc (.cells #[.slice none 0 0, .int .i64 0] 58)).alloc (.cells #[.pointer none, .pointer (some ⟨w.heap.size, 0, none⟩)] 26)) := by
    have e : (w.alloc (.cells #[.slice none 0 0, .int .i64 0] 58)).heap.size = w.heap.size + 1 := by simp
    refine ⟨(has.new w _ [.slice none 0 0, .int .i64 0]).alloc _, ?_, ((Below.refl _ _).alloc (Nat.le_refl _) _).alloc (by rw [e]; omega) _⟩
    have := has.new (w.alloc (.cells #[.slice none 0 0, .int .i64 0] 58)) 26 [.pointer none, .pointer (some ⟨w.heap.size, 0, none⟩)]
    rw [e] at this
    exact this
  have HST := Lib.hid hst
  clear hst
  go_enter Try.func6, Try.ntmps6
  go_wp2
  go_loopw [15] (fun i wr => (i = .int .i64 0 ∨ i = .int .i64 1 ∨ i = .int .i64 2) ∧ NS w wr) (fun i _ => 2 - (intOf i).toNat)
  case atStart => exact ⟨.inl rfl, HST.out⟩
  case round =>
    obtain ⟨hi, hr⟩ := hrel
    have HR := Lib.hid hr
    have c0 : wr.cell? ⟨w.heap.size + 1, 0, none⟩ = some (.pointer none) := by rw [hr.p.cell]; rfl
    have c1 : wr.cell? ⟨w.heap.size + 1, 1, none⟩ = some (.pointer (some ⟨w.heap.size, 0, none⟩)) := by rw [hr.p.cell]; rfl
    clear hr HST
    rcases hi with rfl | rfl | rfl
    · go_wp2_with fail
      refine (nn1 _ HR.out (.inl rfl)).mono ?_
      rintro e w2 ⟨rfl, hs⟩
      have R1 := Lib.hid hs
      clear hs HR
      go_wp2_with fail
      refine (nn2 _ _ _ (R1.out.alloc _) (.inl rfl)).mono ?_
      rintro e w3 ⟨rfl, hs⟩
      have R2 := Lib.hid hs
      clear hs R1
      go_wp2_with fail
      refine (nn3 _ _ R2.out (.inl rfl)).mono ?_
      rintro e w4 ⟨rfl, hs⟩
      have R3 := Lib.hid hs
      clear hs R2
      go_wp2_with fail
      refine (nn4 R3.out (.inl rfl)).mono ?_
      rintro e w5 ⟨rfl, hs⟩
      have R4 := Lib.hid hs
      clear hs R3
      go_wp2_with fail
      refine (nn5 R4.out (.inl rfl)).mono ?_
      rintro e w6 ⟨rfl, hs⟩
      have R5 := Lib.hid hs
      clear hs R4
      go_wp2_with fail
      refine (nn6 R5.out (.inl rfl)).mono ?_
      rintro e w7 ⟨rfl, hs⟩
      have R6 := Lib.hid hs
      clear hs R5
      go_wp2_with fail
      refine (nn7 R6.out (.inl rfl)).mono ?_
      rintro e w8 ⟨rfl, hs⟩
      have R7 := Lib.hid hs
      clear hs R6
      go_wp2
      go_roundw
      case rel => exact ⟨.inr (.inl rfl), R7.out⟩
      case measure => simp [intOf]
    · go_wp2_with fail
      refine (nn1 _ HR.out (.inr rfl)).mono ?_
      rintro e w2 ⟨rfl, hs⟩
      have R1 := Lib.hid hs
      clear hs HR
      go_wp2_with fail
      refine (nn2 _ _ _ (R1.out.alloc _) (.inr rfl)).mono ?_
      rintro e w3 ⟨rfl, hs⟩
      have R2 := Lib.hid hs
      clear hs R1
      go_wp2_with fail
      refine (nn3 _ _ R2.out (.inr rfl)).mono ?_
      rintro e w4 ⟨rfl, hs⟩
      have R3 := Lib.hid hs
      clear hs R2
      go_wp2_with fail
      refine (nn4 R3.out (.inr rfl)).mono ?_
      rintro e w5 ⟨rfl, hs⟩
      have R4 := Lib.hid hs
      clear hs R3
      go_wp2_with fail
      refine (nn5 R4.out (.inr rfl)).mono ?_
      rintro e w6 ⟨rfl, hs⟩
      have R5 := Lib.hid hs
      clear hs R4
      go_wp2_with fail
      refine (nn6 R5.out (.inr rfl)).mono ?_
      rintro e w7 ⟨rfl, hs⟩
      have R6 := Lib.hid hs
      clear hs R5
      go_wp2_with fail
      refine (nn7 R6.out (.inr rfl)).mono ?_
      rintro e w8 ⟨rfl, hs⟩
      have R7 := Lib.hid hs
      clear hs R6
      go_wp2
      go_roundw
      case rel => exact ⟨.inr (.inr rfl), R7.out⟩
      case measure => simp [intOf]
    · clear c0 c1
      go_wp2_with fail
      refine (nn8 HR.out.f).mono ?_
      rintro e w2 ⟨b, g, rfl, hs⟩
      have S1 := Lib.hid hs
      clear hs HR
      go_wp2_with fail
      refine (nn9 S1.out).mono ?_
      rintro e w3 ⟨rfl, hs⟩
      have S2 := Lib.hid hs
      clear hs S1
      go_wp2_with fail
      refine (nn10 n S2.out).mono ?_
      rintro e w4 ⟨rfl, hs⟩
      have S3 := Lib.hid hs
      clear hs S2
      go_wp2_with fail
      refine (known_in S3.out.f).mono ?_
      rintro e w5 ⟨rfl, hs⟩
      have S4 := Lib.hid hs
      clear hs S3
      go_wp2
      go_ret
      exact ⟨rfl, S4.out⟩
end Go.Proofs.Ytefncefmolphfaa.drFn
