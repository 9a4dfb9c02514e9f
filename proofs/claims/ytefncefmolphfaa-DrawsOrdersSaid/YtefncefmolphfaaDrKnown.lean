/- The chapter's examples: the law's helper known returns true. -/
import Derived.Test.YtefncefmolphfaaDrPick2
namespace Go.Proofs.Ytefncefmolphfaa.drFn
open Go.ChangeShapes Go.WideShapes Go.ChangeAt Go.RowKit drMem
set_option linter.unusedVariables false

/- draws of the call's own, in a world that is as w was below -/
structure St (w : World) (b g : Nat) (l : List Nat) (u : Nat) (W : World) : Prop where
  d : isD W b g l u
  f : Below w.heap.size w W
  hb : w.heap.size ≤ b
  hg : w.heap.size ≤ g
theorem St.step {w W W' : World} {b g : Nat} {l : List Nat} {u u' : Nat} (h : St w b g l u W) (hd : isD W' b g l u') (hg : W.grownBy W' (some b)) : St w b g l u' W' :=
  ⟨hd, below_grown h.f hg h.f.size h.hb, h.hb, h.hg⟩
theorem St.below {w W W' : World} {b g : Nat} {l : List Nat} {u : Nat} (h : St w b g l u W) (hb : Below W.heap.size W W') : St w b g l u W' :=
  ⟨h.d.below hb, h.f.trans (hb.mono h.f.size), h.hb, h.hg⟩
theorem St.alloc {w W : World} {b g : Nat} {l : List Nat} {u : Nat} (h : St w b g l u W) (o : Obj) : St w b g l u (W.alloc o) := h.below ((Below.refl _ _).alloc (Nat.le_refl _) _)
theorem St.drewN {w W : World} {b g : Nat} {l : List Nat} {u : Nat} (h : St w b g l u W) (n : Nat) : St w b g l u (W.drewN n) := h.below ⟨rfl, rfl, rfl, Nat.le_refl _, fun _ _ => rfl⟩

def K1 : List Nat := [7, 12, 5, 100, 3]
def K2 : List Nat := [5, 0, 1]
theorem s01 : (is [10, 20, 30, 40]) = [.int .i64 10, .int .i64 20, .int .i64 30, .int .i64 40] := rfl
theorem sort01 : ([1, 0] : List Int).mergeSort (fun x y => decide (x ≤ y)) = [0, 1] := by simp [List.mergeSort, List.MergeSort.Internal.splitInTwo]
theorem pk24 : pkOut K2 0 2 4 = [0, 1] := by
  have e : pickGo K2 0 (2 : Int).toNat (upL (4 : Int).toNat (4 : Int).toNat) = [1, 0] := by decide
  unfold pkOut
  rw [if_pos (by decide), e, sort01]

theorem kn1 {w W : World} {b g : Nat} (h : St w b g K1 0 W) : Calls Try.prog 12 #[.pointer (some ⟨b, 0, none⟩), .int .i64 10, .int .i64 7, .int .i64 0] W (fun e w' => e = .returned (.bool true) ∧ St w b g K1 1 w') :=
  (next_any 10 7 0 h.d).mono fun e w' ⟨he, hd, hg⟩ => ⟨he, h.step hd hg⟩
theorem kn2 {w W : World} {b g : Nat} (h : St w b g K1 1 W) : Calls Try.prog 12 #[.pointer (some ⟨b, 0, none⟩), .int .i64 10, .int .i64 2, .int .i64 0] W (fun e w' => e = .returned (.bool true) ∧ St w b g K1 2 w') :=
  (next_any 10 2 0 h.d).mono fun e w' ⟨he, hd, hg⟩ => ⟨he, h.step hd hg⟩
theorem kn3 {w W : World} {b g : Nat} (h : St w b g K1 2 W) : Calls Try.prog 12 #[.pointer (some ⟨b, 0, none⟩), .int .i64 0, .int .i64 0, .int .i64 2] W (fun e w' => e = .returned (.bool true) ∧ St w b g K1 2 w') :=
  (next_any 0 0 2 h.d).mono fun e w' ⟨he, hd, hg⟩ => ⟨he, h.step hd hg⟩
theorem kn4 {w W : World} {b g : Nat} (h : St w b g K1 2 W) : Calls Try.prog 24 #[.pointer (some ⟨b, 0, none⟩)] W (fun e w' => e = .returned (.int .i64 2) ∧ St w b g K1 2 w') :=
  (Used_any h.d).mono fun e w' ⟨he, hw⟩ => ⟨he, hw ▸ h⟩
theorem kn5 {w W : World} {b g : Nat} (h : St w b g K1 2 W) : Calls Try.prog 23 #[.pointer (some ⟨b, 0, none⟩)] W (fun e w' => e = .returned (.int .i64 3) ∧ St w b g K1 2 w') :=
  (Left_any h.d).mono fun e w' ⟨he, n, hw⟩ => ⟨he, hw ▸ h.drewN n⟩
theorem kn6 {w W : World} {b g : Nat} (h : St w b g K1 2 W) : Calls Try.prog 21 #[.pointer (some ⟨b, 0, none⟩)] W (fun e w' => e = .returned (.slice (some ⟨W.heap.size, 0, none⟩) 3 3) ∧ has w' W.heap.size 30 (us [5, 100, 3]) ∧ St w b g K1 2 w') :=
  (Rest_any h.d).mono fun e w' ⟨he, hh, hb⟩ => ⟨he, hh, h.below hb⟩
theorem kn7 {w W : World} {b g r : Nat} (h : St w b g K1 2 W) (hr : has W r 30 (us [5, 100, 3])) : Calls Try.prog 22 #[.slice (some ⟨r, 0, none⟩) 3 3, .slice (some ⟨W.heap.size, 0, none⟩) 3 3] (W.alloc (.cells #[.int .u64 5, .int .u64 100, .int .u64 3] 30)) (fun e w' => e = .returned (.bool true) ∧ St w b g K1 2 w') :=
  (Words_any (some ⟨r, 0, none⟩) (some ⟨W.heap.size, 0, none⟩) 3 3 3 3 [5, 100, 3] [5, 100, 3] _ (src.of (hr.alloc _)) (src.of (has.new W _ [.int .u64 5, .int .u64 100, .int .u64 3])) rfl rfl (by omega) (by omega)).mono fun e w' ⟨he, n, hw⟩ => ⟨he, hw ▸ (h.alloc _).drewN n⟩
theorem kn8 {w W : World} {b g : Nat} (h : St w b g K1 2 W) : Calls Try.prog 14 #[.pointer (some ⟨b, 0, none⟩), .slice (some ⟨W.heap.size, 0, none⟩) 4 4, .slice (some ⟨W.heap.size + 1, 0, none⟩) 4 4, .int .i64 0]
    ((W.alloc (.cells #[.int .i64 10, .int .i64 20, .int .i64 30, .int .i64 40] 3)).alloc (.cells #[.int .i64 10, .int .i64 30, .int .i64 40, .int .i64 20] 3)) (fun e w' => e = .returned (.bool true) ∧ St w b g K1 5 w') := by
  have h1 := (h.alloc (.cells #[.int .i64 10, .int .i64 20, .int .i64 30, .int .i64 40] 3)).alloc (.cells #[.int .i64 10, .int .i64 30, .int .i64 40, .int .i64 20] 3)
  have a1 := (has.new W 3 [.int .i64 10, .int .i64 20, .int .i64 30, .int .i64 40]).alloc (.cells #[.int .i64 10, .int .i64 30, .int .i64 40, .int .i64 20] 3)
  have a2 := has.new (W.alloc (.cells #[.int .i64 10, .int .i64 20, .int .i64 30, .int .i64 40] 3)) 3 [.int .i64 10, .int .i64 30, .int .i64 40, .int .i64 20]
  have hl := h.d.d.lt
  have e : (W.alloc (.cells #[.int .i64 10, .int .i64 20, .int .i64 30, .int .i64 40] 3)).heap.size = W.heap.size + 1 := by simp
  rw [e] at a2
  exact (shuffles_any (some ⟨W.heap.size, 0, none⟩) (some ⟨W.heap.size + 1, 0, none⟩) 4 4 4 4 [10, 20, 30, 40] [10, 30, 40, 20] 0 h1.d (src.of a1) rfl (by omega) (src.of a2) rfl (by omega) (by rintro a ⟨⟩; show W.heap.size + 1 ≠ b; omega)).mono fun e w' ⟨he, hd, hg⟩ => ⟨he, h1.step hd hg⟩
theorem kn9 {w W : World} {b g : Nat} (h : St w b g K1 5 W) : Calls Try.prog 24 #[.pointer (some ⟨b, 0, none⟩)] W (fun e w' => e = .returned (.int .i64 5) ∧ St w b g K1 5 w') :=
  (Used_any h.d).mono fun e w' ⟨he, hw⟩ => ⟨he, hw ▸ h⟩
theorem kn10 {w W : World} {b g : Nat} (h : St w b g K1 5 W) : Calls Try.prog 12 #[.pointer (some ⟨b, 0, none⟩), .int .i64 2, .int .i64 0, .int .i64 16] W (fun e w' => e = .returned (.bool true) ∧ St w b g K1 5 w') :=
  (next_any 2 0 16 h.d).mono fun e w' ⟨he, hd, hg⟩ => ⟨he, h.step hd hg⟩
theorem kn11 {w W : World} {b g : Nat} (h : St w b g K2 0 W) : Calls Try.prog 17 #[.pointer (some ⟨b, 0, none⟩), .int .i64 2, .int .i64 4, .slice (some ⟨W.heap.size, 0, none⟩) 2 2, .int .i64 0] (W.alloc (.cells #[.int .i64 0, .int .i64 1] 3)) (fun e w' => e = .returned (.bool true) ∧ St w b g K2 2 w') := by
  have h1 := h.alloc (.cells #[.int .i64 0, .int .i64 1] 3)
  have hl := h.d.d.lt
  have c := picks_any 2 4 (some ⟨W.heap.size, 0, none⟩) 2 2 [0, 1] 0 h1.d (src.of (has.new W 3 [.int .i64 0, .int .i64 1])) rfl (by omega) (by rintro a ⟨⟩; show W.heap.size ≠ b; omega)
  rw [pk24] at c
  exact c.mono fun e w' ⟨he, hd, hg⟩ => ⟨he, h1.step hd hg⟩
theorem kn12 {w W : World} {b g : Nat} (h : St w b g K2 2 W) : Calls Try.prog 17 #[.pointer (some ⟨b, 0, none⟩), .int .i64 0, .int .i64 0, .slice none 0 0, .int .i64 0] W (fun e w' => e = .returned (.bool true) ∧ St w b g K2 2 w') := by
  have c := picks_any 0 0 none 0 0 [] 0 h.d (src.nil _ _) rfl (by omega) (by simp)
  have e : pkOut K2 2 0 0 = [] := by
    unfold pkOut
    rw [if_pos (by decide)]
    exact List.mergeSort_nil
  rw [e] at c
  exact c.mono fun e w' ⟨he, hd, hg⟩ => ⟨he, h.step hd hg⟩
theorem kn13 {w W : World} {b g : Nat} (h : St w b g K2 2 W) : Calls Try.prog 17 #[.pointer (some ⟨b, 0, none⟩), .int .i64 1, .int .i64 0, .slice none 0 0, .int .i64 2] W (fun e w' => e = .returned (.bool true) ∧ St w b g K2 2 w') := by
  have c := picks_any 1 0 none 0 0 [] 2 h.d (src.nil _ _) rfl (by omega) (by simp)
  have e : pkOut K2 2 1 0 = [] := by
    unfold pkOut
    rw [if_neg (by decide)]
  rw [e] at c
  exact c.mono fun e w' ⟨he, hd, hg⟩ => ⟨he, h.step hd hg⟩
theorem kn14 {w W : World} {b g : Nat} (h : St w b g K2 2 W) : Calls Try.prog 17 #[.pointer (some ⟨b, 0, none⟩), .int .i64 2, .int .i64 4, .slice none 0 0, .int .i64 16] W (fun e w' => e = .returned (.bool true) ∧ St w b g K2 2 w') := by
  have c := picks_any 2 4 none 0 0 [] 16 h.d (src.nil _ _) rfl (by omega) (by simp)
  have e : pkOut K2 2 2 4 = [] := by
    unfold pkOut
    rw [if_neg (by decide)]
  rw [e] at c
  exact c.mono fun e w' ⟨he, hd, hg⟩ => ⟨he, h.step hd hg⟩
theorem kn15 {w W : World} {b g : Nat} (h : St w b g K2 2 W) : Calls Try.prog 23 #[.pointer (some ⟨b, 0, none⟩)] W (fun e w' => e = .returned (.int .i64 1) ∧ St w b g K2 2 w') :=
  (Left_any h.d).mono fun e w' ⟨he, n, hw⟩ => ⟨he, hw ▸ h.drewN n⟩
theorem knN {w W : World} {vs : List Value} (l : List Nat) (n : Nat) (hf : Below w.heap.size w W) (hl : l.length = n) (hv : us l = vs) (hn : n ≤ 65536) (hx : ∀ x ∈ l, x < 18446744073709551616) :
    Calls Try.prog 10 #[.slice (some ⟨W.heap.size, 0, none⟩) n n] (W.alloc (.cells vs.toArray 30)) fun e w' => ∃ b g, e = .returned (.tuple #[.pointer (some ⟨b, 0, none⟩), .int .i64 0]) ∧ St w b g l 0 w' := by
  subst hv
  refine (New_ok (some ⟨W.heap.size, 0, none⟩) n n l _ hl hn (src.of (has.new W _ _)) hx).mono ?_
  rintro e w' ⟨b, rfl, hd, hlt, hb⟩
  have hs := hf.size
  have e : (W.alloc (.cells (us l).toArray 30)).heap.size = W.heap.size + 1 := by simp
  refine ⟨b, _, rfl, hd, (hf.alloc hs _).trans (hb.mono (by omega)), by omega, by omega⟩

set_option maxRecDepth 100000 in
set_option maxHeartbeats 2000000 in
theorem known_any (w : World) : Calls Try.prog 9 #[] w fun e w' => e = .returned (.bool true) ∧ Below w.heap.size w w' := by
  go_enter Try.func9, Try.ntmps9
  go_wp2_with fail
  refine (knN (w := w) (W := w) K1 5 (Below.refl _ _) rfl rfl (by omega) (by decide)).mono ?_
  rintro e w1 ⟨b, g, rfl, hs⟩
  have S0 := Lib.hid hs
  clear hs
  go_wp2_with fail
  refine (kn1 S0.out).mono ?_
  rintro e w2 ⟨rfl, hs⟩
  have S1 := Lib.hid hs
  clear hs S0
  go_wp2_with fail
  refine (kn2 S1.out).mono ?_
  rintro e w3 ⟨rfl, hs⟩
  have S2 := Lib.hid hs
  clear hs S1
  go_wp2_with fail
  refine (kn3 S2.out).mono ?_
  rintro e w4 ⟨rfl, hs⟩
  have S3 := Lib.hid hs
  clear hs S2
  go_wp2_with fail
  refine (kn4 S3.out).mono ?_
  rintro e w5 ⟨rfl, hs⟩
  have S4 := Lib.hid hs
  clear hs S3
  go_wp2_with fail
  refine (kn5 S4.out).mono ?_
  rintro e w6 ⟨rfl, hs⟩
  have S5 := Lib.hid hs
  clear hs S4
  go_wp2_with fail
  refine (kn6 S5.out).mono ?_
  rintro e w7 ⟨rfl, hr, hs⟩
  have R := Lib.hid hr
  have S6 := Lib.hid hs
  clear hs hr S5
  go_wp2_with fail
  refine (kn7 S6.out R.out).mono ?_
  rintro e w8 ⟨rfl, hs⟩
  have S7 := Lib.hid hs
  clear hs S6 R
  go_wp2_with fail
  refine (kn8 S7.out).mono ?_
  rintro e w9 ⟨rfl, hs⟩
  have S8 := Lib.hid hs
  clear hs S7
  go_wp2_with fail
  refine (kn9 S8.out).mono ?_
  rintro e w10 ⟨rfl, hs⟩
  have S9 := Lib.hid hs
  clear hs S8
  go_wp2_with fail
  refine (kn10 S9.out).mono ?_
  rintro e w11 ⟨rfl, hs⟩
  have S10 := Lib.hid hs
  clear hs S9
  go_wp2_with fail
  refine (knN (w := w) K2 3 S10.out.f rfl rfl (by omega) (by decide)).mono ?_
  rintro e w12 ⟨b2, g2, rfl, hs⟩
  have S11 := Lib.hid hs
  clear hs S10
  go_wp2_with fail
  refine (kn11 S11.out).mono ?_
  rintro e w13 ⟨rfl, hs⟩
  have S12 := Lib.hid hs
  clear hs S11
  go_wp2_with fail
  refine (kn12 S12.out).mono ?_
  rintro e w14 ⟨rfl, hs⟩
  have S13 := Lib.hid hs
  clear hs S12
  go_wp2_with fail
  refine (kn13 S13.out).mono ?_
  rintro e w15 ⟨rfl, hs⟩
  have S14 := Lib.hid hs
  clear hs S13
  go_wp2_with fail
  refine (kn14 S14.out).mono ?_
  rintro e w16 ⟨rfl, hs⟩
  have S15 := Lib.hid hs
  clear hs S14
  go_wp2_with fail
  refine (kn15 S15.out).mono ?_
  rintro e w17 ⟨rfl, hs⟩
  have S16 := Lib.hid hs
  clear hs S15
  go_wp2
  go_ret
  exact ⟨rfl, S16.out.f⟩
end Go.Proofs.Ytefncefmolphfaa.drFn
