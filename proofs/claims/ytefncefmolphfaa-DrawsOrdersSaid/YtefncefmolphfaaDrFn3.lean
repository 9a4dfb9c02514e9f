/- What Rest and Copy return. -/
import Derived.Test.YtefncefmolphfaaDrFn2
import Derived.StillTailTactics
import Derived.Deep.RegionHeld3
namespace Go.Proofs.Ytefncefmolphfaa.drFn
open Go.ChangeShapes Go.WideShapes Go.ChangeAt Go.RowKit drMem
set_option linter.unusedVariables false

theorem us_drop (l : List Nat) (k : Nat) : us (l.drop k) = (us l).drop k := by simp [us]
theorem Rest_nil (w : World) : Calls Try.prog 21 #[.pointer none] w fun e w' => e = .returned (.slice none 0 0) ∧ w = w' := by
  go_enter Try.func21, Try.ntmps21
  go_wp2_with (go_at_call 29; refine (zero_nil _).mono ?_; rintro e w' ⟨rfl, rfl⟩)
  go_ret
  exact ⟨rfl, rfl⟩
theorem Rest_zero (b : Nat) (w : World) (h : w.cell? ⟨b, 0, none⟩ = some (.slice none 0 0)) :
    Calls Try.prog 21 #[.pointer (some ⟨b, 0, none⟩)] w fun e w' => e = .returned (.slice none 0 0) ∧ w = w' := by
  have H := Lib.hid h
  clear h
  go_enter Try.func21, Try.ntmps21
  go_wp2_with (go_at_call 29; refine (zero_zero _ _ H.out).mono ?_; rintro e w' ⟨rfl, rfl⟩)
  go_ret
  exact ⟨rfl, rfl⟩
set_option maxHeartbeats 400000 in
theorem Rest_any {b g : Nat} {l : List Nat} {u : Nat} {w : World} (h : isD w b g l u) :
    Calls Try.prog 21 #[.pointer (some ⟨b, 0, none⟩)] w fun e w' => e = .returned (.slice (some ⟨w.heap.size, 0, none⟩) (l.length - u) (l.length - u)) ∧ has w' w.heap.size 30 (us (l.drop u)) ∧ Below w.heap.size w w' := by
  have HH := Lib.hid h
  have hle := h.le; have hlen := h.len
  have c0 := h.c0
  have c1 := h.c1
  clear h
  by_cases hu : u < l.length
  · have hne : ¬ l.length = u := by omega
    go_enter Try.func21, Try.ntmps21
    go_wp2_with (go_at_call 29; refine (zero_no HH.out).mono ?_; rintro e w' ⟨rfl, rfl⟩)
    go_still_tail 9, (by kernel_rfl)
    change wpList _ _ _ _ _ (w.drewN 1)
    obtain ⟨w2, hw2⟩ : ∃ w2, w2 = w.drewN 1 := ⟨_, rfl⟩
    rw [← hw2]
    have HW := Lib.hid hw2
    clear hw2
    have hH2 : isD w2 b g l u := by rw [HW.out]; exact HH.out.drewN 1
    have H2 := Lib.hid hH2
    clear hH2
    go_wp2_with fail
    refine (copied_u (some ⟨g, u, none⟩) (l.length - u) (l.length - u) (l.drop u) w2 (by simp) (by omega) (by rw [us_drop]; exact src.of_drop H2.out.n u)).mono ?_
    rintro e w3 ⟨rfl, h3, hb3⟩
    have H3 := Lib.hid h3
    have B3 := Lib.hid hb3
    clear h3 hb3
    go_wp2
    go_ret
    have e2 : w2.heap.size = w.heap.size := by rw [HW.out]; rfl
    have h3 := H3.out
    have hb3 := B3.out
    rw [HW.out] at h3 hb3
    rw [← e2]
    exact ⟨rfl, by rw [e2]; exact h3, by rw [e2]; exact ⟨hb3.os, hb3.tape, hb3.output, hb3.size, hb3.block⟩⟩
  · obtain rfl : u = l.length := by omega
    go_enter Try.func21, Try.ntmps21
    go_wp2_with (go_at_call 29; refine (zero_no HH.out).mono ?_; rintro e w' ⟨rfl, rfl⟩)
    go_still_tail 9, (by kernel_rfl)
    change wpList _ _ _ _ _ (w.drewN 1)
    obtain ⟨w2, hw2⟩ : ∃ w2, w2 = w.drewN 1 := ⟨_, rfl⟩
    rw [← hw2]
    have HW := Lib.hid hw2
    clear hw2
    go_wp2_with fail
    refine (copied_u (some ⟨g, 0, none⟩) 0 0 [] w2 (by simp) (by omega) (src.nil _ _)).mono ?_
    rintro e w3 ⟨rfl, h3, hb3⟩
    have H3 := Lib.hid h3
    have B3 := Lib.hid hb3
    clear h3 hb3
    go_wp2
    go_ret
    have e2 : w2.heap.size = w.heap.size := by rw [HW.out]; rfl
    have h3 := H3.out
    have hb3 := B3.out
    rw [HW.out] at h3 hb3
    rw [← e2]
    exact ⟨by simp, by rw [e2]; simpa using h3, by rw [e2]; exact ⟨hb3.os, hb3.tape, hb3.output, hb3.size, hb3.block⟩⟩

theorem Copy_nil (w : World) : Calls Try.prog 18 #[.pointer none] w fun e w' => e = .returned (.pointer none) ∧ w = w' := by
  go_enter Try.func18, Try.ntmps18
  go_wp2_with (go_at_call 29; refine (zero_nil _).mono ?_; rintro e w' ⟨rfl, rfl⟩)
  go_ret
  exact ⟨rfl, rfl⟩
theorem Copy_zero (b : Nat) (w : World) (h : w.cell? ⟨b, 0, none⟩ = some (.slice none 0 0)) :
    Calls Try.prog 18 #[.pointer (some ⟨b, 0, none⟩)] w fun e w' => e = .returned (.pointer none) ∧ w = w' := by
  have H := Lib.hid h
  clear h
  go_enter Try.func18, Try.ntmps18
  go_wp2_with (go_at_call 29; refine (zero_zero _ _ H.out).mono ?_; rintro e w' ⟨rfl, rfl⟩)
  go_ret
  exact ⟨rfl, rfl⟩
set_option maxHeartbeats 400000 in
theorem Copy_any {b g : Nat} {l : List Nat} {u : Nat} {w : World} (h : isD w b g l u) :
    Calls Try.prog 18 #[.pointer (some ⟨b, 0, none⟩)] w fun e w' => ∃ b', e = .returned (.pointer (some ⟨b', 0, none⟩)) ∧ isD w' b' w.heap.size l u ∧ w.heap.size < b' ∧ Below w.heap.size w w' := by
  have HH := Lib.hid h
  have hle := h.le; have hlen := h.len
  have c0 := h.c0
  have c1 := h.c1
  have hb := h.d.lt
  clear h
  go_enter Try.func18, Try.ntmps18
  go_wp2_with (go_at_call 29; refine (zero_no HH.out).mono ?_; rintro e w' ⟨rfl, rfl⟩)
  have hu1 : src w.drew (some ⟨g, 0, none⟩) (us l) := src.of (HH.out.drewN 1).n
  have HS := Lib.hid hu1
  clear hu1
  go_region_held3 (fun w' => w'.cell? ⟨b, 0, none⟩ = some (.slice (some ⟨g, 0, none⟩) l.length l.length) ∧ w'.cell? ⟨b, 1, none⟩ = some (.int .i64 (u : Int))) (first | assumption | (constructor <;> assumption) | go_keep) (first | (go_at_call 26; refine (copied_u (some ⟨g, 0, none⟩) l.length l.length l _ rfl (by omega) HS.out).mono ?_; rintro e w3 ⟨rfl, h3, hb3⟩; have d0 := (hb3.cell (p := ⟨b, 0, none⟩) hb).trans c0; have d1 := (hb3.cell (p := ⟨b, 1, none⟩) hb).trans c1; have H3 := Lib.hid h3; have B3 := Lib.hid hb3; clear h3 hb3))
  clear d0 d1
  have hh : has w3 w.heap.size 30 (us l) := H3.out
  have hb' : Below w.heap.size w w3 := ⟨B3.out.os, B3.out.tape, B3.out.output, B3.out.size, B3.out.block⟩
  have hsz := hh.lt
  have H4 := Lib.hid hh
  have B4 := Lib.hid hb'
  clear hh hb'
  go_wp2
  go_ret
  exact ⟨_, rfl, ⟨has.new w3 _ [_, _], H4.out.alloc _, hle, hlen, HH.out.val⟩, hsz, B4.out.alloc B4.out.size _⟩
end Go.Proofs.Ytefncefmolphfaa.drFn
