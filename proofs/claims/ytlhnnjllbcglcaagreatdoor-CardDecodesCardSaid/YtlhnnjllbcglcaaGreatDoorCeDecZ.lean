/- The list that bytes begin with: what Decode returns. -/
import Derived.Test.YtlhnnjllbcglcaaGreatDoorCeDecA
import Derived.Test.YtlhnnjllbcglcaaGreatDoorCeDecB
namespace Go.Proofs.YtlhnnjllbcglcaaGreatDoor.efFn
open Go.ChangeShapes Go.WideShapes Go.ChangeAt Go.RowKit Go.Shelf drMem
set_option linter.unusedVariables false
attribute [local go_sem] Oper.semAt_some

set_option maxRecDepth 100000 in
set_option maxHeartbeats 16000000 in
theorem Decode_any (sp : Option Addr) (n cap : Nat) (l : List UInt8) (w : World) (h : BsAt w sp n l) (hcap : n ≤ cap) :
    Calls Tryz.prog 77 #[.slice sp n cap] w (decPost (decR l) w) := by
  obtain ⟨i0, hi, hz0, hz1, hz2⟩ := info_parts infoE
  have hn := h.n
  have hm := h.m
  rcases Nat.eq_zero_or_pos n with h0 | h0
  · subst h0
    have H := Lib.hid (decR_0 hn)
    clear hn hm h
    refine (callsIn_wide (n := 4)).1 ?_
    refine callsIn_of_wp_marks Tryz.func77 rfl trivial ?_ rfl
    simp only [Tryz.ntmps77, List.size_toArray, List.length_cons, List.length_nil, Nat.reduceAdd, Nat.reduceSub, Array.replicate_succ, Array.replicate_zero, List.push_toArray, List.append_toArray, List.nil_append, List.cons_append]
    gi_wp2
    exact ⟨.tuple #[.slice none 0 0, .int .i64 0, .int .i64 4], by simp [results, Tryz.results77, go_sem], decPost_no H.out ((Below.refl _ _).alloc (Nat.le_refl _) _)⟩
  · by_cases hcase : ¬ 4 < nB l ∧ ¬ n < 1 + 5 * nB l
    · by_cases hc1 : cap = 1
      · exact Decode_A sp n cap l w h hcap h0 hcase.1 hcase.2 hc1
      · exact Decode_B sp n cap l w h hcap h0 hcase.1 hcase.2 hc1
    have hc := h.c
    obtain ⟨b, off, rfl, hbl, hc0⟩ := hc (by rw [bys_len, hn]; exact h0)
    have C : Hid (∀ j, j < n → w.cell? ⟨b, off + j, none⟩ = some (.int .u8 (byAt l j))) := Lib.hid fun j hj => BsAt.at (len := 0) hc j (by omega)
    have c0 := C.out 0 h0
    rw [Nat.add_zero] at c0
    have hN : byAt l 0 = (nB l : Int) := rfl
    have HL := Lib.hid hn
    clear hc h hc0
    have hN8 : nB l < 256 := (l.getD 0 0).toNat_lt
    obtain ⟨N, hNN⟩ : ∃ N, nB l = N := ⟨_, rfl⟩
    rw [hN, hNN] at c0
    rw [hNN] at hN8
    have HN := Lib.hid hNN
    clear hN hNN
    have hlen : decide ((n : Int) = 0) = false := decide_eq_false (by omega)
    have hne : ((n : Int) == 0) = false := by rw [beq_eq_false_iff_ne]; omega
    by_cases h4 : 4 < N
    · have H := Lib.hid (decR_1 (l := l) (by rw [HL.out]; exact h0) (by rw [HN.out]; exact h4))
      clear hn
      refine (callsIn_wide (n := 4)).1 ?_
      refine callsIn_of_wp_marks Tryz.func77 rfl trivial ?_ rfl
      simp only [Tryz.ntmps77, List.size_toArray, List.length_cons, List.length_nil, Nat.reduceAdd, Nat.reduceSub, Array.replicate_succ, Array.replicate_zero, List.push_toArray, List.append_toArray, List.nil_append, List.cons_append]
      gi_wp2
      all_goals first | (exfalso; omega) | skip
      exact ⟨.tuple #[.slice none 0 0, .int .i64 0, .int .i64 6], by simp [results, Tryz.results77, go_sem], decPost_no H.out ((Below.refl _ _).alloc (Nat.le_refl _) _)⟩
    · by_cases h5 : n < 1 + 5 * N
      · have H := Lib.hid (decR_2 (l := l) (by rw [HL.out]; exact h0) (by rw [HN.out]; exact h4) (by rw [HL.out, HN.out]; exact h5))
        clear hn
        refine (callsIn_wide (n := 4)).1 ?_
        refine callsIn_of_wp_marks Tryz.func77 rfl trivial ?_ rfl
        simp only [Tryz.ntmps77, List.size_toArray, List.length_cons, List.length_nil, Nat.reduceAdd, Nat.reduceSub, Array.replicate_succ, Array.replicate_zero, List.push_toArray, List.append_toArray, List.nil_append, List.cons_append]
        gi_wp2
        all_goals first | (exfalso; omega) | skip
        exact ⟨.tuple #[.slice none 0 0, .int .i64 0, .int .i64 4], by simp [results, Tryz.results77, go_sem], decPost_no H.out ((Below.refl _ _).alloc (Nat.le_refl _) _)⟩
      · exact absurd ⟨by rw [HN.out]; exact h4, by rw [HN.out]; exact h5⟩ hcase
end Go.Proofs.YtlhnnjllbcglcaaGreatDoor.efFn
