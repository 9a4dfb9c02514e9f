/- What Take, Claim and Free return and leave, at any number; New. -/
import Derived.Test.YtefncefmolphfaaDoorIdFn3
import Derived.Laws.MakeOwn
namespace Go.Proofs.YtefncefmolphfaaDoor.idFn
open Go.ChangeShapes Go.WideShapes Go.ChangeAt Go.RowKit drMem idBits
set_option linter.unusedVariables false
variable {w w' : World} {b g : Nat} {fl : List Bool}

def ffOf (fl : List Bool) : Nat := fl.findIdx fun x => !x
theorem isFF_of (fl : List Bool) : isFF fl (ffOf fl) := by
  induction fl with
  | nil => exact ⟨fun j hj => absurd hj (by simp [ffOf]), by simp⟩
  | cons x fl ih =>
    unfold ffOf at ih ⊢
    cases x with
    | false => exact ⟨fun j hj => absurd hj (by simp [List.findIdx_cons]), by simp [List.findIdx_cons]⟩
    | true =>
      simp only [List.findIdx_cons, Bool.not_true, cond_false]
      refine ⟨fun j hj => ?_, ?_⟩
      · cases j with
        | zero => simp
        | succ j => rw [List.getD_cons_succ]; exact ih.1 j (by omega)
      · rw [List.getD_cons_succ]; exact ih.2
def tkE (fl : List Bool) : Int := if ffOf fl < fl.length then 0 else 7
def tkV (fl : List Bool) : Int := if ffOf fl < fl.length then (ffOf fl : Int) + 1 else 0
def tkF (fl : List Bool) : List Bool := if ffOf fl < fl.length then fl.set (ffOf fl) true else fl
def clE (fl : List Bool) (id : Int) : Int := if id < 1 ∨ (fl.length : Int) < id then 2 else if fl.getD (id.toNat - 1) false = true then 11 else 0
def clF (fl : List Bool) (id : Int) : List Bool := if clE fl id = 0 then fl.set (id.toNat - 1) true else fl
def frE (fl : List Bool) (id : Int) : Int := if id < 1 ∨ (fl.length : Int) < id then 2 else if fl.getD (id.toNat - 1) false = true then 0 else 9
def frF (fl : List Bool) (id : Int) : List Bool := if frE fl id = 0 then fl.set (id.toNat - 1) false else fl
def hasB (fl : List Bool) (id : Int) : Bool := if id < 1 ∨ (fl.length : Int) < id then false else fl.getD (id.toNat - 1) false
theorem tkF_len (fl : List Bool) : (tkF fl).length = fl.length := by unfold tkF; split <;> simp
theorem clF_len (fl : List Bool) (id : Int) : (clF fl id).length = fl.length := by unfold clF; split <;> simp
theorem frF_len (fl : List Bool) (id : Int) : (frF fl id).length = fl.length := by unfold frF; split <;> simp

theorem Take_any (h : isI w b g fl) : Calls Tryd.prog 23 #[.pointer (some ⟨b, 0, none⟩)] w (opPost b g (tkF fl) (.tuple #[.int .i64 (tkV fl), .int .i64 (tkE fl)]) w) := by
  have hf := isFF_of fl
  unfold tkF tkV tkE
  by_cases hl : ffOf fl < fl.length
  · rw [if_pos hl, if_pos hl, if_pos hl]
    exact Take_ok h _ hf hl
  · rw [if_neg hl, if_neg hl, if_neg hl]
    have e : ffOf fl = fl.length := by have := hf.le; omega
    rw [e] at hf
    exact Take_full h hf
theorem Has_any (h : isI w b g fl) (id : Int) : Calls Tryd.prog 20 #[.pointer (some ⟨b, 0, none⟩), .int .i64 id] w fun e w' => e = .returned (.bool (hasB fl id)) ∧ ∃ n, w' = w.drewN n := by
  unfold hasB
  by_cases h1 : id < 1 ∨ (fl.length : Int) < id
  · rw [if_pos h1]; exact Has_out h id h1
  · rw [if_neg h1]
    obtain ⟨k, rfl⟩ := Int.eq_ofNat_of_zero_le (a := id) (by omega)
    rw [Int.toNat_natCast]
    exact Has_in h k (by omega) (by omega)
set_option maxHeartbeats 400000 in
theorem Claim_any (h : isI w b g fl) (id : Int) : Calls Tryd.prog 19 #[.pointer (some ⟨b, 0, none⟩), .int .i64 id] w (opPost b g (clF fl id) (.int .i64 (clE fl id)) w) := by
  have HZ := Lib.hid (zero_any h)
  have H := Lib.hid h
  by_cases h1 : id < 1 ∨ (fl.length : Int) < id
  · have e1 : clE fl id = 2 := by unfold clE; rw [if_pos h1]
    have e2 : clF fl id = fl := by unfold clF; rw [e1]; rfl
    rw [e1, e2]
    have HC := Lib.hid (contains_out h id h1)
    clear h h1 e1 e2
    go_enter Tryd.func19, Tryd.ntmps19
    go_wp2_with (first | (go_at_call 28; refine HZ.out.mono ?_; rintro e w' ⟨rfl, rfl⟩) | (go_at_call 30; refine HC.out.mono ?_; rintro e w' ⟨rfl, rfl⟩))
    go_ret
    exact opPost.same H.out 0 rfl
  · obtain ⟨k, rfl⟩ := Int.eq_ofNat_of_zero_le (a := id) (by omega)
    have HC := Lib.hid (contains_in h k (by omega) (by omega))
    have HH := Lib.hid (Has_in h k (by omega) (by omega))
    by_cases hf : fl.getD (k - 1) false = true
    · have e1 : clE fl (k : Int) = 11 := by unfold clE; rw [if_neg h1, Int.toNat_natCast, if_pos hf]
      have e2 : clF fl (k : Int) = fl := by unfold clF; rw [e1]; rfl
      rw [e1, e2]
      have hh := HH.out
      rw [hf] at hh
      have HI := Lib.hid hh
      clear h h1 e1 e2 hf hh HH
      go_enter Tryd.func19, Tryd.ntmps19
      go_wp2_with (first | (go_at_call 28; refine HZ.out.mono ?_; rintro e w' ⟨rfl, rfl⟩) | (go_at_call 30; refine HC.out.mono ?_; rintro e w' ⟨rfl, rfl⟩) | (go_at_call 20; refine HI.out.mono ?_; rintro e w' ⟨rfl, n, rfl⟩))
      go_ret
      exact opPost.same H.out _ rfl
    · have hf' : fl.getD (k - 1) false = false := by simpa using hf
      have e1 : clE fl (k : Int) = 0 := by unfold clE; rw [if_neg h1, Int.toNat_natCast, if_neg hf]
      have e2 : clF fl (k : Int) = fl.set (k - 1) true := by unfold clF; rw [e1, Int.toNat_natCast]; rfl
      rw [e1, e2]
      have hh := HH.out
      rw [hf'] at hh
      have HI := Lib.hid hh
      have HF := Lib.hid (fun n => flip_any (h.drewN n) k (by omega) (by omega) true (by rw [hf']; rfl))
      clear h h1 e1 e2 hf hf' hh HH
      go_enter Tryd.func19, Tryd.ntmps19
      go_wp2_with (first | (go_at_call 28; refine HZ.out.mono ?_; rintro e w' ⟨rfl, rfl⟩) | (go_at_call 30; refine HC.out.mono ?_; rintro e w' ⟨rfl, rfl⟩) | (go_at_call 20; refine HI.out.mono ?_; rintro e w' ⟨rfl, n, rfl⟩) | (go_at_call 31; refine (HF.out _).mono ?_; rintro e w' ⟨⟨v, rfl⟩, hi, hg⟩))
      go_ret
      exact ⟨rfl, hi, ⟨hg.os, hg.tape, hg.output, hg.size, hg.block⟩⟩
set_option maxHeartbeats 400000 in
theorem Free_any (h : isI w b g fl) (id : Int) : Calls Tryd.prog 16 #[.pointer (some ⟨b, 0, none⟩), .int .i64 id] w (opPost b g (frF fl id) (.int .i64 (frE fl id)) w) := by
  have HZ := Lib.hid (zero_any h)
  have H := Lib.hid h
  by_cases h1 : id < 1 ∨ (fl.length : Int) < id
  · have e1 : frE fl id = 2 := by unfold frE; rw [if_pos h1]
    have e2 : frF fl id = fl := by unfold frF; rw [e1]; rfl
    rw [e1, e2]
    have HC := Lib.hid (contains_out h id h1)
    clear h h1 e1 e2
    go_enter Tryd.func16, Tryd.ntmps16
    go_wp2_with (first | (go_at_call 28; refine HZ.out.mono ?_; rintro e w' ⟨rfl, rfl⟩) | (go_at_call 30; refine HC.out.mono ?_; rintro e w' ⟨rfl, rfl⟩))
    go_ret
    exact opPost.same H.out 0 rfl
  · obtain ⟨k, rfl⟩ := Int.eq_ofNat_of_zero_le (a := id) (by omega)
    have HC := Lib.hid (contains_in h k (by omega) (by omega))
    have HH := Lib.hid (Has_in h k (by omega) (by omega))
    by_cases hf : fl.getD (k - 1) false = true
    · have e1 : frE fl (k : Int) = 0 := by unfold frE; rw [if_neg h1, Int.toNat_natCast, if_pos hf]
      have e2 : frF fl (k : Int) = fl.set (k - 1) false := by unfold frF; rw [e1, Int.toNat_natCast]; rfl
      rw [e1, e2]
      have hh := HH.out
      rw [hf] at hh
      have HI := Lib.hid hh
      have HF := Lib.hid (fun n => flip_any (h.drewN n) k (by omega) (by omega) false (by rw [hf]; rfl))
      clear h h1 e1 e2 hf hh HH
      go_enter Tryd.func16, Tryd.ntmps16
      go_wp2_with (first | (go_at_call 28; refine HZ.out.mono ?_; rintro e w' ⟨rfl, rfl⟩) | (go_at_call 30; refine HC.out.mono ?_; rintro e w' ⟨rfl, rfl⟩) | (go_at_call 20; refine HI.out.mono ?_; rintro e w' ⟨rfl, n, rfl⟩) | (go_at_call 31; refine (HF.out _).mono ?_; rintro e w' ⟨⟨v, rfl⟩, hi, hg⟩))
      go_ret
      exact ⟨rfl, hi, ⟨hg.os, hg.tape, hg.output, hg.size, hg.block⟩⟩
    · have hf' : fl.getD (k - 1) false = false := by simpa using hf
      have e1 : frE fl (k : Int) = 9 := by unfold frE; rw [if_neg h1, Int.toNat_natCast, if_neg hf]
      have e2 : frF fl (k : Int) = fl := by unfold frF; rw [e1]; rfl
      rw [e1, e2]
      have hh := HH.out
      rw [hf'] at hh
      have HI := Lib.hid hh
      clear h h1 e1 e2 hf hf' hh HH
      go_enter Tryd.func16, Tryd.ntmps16
      go_wp2_with (first | (go_at_call 28; refine HZ.out.mono ?_; rintro e w' ⟨rfl, rfl⟩) | (go_at_call 30; refine HC.out.mono ?_; rintro e w' ⟨rfl, rfl⟩) | (go_at_call 20; refine HI.out.mono ?_; rintro e w' ⟨rfl, n, rfl⟩))
      go_ret
      exact opPost.same H.out _ rfl
theorem New_bad (m : Int) (w : World) (hm : m < 1 ∨ 4096 < m) : Calls Tryd.prog 9 #[.int .i64 m] w fun e w' => e = .returned (.tuple #[.pointer none, .int .i64 2]) ∧ w = w' := by
  by_cases h1 : m < 1
  · clear hm
    go_enter Tryd.func9, Tryd.ntmps9
    go_wp2
    go_ret2
    exact ⟨rfl, rfl⟩
  · have h2 : 4096 < m := by omega
    clear hm
    go_enter Tryd.func9, Tryd.ntmps9
    go_wp2
    go_ret2
    exact ⟨rfl, rfl⟩
theorem infoU : (Tryd.prog.info? 60).map (fun i => (i.zero, i.size, i.bytes)) = some (some (.int .u64 0), 1, 8) := by kernel_rfl
theorem wds_false (m : Nat) : wds (List.replicate m false) = List.replicate ((m + 63) / 64) 0 := by
  have hz : ∀ n, ofB (List.replicate n false) = 0 := fun n => by
    induction n with
    | zero => rfl
    | succ n ih => rw [List.replicate_succ]; simp [ofB, ih]
  unfold wds
  rw [List.length_replicate]
  apply List.ext_getElem
  · simp
  · intro i h1 h2
    simp [hz]
theorem made_list (z : Value) (n : Nat) : madeCells #[z] n = (List.replicate n z).toArray := by
  apply Array.ext
  · simp [size_madeCells]
  · intro i h1 h2; simp [madeCells, Nat.mod_one]
theorem zerosU (W : World) (n : Nat) : has (W.alloc (.cells (madeCells #[.int .u64 0] n) 60)) W.heap.size 60 (us (List.replicate n 0)) := by
  have h := has.new W 60 (us (List.replicate n 0))
  rw [made_list]
  have e : us (List.replicate n 0) = List.replicate n (.int .u64 0) := by simp [us]
  rw [e] at h ⊢
  exact h
def newPost (m : Nat) (w : World) (e : Ending) (w' : World) : Prop := ∃ b g, e = .returned (.tuple #[.pointer (some ⟨b, 0, none⟩), .int .i64 0]) ∧ isI w' b g (List.replicate m false) ∧ w.heap.size ≤ b ∧ w.heap.size ≤ g ∧ Below w.heap.size w w'
set_option maxHeartbeats 400000 in
theorem New_ok (m : Nat) (w : World) (h1 : 1 ≤ m) (h2 : m ≤ 4096) (ht : tabAt w) : Calls Tryd.prog 9 #[.int .i64 (m : Int)] w (newPost m w) := by
  obtain ⟨n, hn⟩ : ∃ n, (m + 63) / 64 = n := ⟨_, rfl⟩
  have hn64 : n ≤ 64 := by omega
  have hmk := fun W => run_make_row' (P := Tryd.prog) 49 60 (.int .u64 0) 8 Tryd.underlying49 infoU rfl .i64 .i64 n (by omega) (by omega) W
  have k1 : ((m : Int) + 64 - 1) / 64 = (n : Int) := by omega
  have d1 : decide ((m : Int) < 1) = false := by simp; omega
  have d2 : decide (4096 < (m : Int)) = false := by simp; omega
  have HN := Lib.hid hn
  have HT := Lib.hid ht
  clear hn ht
  go_enter Tryd.func9, Tryd.ntmps9
  go_wp2
  go_ret2
  have hb : Below w.heap.size w ((w.alloc (.cells (madeCells #[.int .u64 0] n) 60)).alloc (.cells #[.int .i64 (m : Int), .slice (some ⟨w.heap.size, 0, none⟩) n n] 51)) := ((Below.refl _ _).alloc (Nat.le_refl _) _).alloc (by simp) _
  have hg := (zerosU w n).alloc (.cells #[.int .i64 (m : Int), .slice (some ⟨w.heap.size, 0, none⟩) n n] 51)
  have hd := has.new (w.alloc (.cells (madeCells #[.int .u64 0] n) 60)) 51 [.int .i64 (m : Int), .slice (some ⟨w.heap.size, 0, none⟩) n n]
  rw [World.size_alloc] at hd
  have hp := HT.out.pos
  refine ⟨w.heap.size + 1, w.heap.size, rfl, ⟨?_, ?_, by rw [List.length_replicate]; exact h1, by rw [List.length_replicate]; exact h2, by omega, hp, HT.out.below hb hp⟩, by omega, Nat.le_refl _, hb⟩
  · rw [List.length_replicate, HN.out]; exact ⟨_, hd⟩
  · rw [wds_false, HN.out]; exact ⟨[], by rw [List.append_nil]; exact hg⟩
end Go.Proofs.YtefncefmolphfaaDoor.idFn
