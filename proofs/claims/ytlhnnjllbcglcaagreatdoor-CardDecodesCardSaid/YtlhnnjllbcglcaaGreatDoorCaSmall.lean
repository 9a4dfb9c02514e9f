/- Small functions of package card: keywords, effects on the creature itself, occasions. -/
import Derived.Test.YtlhnnjllbcglcaaGreatDoorCaName
namespace Go.Proofs.YtlhnnjllbcglcaaGreatDoor.caFn
open Go.ChangeShapes Go.WideShapes Go.ChangeAt Go.RowKit drMem efFn
set_option linter.unusedVariables false

theorem onItself_any (c t n m k : Int) (w : World) :
    Calls Tryz.prog 66 #[eV c t n m k] w fun e w' => e = .returned (.bool (onB ⟨c, t, n, m, k⟩)) ∧ Below w.heap.size w w' := by
  have e : onB ⟨c, t, n, m, k⟩ = ((c == 8 || c == 9) && t == 0) := rfl
  rw [e]
  by_cases h8 : c = 8 <;> by_cases h9 : c = 9 <;> by_cases h0 : t = 0
  · exact absurd (h8.symm.trans h9) (by decide)
  · exact absurd (h8.symm.trans h9) (by decide)
  all_goals
    try subst h8
    try subst h9
    try subst h0
    go_enter Tryz.func66, Tryz.ntmps66
    go_wp2
    all_goals
      go_ret
      exact ⟨ret_bool (by simp [*]), (Below.refl _ _).alloc (Nat.le_refl _) _⟩

/- one that is there -/
theorem any_no {α : Type} {l : List α} {p : α → Bool} {k : Nat} [Inhabited α] (h : k < l.length) (h1 : (l.take k).any p = false) (h2 : p (l.getD k default) = false) : (l.take (k + 1)).any p = false := by
  rw [List.take_succ_eq_append_getElem h, List.any_append, h1]
  simpa [List.getD_eq_getElem?_getD, h] using h2
theorem any_yes {α : Type} {l : List α} {p : α → Bool} {k : Nat} [Inhabited α] (h : k < l.length) (h2 : p (l.getD k default) = true) : l.any p = true := by
  rw [List.any_eq_true]
  exact ⟨l.getD k default, by simp [List.getD_eq_getElem?_getD, h], h2⟩
def idxPost (b : Bool) (w : World) (e : Ending) (w' : World) : Prop := ∃ r : Int, e = .returned (.int .i64 r) ∧ decide (0 ≤ r) = b ∧ Below w.heap.size w w'
set_option maxRecDepth 100000 in
set_option maxHeartbeats 2000000 in
theorem indexE_any (sp : Option Addr) (n cap : Nat) (l : List Ef) (w : World) (h : EfsAt w sp n l) :
    Calls Tryz.prog 85 #[.slice sp n cap, .func (.func 66) #[] #[]] w (idxPost (l.any onB) w) := by
  have hn := h.n
  have hm := h.m
  rcases Nat.eq_zero_or_pos n with h0 | h0
  · subst h0
    have e : l.any onB = false := by rw [List.eq_nil_of_length_eq_zero hn]; rfl
    rw [e]
    clear e h hn hm
    go_enter Tryz.func85, Tryz.ntmps85
    go_wp2
    refine wp_loop_rounds 1 ?_
    rw [rounds_succ]
    go_wp2
    go_ret
    exact ⟨-1, rfl, by decide, Below.refl _ _⟩
  · obtain ⟨b, off, rfl, hbl, hc⟩ := h.c h0
    have C : Hid (∀ k, k < n → EfAt w b (off + k * 5) (l.getD k default)) := Lib.hid fun k hk => hc k _ (get_some (by omega))
    have HN := Lib.hid hn
    clear hc h hn
    go_enter Tryz.func85, Tryz.ntmps85
    go_wp2
    go_loopw [8] (fun i wr => ∃ k : Nat, k ≤ n ∧ i = .int .i64 k ∧ Hid ((l.take k).any onB = false ∧ Below w.heap.size w wr)) (fun i _ => n - (intOf i).toNat)
    case atStart => exact ⟨0, Nat.zero_le _, rfl, Lib.hid ⟨by simp, Below.refl _ _⟩⟩
    case round =>
      obtain ⟨k, hk, rfl, HT⟩ := hrel
      by_cases hlt : k < n
      · obtain ⟨c0, c1, c2, c3, c4⟩ := (C.out k hlt).below HT.out.2 hbl
        have HX := Lib.hid (fun h => any_no (l := l) (p := onB) (k := k) (by rw [HN.out]; exact hlt) HT.out.1 h)
        have HY := Lib.hid (fun h => any_yes (l := l) (p := onB) (k := k) (by rw [HN.out]; exact hlt) h)
        generalize l.getD k default = x at *
        obtain ⟨xc, xt, xn, xm, xk⟩ := x
        have HV := onItself_any xc xt xn xm xk
        dsimp only at c0 c1 c2 c3 c4
        cases hx : onB ⟨xc, xt, xn, xm, xk⟩
        all_goals
          rw [hx] at HV
          go_wp2_with fail
          refine (HV _).mono ?_; rintro e w1 ⟨rfl, hb1⟩
          have HB := Lib.hid (HT.out.2.trans (hb1.mono HT.out.2.size))
          clear hb1
          go_wp2_with fail
        · exact ⟨⟨k + 1, by omega, by go_num, Lib.hid ⟨HX.out hx, HB.out⟩⟩, by simp [intOf]; omega⟩
        · go_ret
          exact ⟨k, rfl, by rw [HY.out hx]; simp, HB.out⟩
      · obtain rfl : k = n := by omega
        have e : l.any onB = false := by
          rw [← HT.out.1, List.take_of_length_le (by rw [HN.out]; exact Nat.le_refl _)]
        have HE := Lib.hid e
        clear e
        go_wp2
        go_ret
        exact ⟨-1, rfl, by rw [HE.out]; decide, HT.out.2⟩
theorem containsE_any (sp : Option Addr) (n cap : Nat) (l : List Ef) (w : World) (h : EfsAt w sp n l) :
    Calls Tryz.prog 65 #[.slice sp n cap, .func (.func 66) #[] #[]] w fun e w' => e = .returned (.bool (l.any onB)) ∧ Below w.heap.size w w' := by
  have HI := indexE_any sp n cap l w h
  go_enter Tryz.func65, Tryz.ntmps65
  go_wp2_with fail
  refine HI.mono ?_; rintro e w1 ⟨r, rfl, hr, hb1⟩
  go_wp2_with fail
  go_ret
  exact ⟨rfl, hb1⟩
end Go.Proofs.YtlhnnjllbcglcaaGreatDoor.caFn
