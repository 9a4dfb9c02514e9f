/- The examples of the chapter hold. -/
import Derived.Test.YthnndmojijnbnaaDoorMaLawFn
import Derived.Outline
namespace Go.Proofs.YthnndmojijnbnaaDoor.maFn
open Go.ChangeShapes Go.WideShapes Go.ChangeAt Go.RowKit drMem
set_option linter.unusedVariables false

theorem none_of (l : List UInt8) (h : textL (rdE l) (rdT l) (rdL l) (rdS l) (fr (pre l)).toNat ≠ l) : ∀ p q r t x : Nat, okC p q r t x = true → bs (textL p q r t x) ≠ bs l := by
  intro p q r t x hk he
  have hb := (okC_iff _ _ _ _ _).1 hk
  have hl := bs_inj he
  obtain ⟨h1, h2, h3, h4, h5⟩ := rd_text p q r t x (by omega)
  rw [hl] at h1 h2 h3 h4 h5
  rw [h1, h2, h3, h4, h5] at h
  exact h (by rw [Int.toNat_natCast]; exact hl)
def AllB (K : World → Prop) : Prop := ∀ w, K w

theorem kTot : ∀ w, Calls Tryd.prog 14 #[.agg #[.int .i64 3, .int .i64 0, .int .i64 2, .int .i64 1]] w fun z w' => z = .returned (.int .i64 6) ∧ Below w.heap.size w w' :=
  fun w => Total_yes 3 0 2 1 w (by decide)
theorem kVal : ∀ w, Calls Tryd.prog 15 #[.agg #[.int .i64 1, .int .i64 1, .int .i64 0, .int .i64 0, .int .i64 3]] w fun z w' => z = .returned (.int .i64 5) ∧ Below w.heap.size w w' :=
  fun w => Value_yes 1 1 0 0 3 w (by decide)
theorem kA1 : ∀ w, Calls Tryd.prog 16 #[.agg #[.int .i64 3, .int .i64 0, .int .i64 2, .int .i64 98], .int .i64 3, .int .i64 5, .agg #[.int .i64 3, .int .i64 0, .int .i64 2, .int .i64 99], .int .i64 0] w fun z w' => z = .returned (.bool true) ∧ Below w.heap.size w w' :=
  adds_true _ _ _ _ _ _ _ _ _ _ _ (fun w => (Add_yes 3 0 2 98 3 5 w (by decide) (by decide)).mono fun e w' ⟨h1, h2⟩ => ⟨h1.trans (ret_m4 (by decide)), h2⟩)
theorem kA2 : ∀ w, Calls Tryd.prog 16 #[.agg #[.int .i64 3, .int .i64 0, .int .i64 2, .int .i64 1], .int .i64 4, .int .i64 1, .agg #[.int .i64 0, .int .i64 0, .int .i64 0, .int .i64 0], .int .i64 2] w fun z w' => z = .returned (.bool true) ∧ Below w.heap.size w w' :=
  adds_true _ _ _ _ _ _ _ _ _ _ _ (fun w => Add_no 3 0 2 1 4 1 w (by decide))
theorem kP1 : ∀ w, Calls Tryd.prog 20 #[.agg #[.int .i64 3, .int .i64 2, .int .i64 2, .int .i64 0], .agg #[.int .i64 1, .int .i64 0, .int .i64 0, .int .i64 0, .int .i64 3], .agg #[.int .i64 1, .int .i64 1, .int .i64 1, .int .i64 0], .int .i64 0] w fun z w' => z = .returned (.bool true) ∧ Below w.heap.size w w' :=
  pays_true _ _ _ _ _ _ _ _ _ _ _ _ _ _ (fun w => (Pay_yes 3 2 2 0 1 0 0 0 3 w (by decide) (by decide) (by decide)).mono fun e w' ⟨h1, h2⟩ => ⟨h1.trans (ret_m4 (by decide)), h2⟩)
theorem kP2 : ∀ w, Calls Tryd.prog 20 #[.agg #[.int .i64 5, .int .i64 1, .int .i64 0, .int .i64 0], .agg #[.int .i64 0, .int .i64 0, .int .i64 0, .int .i64 0, .int .i64 3], .agg #[.int .i64 2, .int .i64 1, .int .i64 0, .int .i64 0], .int .i64 0] w fun z w' => z = .returned (.bool true) ∧ Below w.heap.size w w' :=
  pays_true _ _ _ _ _ _ _ _ _ _ _ _ _ _ (fun w => (Pay_yes 5 1 0 0 0 0 0 0 3 w (by decide) (by decide) (by decide)).mono fun e w' ⟨h1, h2⟩ => ⟨h1.trans (ret_m4 (by decide)), h2⟩)
theorem kP3 : ∀ w, Calls Tryd.prog 20 #[.agg #[.int .i64 1, .int .i64 1, .int .i64 1, .int .i64 1], .agg #[.int .i64 0, .int .i64 0, .int .i64 0, .int .i64 0, .int .i64 2], .agg #[.int .i64 0, .int .i64 0, .int .i64 1, .int .i64 1], .int .i64 0] w fun z w' => z = .returned (.bool true) ∧ Below w.heap.size w w' :=
  pays_true _ _ _ _ _ _ _ _ _ _ _ _ _ _ (fun w => (Pay_yes 1 1 1 1 0 0 0 0 2 w (by decide) (by decide) (by decide)).mono fun e w' ⟨h1, h2⟩ => ⟨h1.trans (ret_m4 (by decide)), h2⟩)
theorem kC : ∀ w, Calls Tryd.prog 21 #[.agg #[.int .i64 2, .int .i64 0, .int .i64 0, .int .i64 0], .agg #[.int .i64 0, .int .i64 1, .int .i64 0, .int .i64 0, .int .i64 0]] w fun z w' => z = .returned (.bool false) ∧ Below w.heap.size w w' :=
  fun w => Can_yes 2 0 0 0 0 1 0 0 0 w (by decide) (by decide)
theorem kP4 : ∀ w, Calls Tryd.prog 20 #[.agg #[.int .i64 2, .int .i64 0, .int .i64 0, .int .i64 0], .agg #[.int .i64 0, .int .i64 1, .int .i64 0, .int .i64 0, .int .i64 0], .agg #[.int .i64 0, .int .i64 0, .int .i64 0, .int .i64 0], .int .i64 12] w fun z w' => z = .returned (.bool true) ∧ Below w.heap.size w w' :=
  pays_true _ _ _ _ _ _ _ _ _ _ _ _ _ _ (fun w => Pay_no 2 0 0 0 0 1 0 0 0 w (by decide) (by decide) (by decide))
theorem kM1 : ∀ w, Calls Tryd.prog 22 #[.agg #[.int .i64 2, .int .i64 0, .int .i64 0, .int .i64 0], .agg #[.int .i64 0, .int .i64 1, .int .i64 0, .int .i64 0, .int .i64 4]] w fun z w' => z = .returned (.agg #[.int .i64 0, .int .i64 1, .int .i64 0, .int .i64 0, .int .i64 2]) ∧ Below w.heap.size w w' :=
  fun w => Missing_yes 2 0 0 0 0 1 0 0 4 w (by decide) (by decide)
theorem kM2 : ∀ w, Calls Tryd.prog 22 #[.agg #[.int .i64 2, .int .i64 1, .int .i64 0, .int .i64 0], .agg #[.int .i64 0, .int .i64 0, .int .i64 0, .int .i64 0, .int .i64 3]] w fun z w' => z = .returned (.agg #[.int .i64 0, .int .i64 0, .int .i64 0, .int .i64 0, .int .i64 0]) ∧ Below w.heap.size w w' :=
  fun w => Missing_yes 2 1 0 0 0 0 0 0 3 w (by decide) (by decide)
theorem kT1L : bs (textL 2 0 1 0 3) = ⟨#[51, 69, 69, 76]⟩ := by unfold textL numL; rw [if_pos (by decide), dec_tab 3 (by decide)]; rfl
theorem kT1 : ∀ w, Calls Tryd.prog 24 #[.agg #[.int .i64 2, .int .i64 0, .int .i64 1, .int .i64 0, .int .i64 3], .string ⟨#[51, 69, 69, 76]⟩, .int .i64 0] w fun z w' => z = .returned (.bool true) ∧ Below w.heap.size w w' :=
  texts_true _ _ _ _ _ _ _ (fun w => (Text_yes 2 0 1 0 3 w (by decide)).mono fun e w' ⟨h1, h2⟩ => ⟨h1.trans (ret_se kT1L), h2⟩)
theorem kT2L : bs (textL 0 0 0 0 0) = ⟨#[48]⟩ := by unfold textL numL; rw [if_pos (by decide), dec_tab 0 (by decide)]; rfl
theorem kT2 : ∀ w, Calls Tryd.prog 24 #[.agg #[.int .i64 0, .int .i64 0, .int .i64 0, .int .i64 0, .int .i64 0], .string ⟨#[48]⟩, .int .i64 0] w fun z w' => z = .returned (.bool true) ∧ Below w.heap.size w w' :=
  texts_true _ _ _ _ _ _ _ (fun w => (Text_yes 0 0 0 0 0 w (by decide)).mono fun e w' ⟨h1, h2⟩ => ⟨h1.trans (ret_se kT2L), h2⟩)
theorem kT3L : bs (textL 0 0 0 1 0) = ⟨#[83]⟩ := by unfold textL numL; rw [if_neg (by decide)]; rfl
theorem kT3 : ∀ w, Calls Tryd.prog 24 #[.agg #[.int .i64 0, .int .i64 0, .int .i64 0, .int .i64 1, .int .i64 0], .string ⟨#[83]⟩, .int .i64 0] w fun z w' => z = .returned (.bool true) ∧ Below w.heap.size w w' :=
  texts_true _ _ _ _ _ _ _ (fun w => (Text_yes 0 0 0 1 0 w (by decide)).mono fun e w' ⟨h1, h2⟩ => ⟨h1.trans (ret_se kT3L), h2⟩)
theorem kR1L : bs (textL 0 2 0 0 12) = ⟨#[49, 50, 84, 84]⟩ := by unfold textL numL; rw [if_pos (by decide), dec_tab 12 (by decide)]; rfl
theorem kR1 : ∀ w, E w → Calls Tryd.prog 27 #[.string ⟨#[49, 50, 84, 84]⟩, .agg #[.int .i64 0, .int .i64 2, .int .i64 0, .int .i64 0, .int .i64 12], .int .i64 0] w fun z w' => z = .returned (.bool true) ∧ Below w.heap.size w w' :=
  parses_true _ _ _ _ _ _ _ (fun w hE => by rw [← kR1L]; exact Parse_yes 0 2 0 0 12 (by decide) w hE)
theorem kR2 : ∀ w, E w → Calls Tryd.prog 27 #[.string ⟨#[48, 69]⟩, .agg #[.int .i64 0, .int .i64 0, .int .i64 0, .int .i64 0, .int .i64 0], .int .i64 6] w fun z w' => z = .returned (.bool true) ∧ Below w.heap.size w w' :=
  parses_true _ _ _ _ _ _ _ (fun w hE => Parse_no (bs [48, 69]) (by decide) (none_of [48, 69] (by decide)) w hE)
theorem kR3 : ∀ w, E w → Calls Tryd.prog 27 #[.string ⟨#[84, 69]⟩, .agg #[.int .i64 0, .int .i64 0, .int .i64 0, .int .i64 0, .int .i64 0], .int .i64 6] w fun z w' => z = .returned (.bool true) ∧ Below w.heap.size w w' :=
  parses_true _ _ _ _ _ _ _ (fun w hE => Parse_no (bs [84, 69]) (by decide) (none_of [84, 69] (by decide)) w hE)
theorem kR4 : ∀ w, E w → Calls Tryd.prog 27 #[.string ⟨#[]⟩, .agg #[.int .i64 0, .int .i64 0, .int .i64 0, .int .i64 0, .int .i64 0], .int .i64 6] w fun z w' => z = .returned (.bool true) ∧ Below w.heap.size w w' :=
  parses_true _ _ _ _ _ _ _ (fun w hE => Parse_no (bs []) (by decide) (none_of [] (by rw [show textL _ _ _ _ _ = [48] from (by unfold textL numL; rw [if_pos (by decide), show (fr (pre [])).toNat = 0 from rfl, dec_tab 0 (by decide)]; rfl)]; decide)) w hE)
end Go.Proofs.YthnndmojijnbnaaDoor.maFn
