/- What package mana's Parse returns: what it calls. -/
import Derived.Test.YthnndmojijnbnaaDoorMaPMath
import Derived.Lib.AtoiErrMem
import Derived.Shelf.Strings.SlTrimAscii
namespace Go.Proofs.YthnndmojijnbnaaDoor.maFn
open Go.ChangeShapes Go.WideShapes Go.ChangeAt Go.RowKit drMem
set_option linter.unusedVariables false

/- what the two errors of package strconv hold -/
def E (w : World) : Prop := ∃ t p t' p', w.cell? ⟨1, 0, none⟩ = some (.iface t p) ∧ w.cell? ⟨2, 0, none⟩ = some (.iface t' p')
theorem E.below {w w' : World} (h : E w) (hb : Below w.heap.size w w') : E w' := by
  obtain ⟨t, p, t', p', h1, h2⟩ := h
  exact ⟨t, p, t', p', (hb.cell (p := ⟨_, 0, none⟩) (Lib.lt_of_cell h1)).trans h1, (hb.cell (p := ⟨_, 0, none⟩) (Lib.lt_of_cell h2)).trans h2⟩

theorem Atoi_any (l : List UInt8) (y : ByteArray) (hy : y = bs l) (w : World) (hl : l.length ≤ 140737488355328) (hE : E w) :
    Calls Tryd.prog 44 #[.string y] w fun e w' => ∃ ev, e = .returned (.tuple #[.int .i64 (fr l), ev]) ∧ Below w.heap.size w w' := by
  subst hy
  have hs := bs_size l
  obtain ⟨t, p, t', p', h1, h2⟩ := hE
  unfold fr
  generalize hq : Lib.atoiAll l = q
  cases q with
  | ok v =>
    refine (Tryd.strconv_Atoi_ok (bs l) (by omega) v hq w).mono fun e w' ⟨he, hw⟩ => ⟨_, he, ?_⟩
    rcases hw with rfl | ⟨t, rfl⟩
    · exact Below.refl _ _
    · exact Lib.bytesWorld_below _ _ _
  | range =>
    refine (Tryd.strconv_Atoi_range (bs l) (by omega) hq _ w h2 (.inr ⟨_, _, rfl⟩)).mono fun e w' ⟨N, he, _, _, hw⟩ => ⟨_, he, hw⟩
  | _ =>
    refine (Tryd.strconv_Atoi_syntax (bs l) (by omega) hq _ w h1 (.inr ⟨_, _, rfl⟩)).mono fun e w' ⟨N, he, _, _, hw⟩ => ⟨_, he, hw⟩

theorem h256 : (Tryd.prog.info? (Tryd.lays161_ren.t 116)).map (fun i => (i.zero, i.size)) = some (some (.agg (Array.replicate 256 (.bool false))), 256) := by kernel_rfl
theorem Trim_any (s : ByteArray) (w : World) :
    Calls Tryd.prog 43 #[.string s, .string ⟨#[48, 49, 50, 51, 52, 53, 54, 55, 56, 57]⟩] w fun e w' => e = .returned (.string (bs (rst s.data.toList))) ∧ Below w.heap.size w w' :=
  Any.strings_TrimLeft_laid Tryd.lays161 h256 s ⟨#[48, 49, 50, 51, 52, 53, 54, 55, 56, 57]⟩ w (by decide) (ascii_of_all (by decide))

theorem cnt_at (l : List UInt8) (x : ByteArray) (k : UInt8) (w : World) (hx : x = ⟨#[k]⟩) :
    Calls Tryd.prog 45 #[.string (bs l), .string x] w fun e w' => e = .returned (.int .i64 (l.count k : Nat)) ∧ w = w' := by
  subst hx
  exact (Tryd.strings_Count_one (bs l) k w).mono fun e w' ⟨h1, h2⟩ => ⟨h1, h2.symm⟩

end Go.Proofs.YthnndmojijnbnaaDoor.maFn
