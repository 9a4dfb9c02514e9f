/- What package effect's Parse calls: cutting, codes and kinds by their words. -/
import Derived.Test.YtfdolapiikgebaaDoorEfText
namespace Go.Proofs.YtfdolapiikgebaaDoor.efFn
open Go.ChangeShapes Go.WideShapes Go.ChangeAt Go.RowKit drMem
set_option linter.unusedVariables false

theorem str_inj {a b : ByteArray} (h : a.toList = b.toList) : a = b := by
  rw [ByteArray.toList_eq, ByteArray.toList_eq] at h
  exact ByteArray.ext (Array.ext' h)
theorem bs_inj {a b : List UInt8} (h : bs a = bs b) : a = b := congrArg (fun x => x.data.toList) h
theorem bs_size (l : List UInt8) : (bs l).size = l.length := by simp [bs, ByteArray.size]
theorem s_eq {a b : List UInt8} (h : a = b) : ((bs a).toList == (bs b).toList) = true := by subst h; simp
theorem s_ne {a b : List UInt8} (h : a ≠ b) : ((bs a).toList == (bs b).toList) = false := by
  have : (bs a).toList ≠ (bs b).toList := fun e => h (bs_inj (str_inj e))
  simpa using this
theorem Cut_at (l : List UInt8) (y x : ByteArray) (hy : y = bs l) (hx : x = ⟨#[32]⟩) (w : World) (hG : G w) (hl : l.length ≤ 1000) :
    Calls Tryd.prog 40 #[.string y, .string x] w fun e w' => (∃ f, e = .returned (.tuple #[.string (bs (c1 l)), .string (bs (c2 l)), .bool f])) ∧ Below w.heap.size w w' := by
  subst hy hx
  obtain ⟨m, hm⟩ := hG.ml
  exact (Tryd.strings_Cut (bs l) ⟨#[32]⟩ m w (by rw [bs_size]; omega) hm).mono fun e w' ⟨h1, n, h2⟩ => ⟨⟨_, h1⟩, by subst h2; exact dN (Below.refl _ _) n⟩
theorem Index_at (l : List UInt8) (y x : ByteArray) (hy : y = bs l) (hx : x = ⟨#[69, 84, 76, 83]⟩) (w : World) (hG : G w) :
    Calls Tryd.prog 50 #[.string x, .string y] w fun e w' => e = .returned (.int .i64 (ltW l)) ∧ w = w' := by
  subst hy hx
  obtain ⟨m, hm⟩ := hG.ml
  exact (Tryd.strings_Index ⟨#[69, 84, 76, 83]⟩ (bs l) m w (by decide) hm).mono fun e w' ⟨h1, h2⟩ => ⟨h1, h2.symm⟩
theorem Atoi_any (l : List UInt8) (y : ByteArray) (hy : y = bs l) (w : World) (hl : l.length ≤ 1000) (hG : G w) :
    Calls Tryd.prog 51 #[.string y] w fun e w' => (∃ ev, e = .returned (.tuple #[.int .i64 (fr l), ev])) ∧ Below w.heap.size w w' := by
  subst hy
  have hs := bs_size l
  obtain ⟨t, p, t', p', h1, h2⟩ := hG.err
  unfold fr
  generalize hq : Lib.atoiAll l = q
  cases q with
  | ok v =>
    refine (Tryd.strconv_Atoi_ok (bs l) (by omega) v hq w).mono fun e w' ⟨he, hw⟩ => ⟨⟨_, he⟩, ?_⟩
    rcases hw with rfl | ⟨t, rfl⟩
    · exact Below.refl _ _
    · exact Lib.bytesWorld_below _ _ _
  | range =>
    refine (Tryd.strconv_Atoi_range (bs l) (by omega) hq _ w h2 (.inr ⟨_, _, rfl⟩)).mono fun e w' ⟨N, he, _, _, hw⟩ => ⟨⟨_, he⟩, hw⟩
  | _ =>
    refine (Tryd.strconv_Atoi_syntax (bs l) (by omega) hq _ w h1 (.inr ⟨_, _, rfl⟩)).mono fun e w' ⟨N, he, _, _, hw⟩ => ⟨⟨_, he⟩, hw⟩

/- the first words, none of which is the one that is looked for -/
def noCd (l : List UInt8) (k : Nat) : Prop := ∀ j : Nat, 1 ≤ j → j ≤ k → l ≠ nmL (j : Int)
theorem noCd_succ {l : List UInt8} {k : Nat} (h : noCd l k) (h2 : l ≠ nmL ((k + 1 : Nat) : Int)) : noCd l (k + 1) := fun j h1 h3 => by
  by_cases hj : j = k + 1
  · subst hj; exact h2
  · exact h j h1 (by omega)
theorem cd_no (l : List UInt8) (h : noCd l 12) : cdW l = 0 := by
  have g1 : l ≠ [100, 97, 109, 97, 103, 101] := h 1 (by omega) (by omega)
  have g2 : l ≠ [100, 114, 97, 119] := h 2 (by omega) (by omega)
  have g3 : l ≠ [103, 97, 105, 110] := h 3 (by omega) (by omega)
  have g4 : l ≠ [108, 111, 115, 101] := h 4 (by omega) (by omega)
  have g5 : l ≠ [100, 101, 115, 116, 114, 111, 121] := h 5 (by omega) (by omega)
  have g6 : l ≠ [114, 101, 116, 117, 114, 110] := h 6 (by omega) (by omega)
  have g7 : l ≠ [99, 111, 117, 110, 116, 101, 114] := h 7 (by omega) (by omega)
  have g8 : l ≠ [112, 117, 109, 112] := h 8 (by omega) (by omega)
  have g9 : l ≠ [99, 111, 117, 110, 116, 101, 114, 115] := h 9 (by omega) (by omega)
  have g10 : l ≠ [116, 111, 107, 101, 110] := h 10 (by omega) (by omega)
  have g11 : l ≠ [116, 97, 112] := h 11 (by omega) (by omega)
  have g12 : l ≠ [109, 97, 110, 97] := h 12 (by omega) (by omega)
  unfold cdW
  rw [if_neg g1, if_neg g2, if_neg g3, if_neg g4, if_neg g5, if_neg g6, if_neg g7, if_neg g8, if_neg g9, if_neg g10, if_neg g11, if_neg g12]
theorem cd_yes (l : List UInt8) (k : Nat) (h1 : 1 ≤ k) (h2 : k ≤ 12) (h : l = nmL (k : Int)) : cdW l = (k : Int) := by
  subst h; exact cd_nm _ (by omega) (by omega)
theorem k12 (k : Nat) (h : k ≤ 12) : k = 0 ∨ k = 1 ∨ k = 2 ∨ k = 3 ∨ k = 4 ∨ k = 5 ∨ k = 6 ∨ k = 7 ∨ k = 8 ∨ k = 9 ∨ k = 10 ∨ k = 11 ∨ k = 12 := by omega
set_option maxRecDepth 100000 in
set_option maxHeartbeats 8000000 in
theorem codeWith_any (l : List UInt8) (w : World) :
    Calls Tryd.prog 41 #[.string (bs l)] w fun e w' => e = .returned (.int .i64 (cdW l)) ∧ Below w.heap.size w w' := by
  go_enter Tryd.func41, Tryd.ntmps41
  go_wp2
  go_loopw [3] (fun i wr => ∃ k : Nat, k ≤ 12 ∧ i = .int .i64 ((k + 1 : Nat) : Int) ∧ Hid (noCd l k ∧ Below w.heap.size w wr)) (fun i _ => 13 - (intOf i).toNat)
  case atStart => exact ⟨0, by omega, rfl, Lib.hid ⟨fun j h1 h2 => by omega, Below.refl _ _⟩⟩
  case round =>
    obtain ⟨k, hk, rfl, HT⟩ := hrel
    rcases k12 k hk with rfl | rfl | rfl | rfl | rfl | rfl | rfl | rfl | rfl | rfl | rfl | rfl | rfl
    · by_cases hx : l = nmL 1
      · have HX := Lib.hid (cd_yes l 1 (by omega) (by omega) hx)
        have hb := s_eq hx.symm
        clear hx
        go_wp2_with (first | (go_at_call 28; refine (ruleOf_any 1 _).mono ?_; rintro e w' ⟨rfl, hw⟩; subst hw; rw [ruleV_1]) | (go_at_call 104; refine (word_at (bs (nmL 1)) _ _).mono ?_; rintro e w2 ⟨rfl, hb2⟩; have HB2 := Lib.hid hb2; clear hb2))
        go_ret
        exact ⟨ret_int HX.out.symm, next HT.out.2 HB2.out⟩
      · have HX := Lib.hid (noCd_succ HT.out.1 hx)
        have hb := s_ne (fun e => hx e.symm)
        clear hx
        go_wp2_with (first | (go_at_call 28; refine (ruleOf_any 1 _).mono ?_; rintro e w' ⟨rfl, hw⟩; subst hw; rw [ruleV_1]) | (go_at_call 104; refine (word_at (bs (nmL 1)) _ _).mono ?_; rintro e w2 ⟨rfl, hb2⟩; have HB2 := Lib.hid hb2; clear hb2))
        exact ⟨⟨1, by omega, by go_num, Lib.hid ⟨HX.out, next HT.out.2 HB2.out⟩⟩, by simp [intOf]⟩
    · by_cases hx : l = nmL 2
      · have HX := Lib.hid (cd_yes l 2 (by omega) (by omega) hx)
        have hb := s_eq hx.symm
        clear hx
        go_wp2_with (first | (go_at_call 28; refine (ruleOf_any 2 _).mono ?_; rintro e w' ⟨rfl, hw⟩; subst hw; rw [ruleV_2]) | (go_at_call 104; refine (word_at (bs (nmL 2)) _ _).mono ?_; rintro e w2 ⟨rfl, hb2⟩; have HB2 := Lib.hid hb2; clear hb2))
        go_ret
        exact ⟨ret_int HX.out.symm, next HT.out.2 HB2.out⟩
      · have HX := Lib.hid (noCd_succ HT.out.1 hx)
        have hb := s_ne (fun e => hx e.symm)
        clear hx
        go_wp2_with (first | (go_at_call 28; refine (ruleOf_any 2 _).mono ?_; rintro e w' ⟨rfl, hw⟩; subst hw; rw [ruleV_2]) | (go_at_call 104; refine (word_at (bs (nmL 2)) _ _).mono ?_; rintro e w2 ⟨rfl, hb2⟩; have HB2 := Lib.hid hb2; clear hb2))
        exact ⟨⟨2, by omega, by go_num, Lib.hid ⟨HX.out, next HT.out.2 HB2.out⟩⟩, by simp [intOf]⟩
    · by_cases hx : l = nmL 3
      · have HX := Lib.hid (cd_yes l 3 (by omega) (by omega) hx)
        have hb := s_eq hx.symm
        clear hx
        go_wp2_with (first | (go_at_call 28; refine (ruleOf_any 3 _).mono ?_; rintro e w' ⟨rfl, hw⟩; subst hw; rw [ruleV_3]) | (go_at_call 104; refine (word_at (bs (nmL 3)) _ _).mono ?_; rintro e w2 ⟨rfl, hb2⟩; have HB2 := Lib.hid hb2; clear hb2))
        go_ret
        exact ⟨ret_int HX.out.symm, next HT.out.2 HB2.out⟩
      · have HX := Lib.hid (noCd_succ HT.out.1 hx)
        have hb := s_ne (fun e => hx e.symm)
        clear hx
        go_wp2_with (first | (go_at_call 28; refine (ruleOf_any 3 _).mono ?_; rintro e w' ⟨rfl, hw⟩; subst hw; rw [ruleV_3]) | (go_at_call 104; refine (word_at (bs (nmL 3)) _ _).mono ?_; rintro e w2 ⟨rfl, hb2⟩; have HB2 := Lib.hid hb2; clear hb2))
        exact ⟨⟨3, by omega, by go_num, Lib.hid ⟨HX.out, next HT.out.2 HB2.out⟩⟩, by simp [intOf]⟩
    · by_cases hx : l = nmL 4
      · have HX := Lib.hid (cd_yes l 4 (by omega) (by omega) hx)
        have hb := s_eq hx.symm
        clear hx
        go_wp2_with (first | (go_at_call 28; refine (ruleOf_any 4 _).mono ?_; rintro e w' ⟨rfl, hw⟩; subst hw; rw [ruleV_4]) | (go_at_call 104; refine (word_at (bs (nmL 4)) _ _).mono ?_; rintro e w2 ⟨rfl, hb2⟩; have HB2 := Lib.hid hb2; clear hb2))
        go_ret
        exact ⟨ret_int HX.out.symm, next HT.out.2 HB2.out⟩
      · have HX := Lib.hid (noCd_succ HT.out.1 hx)
        have hb := s_ne (fun e => hx e.symm)
        clear hx
        go_wp2_with (first | (go_at_call 28; refine (ruleOf_any 4 _).mono ?_; rintro e w' ⟨rfl, hw⟩; subst hw; rw [ruleV_4]) | (go_at_call 104; refine (word_at (bs (nmL 4)) _ _).mono ?_; rintro e w2 ⟨rfl, hb2⟩; have HB2 := Lib.hid hb2; clear hb2))
        exact ⟨⟨4, by omega, by go_num, Lib.hid ⟨HX.out, next HT.out.2 HB2.out⟩⟩, by simp [intOf]⟩
    · by_cases hx : l = nmL 5
      · have HX := Lib.hid (cd_yes l 5 (by omega) (by omega) hx)
        have hb := s_eq hx.symm
        clear hx
        go_wp2_with (first | (go_at_call 28; refine (ruleOf_any 5 _).mono ?_; rintro e w' ⟨rfl, hw⟩; subst hw; rw [ruleV_5]) | (go_at_call 104; refine (word_at (bs (nmL 5)) _ _).mono ?_; rintro e w2 ⟨rfl, hb2⟩; have HB2 := Lib.hid hb2; clear hb2))
        go_ret
        exact ⟨ret_int HX.out.symm, next HT.out.2 HB2.out⟩
      · have HX := Lib.hid (noCd_succ HT.out.1 hx)
        have hb := s_ne (fun e => hx e.symm)
        clear hx
        go_wp2_with (first | (go_at_call 28; refine (ruleOf_any 5 _).mono ?_; rintro e w' ⟨rfl, hw⟩; subst hw; rw [ruleV_5]) | (go_at_call 104; refine (word_at (bs (nmL 5)) _ _).mono ?_; rintro e w2 ⟨rfl, hb2⟩; have HB2 := Lib.hid hb2; clear hb2))
        exact ⟨⟨5, by omega, by go_num, Lib.hid ⟨HX.out, next HT.out.2 HB2.out⟩⟩, by simp [intOf]⟩
    · by_cases hx : l = nmL 6
      · have HX := Lib.hid (cd_yes l 6 (by omega) (by omega) hx)
        have hb := s_eq hx.symm
        clear hx
        go_wp2_with (first | (go_at_call 28; refine (ruleOf_any 6 _).mono ?_; rintro e w' ⟨rfl, hw⟩; subst hw; rw [ruleV_6]) | (go_at_call 104; refine (word_at (bs (nmL 6)) _ _).mono ?_; rintro e w2 ⟨rfl, hb2⟩; have HB2 := Lib.hid hb2; clear hb2))
        go_ret
        exact ⟨ret_int HX.out.symm, next HT.out.2 HB2.out⟩
      · have HX := Lib.hid (noCd_succ HT.out.1 hx)
        have hb := s_ne (fun e => hx e.symm)
        clear hx
        go_wp2_with (first | (go_at_call 28; refine (ruleOf_any 6 _).mono ?_; rintro e w' ⟨rfl, hw⟩; subst hw; rw [ruleV_6]) | (go_at_call 104; refine (word_at (bs (nmL 6)) _ _).mono ?_; rintro e w2 ⟨rfl, hb2⟩; have HB2 := Lib.hid hb2; clear hb2))
        exact ⟨⟨6, by omega, by go_num, Lib.hid ⟨HX.out, next HT.out.2 HB2.out⟩⟩, by simp [intOf]⟩
    · by_cases hx : l = nmL 7
      · have HX := Lib.hid (cd_yes l 7 (by omega) (by omega) hx)
        have hb := s_eq hx.symm
        clear hx
        go_wp2_with (first | (go_at_call 28; refine (ruleOf_any 7 _).mono ?_; rintro e w' ⟨rfl, hw⟩; subst hw; rw [ruleV_7]) | (go_at_call 104; refine (word_at (bs (nmL 7)) _ _).mono ?_; rintro e w2 ⟨rfl, hb2⟩; have HB2 := Lib.hid hb2; clear hb2))
        go_ret
        exact ⟨ret_int HX.out.symm, next HT.out.2 HB2.out⟩
      · have HX := Lib.hid (noCd_succ HT.out.1 hx)
        have hb := s_ne (fun e => hx e.symm)
        clear hx
        go_wp2_with (first | (go_at_call 28; refine (ruleOf_any 7 _).mono ?_; rintro e w' ⟨rfl, hw⟩; subst hw; rw [ruleV_7]) | (go_at_call 104; refine (word_at (bs (nmL 7)) _ _).mono ?_; rintro e w2 ⟨rfl, hb2⟩; have HB2 := Lib.hid hb2; clear hb2))
        exact ⟨⟨7, by omega, by go_num, Lib.hid ⟨HX.out, next HT.out.2 HB2.out⟩⟩, by simp [intOf]⟩
    · by_cases hx : l = nmL 8
      · have HX := Lib.hid (cd_yes l 8 (by omega) (by omega) hx)
        have hb := s_eq hx.symm
        clear hx
        go_wp2_with (first | (go_at_call 28; refine (ruleOf_any 8 _).mono ?_; rintro e w' ⟨rfl, hw⟩; subst hw; rw [ruleV_8]) | (go_at_call 104; refine (word_at (bs (nmL 8)) _ _).mono ?_; rintro e w2 ⟨rfl, hb2⟩; have HB2 := Lib.hid hb2; clear hb2))
        go_ret
        exact ⟨ret_int HX.out.symm, next HT.out.2 HB2.out⟩
      · have HX := Lib.hid (noCd_succ HT.out.1 hx)
        have hb := s_ne (fun e => hx e.symm)
        clear hx
        go_wp2_with (first | (go_at_call 28; refine (ruleOf_any 8 _).mono ?_; rintro e w' ⟨rfl, hw⟩; subst hw; rw [ruleV_8]) | (go_at_call 104; refine (word_at (bs (nmL 8)) _ _).mono ?_; rintro e w2 ⟨rfl, hb2⟩; have HB2 := Lib.hid hb2; clear hb2))
        exact ⟨⟨8, by omega, by go_num, Lib.hid ⟨HX.out, next HT.out.2 HB2.out⟩⟩, by simp [intOf]⟩
    · by_cases hx : l = nmL 9
      · have HX := Lib.hid (cd_yes l 9 (by omega) (by omega) hx)
        have hb := s_eq hx.symm
        clear hx
        go_wp2_with (first | (go_at_call 28; refine (ruleOf_any 9 _).mono ?_; rintro e w' ⟨rfl, hw⟩; subst hw; rw [ruleV_9]) | (go_at_call 104; refine (word_at (bs (nmL 9)) _ _).mono ?_; rintro e w2 ⟨rfl, hb2⟩; have HB2 := Lib.hid hb2; clear hb2))
        go_ret
        exact ⟨ret_int HX.out.symm, next HT.out.2 HB2.out⟩
      · have HX := Lib.hid (noCd_succ HT.out.1 hx)
        have hb := s_ne (fun e => hx e.symm)
        clear hx
        go_wp2_with (first | (go_at_call 28; refine (ruleOf_any 9 _).mono ?_; rintro e w' ⟨rfl, hw⟩; subst hw; rw [ruleV_9]) | (go_at_call 104; refine (word_at (bs (nmL 9)) _ _).mono ?_; rintro e w2 ⟨rfl, hb2⟩; have HB2 := Lib.hid hb2; clear hb2))
        exact ⟨⟨9, by omega, by go_num, Lib.hid ⟨HX.out, next HT.out.2 HB2.out⟩⟩, by simp [intOf]⟩
    · by_cases hx : l = nmL 10
      · have HX := Lib.hid (cd_yes l 10 (by omega) (by omega) hx)
        have hb := s_eq hx.symm
        clear hx
        go_wp2_with (first | (go_at_call 28; refine (ruleOf_any 10 _).mono ?_; rintro e w' ⟨rfl, hw⟩; subst hw; rw [ruleV_10]) | (go_at_call 104; refine (word_at (bs (nmL 10)) _ _).mono ?_; rintro e w2 ⟨rfl, hb2⟩; have HB2 := Lib.hid hb2; clear hb2))
        go_ret
        exact ⟨ret_int HX.out.symm, next HT.out.2 HB2.out⟩
      · have HX := Lib.hid (noCd_succ HT.out.1 hx)
        have hb := s_ne (fun e => hx e.symm)
        clear hx
        go_wp2_with (first | (go_at_call 28; refine (ruleOf_any 10 _).mono ?_; rintro e w' ⟨rfl, hw⟩; subst hw; rw [ruleV_10]) | (go_at_call 104; refine (word_at (bs (nmL 10)) _ _).mono ?_; rintro e w2 ⟨rfl, hb2⟩; have HB2 := Lib.hid hb2; clear hb2))
        exact ⟨⟨10, by omega, by go_num, Lib.hid ⟨HX.out, next HT.out.2 HB2.out⟩⟩, by simp [intOf]⟩
    · by_cases hx : l = nmL 11
      · have HX := Lib.hid (cd_yes l 11 (by omega) (by omega) hx)
        have hb := s_eq hx.symm
        clear hx
        go_wp2_with (first | (go_at_call 28; refine (ruleOf_any 11 _).mono ?_; rintro e w' ⟨rfl, hw⟩; subst hw; rw [ruleV_11]) | (go_at_call 104; refine (word_at (bs (nmL 11)) _ _).mono ?_; rintro e w2 ⟨rfl, hb2⟩; have HB2 := Lib.hid hb2; clear hb2))
        go_ret
        exact ⟨ret_int HX.out.symm, next HT.out.2 HB2.out⟩
      · have HX := Lib.hid (noCd_succ HT.out.1 hx)
        have hb := s_ne (fun e => hx e.symm)
        clear hx
        go_wp2_with (first | (go_at_call 28; refine (ruleOf_any 11 _).mono ?_; rintro e w' ⟨rfl, hw⟩; subst hw; rw [ruleV_11]) | (go_at_call 104; refine (word_at (bs (nmL 11)) _ _).mono ?_; rintro e w2 ⟨rfl, hb2⟩; have HB2 := Lib.hid hb2; clear hb2))
        exact ⟨⟨11, by omega, by go_num, Lib.hid ⟨HX.out, next HT.out.2 HB2.out⟩⟩, by simp [intOf]⟩
    · by_cases hx : l = nmL 12
      · have HX := Lib.hid (cd_yes l 12 (by omega) (by omega) hx)
        have hb := s_eq hx.symm
        clear hx
        go_wp2_with (first | (go_at_call 28; refine (ruleOf_any 12 _).mono ?_; rintro e w' ⟨rfl, hw⟩; subst hw; rw [ruleV_12]) | (go_at_call 104; refine (word_at (bs (nmL 12)) _ _).mono ?_; rintro e w2 ⟨rfl, hb2⟩; have HB2 := Lib.hid hb2; clear hb2))
        go_ret
        exact ⟨ret_int HX.out.symm, next HT.out.2 HB2.out⟩
      · have HX := Lib.hid (noCd_succ HT.out.1 hx)
        have hb := s_ne (fun e => hx e.symm)
        clear hx
        go_wp2_with (first | (go_at_call 28; refine (ruleOf_any 12 _).mono ?_; rintro e w' ⟨rfl, hw⟩; subst hw; rw [ruleV_12]) | (go_at_call 104; refine (word_at (bs (nmL 12)) _ _).mono ?_; rintro e w2 ⟨rfl, hb2⟩; have HB2 := Lib.hid hb2; clear hb2))
        exact ⟨⟨12, by omega, by go_num, Lib.hid ⟨HX.out, next HT.out.2 HB2.out⟩⟩, by simp [intOf]⟩
    · have HX := Lib.hid (cd_no l HT.out.1)
      go_wp2
      go_ret
      exact ⟨ret_int HX.out.symm, HT.out.2⟩

def noKd (l : List UInt8) (k : Nat) : Prop := ∀ j : Nat, j < k → l ≠ kwL (j : Int)
theorem noKd_succ {l : List UInt8} {k : Nat} (h : noKd l k) (h2 : l ≠ kwL (k : Int)) : noKd l (k + 1) := fun j h3 => by
  by_cases hj : j = k
  · subst hj; exact h2
  · exact h j (by omega)
theorem kd_no' (l : List UInt8) (h : noKd l 7) : kdW l = -1 := by
  have g0 : l ≠ [] := h 0 (by omega)
  have g1 : l ≠ [99, 114, 101, 97, 116, 117, 114, 101] := h 1 (by omega)
  have g2 : l ≠ [111, 119, 110] := h 2 (by omega)
  have g3 : l ≠ [111, 116, 104, 101, 114] := h 3 (by omega)
  have g4 : l ≠ [112, 108, 97, 121, 101, 114] := h 4 (by omega)
  have g5 : l ≠ [101, 105, 116, 104, 101, 114] := h 5 (by omega)
  have g6 : l ≠ [115, 112, 101, 108, 108] := h 6 (by omega)
  unfold kdW
  rw [if_neg g0, if_neg g1, if_neg g2, if_neg g3, if_neg g4, if_neg g5, if_neg g6]
theorem kd_yes (l : List UInt8) (k : Nat) (h2 : k ≤ 6) (h : l = kwL (k : Int)) : kdW l = (k : Int) := by
  subst h; exact kd_kw _ (by omega) (by omega)
theorem k7 (k : Nat) (h : k ≤ 7) : k = 0 ∨ k = 1 ∨ k = 2 ∨ k = 3 ∨ k = 4 ∨ k = 5 ∨ k = 6 ∨ k = 7 := by omega
abbrev kwV : Value := .agg #[.string (bs (kwL 0)), .string (bs (kwL 1)), .string (bs (kwL 2)), .string (bs (kwL 3)), .string (bs (kwL 4)), .string (bs (kwL 5)), .string (bs (kwL 6))]
theorem kx0 : ∀ w, (Instr.index 76 kwV (.int .i64 0)).run Tryd.prog w = .ok (.string (bs (kwL 0))) w := fun _ => by kernel_rfl
theorem kx1 : ∀ w, (Instr.index 76 kwV (.int .i64 1)).run Tryd.prog w = .ok (.string (bs (kwL 1))) w := fun _ => by kernel_rfl
theorem kx2 : ∀ w, (Instr.index 76 kwV (.int .i64 2)).run Tryd.prog w = .ok (.string (bs (kwL 2))) w := fun _ => by kernel_rfl
theorem kx3 : ∀ w, (Instr.index 76 kwV (.int .i64 3)).run Tryd.prog w = .ok (.string (bs (kwL 3))) w := fun _ => by kernel_rfl
theorem kx4 : ∀ w, (Instr.index 76 kwV (.int .i64 4)).run Tryd.prog w = .ok (.string (bs (kwL 4))) w := fun _ => by kernel_rfl
theorem kx5 : ∀ w, (Instr.index 76 kwV (.int .i64 5)).run Tryd.prog w = .ok (.string (bs (kwL 5))) w := fun _ => by kernel_rfl
theorem kx6 : ∀ w, (Instr.index 76 kwV (.int .i64 6)).run Tryd.prog w = .ok (.string (bs (kwL 6))) w := fun _ => by kernel_rfl
set_option maxRecDepth 100000 in
set_option maxHeartbeats 8000000 in
theorem kindWith_any (l : List UInt8) (w : World) (hG : G w) :
    Calls Tryd.prog 43 #[.string (bs l)] w fun e w' => e = .returned (.int .i64 (kdW l)) ∧ Below w.heap.size w w' := by
  obtain ⟨q0, q1, q2, q3, q4, q5, q6, q7⟩ := hG.kc
  have e0 := kx0
  have e1 := kx1
  have e2 := kx2
  have e3 := kx3
  have e4 := kx4
  have e5 := kx5
  have e6 := kx6
  go_enter Tryd.func43, Tryd.ntmps43
  go_wp2
  go_loopw [6] (fun i wr => ∃ k : Nat, k ≤ 7 ∧ i = .int .i64 (k : Int) ∧ Hid (noKd l k ∧ Below w.heap.size w wr)) (fun i _ => 8 - (intOf i).toNat)
  case atStart => exact ⟨0, by omega, rfl, Lib.hid ⟨fun j h2 => by omega, Below.refl _ _⟩⟩
  case round =>
    obtain ⟨k, hk, rfl, HT⟩ := hrel
    rcases k7 k hk with rfl | rfl | rfl | rfl | rfl | rfl | rfl | rfl
    · by_cases hx : l = kwL 0
      · have HX := Lib.hid (kd_yes l 0 (by omega) hx)
        have hb := s_eq hx.symm
        clear hx
        go_wp2
        go_ret
        exact ⟨ret_int HX.out.symm, HT.out.2⟩
      · have HX := Lib.hid (noKd_succ HT.out.1 hx)
        have hb := s_ne (fun e => hx e.symm)
        clear hx
        go_wp2
        exact ⟨⟨1, by omega, by go_num, Lib.hid ⟨HX.out, HT.out.2⟩⟩, by simp [intOf]⟩
    · by_cases hx : l = kwL 1
      · have HX := Lib.hid (kd_yes l 1 (by omega) hx)
        have hb := s_eq hx.symm
        clear hx
        go_wp2
        go_ret
        exact ⟨ret_int HX.out.symm, HT.out.2⟩
      · have HX := Lib.hid (noKd_succ HT.out.1 hx)
        have hb := s_ne (fun e => hx e.symm)
        clear hx
        go_wp2
        exact ⟨⟨2, by omega, by go_num, Lib.hid ⟨HX.out, HT.out.2⟩⟩, by simp [intOf]⟩
    · by_cases hx : l = kwL 2
      · have HX := Lib.hid (kd_yes l 2 (by omega) hx)
        have hb := s_eq hx.symm
        clear hx
        go_wp2
        go_ret
        exact ⟨ret_int HX.out.symm, HT.out.2⟩
      · have HX := Lib.hid (noKd_succ HT.out.1 hx)
        have hb := s_ne (fun e => hx e.symm)
        clear hx
        go_wp2
        exact ⟨⟨3, by omega, by go_num, Lib.hid ⟨HX.out, HT.out.2⟩⟩, by simp [intOf]⟩
    · by_cases hx : l = kwL 3
      · have HX := Lib.hid (kd_yes l 3 (by omega) hx)
        have hb := s_eq hx.symm
        clear hx
        go_wp2
        go_ret
        exact ⟨ret_int HX.out.symm, HT.out.2⟩
      · have HX := Lib.hid (noKd_succ HT.out.1 hx)
        have hb := s_ne (fun e => hx e.symm)
        clear hx
        go_wp2
        exact ⟨⟨4, by omega, by go_num, Lib.hid ⟨HX.out, HT.out.2⟩⟩, by simp [intOf]⟩
    · by_cases hx : l = kwL 4
      · have HX := Lib.hid (kd_yes l 4 (by omega) hx)
        have hb := s_eq hx.symm
        clear hx
        go_wp2
        go_ret
        exact ⟨ret_int HX.out.symm, HT.out.2⟩
      · have HX := Lib.hid (noKd_succ HT.out.1 hx)
        have hb := s_ne (fun e => hx e.symm)
        clear hx
        go_wp2
        exact ⟨⟨5, by omega, by go_num, Lib.hid ⟨HX.out, HT.out.2⟩⟩, by simp [intOf]⟩
    · by_cases hx : l = kwL 5
      · have HX := Lib.hid (kd_yes l 5 (by omega) hx)
        have hb := s_eq hx.symm
        clear hx
        go_wp2
        go_ret
        exact ⟨ret_int HX.out.symm, HT.out.2⟩
      · have HX := Lib.hid (noKd_succ HT.out.1 hx)
        have hb := s_ne (fun e => hx e.symm)
        clear hx
        go_wp2
        exact ⟨⟨6, by omega, by go_num, Lib.hid ⟨HX.out, HT.out.2⟩⟩, by simp [intOf]⟩
    · by_cases hx : l = kwL 6
      · have HX := Lib.hid (kd_yes l 6 (by omega) hx)
        have hb := s_eq hx.symm
        clear hx
        go_wp2
        go_ret
        exact ⟨ret_int HX.out.symm, HT.out.2⟩
      · have HX := Lib.hid (noKd_succ HT.out.1 hx)
        have hb := s_ne (fun e => hx e.symm)
        clear hx
        go_wp2
        exact ⟨⟨7, by omega, by go_num, Lib.hid ⟨HX.out, HT.out.2⟩⟩, by simp [intOf]⟩
    · have HX := Lib.hid (kd_no' l HT.out.1)
      go_wp2
      go_ret
      exact ⟨ret_int HX.out.symm, HT.out.2⟩
end Go.Proofs.YtfdolapiikgebaaDoor.efFn
