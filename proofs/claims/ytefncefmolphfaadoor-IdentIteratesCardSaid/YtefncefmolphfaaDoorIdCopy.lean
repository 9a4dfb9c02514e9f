/- What Copy returns. -/
import Derived.Test.YtefncefmolphfaaDoorIdFn4
import Derived.Laws.AppendOwnNone
import Derived.Lib.SliceRun
import Derived.Lib.Walk
import Derived.Deep.RegionHeld3
namespace Go.Proofs.YtefncefmolphfaaDoor.idFn
open Go.ChangeShapes Go.WideShapes Go.ChangeAt Go.RowKit drMem idBits
set_option linter.unusedVariables false
variable {w w' : World} {b g : Nat} {fl : List Bool}
theorem own_has {w : World} {base n : Nat} {t : TypeId} {v : Value} {xs : List Value} (h : w.ownsRow base t 1 v n xs) (hn : 1 ≤ n) :
    ∃ g cap more, v = .slice (some ⟨g, 0, none⟩) n cap ∧ has w g t (xs ++ more) ∧ base ≤ g := by
  rcases h.2 with ⟨h2, h3⟩ | ⟨g, cap, cur, h2, hbg, hg, hn', hm, hs, ht⟩
  · omega
  · refine ⟨g, cap, cur.toList.drop n, h2, ?_, hbg⟩
    have e : xs ++ cur.toList.drop n = cur.toList := by
      rw [← ht, Nat.mul_one]; exact List.take_append_drop n _
    unfold has
    rw [e]; exact hg
def clonePost (ls : List Nat) (n : Nat) (w : World) (e : Ending) (w' : World) : Prop := ∃ g' cap more, e = .returned (.slice (some ⟨g', 0, none⟩) n cap) ∧ has w' g' 60 (us ls ++ more) ∧ w.heap.size ≤ g' ∧ Below w.heap.size w w'
set_option maxHeartbeats 400000 in
theorem clone_any (g n cap : Nat) (ls : List Nat) (more : List Value) (w : World) (h : has w g 60 (us ls ++ more)) (hl : ls.length = n) (h1 : 1 ≤ n) (hn : n ≤ 64) :
    Calls Tryd.prog 36 #[.slice (some ⟨g, 0, none⟩) n cap] w (clonePost ls n w) := by
  obtain ⟨i0, hi, hz0, hz1, hz2⟩ := info_parts infoU
  have q0 : ∀ (w : World) (a : Option Addr) (n c n' c' : Nat), (binOp .eql 49 (.slice a n c) (.slice none n' c')).run Tryd.prog w = .ok (.bool a.isNone) w := fun w a n c n' c' => Lib.run_eql_slice_nil w _ _ a n c n' c' Tryd.underlying49
  have H := Lib.hid h
  have HL := Lib.hid hl
  clear h hl
  go_enter Tryd.func36, Tryd.ntmps36
  go_wp2_with (at_builtin; refine wpList_append_own _ rfl _ _ 49 rfl w.heap.size 60 i0 (.int .u64 0) 1 8 Tryd.underlying49 hi hz0 hz1 hz2 rfl (by decide) _ _ _ rfl (World.ownsRow_made w #[] 0 (Nat.le_refl _) (Nat.zero_le _) rfl) ⟨g, 0, none⟩ n cap (us ls) rfl ?qc1 ?qc2 (us_one ls) ?qc4 ?qc5 ?qc6 ?_)
  case qc1 => rw [us_len, HL.out, Nat.mul_one]
  case qc2 =>
    intro j u hj
    have hjn := (List.getElem?_eq_some_iff.1 hj).1
    rw [addr_add, Nat.zero_add]
    refine Lib.cell?_alloc_some _ ?_
    rw [H.out.cell, List.getElem?_append_left hjn]; exact hj
  case qc4 => unfold maxLen; omega
  case qc5 => omega
  case qc6 => simp
  intro v' w1 hown hgrow hnil
  have hown2 : w1.ownsRow w.heap.size 60 1 v' n (us ls) := by simpa using hown
  obtain ⟨g', cap', more', rfl, hh, hbg⟩ := own_has hown2 h1
  have hb : Below w.heap.size w w1 := ((Below.refl _ w).alloc (Nat.le_refl _) _).grown hgrow (by simp) (by intro k hk; simp [Value.ownBlock] at hk; omega)
  have R := Lib.hid hh
  have B := Lib.hid hb
  clear hown hown2 hgrow hnil hh hb
  go_wp2
  go_ret
  exact ⟨g', cap', more', rfl, R.out, hbg, B.out⟩
def copyPost (fl : List Bool) (w : World) (e : Ending) (w' : World) : Prop := ∃ b' g', e = .returned (.pointer (some ⟨b', 0, none⟩)) ∧ isI w' b' g' fl ∧ w.heap.size ≤ b' ∧ w.heap.size ≤ g' ∧ Below w.heap.size w w'
theorem Copy_none (p : Option Addr) (w : World) (hp : p = none ∨ ∃ b, p = some ⟨b, 0, none⟩ ∧ w.cell? ⟨b, 0, none⟩ = some (.int .i64 0)) : Calls Tryd.prog 22 #[.pointer p] w fun e w' => e = .returned (.pointer none) ∧ w = w' := by
  have HZ : Hid (Calls Tryd.prog 28 #[.pointer p] w fun e w' => e = .returned (.bool true) ∧ w = w') := Lib.hid (by
    rcases hp with rfl | ⟨b, rfl, hc⟩
    · exact zero_nil w
    · exact zero_zero b w hc)
  clear hp
  go_enter Tryd.func22, Tryd.ntmps22
  go_wp2_with (go_at_call 28; refine HZ.out.mono ?_; rintro e w' ⟨rfl, rfl⟩)
  go_ret
  exact ⟨rfl, rfl⟩
set_option maxHeartbeats 1000000 in
theorem Copy_any (h : isI w b g fl) : Calls Tryd.prog 22 #[.pointer (some ⟨b, 0, none⟩)] w (copyPost fl w) := by
  have HZ := Lib.hid (zero_any h)
  have H := Lib.hid h
  have c0 := h.c0
  obtain ⟨cap, c1⟩ := h.c1
  have hl := h.l2
  have hl1 := h.l1
  obtain ⟨n, hn⟩ : ∃ n, (fl.length + 63) / 64 = n := ⟨_, rfl⟩
  have hn64 : n ≤ 64 := by omega
  have hn1 : 1 ≤ n := by omega
  rw [hn] at c1
  have HN := Lib.hid hn
  obtain ⟨more, hr⟩ := h.r
  have HR := Lib.hid hr
  have HLN : Hid ((wds fl).length = n) := Lib.hid (by rw [wds_len]; exact hn)
  clear h hn hr
  go_enter Tryd.func22, Tryd.ntmps22
  go_wp2_with (go_at_call 28; refine HZ.out.mono ?_; rintro e w' ⟨rfl, rfl⟩)
  have hb := H.out.blt
  have HR1 : Hid (has w.drew g 60 (us (wds fl) ++ more)) := Lib.hid (HR.out.drewN 1)
  go_region_held3 (fun w' => w'.cell? ⟨b, 0, none⟩ = some (.int .i64 (fl.length : Int)) ∧ w'.cell? ⟨b, 1, none⟩ = some (.slice (some ⟨g, 0, none⟩) n cap)) (first | assumption | (constructor <;> assumption) | go_keep) (first | (go_at_call 36; refine (clone_any g n cap (wds fl) more _ HR1.out HLN.out hn1 hn64).mono ?_; rintro e w3 ⟨g', cap', more', rfl, h3, hg3, hb3⟩; have d0 := (hb3.cell (p := ⟨b, 0, none⟩) hb).trans c0; have d1 := (hb3.cell (p := ⟨b, 1, none⟩) hb).trans c1; have H3 := Lib.hid h3; have B3 := Lib.hid hb3; have G3 := Lib.hid hg3; clear h3 hb3 hg3))
  clear d0 d1
  have hh : has w3 g' 60 (us (wds fl) ++ more') := H3.out
  have hb' : Below w.heap.size w w3 := ⟨B3.out.os, B3.out.tape, B3.out.output, B3.out.size, B3.out.block⟩
  have hgg : w.heap.size ≤ g' := G3.out
  have hsz := hh.lt
  have H4 := Lib.hid hh
  have B4 := Lib.hid hb'
  clear hh hb' G3 H3 B3
  go_wp2
  go_ret
  have hB := B4.out.alloc B4.out.size (.cells #[.int .i64 (fl.length : Int), .slice (some ⟨g', 0, none⟩) n cap'] 51)
  have hp := H.out.t.pos
  refine ⟨_, _, rfl, ⟨⟨cap', ?_⟩, ⟨more', H4.out.alloc _⟩, hl1, hl, by omega, by omega, H.out.t.below hB hp⟩, by omega, hgg, hB⟩
  rw [HN.out]
  exact has.new w3 _ [_, _]
end Go.Proofs.YtefncefmolphfaaDoor.idFn
