/- The walk of the statement on sums of lists: for every list and every maximum it returns true, and changes nothing that was there. -/
import Derived.Test.YtgnmiifkafedjaaSatFn2
import Derived.Laws.AppendOwnNone
import Derived.Deep.QuietTactic
import Derived.BigQuiet
import Derived.Outline
namespace Go.Proofs.Ytgnmiifkafedjaa.satFn
open Go.ChangeShapes Go.WideShapes Go.ChangeAt Go.RowKit
set_option linter.unusedVariables false

theorem infoInt : (Try.prog.info? 3).map (fun i => (i.zero, i.size, i.bytes)) = some (some (.int .i64 0), 1, 8) := by kernel_rfl

theorem Sum_none (a : Option Addr) (cap : Nat) (m : Int) (w : World) :
    Calls Try.prog 20 #[.slice a 0 cap, .int .i64 m] w fun e w' => e = .returned (.int .i64 0) ∧ w = w' := by
  go_enter Try.func20, Try.ntmps20
  go_wp2
  go_loop [5, 10] (fun s i => i = .int .i64 0 ∧ s = .int .i64 0) (fun _ _ => 0)
  case atStart => exact ⟨rfl, rfl⟩
  case round =>
    obtain ⟨rfl, rfl⟩ := hrel
    go_wp2
    go_ret
    exact ⟨rfl, rfl⟩
theorem rSum_none (a : Option Addr) (cap : Nat) (m : Int) (w : World) :
    Calls Try.prog 21 #[.slice a 0 cap, .int .i64 m] w fun e w' => e = .returned (.int .i64 0) ∧ w = w' := by
  go_enter Try.func21, Try.ntmps21
  go_wp2
  go_loop [5, 6] (fun s i => i = .int .i64 0 ∧ s = .int .i64 0) (fun _ _ => 0)
  case atStart => exact ⟨rfl, rfl⟩
  case round =>
    obtain ⟨rfl, rfl⟩ := hrel
    go_wp2
    go_ret
    exact ⟨rfl, rfl⟩

theorem sums_long (a : Option Addr) (len cap : Nat) (m : Int) (w : World) (hl : 40 < len) (hb : len ≤ 9223372036854775807) :
    Calls Try.prog 7 #[.slice a len cap, .int .i64 m] w fun e w' => e = .returned (.bool true) ∧ Below w.heap.size w w' := by
  go_enter Try.func7, Try.ntmps7
  go_wp2_with (go_at_call 13; refine (known_below _ _ (Nat.le_refl _)).mono ?_; rintro e w' ⟨rfl, hg⟩)
  go_ret
  exact ⟨rfl, hg⟩

theorem sums_nil (cap : Nat) (m : Int) (w : World) :
    Calls Try.prog 7 #[.slice none 0 0, .int .i64 m] w fun e w' => e = .returned (.bool true) ∧ Below w.heap.size w w' := by
  obtain ⟨i0, hi, hz0, hz1, hz2⟩ := info_parts infoInt
  go_enter Try.func7, Try.ntmps7
  go_wp2_with (first | (at_builtin; refine wpList_append_own_none rfl _ _ 26 rfl w.heap.size 3 i0 1 Try.underlying26 hi _ 0 [] rfl (World.ownsRow_nil _ _ _ _) rfl ?_) | (go_at_call 20; refine (Sum_none _ _ _ _).mono ?_; rintro e w' ⟨rfl, rfl⟩))
  go_loop [19] (fun i => i = .int .i64 0) (fun _ => 0)
  case atStart => rfl
  case round =>
    obtain rfl := hrel
    go_wp2_with (first | (go_at_call 21; refine (rSum_none _ _ _ _).mono ?_; rintro e w' ⟨rfl, rfl⟩) | (go_at_call 13; refine (known_below _ _ (Nat.le_refl _)).mono ?_; rintro e w' ⟨rfl, hg⟩))
    go_ret
    exact ⟨rfl, hg⟩

theorem sums_empty (x : Addr) (cap : Nat) (m : Int) (w : World) :
    Calls Try.prog 7 #[.slice (some x) 0 cap, .int .i64 m] w fun e w' => e = .returned (.bool true) ∧ Below w.heap.size w w' := by
  obtain ⟨i0, hi, hz0, hz1, hz2⟩ := info_parts infoInt
  go_enter Try.func7, Try.ntmps7
  go_wp2_with (go_at_call 20; refine (Sum_none _ _ _ _).mono ?_; rintro e w' ⟨rfl, rfl⟩)
  go_loop [19] (fun i => i = .int .i64 0) (fun _ => 0)
  case atStart => rfl
  case round =>
    obtain rfl := hrel
    go_wp2_with (first | (go_at_call 21; refine (rSum_none _ _ _ _).mono ?_; rintro e w' ⟨rfl, rfl⟩) | (go_at_call 13; refine (known_below _ _ (Nat.le_refl _)).mono ?_; rintro e w' ⟨rfl, hg⟩))
    go_ret
    exact ⟨rfl, hg⟩

theorem addr_add (b off j : Nat) : (⟨b, off, none⟩ : Addr).add j = ⟨b, off + j, none⟩ := by
  unfold Addr.add; split <;> simp_all
theorem getElem_cells (zs : List Int) (len j : Nat) (hj : j < len) (hz : len ≤ zs.length) : ((zs.map (Value.int .i64)).take len)[j]? = some (.int .i64 (zs.getD j 0)) := by
  have h2 : j < zs.length := by omega
  simp [hj, h2]

theorem own_shape {w : World} {base : Nat} {e : TypeId} {v : Value} {n : Nat} {xs : List Value} (h : w.ownsRow base e 1 v n xs) (hn : 0 < n) :
    ∃ g cap, v = .slice (some ⟨g, 0, none⟩) n cap ∧ base ≤ g ∧ g < w.heap.size ∧ ∀ j, j < n → w.cell? ⟨g, j, none⟩ = xs[j]? := by
  have h' := h
  rcases h.2 with ⟨_, h0⟩ | ⟨g, cap, cur, rfl, hb, hg, _⟩
  · omega
  · exact ⟨g, cap, rfl, hb, (Array.getElem?_eq_some_iff.1 hg).1, fun j hj => h'.cellAt j (by omega)⟩

set_option maxHeartbeats 1000000 in
theorem sums_some (b off len cap : Nat) (zs : List Int) (m : Int) (w : World) (h0 : 0 < len) (hl : len ≤ 40) (hz : len ≤ zs.length) (m0 : -9223372036854775808 ≤ m) (m1 : m ≤ 9223372036854775807) (hb : b < w.heap.size)
    (hc : ∀ k, k < len → w.cell? ⟨b, off + k, none⟩ = some (.int .i64 (zs.getD k 0))) (hw : ∀ k, k < len → -9223372036854775808 ≤ zs.getD k 0 ∧ zs.getD k 0 ≤ 9223372036854775807) :
    Calls Try.prog 7 #[.slice (some ⟨b, off, none⟩) len cap, .int .i64 m] w fun e w' => e = .returned (.bool true) ∧ Below w.heap.size w w' := by
  obtain ⟨i0, hi, hz0, hz1, hz2⟩ := info_parts infoInt
  have HC := Lib.hid hc; have HW := Lib.hid hw
  clear hc hw
  go_enter Try.func7, Try.ntmps7
  go_wp2_with (at_builtin; refine wpList_append_own _ rfl _ _ 26 rfl w.heap.size 3 i0 (.int .i64 0) 1 8 Try.underlying26 hi hz0 hz1 hz2 rfl (by decide) _ 0 [] rfl (World.ownsRow_nil _ _ _ _) ⟨b, off, none⟩ len cap ((zs.map (Value.int .i64)).take len) rfl ?c1 ?c2 ?c3 ?c4 ?c5 ?c6 ?_)
  case c1 => simp; omega
  case c2 =>
    intro j u hu
    have hj : j < len := by
      have := (List.getElem?_eq_some_iff.1 hu).1
      simp at this; omega
    rw [getElem_cells zs len j hj hz] at hu
    rw [← hu, addr_add]; exact HC.out j hj
  case c3 => intro u hu; obtain ⟨x, _, rfl⟩ := List.mem_map.1 (List.mem_of_mem_take hu); rfl
  case c4 => unfold maxLen; omega
  case c5 => omega
  case c6 => omega
  intro v' w1 hown0 hgrow hnil
  have hown : w1.ownsRow w.heap.size 3 1 v' len (List.take len (List.map (Value.int .i64) zs)) := by simpa using hown0
  obtain ⟨g, cap', hv, hg0, hg1, hcells⟩ := own_shape hown h0
  have hbel : Below w.heap.size w w1 := (Below.refl _ _).grown hgrow (Nat.le_refl _) (by intro k hk; simp [Value.ownBlock] at hk)
  have CG : Hid (∀ k, k < len → w1.cell? ⟨g, k, none⟩ = some (.int .i64 (zs.getD k 0))) := Lib.hid fun k hk => (hcells k hk).trans (getElem_cells zs len k hk hz)
  have CL : Hid (∀ k, k < len → w1.cell? ⟨b, off + k, none⟩ = some (.int .i64 (zs.getD k 0))) := Lib.hid fun k hk => (hbel.cell (p := ⟨b, off + k, none⟩) hb).trans (HC.out k hk)
  have HB := Lib.hid hbel
  rw [hv]
  clear hown hown0 hgrow hnil hcells hbel hv v'
  go_wp2_with fail
  refine (Sum_any g 0 len cap' zs m w1 (by omega) m0 m1 (by intro k hk; rw [Nat.zero_add]; exact CG.out k hk) HW.out).mono ?_
  rintro e w' ⟨rfl, rfl⟩
  go_wp2_with fail
  go_loopw [19] (fun i wr => ∃ k : Nat, k ≤ len ∧ i = .int .i64 k ∧ ∃ n, wr = w1.drewN n) (fun i _ => len - (intOf i).toNat)
  case atStart => exact ⟨0, Nat.zero_le _, rfl, 0, rfl⟩
  case round =>
    obtain ⟨k, hk, rfl, n, rfl⟩ := hrel
    by_cases hlt : k < len
    · have c1 := CG.out k hlt
      have c2 := CL.out k hlt
      generalize zs.getD k 0 = z at *
      go_wp2
      go_quiet (fail)
      go_wp2
      exact ⟨⟨k + 1, by omega, by go_num, _, rfl⟩, by simp [intOf]; omega⟩
    · obtain rfl : k = len := by omega
      go_wp2_with fail
      refine (rSum_any b off k cap zs m _ (by omega) m0 m1 (by intro j hj; exact CL.out j hj) HW.out).mono ?_
      rintro e w' ⟨rfl, rfl⟩
      go_wp2_with fail
      refine (known_below w.heap.size _ (by exact HB.out.size)).mono ?_
      rintro e w' ⟨rfl, hg⟩
      have hg' := Lib.hid hg
      clear hg
      go_wp2
      go_ret
      exact ⟨rfl, (HB.out.trans (below_drewN (Below.refl _ _) _)).trans hg'.out⟩

theorem getD_mem (zs : List Int) (k : Nat) (h : k < zs.length) : zs.getD k 0 ∈ zs := by
  rw [List.getD_eq_getElem?_getD, List.getElem?_eq_getElem h]; exact List.getElem_mem h

theorem sums (a : Option Addr) (len cap : Nat) (zs : List Int) (m : Int) (w : World) (hcap : cap ≤ 9223372036854775807) (m0 : -9223372036854775808 ≤ m ∧ m ≤ 9223372036854775807)
    (h : (a = none ∧ len = 0 ∧ cap = 0) ∨ ∃ x, a = some x ∧ len ≤ cap ∧ zs.length = cap ∧ (∀ i, i < zs.length → w.cell? (x.add i) = some (.int .i64 (zs.getD i 0))) ∧ ∀ n ∈ zs, -9223372036854775808 ≤ n ∧ n ≤ 9223372036854775807) :
    Calls Try.prog 7 #[.slice a len cap, .int .i64 m] w fun e w' => e = .returned (.bool true) ∧ Below w.heap.size w w' := by
  rcases h with ⟨rfl, rfl, rfl⟩ | ⟨x, rfl, hl, hz, hc, hw⟩
  · exact sums_nil 0 m w
  · by_cases h4 : 40 < len
    · exact sums_long _ len cap m w h4 (by omega)
    · by_cases h0 : len = 0
      · subst h0; exact sums_empty x cap m w
      · obtain ⟨b, off, spot⟩ := x
        have hs := hc 0 (by omega)
        have hspot : spot = none := by simpa [Addr.add] using World.cell?_spot hs
        subst hspot
        have hc' : ∀ k, k < len → w.cell? ⟨b, off + k, none⟩ = some (.int .i64 (zs.getD k 0)) := fun k hk => by rw [← addr_add]; exact hc k (by omega)
        have hb : b < w.heap.size := by
          have := hc' 0 (by omega)
          exact World.block_lt_of_cell? _ _ this
        exact sums_some b off len cap zs m w (by omega) (by omega) (by omega) m0.1 m0.2 hb hc' (fun k hk => hw _ (getD_mem zs k (by omega)))

end Go.Proofs.Ytgnmiifkafedjaa.satFn
