/- What nil and zero ids return; the walk of the law on them. -/
import Derived.Test.YtefncefmolphfaaDoorIdKnown
namespace Go.Proofs.YtefncefmolphfaaDoor.idFn
open Go.ChangeShapes Go.WideShapes Go.ChangeAt Go.RowKit Go.Shelf drMem idBits
set_option linter.unusedVariables false
attribute [local go_sem] Oper.semAt_some
variable {w w' W W' : World}

def isNo (p : Option Addr) (w : World) : Prop := p = none ∨ ∃ b, p = some ⟨b, 0, none⟩ ∧ w.cell? ⟨b, 0, none⟩ = some (.int .i64 0)
theorem zero_no (p : Option Addr) (w : World) (hp : isNo p w) : Calls Tryd.prog 28 #[.pointer p] w fun e w' => e = .returned (.bool true) ∧ w = w' := by
  rcases hp with rfl | ⟨b, rfl, hc⟩
  · exact zero_nil w
  · exact zero_zero b w hc
theorem Take_no (p : Option Addr) (w : World) (hp : isNo p w) : Calls Tryd.prog 23 #[.pointer p] w fun e w' => e = .returned (.tuple #[.int .i64 0, .int .i64 1]) ∧ w = w' := by
  have HZ := Lib.hid (zero_no p w hp)
  clear hp
  go_enter Tryd.func23, Tryd.ntmps23
  go_wp2_with (go_at_call 28; refine HZ.out.mono ?_; rintro e w' ⟨rfl, rfl⟩)
  go_ret2
  exact ⟨rfl, rfl⟩
theorem Claim_no (p : Option Addr) (id : Int) (w : World) (hp : isNo p w) : Calls Tryd.prog 19 #[.pointer p, .int .i64 id] w fun e w' => e = .returned (.int .i64 1) ∧ w = w' := by
  have HZ := Lib.hid (zero_no p w hp)
  clear hp
  go_enter Tryd.func19, Tryd.ntmps19
  go_wp2_with (go_at_call 28; refine HZ.out.mono ?_; rintro e w' ⟨rfl, rfl⟩)
  go_ret
  exact ⟨rfl, rfl⟩
theorem Free_no (p : Option Addr) (id : Int) (w : World) (hp : isNo p w) : Calls Tryd.prog 16 #[.pointer p, .int .i64 id] w fun e w' => e = .returned (.int .i64 1) ∧ w = w' := by
  have HZ := Lib.hid (zero_no p w hp)
  clear hp
  go_enter Tryd.func16, Tryd.ntmps16
  go_wp2_with (go_at_call 28; refine HZ.out.mono ?_; rintro e w' ⟨rfl, rfl⟩)
  go_ret
  exact ⟨rfl, rfl⟩
theorem Has_no (p : Option Addr) (id : Int) (w : World) (hp : isNo p w) : Calls Tryd.prog 20 #[.pointer p, .int .i64 id] w fun e w' => e = .returned (.bool false) ∧ w = w' := by
  have HZ := Lib.hid (zero_no p w hp)
  clear hp
  go_enter Tryd.func20, Tryd.ntmps20
  go_wp2_with (go_at_call 28; refine HZ.out.mono ?_; rintro e w' ⟨rfl, rfl⟩)
  go_ret
  exact ⟨rfl, rfl⟩
theorem Len_no (p : Option Addr) (w : World) (hp : isNo p w) : Calls Tryd.prog 14 #[.pointer p] w fun e w' => e = .returned (.int .i64 0) ∧ w = w' := by
  have HZ := Lib.hid (zero_no p w hp)
  clear hp
  go_enter Tryd.func14, Tryd.ntmps14
  go_wp2_with (go_at_call 28; refine HZ.out.mono ?_; rintro e w' ⟨rfl, rfl⟩)
  go_ret
  exact ⟨rfl, rfl⟩
theorem Room_no (p : Option Addr) (w : World) (hp : isNo p w) : Calls Tryd.prog 15 #[.pointer p] w fun e w' => e = .returned (.int .i64 0) ∧ w = w' := by
  have HZ := Lib.hid (zero_no p w hp)
  clear hp
  go_enter Tryd.func15, Tryd.ntmps15
  go_wp2_with (go_at_call 28; refine HZ.out.mono ?_; rintro e w' ⟨rfl, rfl⟩)
  go_ret
  exact ⟨rfl, rfl⟩
theorem takes_no (p : Option Addr) (w : World) (hp : isNo p w) : Calls Tryd.prog 13 #[.pointer p, .int .i64 0, .int .i64 1] w fun e w' => e = .returned (.bool true) ∧ w = w' := by
  have HT := Lib.hid (Take_no p w hp)
  clear hp
  go_enter Tryd.func13, Tryd.ntmps13
  go_wp2_with (go_at_call 23; refine HT.out.mono ?_; rintro e w1 ⟨rfl, rfl⟩)
  go_ret
  exact ⟨rfl, rfl⟩
set_option maxRecDepth 100000 in
set_option maxHeartbeats 1000000 in
theorem none_stops (n : Nat) (n₀ : Nat) (w : World) :
    SeqStopsK Fence.wide n Tryd.prog 32 #[] (fun x : Int => #[Value.int .i64 x]) (Below n₀) (fun ys => ys = []) (fun _ => False) 0 w := fun l J Jx W hW hJ _ hY h0 => by
  refine callsIn_of_wp Tryd.func32 rfl trivial ?_ rfl
  simp only [Tryd.ntmps32, List.size_toArray, List.length_cons, List.length_nil, Nat.reduceAdd, Nat.reduceSub, Array.replicate_succ, Array.replicate_zero, List.push_toArray, List.append_toArray, List.nil_append, List.cons_append]
  gi_wp2
  go_end0
  exact ⟨⟨_, rfl⟩, h0⟩
set_option maxRecDepth 100000 in
set_option maxHeartbeats 2000000 in
theorem all_no (p : Option Addr) (w : World) (hp : isNo p w) : Calls Tryd.prog 21 #[.pointer p, .slice none 0 0] w (boolB true w) := by
  have qf := func_nil
  have HA := Lib.hid (All_none p w hp)
  clear hp
  refine (callsIn_wide (n := 4)).1 ?_
  refine callsIn_of_wp_marks Tryd.func21 rfl trivial ?_ rfl
  simp only [Tryd.ntmps21, List.size_toArray, List.length_cons, List.length_nil, Nat.reduceAdd, Nat.reduceSub, Array.replicate_succ, Array.replicate_zero, List.push_toArray, List.append_toArray, List.nil_append, List.cons_append]
  gi_wp2_with (refine ⟨trivial, ?_⟩; gi_at_call 18; refine (callsIn_wide.2 HA.out).mono ?_; rintro e w1 ⟨rfl, rfl⟩)
  have bO := Boxed.new w 38 (.slice none 0 0)
  have hBA : Below w.heap.size w (w.alloc (.cells #[.slice none 0 0] 38)) := (Below.refl _ w).alloc (Nat.le_refl _) _
  refine wpIn_rangeFunc_ownG rfl (by omega) (gf := 32) (lb := #[]) rfl trivial (enters_of Tryd.func32 (by kernel_rfl) rfl)
    (none_stops 3 w.heap.size _) belowK_t (belowK_b (by simp)) (Below.refl _ _) (fun _ => rfl)
    (fun pre W => (∃ v, Boxed W w.heap.size 38 v ∧ W.ownsRow w.heap.size 3 1 v pre.length (pre.map (Value.int .i64)) ∧ True) ∧ Below w.heap.size w W)
    (fun _ _ _ => False)
    (OwnFrom.and (Own.from (holdsRow_own w.heap.size w.heap.size 38 3 1 (fun pre : List Int => pre.length) (fun pre : List Int => pre.map (Value.int .i64)) (fun _ _ => True)) _) (ownFrom_below (Nat.le_refl _) (by simp)))
    (fun _ _ _ _ _ hs _ _ => hs)
    ⟨⟨_, bO, World.ownsRow_nil _ _ _ _, trivial⟩, hBA⟩
    (fun x => { tmps := #[.pointer p, .slice none 0 0, undef, undef, .bool false, .func (.func 32) #[] #[], .pointer (some ⟨w.heap.size, 0, none⟩), .int .i64 x, .pointer p, .func (.func 32) #[] #[], .func (.func 32) #[] #[], .bool false, .func (.func 32) #[] #[], .int .i64 x, undef, undef, undef, undef, undef, undef, undef], defers := [] }) ?assign ?body ?done ?stop
  case assign =>
    intro l x W K hK
    gi_wp2
    exact hK
  case body =>
    rintro l pre x W _ hlt
    exact absurd hlt (by omega)
  case done =>
    rintro D ys W hD rfl ⟨⟨v, hv, hrow, _⟩, hB⟩ hK
    have hc := hv.cell
    obtain ⟨sv, cv, rfl, hsv, _, _⟩ := own_form hrow
    have hS := Same_any sv none 0 0 cv 0 [] [] W hsv (src.nil _ _) rfl rfl (by omega) (by omega)
    rw [sameB_of rfl] at hS
    have HS := Lib.hid hS
    have HK := Lib.hid hK
    have HBW := Lib.hid hB
    clear hS hK hB hrow hsv hBA bO
    simp only [List.length_nil] at hc
    gi_wp2_with (refine ⟨trivial, ?_⟩; gi_at_call 35; refine (callsIn_wide.2 HS.out).mono ?_; rintro e w' ⟨rfl, m, rfl⟩)
    have hK2 : (W.drewN m).heap[D]? = some (.deferred (some [])) := HK.out
    refine ⟨by simp, .inl ⟨_, _, rfl, run_takeDeferred hK2, ?_⟩⟩
    have h3 : Below w.heap.size w (W.drewN m) := HBW.out.trans ⟨rfl, rfl, rfl, Nat.le_refl _, fun _ _ => rfl⟩
    exact ⟨_, results_tmp rfl _ _ _, rfl, h3.trans (belowK_b (w := w) (Nat.le_refl _) (W.drewN m) D _ _ (by simp at hD; omega) hK2 rfl rfl)⟩
  case stop =>
    rintro D c pre W _ h _ _
    exact h.elim

/- the two pointers of the law and what they point to -/
structure NS (w : World) (W : World) : Prop where
  z : has W w.heap.size 51 [.int .i64 0, .slice none 0 0]
  p : has W (w.heap.size + 1) 24 [.pointer none, .pointer (some ⟨w.heap.size, 0, none⟩)]
  f : Below w.heap.size w W
theorem NS.below (h : NS w W) (hb : Below W.heap.size W W') : NS w W' := ⟨h.z.below hb h.z.lt, h.p.below hb h.p.lt, h.f.trans (hb.mono h.f.size)⟩
theorem NS.no (h : NS w W) : isNo none W ∧ isNo (some ⟨w.heap.size, 0, none⟩) W := ⟨.inl rfl, .inr ⟨_, rfl, by rw [h.z.cell]; rfl⟩⟩
theorem known_in (hf : Below w.heap.size w W) (ht : tabAt w) : Calls Tryd.prog 8 #[] W fun e w' => e = .returned (.bool true) ∧ Below w.heap.size w w' :=
  (known_any W (ht.below hf ht.pos)).mono fun e w' ⟨he, hb⟩ => ⟨he, hf.trans (hb.mono hf.size)⟩
set_option maxRecDepth 100000 in
set_option maxHeartbeats 4000000 in
theorem nil_law (id : Int) (w : World) (hb : -9223372036854775808 ≤ id ∧ id ≤ 9223372036854775807) (ht : tabAt w) : Calls Tryd.prog 6 #[.int .i64 id] w fun e w' => e = .returned (.bool true) ∧ Below w.heap.size w w' := by
  have hst : NS w ((w.alloc (.cells #[.int .i64 0, .slice none 0 0] 51)).alloc (.cells #[.pointer none, .pointer (some ⟨w.heap.size, 0, none⟩)] 24)) := by
    have e : (w.alloc (.cells #[.int .i64 0, .slice none 0 0] 51)).heap.size = w.heap.size + 1 := by simp
    refine ⟨(has.new w _ [.int .i64 0, .slice none 0 0]).alloc _, ?_, ((Below.refl _ _).alloc (Nat.le_refl _) _).alloc (by rw [e]; omega) _⟩
    have := has.new (w.alloc (.cells #[.int .i64 0, .slice none 0 0] 51)) 24 [.pointer none, .pointer (some ⟨w.heap.size, 0, none⟩)]
    rw [e] at this
    exact this
  have HST := Lib.hid hst
  have HT := Lib.hid ht
  clear hst ht
  go_enter Tryd.func6, Tryd.ntmps6
  go_wp2
  go_loopw [11] (fun i wr => (i = .int .i64 0 ∨ i = .int .i64 1 ∨ i = .int .i64 2) ∧ NS w wr) (fun i _ => 2 - (intOf i).toNat)
  case atStart => exact ⟨.inl rfl, HST.out⟩
  case round =>
    obtain ⟨hi, hr⟩ := hrel
    have HR := Lib.hid hr
    have c0 : wr.cell? ⟨w.heap.size + 1, 0, none⟩ = some (.pointer none) := by rw [hr.p.cell]; rfl
    have c1 : wr.cell? ⟨w.heap.size + 1, 1, none⟩ = some (.pointer (some ⟨w.heap.size, 0, none⟩)) := by rw [hr.p.cell]; rfl
    clear hr HST
    rcases hi with rfl | rfl | rfl
    · go_wp2_with fail
      refine (takes_no none _ HR.out.no.1).mono ?_
      rintro e w' ⟨rfl, rfl⟩
      go_wp2_with fail
      refine (Claim_no none id _ HR.out.no.1).mono ?_
      rintro e w' ⟨rfl, rfl⟩
      go_wp2_with fail
      refine (Free_no none id _ HR.out.no.1).mono ?_
      rintro e w' ⟨rfl, rfl⟩
      go_wp2_with fail
      refine (Has_no none id _ HR.out.no.1).mono ?_
      rintro e w' ⟨rfl, rfl⟩
      go_wp2_with fail
      refine (Len_no none _ HR.out.no.1).mono ?_
      rintro e w' ⟨rfl, rfl⟩
      go_wp2_with fail
      refine (Room_no none _ HR.out.no.1).mono ?_
      rintro e w' ⟨rfl, rfl⟩
      go_wp2_with fail
      refine (all_no none _ HR.out.no.1).mono ?_
      rintro e w2 ⟨rfl, hb⟩
      have R1 := Lib.hid (HR.out.below hb)
      clear hb HR c0 c1
      go_wp2_with fail
      refine (Copy_none none _ R1.out.no.1).mono ?_
      rintro e w' ⟨rfl, rfl⟩
      go_wp2
      go_roundw
      case rel => exact ⟨.inr (.inl rfl), R1.out⟩
      case measure => simp [intOf]
    · go_wp2_with fail
      refine (takes_no (some ⟨w.heap.size, 0, none⟩) _ HR.out.no.2).mono ?_
      rintro e w' ⟨rfl, rfl⟩
      go_wp2_with fail
      refine (Claim_no (some ⟨w.heap.size, 0, none⟩) id _ HR.out.no.2).mono ?_
      rintro e w' ⟨rfl, rfl⟩
      go_wp2_with fail
      refine (Free_no (some ⟨w.heap.size, 0, none⟩) id _ HR.out.no.2).mono ?_
      rintro e w' ⟨rfl, rfl⟩
      go_wp2_with fail
      refine (Has_no (some ⟨w.heap.size, 0, none⟩) id _ HR.out.no.2).mono ?_
      rintro e w' ⟨rfl, rfl⟩
      go_wp2_with fail
      refine (Len_no (some ⟨w.heap.size, 0, none⟩) _ HR.out.no.2).mono ?_
      rintro e w' ⟨rfl, rfl⟩
      go_wp2_with fail
      refine (Room_no (some ⟨w.heap.size, 0, none⟩) _ HR.out.no.2).mono ?_
      rintro e w' ⟨rfl, rfl⟩
      go_wp2_with fail
      refine (all_no (some ⟨w.heap.size, 0, none⟩) _ HR.out.no.2).mono ?_
      rintro e w2 ⟨rfl, hb⟩
      have R1 := Lib.hid (HR.out.below hb)
      clear hb HR c0 c1
      go_wp2_with fail
      refine (Copy_none (some ⟨w.heap.size, 0, none⟩) _ R1.out.no.2).mono ?_
      rintro e w' ⟨rfl, rfl⟩
      go_wp2
      go_roundw
      case rel => exact ⟨.inr (.inr rfl), R1.out⟩
      case measure => simp [intOf]
    · have HB := Lib.hid HR.out.f
      clear HR c0 c1
      go_wp2_with (go_at_call 8; refine (known_in HB.out HT.out).mono ?_; rintro e w7 ⟨rfl, hs⟩; have S6 := Lib.hid hs; clear hs)
      go_ret
      exact ⟨rfl, S6.out⟩
end Go.Proofs.YtefncefmolphfaaDoor.idFn
