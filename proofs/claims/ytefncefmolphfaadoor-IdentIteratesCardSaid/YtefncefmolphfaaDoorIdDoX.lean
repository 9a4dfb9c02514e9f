/- The law's helper do once more, with whatever else the caller holds (X) carried along. -/
import Derived.Test.YtefncefmolphfaaDoorIdRef2
namespace Go.Proofs.YtefncefmolphfaaDoor.idFnX
open Go.ChangeShapes Go.WideShapes Go.ChangeAt Go.RowKit drMem idBits idFn
set_option linter.unusedVariables false

/- ids of the call's own, the reference's beside them; and the act -/
structure XK (X : World → Prop) : Prop where
  b : ∀ W W', X W → Below W.heap.size W W' → X W'
  g : ∀ W W' b g fl, X W → isI W b g fl → W.grownBy W' (some g) → X W'
structure PI (w : World) (X : World → Prop) (b g : Nat) (fl : List Bool) (q c : Nat) (flr : List Bool) (W : World) : Prop where
  s : SI w b g fl W
  r : Rf W q c flr
  x : X W
  k : XK X
structure PA (w : World) (X : World → Prop) (b g : Nat) (fl : List Bool) (q c : Nat) (flr : List Bool) (t : Nat) (r : ActR) (W : World) : Prop where
  p : PI w X b g fl q c flr W
  a : has W t 33 [.int .i64 r.what, .int .i64 r.id]
section
variable {w W W' : World} {X : World → Prop} {b g q c t n : Nat} {fl fl' flr : List Bool} {r : ActR}
theorem PI.below (h : PI w X b g fl q c flr W) (hb : Below W.heap.size W W') : PI w X b g fl q c flr W' := ⟨h.s.below hb, h.r.belowW hb, h.k.b _ _ h.x hb, h.k⟩
theorem PI.drewN (h : PI w X b g fl q c flr W) (k : Nat) : PI w X b g fl q c flr (W.drewN k) := h.below ⟨rfl, rfl, rfl, Nat.le_refl _, fun _ _ => rfl⟩
theorem PI.step (h : PI w X b g fl q c flr W) (hi : isI W' b g fl') (hg : W.grownBy W' (some g)) : PI w X b g fl' q c flr W' := by
  obtain ⟨_, hr⟩ := h.s.i.r
  exact ⟨h.s.step hi hg, h.r.grown hr (by decide) hg, h.k.g _ _ _ _ _ h.x h.s.i hg, h.k⟩
theorem PA.below (h : PA w X b g fl q c flr t r W) (hb : Below W.heap.size W W') : PA w X b g fl q c flr t r W' := ⟨h.p.below hb, h.a.below hb h.a.lt⟩
theorem PA.drewN (h : PA w X b g fl q c flr t r W) (k : Nat) : PA w X b g fl q c flr t r (W.drewN k) := ⟨h.p.drewN k, h.a.drewN k⟩
theorem PA.step (h : PA w X b g fl q c flr t r W) (hi : isI W' b g fl') (hg : W.grownBy W' (some g)) : PA w X b g fl' q c flr t r W' := by
  obtain ⟨_, hr⟩ := h.p.s.i.r
  exact ⟨h.p.step hi hg, h.a.grown hg (by simp; exact h.a.ne hr (by decide))⟩
theorem PA.f0 (h : PA w X b g fl q c flr t r W) : W.cell? ⟨t, 0, none⟩ = some (.int .i64 r.what) := by rw [h.a.cell]; rfl
theorem PA.f1 (h : PA w X b g fl q c flr t r W) : W.cell? ⟨t, 1, none⟩ = some (.int .i64 r.id) := by rw [h.a.cell]; rfl
theorem pa0 (h : PI w X b g fl q c flr W) : PA w X b g fl q c flr W.heap.size r (W.alloc (.cells #[.int .i64 r.what, .int .i64 r.id] 33)) :=
  ⟨h.below ((Below.refl _ _).alloc (Nat.le_refl _) _), has.new W _ [.int .i64 r.what, .int .i64 r.id]⟩
def prPost (w : World) (X : World → Prop) (b g : Nat) (fl : List Bool) (n : Nat) (flr : List Bool) (t : Nat) (r : ActR) (rest : List Value) (e : Ending) (w' : World) : Prop :=
  ∃ q c, e = .returned (.tuple (#[.slice (some ⟨q, 0, none⟩) n c] ++ rest.toArray)) ∧ PA w X b g fl q c flr t r w'
theorem pr_of {rest : List Value} {flr' : List Bool} (h : PA w X b g fl q c flr t r W) {e : Ending} {w' : World} (hr : roPost n flr' rest W e w') : prPost w X b g fl n flr' t r rest e w' := by
  obtain ⟨q', c', he, hrf, hb⟩ := hr
  exact ⟨q', c', he, ⟨(h.p.below hb).s, hrf, (h.p.below hb).x, h.p.k⟩, h.a.below hb h.a.lt⟩
theorem ptk1 (h : PA w X b g fl q c flr t r W) (hn : flr.length = n) {v y : Int} {flr' : List Bool} (h1 : tkV flr = v) (h2 : tkE flr = y) (h3 : tkF flr = flr') :
    Calls Tryd.prog 24 #[.slice (some ⟨q, 0, none⟩) n c] W (prPost w X b g fl n flr' t r [.int .i64 v, .int .i64 y]) := by
  have cc := rTake_any q c n flr W h.p.r hn
  rw [h1, h2, h3] at cc
  exact cc.mono fun e w' hr => pr_of h hr
theorem ptk2 (h : PA w X b g fl q c flr t r W) {v y : Int} (h1 : tkV fl = v) (h2 : tkE fl = y) (h3 : tkF fl = fl') :
    Calls Tryd.prog 13 #[.pointer (some ⟨b, 0, none⟩), .int .i64 v, .int .i64 y] W fun e w' => e = .returned (.bool true) ∧ PA w X b g fl' q c flr t r w' := by
  have cc := takes_any h.p.s.i v y
  rw [h1, h2, h3] at cc
  simp only [beq_self_eq_true, Bool.and_self] at cc
  exact cc.mono fun e w' ⟨he, hi, hg⟩ => ⟨he, h.step hi hg⟩
theorem pcl1 (h : PA w X b g fl q c flr t r W) (hn : flr.length = n) {y : Int} {flr' : List Bool} (h2 : clE flr r.id = y) (h3 : clF flr r.id = flr') :
    Calls Tryd.prog 25 #[.slice (some ⟨q, 0, none⟩) n c, .int .i64 r.id] W (prPost w X b g fl n flr' t r [.int .i64 y]) := by
  have cc := rClaim_any q c n flr r.id W h.p.r hn
  rw [h2, h3] at cc
  exact cc.mono fun e w' hr => pr_of h hr
theorem pcl2 (h : PA w X b g fl q c flr t r W) {y : Int} (h2 : clE fl r.id = y) (h3 : clF fl r.id = fl') :
    Calls Tryd.prog 19 #[.pointer (some ⟨b, 0, none⟩), .int .i64 r.id] W fun e w' => e = .returned (.int .i64 y) ∧ PA w X b g fl' q c flr t r w' := by
  have cc := Claim_any h.p.s.i r.id
  rw [h2, h3] at cc
  exact cc.mono fun e w' ⟨he, hi, hg⟩ => ⟨he, h.step hi hg⟩
theorem pfr1 (h : PA w X b g fl q c flr t r W) (hn : flr.length = n) {y : Int} {flr' : List Bool} (h2 : frE flr r.id = y) (h3 : frF flr r.id = flr') :
    Calls Tryd.prog 26 #[.slice (some ⟨q, 0, none⟩) n c, .int .i64 r.id] W (prPost w X b g fl n flr' t r [.int .i64 y]) := by
  have cc := rRelease_any q c n flr r.id W h.p.r hn
  rw [h2, h3] at cc
  exact cc.mono fun e w' hr => pr_of h hr
theorem pfr2 (h : PA w X b g fl q c flr t r W) {y id : Int} (h2 : frE fl id = y) (h3 : frF fl id = fl') :
    Calls Tryd.prog 16 #[.pointer (some ⟨b, 0, none⟩), .int .i64 id] W fun e w' => e = .returned (.int .i64 y) ∧ PA w X b g fl' q c flr t r w' := by
  have cc := Free_any h.p.s.i id
  rw [h2, h3] at cc
  exact cc.mono fun e w' ⟨he, hi, hg⟩ => ⟨he, h.step hi hg⟩
theorem phs1 (k : Nat) (h : PA w X b g fl q c flr t r W) {x : Bool} (hx : hasB fl r.id = x) : Calls Tryd.prog 20 #[.pointer (some ⟨b, 0, none⟩), .int .i64 r.id] (W.drewN k) fun e w' => e = .returned (.bool x) ∧ ∃ m, w' = (W.drewN k).drewN m := by
  have cc := Has_any (h.drewN k).p.s.i r.id
  rw [hx] at cc
  exact cc
theorem phs2 (k : Nat) (h : PA w X b g fl q c flr t r W) (hn : flr.length = n) {x : Bool} (hx : hasB flr r.id = x) : Calls Tryd.prog 27 #[.slice (some ⟨q, 0, none⟩) n c, .int .i64 r.id] (W.drewN k) fun e w' => e = .returned (.bool x) ∧ w' = W.drewN k := by
  have cc := rHas_any q c n flr r.id (W.drewN k) (h.drewN k).p.r hn
  rw [hx] at cc
  exact cc.mono fun e w' ⟨he, hw⟩ => ⟨he, hw.symm⟩
/- a copy takes the ids' place -/
structure PC (w : World) (X : World → Prop) (b g : Nat) (flo fl : List Bool) (b2 g2 q c : Nat) (flr : List Bool) (W : World) : Prop where
  o : isI W b g flo
  p : PI w X b2 g2 fl q c flr W
  g0 : w.heap.size ≤ g
  nb : b2 ≠ g
  ng : g2 ≠ g
theorem PC.step {flo flo' : List Bool} {b2 g2 : Nat} (h : PC w X b g flo fl b2 g2 q c flr W) (hi : isI W' b g flo') (hg : W.grownBy W' (some g)) : PC w X b g flo' fl b2 g2 q c flr W' := by
  have hp := h.o.g0
  obtain ⟨_, hr⟩ := h.o.r
  exact ⟨hi, ⟨⟨h.p.s.i.grown hg h.nb h.ng (by omega), below_grown h.p.s.f hg h.p.s.f.size h.g0, h.p.s.hb, h.p.s.hg⟩, h.p.r.grown hr (by decide) hg, h.p.k.g _ _ _ _ _ h.p.x h.o hg, h.p.k⟩, h.g0, h.nb, h.ng⟩
def pcPost (w : World) (X : World → Prop) (b g : Nat) (fl : List Bool) (q c : Nat) (flr : List Bool) (e : Ending) (w' : World) : Prop :=
  ∃ b2 g2, e = .returned (.pointer (some ⟨b2, 0, none⟩)) ∧ PC w X b g fl fl b2 g2 q c flr w'
theorem pcp (h : PA w X b g fl q c flr t r W) : Calls Tryd.prog 22 #[.pointer (some ⟨b, 0, none⟩)] W (pcPost w X b g fl q c flr) := by
  refine (Copy_any h.p.s.i).mono ?_
  rintro e w' ⟨b2, g2, rfl, hi, hb2, hg2, hb⟩
  have k1 := h.p.s.i.blt
  have k2 := h.p.s.i.glt
  have k3 := h.p.s.f.size
  exact ⟨b2, g2, rfl, h.p.s.i.belowW hb, ⟨⟨hi, h.p.s.f.trans (hb.mono k3), by omega, by omega⟩, h.p.r.belowW hb, h.p.k.b _ _ h.p.x hb, h.p.k⟩, h.p.s.hg, by omega, by omega⟩
def pctPost (w : World) (X : World → Prop) (b g : Nat) (flo fl : List Bool) (b2 g2 q c : Nat) (flr : List Bool) (e : Ending) (w' : World) : Prop :=
  (∃ v y : Int, e = .returned (.tuple #[.int .i64 v, .int .i64 y])) ∧ PC w X b g flo fl b2 g2 q c flr w'
theorem pct {flo : List Bool} {b2 g2 : Nat} (h : PC w X b g flo fl b2 g2 q c flr W) : Calls Tryd.prog 23 #[.pointer (some ⟨b, 0, none⟩)] W (pctPost w X b g (tkF flo) fl b2 g2 q c flr) :=
  (Take_any h.o).mono fun e w' ⟨he, hi, hg⟩ => ⟨⟨_, _, he⟩, h.step hi hg⟩
theorem pcf {flo : List Bool} {b2 g2 : Nat} (h : PC w X b g flo fl b2 g2 q c flr W) (id : Int) : Calls Tryd.prog 16 #[.pointer (some ⟨b, 0, none⟩), .int .i64 id] W fun e w' => e = .returned (.int .i64 (frE flo id)) ∧ PC w X b g (frF flo id) fl b2 g2 q c flr w' :=
  (Free_any h.o id).mono fun e w' ⟨he, hi, hg⟩ => ⟨he, h.step hi hg⟩
end
def doPost (w : World) (X : World → Prop) (n : Nat) (e : Ending) (w' : World) : Prop :=
  ∃ b g fl q c, e = .returned (.tuple #[.pointer (some ⟨b, 0, none⟩), .slice (some ⟨q, 0, none⟩) n c, .bool true]) ∧ PI w X b g fl q c fl w' ∧ fl.length = n
set_option maxRecDepth 100000 in
set_option maxHeartbeats 4000000 in
theorem do_any (w : World) (X : World → Prop) (b g : Nat) (fl : List Bool) (q c n : Nat) (r : ActR) (W : World) (h : PI w X b g fl q c fl W) (hn : fl.length = n) :
    Calls Tryd.prog 11 #[.pointer (some ⟨b, 0, none⟩), .slice (some ⟨q, 0, none⟩) n c, .agg #[.int .i64 r.what, .int .i64 r.id]] W (doPost w X n) := by
  have S0 := Lib.hid (pa0 (r := r) h)
  have HN := Lib.hid hn
  clear h hn
  go_enter Tryd.func11, Tryd.ntmps11
  by_cases q0 : r.what = 0
  · have t0 : (r.what == 0) = true := by simpa using q0
    clear q0
    obtain ⟨v, hv⟩ : ∃ v, tkV fl = v := ⟨_, rfl⟩
    obtain ⟨y, hy⟩ : ∃ y, tkE fl = y := ⟨_, rfl⟩
    obtain ⟨fl', hf⟩ : ∃ fl', tkF fl = fl' := ⟨_, rfl⟩
    have HL : Hid (fl'.length = n) := Lib.hid (by rw [← hf, tkF_len, HN.out])
    have V := Lib.hid hv
    have Y := Lib.hid hy
    have F := Lib.hid hf
    clear hv hy hf
    go_wp2_with fail
    refine (ptk1 S0.out HN.out V.out Y.out F.out).mono ?_
    rintro e w1 ⟨q1, c1, rfl, hs⟩
    have S1 := Lib.hid hs
    clear hs S0
    go_wp2_with fail
    refine (ptk2 S1.out V.out Y.out F.out).mono ?_
    rintro e w2 ⟨rfl, hs⟩
    have S2 := Lib.hid hs.p
    clear hs S1
    go_wp2
    go_ret3
    exact ⟨b, g, fl', q1, c1, rfl, S2.out, HL.out⟩
  · have t0 : (r.what == 0) = false := by simpa using q0
    by_cases q1 : r.what = 1
    · have t1 : (r.what == 1) = true := by simpa using q1
      clear q0 q1
      obtain ⟨y, hy⟩ : ∃ y, clE fl r.id = y := ⟨_, rfl⟩
      obtain ⟨fl', hf⟩ : ∃ fl', clF fl r.id = fl' := ⟨_, rfl⟩
      have HL : Hid (fl'.length = n) := Lib.hid (by rw [← hf, clF_len, HN.out])
      have Y := Lib.hid hy
      have F := Lib.hid hf
      clear hy hf
      go_wp2_with fail
      refine (pcl1 S0.out HN.out Y.out F.out).mono ?_
      rintro e w1 ⟨q1, c1, rfl, hs⟩
      have f1 := hs.f1
      have S1 := Lib.hid hs
      clear hs S0
      go_wp2_with fail
      refine (pcl2 S1.out Y.out F.out).mono ?_
      rintro e w2 ⟨rfl, hs⟩
      have S2 := Lib.hid hs.p
      clear hs S1 f1
      go_wp2
      go_ret3
      exact ⟨b, g, fl', q1, c1, rfl, S2.out, HL.out⟩
    · have t1 : (r.what == 1) = false := by simpa using q1
      by_cases q2 : r.what = 2
      · have t2 : (r.what == 2) = true := by simpa using q2
        clear q0 q1 q2
        obtain ⟨y, hy⟩ : ∃ y, frE fl r.id = y := ⟨_, rfl⟩
        obtain ⟨fl', hf⟩ : ∃ fl', frF fl r.id = fl' := ⟨_, rfl⟩
        have HL : Hid (fl'.length = n) := Lib.hid (by rw [← hf, frF_len, HN.out])
        have Y := Lib.hid hy
        have F := Lib.hid hf
        clear hy hf
        go_wp2_with fail
        refine (pfr1 S0.out HN.out Y.out F.out).mono ?_
        rintro e w1 ⟨q1, c1, rfl, hs⟩
        have f1 := hs.f1
        have S1 := Lib.hid hs
        clear hs S0
        go_wp2_with fail
        refine (pfr2 S1.out Y.out F.out).mono ?_
        rintro e w2 ⟨rfl, hs⟩
        have S2 := Lib.hid hs.p
        clear hs S1 f1
        go_wp2
        go_ret3
        exact ⟨b, g, fl', q1, c1, rfl, S2.out, HL.out⟩
      · have t2 : (r.what == 2) = false := by simpa using q2
        by_cases q3 : r.what = 3
        · have t3 : (r.what == 3) = true := by simpa using q3
          clear q0 q1 q2 q3
          obtain ⟨x, hx⟩ : ∃ x, hasB fl r.id = x := ⟨_, rfl⟩
          have X := Lib.hid hx
          clear hx
          go_wp2
          go_quiet ((first | (go_at_call 20; exact Calls.quiet_of (phs1 _ S0.out X.out)) | (go_at_call 27; exact Calls.quiet_of_same (phs2 _ S0.out HN.out X.out))))
          go_wp2
          go_ret3
          exact ⟨b, g, fl, q, c, rfl, (S0.out.drewN _).p, HN.out⟩
        · have t3 : (r.what == 3) = false := by simpa using q3
          clear q0 q1 q2 q3
          go_wp2_with fail
          refine (pcp S0.out).mono ?_
          rintro e w1 ⟨b2, g2, rfl, hs⟩
          have S1 := Lib.hid hs
          clear hs S0
          go_wp2_with fail
          refine (pct S1.out).mono ?_
          rintro e w2 ⟨⟨v, y, rfl⟩, hs⟩
          have S2 := Lib.hid hs
          clear hs S1
          go_wp2_with fail
          refine (pcf S2.out 1).mono ?_
          rintro e w3 ⟨rfl, hs⟩
          have S3 := Lib.hid hs.p
          clear hs S2
          go_wp2
          go_ret3
          exact ⟨b2, g2, fl, q, c, rfl, S3.out, HN.out⟩
end Go.Proofs.YtefncefmolphfaaDoor.idFnX
