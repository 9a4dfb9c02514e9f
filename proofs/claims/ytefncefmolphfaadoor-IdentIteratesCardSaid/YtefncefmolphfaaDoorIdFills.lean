/- The walk of the law that takes all ids, frees some and takes them again. -/
import Derived.Test.YtefncefmolphfaaDoorIdOpen
import Derived.Deep.LoopGhost
import Derived.Deep.Light
namespace Go.Proofs.YtefncefmolphfaaDoor.idFn
open Go.ChangeShapes Go.WideShapes Go.ChangeAt Go.RowKit drMem idBits
set_option linter.unusedVariables false

def gone (f : Int → Bool) (j : Nat) : Bool := !f ((j : Int) + 1)
/- ids of the call's own, and the map beside them -/
structure FS (w : World) (b g : Nat) (fl : List Bool) (B n : Nat) (f : Int → Bool) (N : Nat) (W : World) : Prop where
  s : SI w b g fl W
  m : ∃ D k, k ≤ n ∧ W.ownsMap Tryd.prog 3 (plainElem Tryd.prog 4) B k D ∧ BM D f N
  B0 : w.heap.size ≤ B
section
variable {w W W' : World} {b g B n N : Nat} {fl fl' : List Bool} {f : Int → Bool}
theorem owns_ne {k : Nat} {D : DataW Unit} {t : TypeId} {cs : List Value} {q : Nat} (h : W.ownsMap Tryd.prog 3 (plainElem Tryd.prog 4) B k D) (h2 : has W q t cs) : B ≠ q := by
  rintro rfl
  obtain ⟨es, clock, hb, _⟩ := h
  unfold has at h2
  rw [hb] at h2
  cases h2
theorem FS.neB (h : FS w b g fl B n f N W) : B ≠ b ∧ B ≠ g := by
  obtain ⟨D, k, _, ho, _⟩ := h.m
  obtain ⟨_, hd⟩ := h.s.i.d
  obtain ⟨_, hr⟩ := h.s.i.r
  exact ⟨owns_ne ho hd, owns_ne ho hr⟩
theorem FS.step (h : FS w b g fl B n f N W) (hi : isI W' b g fl') (hg : W.grownBy W' (some g)) : FS w b g fl' B n f N W' := by
  have hne := h.neB.2
  obtain ⟨D, k, hk, ho, hb⟩ := h.m
  exact ⟨h.s.step hi hg, ⟨D, k, hk, ho.kept hg (by simpa using hne), hb⟩, h.B0⟩
theorem FS.below (h : FS w b g fl B n f N W) (hb : Below W.heap.size W W') : FS w b g fl B n f N W' := by
  obtain ⟨D, k, hk, ho, hm⟩ := h.m
  have hlt := ho.lt
  exact ⟨h.s.below hb, ⟨D, k, hk, ho.kept (grown_of_below hb none) (by simp), hm⟩, h.B0⟩
theorem FS.drewN (h : FS w b g fl B n f N W) (q : Nat) : FS w b g fl B n f N (W.drewN q) := h.below ⟨rfl, rfl, rfl, Nat.le_refl _, fun _ _ => rfl⟩
theorem fs0 (h : SI w b g fl W) : FS w b g fl W.heap.size 0 (fun _ => false) 0 (W.alloc (.map #[] 0)) :=
  ⟨h.below ((Below.refl _ _).alloc (Nat.le_refl _) _), ⟨.map [], 0, Nat.le_refl _, World.ownsMap_made _ _ _ _, BM.none⟩, h.f.size⟩
theorem FS.put (h : FS w b g fl B n f N W) {k : Nat} {D' : DataW Unit} {f' : Int → Bool} {N' : Nat} (hk : k + 1 ≤ n + 1) (ho : W'.ownsMap Tryd.prog 3 (plainElem Tryd.prog 4) B (k + 1) D') (hg : W.grownBy W' (some B)) (hb : BM D' f' N') : FS w b g fl B (n + 1) f' N' W' := by
  have hne := h.neB
  have hp := h.s.i.t.pos
  have h0 : B ≠ 0 := by rintro rfl; have := h.s.i.b0; have := h.B0; have := h.s.hb; have := h.s.f.size; have hx := h.m; obtain ⟨D, k, _, ho, _⟩ := hx; have := h.s.i.t 0 (by decide); obtain ⟨es, clock, hb, _⟩ := ho; simp [World.cell?, hb] at this
  exact ⟨⟨h.s.i.grown hg (Ne.symm hne.1) (Ne.symm hne.2) h0, below_grown h.s.f hg h.s.f.size h.B0, h.s.hb, h.s.hg⟩, ⟨D', k + 1, hk, ho, hb⟩, h.B0⟩
theorem ftk (h : FS w b g fl B n f N W) {v y : Int} (h1 : tkV fl = v) (h2 : tkE fl = y) (h3 : tkF fl = fl') : Calls Tryd.prog 13 #[.pointer (some ⟨b, 0, none⟩), .int .i64 v, .int .i64 y] W fun e w' => e = .returned (.bool true) ∧ FS w b g fl' B n f N w' := by
  have c := takes_any h.s.i v y
  rw [h1, h2, h3] at c
  simp only [beq_self_eq_true, Bool.and_self] at c
  exact c.mono fun e w' ⟨he, hi, hg⟩ => ⟨he, h.step hi hg⟩
theorem ffr (h : FS w b g fl B n f N W) {id y : Int} (h2 : frE fl id = y) (h3 : frF fl id = fl') : Calls Tryd.prog 16 #[.pointer (some ⟨b, 0, none⟩), .int .i64 id] W fun e w' => e = .returned (.int .i64 y) ∧ FS w b g fl' B n f N w' := by
  have c := Free_any h.s.i id
  rw [h2, h3] at c
  exact c.mono fun e w' ⟨he, hi, hg⟩ => ⟨he, h.step hi hg⟩
theorem fcl (h : FS w b g fl B n f N W) {id y : Int} (h2 : clE fl id = y) (h3 : clF fl id = fl') : Calls Tryd.prog 19 #[.pointer (some ⟨b, 0, none⟩), .int .i64 id] W fun e w' => e = .returned (.int .i64 y) ∧ FS w b g fl' B n f N w' := by
  have c := Claim_any h.s.i id
  rw [h2, h3] at c
  exact c.mono fun e w' ⟨he, hi, hg⟩ => ⟨he, h.step hi hg⟩
theorem froom (h : FS w b g fl B n f N W) {m : Int} (h2 : (fl.length : Int) - ((fl.count true : Nat) : Int) = m) : Calls Tryd.prog 15 #[.pointer (some ⟨b, 0, none⟩)] W fun e w' => e = .returned (.int .i64 m) ∧ FS w b g fl B n f N w' := by
  have c := Room_any h.s.i
  rw [h2] at c
  exact c.mono fun e w' ⟨he, n, hw⟩ => ⟨he, hw ▸ h.drewN n⟩
theorem flen (h : FS w b g fl B n f N W) {m : Nat} (h2 : fl.count true = m) : Calls Tryd.prog 14 #[.pointer (some ⟨b, 0, none⟩)] W fun e w' => e = .returned (.int .i64 (m : Int)) ∧ FS w b g fl B n f N w' := by
  have c := Len_any h.s.i
  rw [h2] at c
  exact c.mono fun e w' ⟨he, hw⟩ => ⟨he, hw ▸ h⟩
end
/- freeing, in words of the flags -/
theorem fr_out {m : Nat} {F : Nat → Bool} {z : Int} (h : z < 1 ∨ (m : Int) < z) : frE (flF m F) z = 2 ∧ frF (flF m F) z = flF m F := by
  have e : frE (flF m F) z = 2 := by unfold frE; rw [flF_len, if_pos h]
  exact ⟨e, by unfold frF; rw [e]; rfl⟩
theorem fr_off {m : Nat} {F : Nat → Bool} {k : Nat} {z : Int} (hz : z = (k : Int) + 1) (hk : k < m) (h : F k = false) : frE (flF m F) z = 9 ∧ frF (flF m F) z = flF m F := by
  subst hz
  have e1 : ((k : Int) + 1).toNat - 1 = k := by omega
  have e : frE (flF m F) ((k : Int) + 1) = 9 := by unfold frE; rw [flF_len, if_neg (by omega), e1, flF_getD, h, if_neg (by simp)]
  exact ⟨e, by unfold frF; rw [e]; rfl⟩
theorem fr_on {m : Nat} {F : Nat → Bool} {k : Nat} {z : Int} (hz : z = (k : Int) + 1) (hk : k < m) (h : F k = true) : frE (flF m F) z = 0 ∧ frF (flF m F) z = flF m (fun j => if j = k then false else F j) := by
  subst hz
  have e1 : ((k : Int) + 1).toNat - 1 = k := by omega
  have e : frE (flF m F) ((k : Int) + 1) = 0 := by unfold frE; rw [flF_len, if_neg (by omega), e1, flF_getD, h, if_pos (by simp; omega)]
  exact ⟨e, by unfold frF; rw [e, e1, flF_set]; rfl⟩
theorem count_free {m : Nat} {F : Nat → Bool} {k N : Nat} (hk : k < m) (h : F k = true) (hc : (flF m F).count true + N = m) : (flF m (fun j => if j = k then false else F j)).count true + (N + 1) = m := by
  have h1 := count_off (flF m F) k (by rw [flF_getD, h]; simp; omega)
  rw [flF_set] at h1
  omega
def putF (f : Int → Bool) (z : Int) (x : Int) : Bool := if x = z then true else f x
theorem gone_put (f : Int → Bool) (k : Nat) {z : Int} (hz : z = (k : Int) + 1) (j : Nat) : gone (putF f z) j = if j = k then false else gone f j := by
  subst hz
  unfold gone putF
  by_cases h : j = k
  · subst h; simp
  · rw [if_neg h, if_neg (by omega)]
def againF (f : Int → Bool) (k j : Nat) : Bool := decide (j < k) || gone f j
theorem again_next {f : Int → Bool} {k : Nat} (h : f ((k : Int) + 1) = true) (m : Nat) : flF m (fun j => if j = k then true else againF f k j) = flF m (againF f (k + 1)) :=
  flF_congr fun j _ => by
    unfold againF
    by_cases h1 : j = k
    · subst h1; simp
    · have e : decide (j < k + 1) = decide (j < k) := by apply decide_eq_decide.2; omega
      rw [if_neg h1, e]
theorem again_skip {f : Int → Bool} {k : Nat} (h : f ((k : Int) + 1) = false) (m : Nat) : flF m (againF f k) = flF m (againF f (k + 1)) :=
  flF_congr fun j _ => by
    unfold againF
    by_cases h1 : j = k
    · subst h1; simp [gone, h]
    · have e : decide (j < k + 1) = decide (j < k) := by apply decide_eq_decide.2; omega
      rw [e]
set_option maxRecDepth 100000 in
set_option maxHeartbeats 8000000 in
theorem fills_main (m : Nat) (h1 : 1 ≤ m) (h2 : m ≤ 4096) (sp : Option Addr) (n c : Nat) (l : List Int) (w : World) (hl : IsAt w sp n l) (h30 : n ≤ 30) (ht : tabAt w) :
    Calls Tryd.prog 4 #[.int .i64 (m : Int), .slice sp n c] w fun e w' => e = .returned (.bool true) ∧ Below w.heap.size w w' := by
  have d1 : decide ((m : Int) < 1) = false := by simp; omega
  have d2 : decide (4096 < (m : Int)) = false := by simp; omega
  have d3 : decide (30 < (n : Int)) = false := by simp; omega
  have HL := Lib.hid hl
  have HT := Lib.hid ht
  clear hl ht
  go_enter Tryd.func4, Tryd.ntmps4
  go_wp2_with fail
  refine (new_c (w := w) m w h1 h2 HT.out (Below.refl _ _)).mono ?_
  rintro e w0 ⟨b, g, rfl, hs⟩
  rw [flF_false] at hs
  have S0 := Lib.hid hs
  clear hs
  go_wp2
  go_loopg [7] m (fun gh i wx => ∃ k : Nat, k ≤ m ∧ gh = m - k ∧ i = .int .i64 ((k : Int) + 1) ∧ Hid (SI w b g (flF m (fun j => decide (j < k))) wx))
  case atStart => exact ⟨0, Nat.zero_le _, rfl, rfl, by simpa using S0⟩
  case round =>
    obtain ⟨k, hk, rfl, rfl, hs⟩ := hrel
    clear S0
    by_cases hlt : k < m
    · have hle : decide ((k : Int) + 1 ≤ (m : Int)) = true := by simp; omega
      obtain ⟨t1, t2, t3⟩ := tk_at (F := fun j => decide (j < k)) hlt (fun j hj => by simpa using hj) (by simp)
      have hc := tk_c hs.out t1 t2 (t3.trans (flF_congr (G := fun j => decide (j < k + 1)) fun j _ => by
        by_cases h : j = k
        · subst h; simp
        · rw [if_neg h]; apply decide_eq_decide.2; omega))
      have HC := Lib.hid hc
      clear hc t1 t2 t3 hs
      go_wp2_with (go_at_call 13; refine HC.out.mono ?_; rintro e w1 ⟨rfl, hs⟩; have S1 := Lib.hid hs; clear hs)
      go_roundg (m - (k + 1))
      case measure => go_light; omega
      case rel => go_light; exact ⟨k + 1, by omega, rfl, by go_num, S1⟩
    · obtain rfl : k = m := by omega
      have hle : decide ((k : Int) + 1 ≤ (k : Int)) = false := by simp; omega
      have hcc : (flF k (fun j => decide (j < k))).count true = k := count_flF (fun j hj => by simpa using hj)
      have hgg : flF k (fun j => decide (j < k)) = flF k (gone fun _ => false) := flF_congr fun j hj => by simp [gone, hj]
      obtain ⟨t1, t2, t3⟩ := tk_full (m := k) (F := fun j => decide (j < k)) (fun j hj => by simpa using hj)
      have T1 := Lib.hid (tk_c hs.out t1 t2 t3)
      have CC := Lib.hid hcc
      have GG := Lib.hid hgg
      have hmm := @run_makeMap Tryd.prog
      clear hs t1 t2 t3 hcc hgg
      go_wp2_with fail
      refine T1.out.mono ?_
      rintro e w1 ⟨rfl, hs⟩
      have S1 := Lib.hid hs
      clear hs T1
      go_wp2_with fail
      refine (len_c S1.out CC.out).mono ?_
      rintro e w2 ⟨rfl, hs⟩
      have S2 := Lib.hid hs
      clear hs S1
      go_wp2_with fail
      refine (room_c (m := 0) S2.out (by rw [CC.out, flF_len]; omega)).mono ?_
      rintro e w3 ⟨rfl, hs⟩
      rw [GG.out] at hs
      have F0 := Lib.hid (fs0 hs)
      have C0 : Hid ((flF k (gone fun _ => false)).count true + 0 = k) := Lib.hid (by rw [← GG.out]; exact CC.out)
      clear hs S2
      obtain ⟨wo, rfl⟩ : ∃ wo : World, wo = w3 := ⟨_, rfl⟩
      go_wp2
      go_loopg [62] n (fun gh i wx => ∃ (j : Nat) (f : Int → Bool) (N : Nat), j ≤ n ∧ gh = n - j ∧ i = .int .i64 (j : Int) ∧ Hid (FS w b g (flF k (gone f)) wo.heap.size j f N wx) ∧ Hid ((flF k (gone f)).count true + N = k))
      case atStart => exact ⟨0, _, 0, Nat.zero_le _, rfl, rfl, F0, C0⟩
      case round =>
        obtain ⟨j, f, N, hj, rfl, rfl, hs, hcn⟩ := hrel
        clear F0 C0
        by_cases hlt3 : j < n
        · obtain ⟨lb, lo, rfl, hlb, hlc⟩ := HL.out.c (by rw [is_len, HL.out.n]; omega)
          have xj : wr.cell? ⟨lb, lo + j, none⟩ = some (.int .i64 (l.getD j 0)) := (hs.out.s.f.cell (p := ⟨lb, lo + j, none⟩) hlb).trans (hlc j _ (is_get _ j (by rw [HL.out.n]; exact hlt3)))
          have hok : i64ok (l.getD j 0) := by
            have hjl : j < l.length := by rw [HL.out.n]; exact hlt3
            rw [List.getD_eq_getElem?_getD, List.getElem?_eq_getElem hjl]; exact HL.out.v _ (List.getElem_mem hjl)
          have hwk : (Lit.int .i64 (l.getD j 0)).wf = true := WalkArith.wf_i64 hok
          have hm2 := HL.out.m
          clear hlc hok
          generalize l.getD j 0 = z at *
          by_cases hz : z < 1 ∨ (k : Int) < z
          · obtain ⟨t1, t2⟩ := fr_out (F := gone f) hz
            have HF := Lib.hid (ffr hs.out t1 t2)
            clear t1 t2 hs hwk
            by_cases hz1 : z < 1
            · clear hz
              go_wp2_with (go_at_call 16; refine HF.out.mono ?_; rintro e w4 ⟨rfl, hs⟩; have S4 := Lib.hid hs; clear hs)
              go_roundg (n - (j + 1))
              case measure => go_light; omega
              case rel => go_light; exact ⟨j + 1, f, N, by omega, rfl, by go_num, Lib.hid ⟨S4.out.s, by obtain ⟨D, q, hq, hh⟩ := S4.out.m; exact ⟨D, q, by omega, hh⟩, S4.out.B0⟩, hcn⟩
            · have d5 : decide ((k : Int) < z) = true := by simp; omega
              have d4 : decide (z < 1) = false := by simpa using hz1
              clear hz hz1
              go_wp2_with (go_at_call 16; refine HF.out.mono ?_; rintro e w4 ⟨rfl, hs⟩; have S4 := Lib.hid hs; clear hs)
              go_roundg (n - (j + 1))
              case measure => go_light; omega
              case rel => go_light; exact ⟨j + 1, f, N, by omega, rfl, by go_num, Lib.hid ⟨S4.out.s, by obtain ⟨D, q, hq, hh⟩ := S4.out.m; exact ⟨D, q, by omega, hh⟩, S4.out.B0⟩, hcn⟩
          · obtain ⟨k', hz'⟩ : ∃ k' : Nat, z = (k' : Int) + 1 := ⟨z.toNat - 1, by omega⟩
            have hk' : k' < k := by omega
            have HZ := Lib.hid hz'
            have d4 : decide (z < 1) = false := by simp; omega
            have d5 : decide ((k : Int) < z) = false := by simp; omega
            have hkey : keyOf Tryd.prog 3 (.int .i64 z) = some (.int .i64 z) := Maps.keyOf_int_mk Tryd.underlying3 hwk
            have hgz : ∀ f : Int → Bool, gone f k' = !f z := fun f => by rw [hz']; rfl
            clear hz'
            obtain ⟨D, q, hq, hmo, hbm⟩ := hs.out.m
            have hat := hbm.a z
            have HS2 := hs
            cases hf : f z with
            | true =>
              rw [hf] at hat
              obtain ⟨t1, t2⟩ := fr_off (F := gone f) HZ.out hk' (by rw [hgz, hf]; rfl)
              have HF := Lib.hid (ffr hs.out t1 t2)
              have HAT := Lib.hid hat
              clear t1 t2 hbm hz hwk hf hat hs hgz
              go_wp2_with (first | (at_lookup; refine wpList_lookup_own_bool _ rfl _ _ 41 rfl 3 4 keyI Tryd.underlying41 Tryd.underlying4 (zeroB _) _ q _ rfl hmo _ _ rfl hkey _ HAT.out ?_) | (go_at_call 16; refine HF.out.mono ?_; rintro e w4 ⟨rfl, hs⟩; have S4 := Lib.hid hs; clear hs))
              go_roundg (n - (j + 1))
              case measure => go_light; omega
              case rel => go_light; exact ⟨j + 1, f, N, by omega, rfl, by go_num, Lib.hid ⟨S4.out.s, by obtain ⟨D, q, hq, hh⟩ := S4.out.m; exact ⟨D, q, by omega, hh⟩, S4.out.B0⟩, hcn⟩
            | false =>
              rw [hf] at hat
              obtain ⟨t1, t2⟩ := fr_on (F := gone f) HZ.out hk' (by rw [hgz, hf]; rfl)
              have HF := Lib.hid (ffr hs.out t1 t2)
              have HAT := Lib.hid hat
              have hcc := count_free hk' (show gone f k' = true by rw [hgz, hf]; rfl) hcn.out
              have hge : flF k (fun j => if j = k' then false else gone f j) = flF k (gone (putF f z)) := flF_congr fun j _ => (gone_put f k' HZ.out j).symm
              rw [hge] at hcc
              have HCC := Lib.hid hcc
              have HGE := Lib.hid hge
              have HF0 := Lib.hid hf
              clear t1 t2 hbm hz hwk hf hat hs hcc hge hgz
              go_wp2_with (first | (at_lookup; refine wpList_lookup_own_bool _ rfl _ _ 41 rfl 3 4 keyI Tryd.underlying41 Tryd.underlying4 (zeroB _) _ q _ rfl hmo _ _ rfl hkey _ HAT.out ?_) | (go_at_call 16; refine HF.out.mono ?_; rintro e w4 ⟨rfl, hs⟩; rw [HGE.out] at hs; obtain ⟨D2, q2, hq2, hmo2, hbm2⟩ := hs.m; have BM2 := Lib.hid hbm2; have S4 := Lib.hid hs; clear hs hbm2) | (at_mapUpdate; refine wpList_mapUpdate_own _ rfl _ _ _ 41 rfl 3 4 keyI Tryd.underlying41 _ _ q2 _ rfl hmo2 (by unfold maxLen; omega) _ _ _ rfl rfl hkey _ [] (plainElem_bool Tryd.underlying4 true) ?_; intro w30 hown1 hgrow1))
              have NX := Lib.hid (S4.out.put (k := q2) (f' := putF f z) (by omega) hown1 hgrow1 (BM2.out.put _ HF0.out (by simp [putF]) (fun x hx => by unfold putF; rw [if_neg hx])))
              clear hown1 hgrow1
              go_wp2
              go_roundg (n - (j + 1))
              case measure => go_light; omega
              case rel => go_light; exact ⟨j + 1, _, _, by omega, rfl, by go_num, NX, HCC⟩
        · obtain rfl : j = n := by omega
          have HR := Lib.hid (froom (m := (N : Int)) hs.out (by rw [flF_len]; have := hcn.out; omega))
          have hga : flF k (gone f) = flF k (againF f 0) := flF_congr fun j _ => by simp [againF]
          have HGA := Lib.hid hga
          have hm2 := HL.out.m
          clear hs hcn hga
          go_wp2_with fail
          refine HR.out.mono ?_
          rintro e w5 ⟨rfl, hs⟩
          rw [HGA.out] at hs
          obtain ⟨D, q0, hq0, hmo, hbm⟩ := hs.m
          have hsz := hbm.n
          have S5 := Lib.hid hs
          clear hs hbm HR HGA
          go_wp2_with (at_len; refine wpList_len_own _ rfl _ 41 rfl 3 4 Tryd.underlying41 _ _ q0 D rfl hmo ?_; rw [hsz]; clear hsz)
          clear hmo hq0
          go_loopg [12] k (fun gh i wx => ∃ q : Nat, q ≤ k ∧ gh = k - q ∧ i = .int .i64 ((q : Int) + 1) ∧ Hid (FS w b g (flF k (againF f q)) wo.heap.size j f N wx))
          case atStart => exact ⟨0, Nat.zero_le _, rfl, rfl, S5⟩
          case round =>
            obtain ⟨q, hq, rfl, rfl, hs⟩ := hrel
            clear S5
            by_cases hlt4 : q < k
            · have hle2 : decide ((q : Int) + 1 ≤ (k : Int)) = true := by simp; omega
              have hkey : keyOf Tryd.prog 3 (.int .i64 ((q : Int) + 1)) = some (.int .i64 ((q : Int) + 1)) := Maps.keyOf_int_mk Tryd.underlying3 (WalkArith.wf_i64 (by omega))
              obtain ⟨D, q2, hq2, hmo, hbm⟩ := hs.out.m
              have hat := hbm.a ((q : Int) + 1)
              have HS2 := hs
              cases hf : f ((q : Int) + 1) with
              | true =>
                rw [hf] at hat
                obtain ⟨t1, t2, t3⟩ := tk_at (F := againF f q) hlt4 (fun j hj => by simp [againF, hj]) (by simp [againF, gone, hf])
                have HF := Lib.hid (ftk hs.out t1 t2 (t3.trans (again_next hf k)))
                have HAT := Lib.hid hat
                clear t1 t2 t3 hbm hat hf hs
                go_wp2_with (first | (at_lookup; refine wpList_lookup_own_bool _ rfl _ _ 41 rfl 3 4 keyI Tryd.underlying41 Tryd.underlying4 (zeroB _) _ q2 _ rfl hmo _ _ rfl hkey _ HAT.out ?_) | (go_at_call 13; refine HF.out.mono ?_; rintro e w6 ⟨rfl, hs⟩; have S6 := Lib.hid hs; clear hs))
                go_roundg (k - (q + 1))
                case measure => go_light; omega
                case rel => go_light; exact ⟨q + 1, by omega, rfl, by go_num, S6⟩
              | false =>
                rw [hf] at hat
                have hsk := again_skip hf k
                have HSK := Lib.hid hsk
                have HAT := Lib.hid hat
                clear hbm hat hf hs hsk
                go_wp2_with (at_lookup; refine wpList_lookup_own_bool _ rfl _ _ 41 rfl 3 4 keyI Tryd.underlying41 Tryd.underlying4 (zeroB _) _ q2 _ rfl hmo _ _ rfl hkey _ HAT.out ?_)
                go_roundg (k - (q + 1))
                case measure => go_light; omega
                case rel => go_light; exact ⟨q + 1, by omega, rfl, by go_num, by rw [← HSK.out]; exact HS2⟩
            · obtain rfl : q = k := by omega
              have hle2 : decide ((q : Int) + 1 ≤ (q : Int)) = false := by simp; omega
              obtain ⟨t1, t2, t3⟩ := tk_full (m := q) (F := againF f q) (fun j hj => by simp [againF, hj])
              have HF := Lib.hid (ftk hs.out t1 t2 t3)
              clear hs t1 t2 t3
              go_wp2_with (first | (go_at_call 13; refine HF.out.mono ?_; rintro e w6 ⟨rfl, hs⟩; have S6 := Lib.hid hs.s.f; clear hs) | (go_at_call 8; refine (known_in S6.out HT.out).mono ?_; rintro e w7 ⟨rfl, hb⟩; have S7 := Lib.hid hb; clear hb))
              go_ret
              exact ⟨rfl, S7.out⟩
set_option maxRecDepth 100000 in
theorem fills_none (m : Int) (sp : Option Addr) (n c : Nat) (w : World) (h : m < 1 ∨ 4096 < m ∨ 30 < n) (hn : n ≤ 9223372036854775807) (ht : tabAt w) :
    Calls Tryd.prog 4 #[.int .i64 m, .slice sp n c] w fun e w' => e = .returned (.bool true) ∧ Below w.heap.size w w' := by
  have HT := Lib.hid ht
  clear ht
  by_cases h1 : m < 1
  · clear h
    go_enter Tryd.func4, Tryd.ntmps4
    go_wp2_with (go_at_call 8; refine (known_any _ HT.out).mono ?_; rintro e w' ⟨rfl, hb⟩)
    go_ret
    exact ⟨rfl, hb⟩
  · by_cases h2 : 4096 < m
    · clear h
      have d1 : decide (m < 1) = false := by simpa using h1
      clear h1
      go_enter Tryd.func4, Tryd.ntmps4
      go_wp2_with (go_at_call 8; refine (known_any _ HT.out).mono ?_; rintro e w' ⟨rfl, hb⟩)
      go_ret
      exact ⟨rfl, hb⟩
    · have d3 : decide (30 < (n : Int)) = true := by simp; omega
      have d1 : decide (m < 1) = false := by simpa using h1
      have d2 : decide (4096 < m) = false := by simpa using h2
      clear h h1 h2
      go_enter Tryd.func4, Tryd.ntmps4
      go_wp2_with (go_at_call 8; refine (known_any _ HT.out).mono ?_; rintro e w' ⟨rfl, hb⟩)
      go_ret
      exact ⟨rfl, hb⟩
theorem fills_law (m : Int) (sp : Option Addr) (n c : Nat) (l : List Int) (w : World) (hm : -9223372036854775808 ≤ m ∧ m ≤ 9223372036854775807) (hl : IsAt w sp n l) (ht : tabAt w) :
    Calls Tryd.prog 4 #[.int .i64 m, .slice sp n c] w fun e w' => e = .returned (.bool true) ∧ Below w.heap.size w w' := by
  by_cases h : m < 1 ∨ 4096 < m ∨ 30 < n
  · exact fills_none m sp n c w h hl.m ht
  · obtain ⟨k, rfl⟩ := Int.eq_ofNat_of_zero_le (a := m) (by omega)
    exact fills_main k (by omega) (by omega) sp n c l w hl (by omega) ht
end Go.Proofs.YtefncefmolphfaaDoor.idFn
