/- The reader of package card: what it takes from the front of bytes. -/
import Derived.Test.YtkappnnoienhnaaDoorCaBytes
import Derived.Test.YtkappnnoienhnaaDoorCeDecZ
namespace Go.Proofs.YtkappnnoienhnaaDoor.caFn
open Go.ChangeShapes Go.WideShapes Go.ChangeAt Go.RowKit drMem efFn
set_option linter.unusedVariables false

/- what is left, and the error -/
abbrev Rd := List UInt8 × Int
def tk (n : Nat) (s : Rd) : List UInt8 × Rd := if s.2 = 0 then (if n ≤ s.1.length then (s.1.take n, (s.1.drop n, 0)) else ([], (s.1, 4))) else ([], s)
def nb (m : Int) (s : Rd) : Int × Rd :=
  if s.2 = 0 then (if 1 ≤ s.1.length then (if m < ((s.1.getD 0 0).toNat : Int) then (0, (s.1.drop 1, 6)) else (((s.1.getD 0 0).toNat : Int), (s.1.drop 1, 0))) else (0, (s.1, 4))) else (0, s)
def efR (s : Rd) : List Ef × Rd := if s.2 = 0 then ((decR s.1).1, (s.1.drop (decR s.1).2.1, (decR s.1).2.2)) else ([], s)

/- slices of bytes that are cut -/
def slA (sp : Option Addr) (l m : Nat) : Option Addr := if m = l then sp else sp.map (·.add l)
theorem elem8 : Tryd.prog.underlying 45 = some (.slice (Tryd.prog.elem 45)) := by kernel_rfl
theorem size8 (W : World) : (sizeOf (Tryd.prog.elem 45)).run Tryd.prog W = .ok 1 W := by kernel_rfl
theorem sl_h (sp : Option Addr) (len cap n : Nat) (h : n ≤ cap) : ∀ W, (Instr.slice 45 (.slice sp len cap) none (some (.int .i64 (n : Int))) none).run Tryd.prog W = .ok (.slice (slA sp 0 cap) n cap) W := fun W => by
  rw [run_slice_h W _ sp len cap elem8 .i64 n (by omega) (by omega), size8]
  simp [Result.andThen, sliced, slA]
theorem sl_l (sp : Option Addr) (len cap n : Nat) (h : n ≤ len) : ∀ W, (Instr.slice 45 (.slice sp len cap) (some (.int .i64 (n : Int))) none none).run Tryd.prog W = .ok (.slice (slA sp n cap) (len - n) (cap - n)) W := fun W => by
  rw [run_slice_l W _ sp len cap elem8 .i64 n (by omega) (by omega), size8]
  simp [Result.andThen, sliced, slA]
section
variable {W W' : World} {sp : Option Addr} {len cap : Nat} {l : List UInt8}
theorem BsAt.sub (h : BsAt W sp len l) (hcap : len ≤ cap) (i : Nat) (hi : i ≤ len) : BsAt W (slA sp i cap) (len - i) (l.drop i) := by
  refine ⟨by rw [List.length_drop, h.n], by have := h.m; omega, fun h0 => ?_⟩
  rw [bys_len, List.length_drop, h.n] at h0
  obtain ⟨b, off, rfl, hb, hc⟩ := h.c (by rw [bys_len, h.n]; omega)
  refine ⟨b, off + i, ?_, hb, fun j u hu => ?_⟩
  · unfold slA
    rw [if_neg (by omega)]
    simp [addr_add]
  · have := hc (i + j) u (by
      have e : bys (l.drop i) = (bys l).drop i := by simp [bys]
      rw [e, List.getElem?_drop] at hu
      exact hu)
    rwa [← Nat.add_assoc] at this
theorem BsAt.front (h : BsAt W sp len l) (hcap : len ≤ cap) (n : Nat) (hn : n ≤ len) : BsAt W (slA sp 0 cap) n (l.take n) := by
  refine ⟨by rw [List.length_take, h.n]; omega, by have := h.m; omega, fun h0 => ?_⟩
  rw [bys_len, List.length_take, h.n] at h0
  obtain ⟨b, off, rfl, hb, hc⟩ := h.c (by rw [bys_len, h.n]; omega)
  refine ⟨b, off, ?_, hb, fun j u hu => hc j u ?_⟩
  · unfold slA
    rw [if_neg (by omega)]
    simp [addr_add]
  · have e : bys (l.take n) = (bys l).take n := by simp [bys]
    rw [e, List.getElem?_take] at hu
    split at hu
    · exact hu
    · cases hu
/- a block of two cells, a slice and a number: no bytes and no effects lie in it -/
theorem BsAt.apart {g : Nat} {t : TypeId} {s0 : Option Addr} {n0 c0 : Nat} {e0 : Int} (h : BsAt W sp len l) (hg : has W g t [.slice s0 n0 c0, .int .i64 e0]) (hW : W.grownBy W' (some g)) : BsAt W' sp len l := by
  refine ⟨h.n, h.m, fun h0 => ?_⟩
  obtain ⟨b, off, e, hb, hc⟩ := h.c h0
  have hne : b ≠ g := by
    rintro rfl
    obtain ⟨x, r, hx⟩ : ∃ x r, bys l = x :: r := by
      cases hq : bys l with
      | nil => rw [hq] at h0; simp at h0
      | cons x r => exact ⟨x, r, rfl⟩
    have h1 := hc 0 x (by rw [hx]; rfl)
    rw [hg.cell] at h1
    have h2 : x ∈ bys l := by rw [hx]; simp
    obtain ⟨y, _, rfl⟩ := List.mem_map.1 h2
    match off, h1 with
    | 0, h1 => simp at h1
    | 1, h1 => simp at h1
    | n + 2, h1 => simp at h1
  exact ⟨b, off, e, by have := hW.size; omega, fun j u hu => (World.cell?_of_block (hW.block b hb (by simpa using hne))).trans (hc j u hu)⟩
theorem EfsAt.apart {g : Nat} {t : TypeId} {s0 : Option Addr} {n0 c0 : Nat} {e0 : Int} {l : List Ef} (h : EfsAt W sp len l) (hg : has W g t [.slice s0 n0 c0, .int .i64 e0]) (hW : W.grownBy W' (some g)) : EfsAt W' sp len l := by
  refine ⟨h.n, h.m, fun h0 => ?_, h.v⟩
  obtain ⟨b, off, e, hb, hc⟩ := h.c h0
  have hne : b ≠ g := by
    rintro rfl
    have h1 := hc 0 (l.getD 0 default) (get_some (by rw [h.n]; exact h0))
    have g0 := h1.c0
    have g1 := h1.c1
    rw [hg.cell] at g0 g1
    match off, g0, g1 with
    | 0, g0, _ => simp at g0
    | 1, _, g1 => simp at g1
    | n + 2, g0, _ => simp at g0
  refine ⟨b, off, e, by have := hW.size; omega, fun i x hx => ?_⟩
  exact (hc i x hx).of_block (hW.block b hb (by simpa using hne))
end
theorem slA_lt {g : Nat} {sp : Option Addr} {len : Nat} (h : ∀ a, sp = some a → 0 < len → a.block < g) (i m : Nat) : ∀ a, slA sp i m = some a → 0 < len - i → a.block < g := by
  intro a ha h0
  unfold slA at ha
  split at ha
  · exact h a ha (by omega)
  · cases sp with
    | none => cases ha
    | some q =>
      simp at ha
      subst ha
      have := h q rfl (by omega)
      unfold Addr.add
      split <;> simpa using this
/- the reader lies in the block g, its bytes below -/
structure RdAt (W : World) (g : Nat) (s : Rd) (sp : Option Addr) (n c : Nat) : Prop where
  box : has W g 72 [.slice sp n c, .int .i64 s.2]
  b : BsAt W sp n s.1
  le : n ≤ c
  lt : ∀ a, sp = some a → 0 < n → a.block < g
def RdIn (W : World) (g : Nat) (s : Rd) : Prop := ∃ sp n c, RdAt W g s sp n c
theorem has.set0 {W : World} {g : Nat} {t : TypeId} {a b : Value} (h : has W g t [a, b]) (v : Value) : has (W.setCell ⟨g, 0, none⟩ v) g t [v, b] := h.put 0 v
theorem has.set1 {W : World} {g : Nat} {t : TypeId} {a b : Value} (h : has W g t [a, b]) (v : Value) : has (W.setCell ⟨g, 1, none⟩ v) g t [a, v] := h.put 1 v

def tkPost (n : Nat) (s : Rd) (g : Nat) (W : World) (v : Ending) (W' : World) : Prop := ∃ sp m c, v = .returned (.slice sp m c) ∧ BsAt W' sp m (tk n s).1 ∧ RdIn W' g (tk n s).2 ∧ W.grownBy W' (some g)
set_option maxRecDepth 100000 in
set_option maxHeartbeats 2000000 in
theorem take_any (n : Nat) (s : Rd) (g : Nat) (W : World) (h : RdIn W g s) :
    Calls Tryd.prog 51 #[.pointer (some ⟨g, 0, none⟩), .int .i64 (n : Int)] W (tkPost n s g W) := by
  obtain ⟨sp, len, cap, hbox, hb, hle, hlt⟩ := h
  have HLT := Lib.hid hlt
  clear hlt
  obtain ⟨l, e⟩ := s
  dsimp only at hbox hb
  obtain ⟨u0, u1, u2⟩ := two hbox
  have HX := Lib.hid hbox
  have HB := Lib.hid hb
  have hl := hb.n
  have HL := Lib.hid hl
  clear hbox hb hl
  by_cases he : e = 0
  · subst he
    by_cases hn : n ≤ len
    · have E1 : Hid (tk n (l, 0) = (l.take n, (l.drop n, 0))) := Lib.hid (by unfold tk; rw [if_pos rfl, if_pos (by rw [HL.out]; exact hn)])
      have s1 := sl_h sp len cap n (by omega)
      have s2 := sl_l sp len cap n hn
      have H1 := Lib.hid (BsAt.front HB.out hle n hn)
      have H2 := Lib.hid (BsAt.sub HB.out hle n hn)
      have H3 := Lib.hid (slA_lt HLT.out n cap)
      have hng : ¬ (len : Int) < (n : Int) := by omega
      generalize slA sp 0 cap = p1 at *
      generalize slA sp n cap = p2 at *
      have HG : Hid (len - n ≤ cap - n) := Lib.hid (by omega)
      generalize len - n = l2 at *
      generalize cap - n = c2 at *
      go_enter Tryd.func51, Tryd.ntmps51
      go_wp2
      go_ret
      have hg := grown_set W ⟨g, 0, none⟩ (.slice p2 l2 c2)
      refine ⟨p1, n, cap, rfl, ?_, ?_, hg⟩
      · rw [E1.out]; exact BsAt.apart H1.out HX.out hg
      · rw [E1.out]; exact ⟨p2, l2, c2, has.set0 HX.out _, BsAt.apart H2.out HX.out hg, HG.out, H3.out⟩
    · have E1 : Hid (tk n (l, 0) = ([], (l, 4))) := Lib.hid (by unfold tk; rw [if_pos rfl, if_neg (by rw [HL.out]; exact hn)])
      have hng : (len : Int) < (n : Int) := by omega
      go_enter Tryd.func51, Tryd.ntmps51
      go_wp2
      go_ret
      have hg := grown_set W ⟨g, 1, none⟩ (.int .i64 4)
      refine ⟨none, 0, 0, rfl, ?_, ?_, hg⟩
      · rw [E1.out]; exact BsAt.nil _ _
      · rw [E1.out]; exact ⟨sp, len, cap, has.set1 HX.out _, BsAt.apart HB.out HX.out hg, hle, HLT.out⟩
  · have E1 : Hid (tk n (l, e) = ([], (l, e))) := Lib.hid (by unfold tk; rw [if_neg he])
    have e1 : (e == 0) = false := by rw [beq_eq_false_iff_ne]; exact he
    have e2 : (e != 0) = true := by rw [bne_iff_ne]; exact he
    clear he
    go_enter Tryd.func51, Tryd.ntmps51
    go_wp2
    go_ret
    refine ⟨none, 0, 0, rfl, ?_, ?_, grown_refl _ _⟩
    · rw [E1.out]; exact BsAt.nil _ _
    · rw [E1.out]; exact ⟨sp, len, cap, HX.out, HB.out, hle, HLT.out⟩

def nbPost (m : Int) (s : Rd) (g : Nat) (W : World) (v : Ending) (W' : World) : Prop := v = .returned (.int .i64 (nb m s).1) ∧ RdIn W' g (nb m s).2 ∧ W.grownBy W' (some g)
theorem bs_one_at {W : World} {sp : Option Addr} {n : Nat} {l : List UInt8} {x : UInt8} (h : BsAt W sp n (x :: l)) : ∃ b off, sp = some ⟨b, off, none⟩ ∧ b < W.heap.size ∧ W.cell? ⟨b, off, none⟩ = some (.int .u8 (x.toNat : Int)) := by
  obtain ⟨b, off, e, hb, hc⟩ := h.c (by simp [bys])
  exact ⟨b, off, e, hb, by simpa using hc 0 _ rfl⟩
set_option maxRecDepth 100000 in
set_option maxHeartbeats 2000000 in
theorem number_any (m : Int) (s : Rd) (g : Nat) (W : World) (h : RdIn W g s) :
    Calls Tryd.prog 50 #[.pointer (some ⟨g, 0, none⟩), .int .i64 m] W (nbPost m s g W) := by
  have HT := take_any 1 s g W h
  rw [show ((1 : Nat) : Int) = 1 from rfl] at HT
  by_cases he : s.2 = 0
  · by_cases hl : 1 ≤ s.1.length
    · obtain ⟨l, e⟩ := s
      dsimp only at he hl
      subst he
      match l, hl with
      | x :: r, _ =>
        have hxb := x.toNat_lt
        have hw := IntWalk.i64_in (x.toNat : Int) (by omega)
        have E1 : tk 1 (x :: r, 0) = ([x], (r, 0)) := by unfold tk; rw [if_pos rfl, if_pos (by simp)]; rfl
        by_cases hm : m < (x.toNat : Int)
        · have E2 : Hid (nb m (x :: r, 0) = (0, (r, 6))) := Lib.hid (by unfold nb; rw [if_pos rfl, if_pos (by simp)]; exact if_pos hm)
          go_enter Tryd.func50, Tryd.ntmps50
          go_wp2_with fail
          refine HT.mono ?_; rintro v w1 ⟨sp, k, c, rfl, hb, hr, hg⟩
          rw [E1] at hb hr
          have hk := hb.n
          obtain ⟨b, off, rfl, hbl, hc0⟩ := bs_one_at hb
          obtain ⟨sq, n, cq, hbox, hB, hle, hlt⟩ := hr
          obtain ⟨u0, u1, u2⟩ := two hbox
          have HX := Lib.hid hbox
          have HBB := Lib.hid hB
          have HG := Lib.hid hg
          have HLT := Lib.hid hlt
          clear hlt
          have hk1 : k = 1 := hk.symm
          clear hbox hB hg hb hk E1 HT h
          rw [hk1]
          clear hk1
          go_wp2_with fail
          go_ret
          have hg2 := grown_set w1 ⟨g, 1, none⟩ (.int .i64 6)
          refine ⟨by rw [E2.out]; rfl, ?_, grown_trans HG.out hg2⟩
          rw [E2.out]; exact ⟨sq, n, cq, has.set1 HX.out _, BsAt.apart HBB.out HX.out hg2, hle, HLT.out⟩
        · have E2 : Hid (nb m (x :: r, 0) = ((x.toNat : Int), (r, 0))) := Lib.hid (by unfold nb; rw [if_pos rfl, if_pos (by simp)]; exact if_neg hm)
          go_enter Tryd.func50, Tryd.ntmps50
          go_wp2_with fail
          refine HT.mono ?_; rintro v w1 ⟨sp, k, c, rfl, hb, hr, hg⟩
          rw [E1] at hb hr
          have hk := hb.n
          obtain ⟨b, off, rfl, hbl, hc0⟩ := bs_one_at hb
          obtain ⟨sq, n, cq, hbox, hB, hle, hlt⟩ := hr
          obtain ⟨u0, u1, u2⟩ := two hbox
          have HX := Lib.hid hbox
          have HBB := Lib.hid hB
          have HG := Lib.hid hg
          have HLT := Lib.hid hlt
          clear hlt
          have hk1 : k = 1 := hk.symm
          clear hbox hB hg hb hk E1 HT h
          rw [hk1]
          clear hk1
          go_wp2_with fail
          go_ret
          refine ⟨by rw [E2.out]; rfl, ?_, HG.out⟩
          rw [E2.out]; exact ⟨sq, n, cq, HX.out, HBB.out, hle, HLT.out⟩
    · obtain ⟨l, e⟩ := s
      dsimp only at he hl
      subst he
      have E1 : tk 1 (l, 0) = ([], (l, 4)) := by unfold tk; rw [if_pos rfl, if_neg hl]
      have E2 : Hid (nb m (l, 0) = (0, (l, 4))) := Lib.hid (by unfold nb; rw [if_pos rfl, if_neg hl])
      go_enter Tryd.func50, Tryd.ntmps50
      go_wp2_with fail
      refine HT.mono ?_; rintro v w1 ⟨sp, k, c, rfl, hb, hr, hg⟩
      rw [E1] at hr
      obtain ⟨sq, n, cq, hbox, hB, hle, hlt⟩ := hr
      obtain ⟨u0, u1, u2⟩ := two hbox
      have HX := Lib.hid hbox
      have HBB := Lib.hid hB
      have HG := Lib.hid hg
      have HLT := Lib.hid hlt
      clear hlt
      clear hbox hB hg hb E1 HT h hl
      go_wp2_with fail
      go_ret
      refine ⟨by rw [E2.out]; rfl, ?_, HG.out⟩
      rw [E2.out]; exact ⟨sq, n, cq, HX.out, HBB.out, hle, HLT.out⟩
  · obtain ⟨l, e⟩ := s
    dsimp only at he
    have E1 : tk 1 (l, e) = ([], (l, e)) := by unfold tk; rw [if_neg he]
    have E2 : Hid (nb m (l, e) = (0, (l, e))) := Lib.hid (by unfold nb; rw [if_neg he])
    have e2 : (e != 0) = true := by rw [bne_iff_ne]; exact he
    clear he
    go_enter Tryd.func50, Tryd.ntmps50
    go_wp2_with fail
    refine HT.mono ?_; rintro v w1 ⟨sp, k, c, rfl, hb, hr, hg⟩
    rw [E1] at hr
    obtain ⟨sq, n, cq, hbox, hB, hle, hlt⟩ := hr
    obtain ⟨u0, u1, u2⟩ := two hbox
    have HX := Lib.hid hbox
    have HBB := Lib.hid hB
    have HG := Lib.hid hg
    have HLT := Lib.hid hlt
    clear hlt
    clear hbox hB hg hb E1 HT h
    go_wp2_with fail
    go_ret
    refine ⟨by rw [E2.out]; rfl, ?_, HG.out⟩
    rw [E2.out]; exact ⟨sq, n, cq, HX.out, HBB.out, hle, HLT.out⟩

def efPost (s : Rd) (g : Nat) (W : World) (v : Ending) (W' : World) : Prop := ∃ sp n c, v = .returned (.slice sp n c) ∧ EfsAt W' sp n (efR s).1 ∧ RdIn W' g (efR s).2 ∧ W.grownBy W' (some g) ∧ ∀ a, sp = some a → W.heap.size ≤ a.block
theorem decR_le (l : List UInt8) : (decR l).2.1 ≤ l.length := by
  unfold decR
  (repeat' split) <;> simp <;> omega
set_option maxRecDepth 100000 in
set_option maxHeartbeats 2000000 in
theorem effects_any (s : Rd) (g : Nat) (W : World) (h : RdIn W g s) :
    Calls Tryd.prog 52 #[.pointer (some ⟨g, 0, none⟩)] W (efPost s g W) := by
  obtain ⟨sp, len, cap, hbox, hb, hle, hlt⟩ := h
  have HLT := Lib.hid hlt
  clear hlt
  obtain ⟨l, e⟩ := s
  dsimp only at hbox hb
  obtain ⟨u0, u1, u2⟩ := two hbox
  have HX := Lib.hid hbox
  have HB := Lib.hid hb
  by_cases he : e = 0
  · subst he
    have E1 : Hid (efR (l, 0) = ((decR l).1, (l.drop (decR l).2.1, ((decR l).2.2 : Int)))) := Lib.hid (by unfold efR; rw [if_pos rfl])
    have HD := Decode_any sp len cap l W hb hle
    have hk := decR_le l
    rw [hb.n] at hk
    generalize decR l = z at *
    obtain ⟨zl, zk, ze⟩ := z
    dsimp only at E1 hk
    have s2 := sl_l sp len cap zk hk
    have H2 := Lib.hid (BsAt.sub HB.out hle zk hk)
    have H3 := Lib.hid (slA_lt HLT.out zk cap)
    have HG : Hid (len - zk ≤ cap - zk) := Lib.hid (by omega)
    generalize slA sp zk cap = p2 at *
    generalize len - zk = l2 at *
    generalize cap - zk = c2 at *
    clear hbox hb
    go_enter Tryd.func52, Tryd.ntmps52
    go_wp2_with fail
    refine HD.mono ?_; rintro v w1 ⟨sq, cq, rfl, hE, hbl, hfr⟩
    have HFR := Lib.hid hfr
    clear hfr
    have HE := Lib.hid hE
    have HBL := Lib.hid hbl
    have HX1 := Lib.hid (HX.out.below hbl HX.out.lt)
    have H21 := Lib.hid (H2.out.below hbl (Nat.le_refl _))
    clear u0 u1 u2 hE hbl
    obtain ⟨u0, u1, u2⟩ := two HX1.out
    have zg := HX1.out.lt
    go_wp2_with fail
    go_ret
    have hg : w1.grownBy ((w1.setCell ⟨g, 0, none⟩ (.slice p2 l2 c2)).setCell ⟨g, 1, none⟩ (.int .i64 (ze : Int))) (some g) := grown_trans (grown_set _ _ _) (grown_set _ _ _)
    refine ⟨sq, zl.length, cq, rfl, ?_, ?_, grown_trans (grown_of_below HBL.out _) hg, HFR.out⟩
    · rw [E1.out]; exact EfsAt.apart HE.out HX1.out hg
    · rw [E1.out]; exact ⟨p2, l2, c2, has.set1 (has.set0 HX1.out _) _, BsAt.apart H21.out HX1.out hg, HG.out, H3.out⟩
  · have E1 : Hid (efR (l, e) = ([], (l, e))) := Lib.hid (by unfold efR; rw [if_neg he])
    have e2 : (e != 0) = true := by rw [bne_iff_ne]; exact he
    clear he hbox hb
    go_enter Tryd.func52, Tryd.ntmps52
    go_wp2
    go_ret
    refine ⟨none, 0, 0, rfl, ?_, ?_, grown_refl _ _, by intro a h; cases h⟩
    · rw [E1.out]; exact EfsAt.nil _ _
    · rw [E1.out]; exact ⟨sp, len, cap, HX.out, HB.out, hle, HLT.out⟩
end Go.Proofs.YtkappnnoienhnaaDoor.caFn
