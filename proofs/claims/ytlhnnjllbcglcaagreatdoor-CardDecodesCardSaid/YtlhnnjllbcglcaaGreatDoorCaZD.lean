/- Joined texts: CaRead CaCardM CaTrigM CaCard CaDec -/
import Derived.Test.YtlhnnjllbcglcaaGreatDoorCaBytes
import Derived.Test.YtlhnnjllbcglcaaGreatDoorCeDecZ
import Derived.Test.YtlhnnjllbcglcaaGreatDoorCaValidB
import Derived.BigRegion
import Derived.Deep.RegionWith
import Derived.Deep.AppendLies
import Derived.Deep.DeepCutAuto
import Derived.Deep.CutBlock
import Derived.Outline
/- The reader of package card: what it takes from the front of bytes. -/
namespace Go.Proofs.YtlhnnjllbcglcaaGreatDoor.caFn
open Go.ChangeShapes Go.WideShapes Go.ChangeAt Go.RowKit drMem efFn
set_option linter.unusedVariables false

/- what is left, and the error -/
abbrev Rd := List UInt8 × Int
def tk (n : Nat) (s : Rd) : List UInt8 × Rd := if s.2 = 0 then (if n ≤ s.1.length then (s.1.take n, (s.1.drop n, 0)) else ([], (s.1, 4))) else ([], s)
def nb (m : Int) (s : Rd) : Int × Rd :=
  if s.2 = 0 then (if 1 ≤ s.1.length then (if m < ((s.1.getD 0 0).toNat : Int) then (0, (s.1.drop 1, 6)) else (((s.1.getD 0 0).toNat : Int), (s.1.drop 1, 0))) else (0, (s.1, 4))) else (0, s)
def efR (s : Rd) : List Ef × Rd := if s.2 = 0 then ((decR s.1).1, (s.1.drop (decR s.1).2.1, (decR s.1).2.2)) else ([], s)

/- slices of bytes that are cut -/
def slA (sp : Option Addr) (l m : Nat) : Option Addr := if m = l then sp else sp.map (·.add l)
theorem elem8 : Tryz.prog.underlying 38 = some (.slice (Tryz.prog.elem 38)) := by kernel_rfl
theorem size8 (W : World) : (sizeOf (Tryz.prog.elem 38)).run Tryz.prog W = .ok 1 W := by kernel_rfl
theorem sl_h (sp : Option Addr) (len cap n : Nat) (h : n ≤ cap) : ∀ W, (Instr.slice 38 (.slice sp len cap) none (some (.int .i64 (n : Int))) none).run Tryz.prog W = .ok (.slice (slA sp 0 cap) n cap) W := fun W => by
  rw [run_slice_h W _ sp len cap elem8 .i64 n (by omega) (by omega), size8]
  simp [Result.andThen, sliced, slA]
theorem sl_l (sp : Option Addr) (len cap n : Nat) (h : n ≤ len) : ∀ W, (Instr.slice 38 (.slice sp len cap) (some (.int .i64 (n : Int))) none none).run Tryz.prog W = .ok (.slice (slA sp n cap) (len - n) (cap - n)) W := fun W => by
  rw [run_slice_l W _ sp len cap elem8 .i64 n (by omega) (by omega), size8]
  simp [Result.andThen, sliced, slA]
section
variable {W W' : World} {sp : Option Addr} {len cap : Nat} {l : List UInt8}
theorem BsAt.sub (h : BsAt W sp len l) (hcap : len ≤ cap) (i : Nat) (hi : i ≤ len) : BsAt W (slA sp i cap) (len - i) (l.drop i) := by
  refine ⟨by rw [List.length_drop, h.n], by have := h.m; omega, fun h0 => ?_⟩
  rw [bys_len, List.length_drop, h.n] at h0
  obtain ⟨b, off, rfl, hb, hc⟩ := h.c (by rw [bys_len, h.n]; omega)
  refine ⟨b, off + i, ?_, hb, fun j u hu => ?_⟩
  · unfold slA
    rw [if_neg (by omega)]
    simp [addr_add]
  · have := hc (i + j) u (by
      have e : bys (l.drop i) = (bys l).drop i := by simp [bys]
      rw [e, List.getElem?_drop] at hu
      exact hu)
    rwa [← Nat.add_assoc] at this
theorem BsAt.front (h : BsAt W sp len l) (hcap : len ≤ cap) (n : Nat) (hn : n ≤ len) : BsAt W (slA sp 0 cap) n (l.take n) := by
  refine ⟨by rw [List.length_take, h.n]; omega, by have := h.m; omega, fun h0 => ?_⟩
  rw [bys_len, List.length_take, h.n] at h0
  obtain ⟨b, off, rfl, hb, hc⟩ := h.c (by rw [bys_len, h.n]; omega)
  refine ⟨b, off, ?_, hb, fun j u hu => hc j u ?_⟩
  · unfold slA
    rw [if_neg (by omega)]
    simp [addr_add]
  · have e : bys (l.take n) = (bys l).take n := by simp [bys]
    rw [e, List.getElem?_take] at hu
    split at hu
    · exact hu
    · cases hu
/- a block of two cells, a slice and a number: no bytes and no effects lie in it -/
theorem BsAt.apart {g : Nat} {t : TypeId} {s0 : Option Addr} {n0 c0 : Nat} {e0 : Int} (h : BsAt W sp len l) (hg : has W g t [.slice s0 n0 c0, .int .i64 e0]) (hW : W.grownBy W' (some g)) : BsAt W' sp len l := by
  refine ⟨h.n, h.m, fun h0 => ?_⟩
  obtain ⟨b, off, e, hb, hc⟩ := h.c h0
  have hne : b ≠ g := by
    rintro rfl
    obtain ⟨x, r, hx⟩ : ∃ x r, bys l = x :: r := by
      cases hq : bys l with
      | nil => rw [hq] at h0; simp at h0
      | cons x r => exact ⟨x, r, rfl⟩
    have h1 := hc 0 x (by rw [hx]; rfl)
    rw [hg.cell] at h1
    have h2 : x ∈ bys l := by rw [hx]; simp
    obtain ⟨y, _, rfl⟩ := List.mem_map.1 h2
    match off, h1 with
    | 0, h1 => simp at h1
    | 1, h1 => simp at h1
    | n + 2, h1 => simp at h1
  exact ⟨b, off, e, by have := hW.size; omega, fun j u hu => (World.cell?_of_block (hW.block b hb (by simpa using hne))).trans (hc j u hu)⟩
theorem EfsAt.apart {g : Nat} {t : TypeId} {s0 : Option Addr} {n0 c0 : Nat} {e0 : Int} {l : List Ef} (h : EfsAt W sp len l) (hg : has W g t [.slice s0 n0 c0, .int .i64 e0]) (hW : W.grownBy W' (some g)) : EfsAt W' sp len l := by
  refine ⟨h.n, h.m, fun h0 => ?_, h.v⟩
  obtain ⟨b, off, e, hb, hc⟩ := h.c h0
  have hne : b ≠ g := by
    rintro rfl
    have h1 := hc 0 (l.getD 0 default) (get_some (by rw [h.n]; exact h0))
    have g0 := h1.c0
    have g1 := h1.c1
    rw [hg.cell] at g0 g1
    match off, g0, g1 with
    | 0, g0, _ => simp at g0
    | 1, _, g1 => simp at g1
    | n + 2, g0, _ => simp at g0
  refine ⟨b, off, e, by have := hW.size; omega, fun i x hx => ?_⟩
  exact (hc i x hx).of_block (hW.block b hb (by simpa using hne))
end
theorem slA_lt {g : Nat} {sp : Option Addr} {len : Nat} (h : ∀ a, sp = some a → 0 < len → a.block < g) (i m : Nat) : ∀ a, slA sp i m = some a → 0 < len - i → a.block < g := by
  intro a ha h0
  unfold slA at ha
  split at ha
  · exact h a ha (by omega)
  · cases sp with
    | none => cases ha
    | some q =>
      simp at ha
      subst ha
      have := h q rfl (by omega)
      unfold Addr.add
      split <;> simpa using this
/- the reader lies in the block g, its bytes below -/
structure RdAt (W : World) (g : Nat) (s : Rd) (sp : Option Addr) (n c : Nat) : Prop where
  box : has W g 80 [.slice sp n c, .int .i64 s.2]
  b : BsAt W sp n s.1
  le : n ≤ c
  lt : ∀ a, sp = some a → 0 < n → a.block < g
def RdIn (W : World) (g : Nat) (s : Rd) : Prop := ∃ sp n c, RdAt W g s sp n c
theorem has.set0 {W : World} {g : Nat} {t : TypeId} {a b : Value} (h : has W g t [a, b]) (v : Value) : has (W.setCell ⟨g, 0, none⟩ v) g t [v, b] := h.put 0 v
theorem has.set1 {W : World} {g : Nat} {t : TypeId} {a b : Value} (h : has W g t [a, b]) (v : Value) : has (W.setCell ⟨g, 1, none⟩ v) g t [a, v] := h.put 1 v

def tkPost (n : Nat) (s : Rd) (g : Nat) (W : World) (v : Ending) (W' : World) : Prop := ∃ sp m c, v = .returned (.slice sp m c) ∧ BsAt W' sp m (tk n s).1 ∧ RdIn W' g (tk n s).2 ∧ W.grownBy W' (some g)
set_option maxRecDepth 100000 in
set_option maxHeartbeats 2000000 in
theorem take_any (n : Nat) (s : Rd) (g : Nat) (W : World) (h : RdIn W g s) :
    Calls Tryz.prog 59 #[.pointer (some ⟨g, 0, none⟩), .int .i64 (n : Int)] W (tkPost n s g W) := by
  obtain ⟨sp, len, cap, hbox, hb, hle, hlt⟩ := h
  have HLT := Lib.hid hlt
  clear hlt
  obtain ⟨l, e⟩ := s
  dsimp only at hbox hb
  obtain ⟨u0, u1, u2⟩ := two hbox
  have HX := Lib.hid hbox
  have HB := Lib.hid hb
  have hl := hb.n
  have HL := Lib.hid hl
  clear hbox hb hl
  by_cases he : e = 0
  · subst he
    by_cases hn : n ≤ len
    · have E1 : Hid (tk n (l, 0) = (l.take n, (l.drop n, 0))) := Lib.hid (by unfold tk; rw [if_pos rfl, if_pos (by rw [HL.out]; exact hn)])
      have s1 := sl_h sp len cap n (by omega)
      have s2 := sl_l sp len cap n hn
      have H1 := Lib.hid (BsAt.front HB.out hle n hn)
      have H2 := Lib.hid (BsAt.sub HB.out hle n hn)
      have H3 := Lib.hid (slA_lt HLT.out n cap)
      have hng : ¬ (len : Int) < (n : Int) := by omega
      generalize slA sp 0 cap = p1 at *
      generalize slA sp n cap = p2 at *
      have HG : Hid (len - n ≤ cap - n) := Lib.hid (by omega)
      generalize len - n = l2 at *
      generalize cap - n = c2 at *
      go_enter Tryz.func59, Tryz.ntmps59
      go_wp2
      go_ret
      have hg := grown_set W ⟨g, 0, none⟩ (.slice p2 l2 c2)
      refine ⟨p1, n, cap, rfl, ?_, ?_, hg⟩
      · rw [E1.out]; exact BsAt.apart H1.out HX.out hg
      · rw [E1.out]; exact ⟨p2, l2, c2, has.set0 HX.out _, BsAt.apart H2.out HX.out hg, HG.out, H3.out⟩
    · have E1 : Hid (tk n (l, 0) = ([], (l, 4))) := Lib.hid (by unfold tk; rw [if_pos rfl, if_neg (by rw [HL.out]; exact hn)])
      have hng : (len : Int) < (n : Int) := by omega
      go_enter Tryz.func59, Tryz.ntmps59
      go_wp2
      go_ret
      have hg := grown_set W ⟨g, 1, none⟩ (.int .i64 4)
      refine ⟨none, 0, 0, rfl, ?_, ?_, hg⟩
      · rw [E1.out]; exact BsAt.nil _ _
      · rw [E1.out]; exact ⟨sp, len, cap, has.set1 HX.out _, BsAt.apart HB.out HX.out hg, hle, HLT.out⟩
  · have E1 : Hid (tk n (l, e) = ([], (l, e))) := Lib.hid (by unfold tk; rw [if_neg he])
    have e1 : (e == 0) = false := by rw [beq_eq_false_iff_ne]; exact he
    have e2 : (e != 0) = true := by rw [bne_iff_ne]; exact he
    clear he
    go_enter Tryz.func59, Tryz.ntmps59
    go_wp2
    go_ret
    refine ⟨none, 0, 0, rfl, ?_, ?_, grown_refl _ _⟩
    · rw [E1.out]; exact BsAt.nil _ _
    · rw [E1.out]; exact ⟨sp, len, cap, HX.out, HB.out, hle, HLT.out⟩

def nbPost (m : Int) (s : Rd) (g : Nat) (W : World) (v : Ending) (W' : World) : Prop := v = .returned (.int .i64 (nb m s).1) ∧ RdIn W' g (nb m s).2 ∧ W.grownBy W' (some g)
theorem bs_one_at {W : World} {sp : Option Addr} {n : Nat} {l : List UInt8} {x : UInt8} (h : BsAt W sp n (x :: l)) : ∃ b off, sp = some ⟨b, off, none⟩ ∧ b < W.heap.size ∧ W.cell? ⟨b, off, none⟩ = some (.int .u8 (x.toNat : Int)) := by
  obtain ⟨b, off, e, hb, hc⟩ := h.c (by simp [bys])
  exact ⟨b, off, e, hb, by simpa using hc 0 _ rfl⟩
set_option maxRecDepth 100000 in
set_option maxHeartbeats 2000000 in
theorem number_any (m : Int) (s : Rd) (g : Nat) (W : World) (h : RdIn W g s) :
    Calls Tryz.prog 58 #[.pointer (some ⟨g, 0, none⟩), .int .i64 m] W (nbPost m s g W) := by
  have HT := take_any 1 s g W h
  rw [show ((1 : Nat) : Int) = 1 from rfl] at HT
  by_cases he : s.2 = 0
  · by_cases hl : 1 ≤ s.1.length
    · obtain ⟨l, e⟩ := s
      dsimp only at he hl
      subst he
      match l, hl with
      | x :: r, _ =>
        have hxb := x.toNat_lt
        have hw := IntWalk.i64_in (x.toNat : Int) (by omega)
        have E1 : tk 1 (x :: r, 0) = ([x], (r, 0)) := by unfold tk; rw [if_pos rfl, if_pos (by simp)]; rfl
        by_cases hm : m < (x.toNat : Int)
        · have E2 : Hid (nb m (x :: r, 0) = (0, (r, 6))) := Lib.hid (by unfold nb; rw [if_pos rfl, if_pos (by simp)]; exact if_pos hm)
          go_enter Tryz.func58, Tryz.ntmps58
          go_wp2_with fail
          refine HT.mono ?_; rintro v w1 ⟨sp, k, c, rfl, hb, hr, hg⟩
          rw [E1] at hb hr
          have hk := hb.n
          obtain ⟨b, off, rfl, hbl, hc0⟩ := bs_one_at hb
          obtain ⟨sq, n, cq, hbox, hB, hle, hlt⟩ := hr
          obtain ⟨u0, u1, u2⟩ := two hbox
          have HX := Lib.hid hbox
          have HBB := Lib.hid hB
          have HG := Lib.hid hg
          have HLT := Lib.hid hlt
          clear hlt
          have hk1 : k = 1 := hk.symm
          clear hbox hB hg hb hk E1 HT h
          rw [hk1]
          clear hk1
          go_wp2_with fail
          go_ret
          have hg2 := grown_set w1 ⟨g, 1, none⟩ (.int .i64 6)
          refine ⟨by rw [E2.out]; rfl, ?_, grown_trans HG.out hg2⟩
          rw [E2.out]; exact ⟨sq, n, cq, has.set1 HX.out _, BsAt.apart HBB.out HX.out hg2, hle, HLT.out⟩
        · have E2 : Hid (nb m (x :: r, 0) = ((x.toNat : Int), (r, 0))) := Lib.hid (by unfold nb; rw [if_pos rfl, if_pos (by simp)]; exact if_neg hm)
          go_enter Tryz.func58, Tryz.ntmps58
          go_wp2_with fail
          refine HT.mono ?_; rintro v w1 ⟨sp, k, c, rfl, hb, hr, hg⟩
          rw [E1] at hb hr
          have hk := hb.n
          obtain ⟨b, off, rfl, hbl, hc0⟩ := bs_one_at hb
          obtain ⟨sq, n, cq, hbox, hB, hle, hlt⟩ := hr
          obtain ⟨u0, u1, u2⟩ := two hbox
          have HX := Lib.hid hbox
          have HBB := Lib.hid hB
          have HG := Lib.hid hg
          have HLT := Lib.hid hlt
          clear hlt
          have hk1 : k = 1 := hk.symm
          clear hbox hB hg hb hk E1 HT h
          rw [hk1]
          clear hk1
          go_wp2_with fail
          go_ret
          refine ⟨by rw [E2.out]; rfl, ?_, HG.out⟩
          rw [E2.out]; exact ⟨sq, n, cq, HX.out, HBB.out, hle, HLT.out⟩
    · obtain ⟨l, e⟩ := s
      dsimp only at he hl
      subst he
      have E1 : tk 1 (l, 0) = ([], (l, 4)) := by unfold tk; rw [if_pos rfl, if_neg hl]
      have E2 : Hid (nb m (l, 0) = (0, (l, 4))) := Lib.hid (by unfold nb; rw [if_pos rfl, if_neg hl])
      go_enter Tryz.func58, Tryz.ntmps58
      go_wp2_with fail
      refine HT.mono ?_; rintro v w1 ⟨sp, k, c, rfl, hb, hr, hg⟩
      rw [E1] at hr
      obtain ⟨sq, n, cq, hbox, hB, hle, hlt⟩ := hr
      obtain ⟨u0, u1, u2⟩ := two hbox
      have HX := Lib.hid hbox
      have HBB := Lib.hid hB
      have HG := Lib.hid hg
      have HLT := Lib.hid hlt
      clear hlt
      clear hbox hB hg hb E1 HT h hl
      go_wp2_with fail
      go_ret
      refine ⟨by rw [E2.out]; rfl, ?_, HG.out⟩
      rw [E2.out]; exact ⟨sq, n, cq, HX.out, HBB.out, hle, HLT.out⟩
  · obtain ⟨l, e⟩ := s
    dsimp only at he
    have E1 : tk 1 (l, e) = ([], (l, e)) := by unfold tk; rw [if_neg he]
    have E2 : Hid (nb m (l, e) = (0, (l, e))) := Lib.hid (by unfold nb; rw [if_neg he])
    have e2 : (e != 0) = true := by rw [bne_iff_ne]; exact he
    clear he
    go_enter Tryz.func58, Tryz.ntmps58
    go_wp2_with fail
    refine HT.mono ?_; rintro v w1 ⟨sp, k, c, rfl, hb, hr, hg⟩
    rw [E1] at hr
    obtain ⟨sq, n, cq, hbox, hB, hle, hlt⟩ := hr
    obtain ⟨u0, u1, u2⟩ := two hbox
    have HX := Lib.hid hbox
    have HBB := Lib.hid hB
    have HG := Lib.hid hg
    have HLT := Lib.hid hlt
    clear hlt
    clear hbox hB hg hb E1 HT h
    go_wp2_with fail
    go_ret
    refine ⟨by rw [E2.out]; rfl, ?_, HG.out⟩
    rw [E2.out]; exact ⟨sq, n, cq, HX.out, HBB.out, hle, HLT.out⟩

def efPost (s : Rd) (g : Nat) (W : World) (v : Ending) (W' : World) : Prop := ∃ sp n c, v = .returned (.slice sp n c) ∧ EfsAt W' sp n (efR s).1 ∧ RdIn W' g (efR s).2 ∧ W.grownBy W' (some g) ∧ ∀ a, sp = some a → W.heap.size ≤ a.block
theorem decR_le (l : List UInt8) : (decR l).2.1 ≤ l.length := by
  unfold decR
  (repeat' split) <;> simp <;> omega
set_option maxRecDepth 100000 in
set_option maxHeartbeats 2000000 in
theorem effects_any (s : Rd) (g : Nat) (W : World) (h : RdIn W g s) :
    Calls Tryz.prog 60 #[.pointer (some ⟨g, 0, none⟩)] W (efPost s g W) := by
  obtain ⟨sp, len, cap, hbox, hb, hle, hlt⟩ := h
  have HLT := Lib.hid hlt
  clear hlt
  obtain ⟨l, e⟩ := s
  dsimp only at hbox hb
  obtain ⟨u0, u1, u2⟩ := two hbox
  have HX := Lib.hid hbox
  have HB := Lib.hid hb
  by_cases he : e = 0
  · subst he
    have E1 : Hid (efR (l, 0) = ((decR l).1, (l.drop (decR l).2.1, ((decR l).2.2 : Int)))) := Lib.hid (by unfold efR; rw [if_pos rfl])
    have HD := Decode_any sp len cap l W hb hle
    have hk := decR_le l
    rw [hb.n] at hk
    generalize decR l = z at *
    obtain ⟨zl, zk, ze⟩ := z
    dsimp only at E1 hk
    have s2 := sl_l sp len cap zk hk
    have H2 := Lib.hid (BsAt.sub HB.out hle zk hk)
    have H3 := Lib.hid (slA_lt HLT.out zk cap)
    have HG : Hid (len - zk ≤ cap - zk) := Lib.hid (by omega)
    generalize slA sp zk cap = p2 at *
    generalize len - zk = l2 at *
    generalize cap - zk = c2 at *
    clear hbox hb
    go_enter Tryz.func60, Tryz.ntmps60
    go_wp2_with fail
    refine HD.mono ?_; rintro v w1 ⟨sq, cq, rfl, hE, hbl, hfr⟩
    have HFR := Lib.hid hfr
    clear hfr
    have HE := Lib.hid hE
    have HBL := Lib.hid hbl
    have HX1 := Lib.hid (HX.out.below hbl HX.out.lt)
    have H21 := Lib.hid (H2.out.below hbl (Nat.le_refl _))
    clear u0 u1 u2 hE hbl
    obtain ⟨u0, u1, u2⟩ := two HX1.out
    have zg := HX1.out.lt
    go_wp2_with fail
    go_ret
    have hg : w1.grownBy ((w1.setCell ⟨g, 0, none⟩ (.slice p2 l2 c2)).setCell ⟨g, 1, none⟩ (.int .i64 (ze : Int))) (some g) := grown_trans (grown_set _ _ _) (grown_set _ _ _)
    refine ⟨sq, zl.length, cq, rfl, ?_, ?_, grown_trans (grown_of_below HBL.out _) hg, HFR.out⟩
    · rw [E1.out]; exact EfsAt.apart HE.out HX1.out hg
    · rw [E1.out]; exact ⟨p2, l2, c2, has.set1 (has.set0 HX1.out _) _, BsAt.apart H21.out HX1.out hg, HG.out, H3.out⟩
  · have E1 : Hid (efR (l, e) = ([], (l, e))) := Lib.hid (by unfold efR; rw [if_neg he])
    have e2 : (e != 0) = true := by rw [bne_iff_ne]; exact he
    clear he hbox hb
    go_enter Tryz.func60, Tryz.ntmps60
    go_wp2
    go_ret
    refine ⟨none, 0, 0, rfl, ?_, ?_, grown_refl _ _, by intro a h; cases h⟩
    · rw [E1.out]; exact EfsAt.nil _ _
    · rw [E1.out]; exact ⟨sp, len, cap, HX.out, HB.out, hle, HLT.out⟩
end Go.Proofs.YtlhnnjllbcglcaaGreatDoor.caFn

/- What the reader of package card reads, as data; the boxes of the reading. -/
namespace Go.Proofs.YtlhnnjllbcglcaaGreatDoor.caFn
open Go.ChangeShapes Go.WideShapes Go.ChangeAt Go.RowKit drMem efFn
set_option linter.unusedVariables false

def trS (s : Rd) : Nat → Rd
  | 0 => s
  | k + 1 => (efR (nb 255 (trS s k)).2).2
def trL (s : Rd) : Nat → List Tr
  | 0 => []
  | k + 1 => trL s k ++ [⟨(nb 255 (trS s k)).1, (efR (nb 255 (trS s k)).2).1⟩]
theorem trL_len (s : Rd) : ∀ k, (trL s k).length = k
  | 0 => rfl
  | k + 1 => by simp [trL, trL_len s k]
theorem nb_bd (m : Int) (s : Rd) (hm : 0 ≤ m) : 0 ≤ (nb m s).1 ∧ (nb m s).1 ≤ m ∧ (nb m s).1 < 256 := by
  unfold nb
  generalize s.1.getD 0 0 = x
  have := x.toNat_lt
  (repeat' split) <;> dsimp only <;> omega
theorem nb_nat (m : Int) (s : Rd) (hm : 0 ≤ m) : ∃ n : Nat, (nb m s).1 = (n : Int) ∧ (n : Int) ≤ m ∧ n < 256 := by
  obtain ⟨h1, h2, h3⟩ := nb_bd m s hm
  exact ⟨(nb m s).1.toNat, by omega, by omega, by omega⟩
/- the card that is read, and what is left -/
def RdC (s : Rd) (q : Cd) (s' : Rd) : Prop :=
  ∃ (s1 s2 s3 s4 s5 s6 s7 s8 s9 s10 s11 s12 s13 s14 s15 : Rd) (n m : Nat), nb 255 s = (q.kd, s1) ∧ nb 255 s1 = (q.ra, s2) ∧ nb 32 s2 = ((n : Int), s3) ∧ tk n s3 = (q.nm, s4) ∧ nb 255 s4 = (q.a, s5) ∧ nb 255 s5 = (q.b, s6) ∧ nb 255 s6 = (q.c, s7) ∧ nb 255 s7 = (q.d, s8) ∧
    nb 255 s8 = (q.x, s9) ∧ nb 255 s9 = (q.ml, s10) ∧ nb 255 s10 = (q.pw, s11) ∧ nb 255 s11 = (q.tg, s12) ∧ nb 255 s12 = (q.kw, s13) ∧ efR s13 = (q.ef, s14) ∧ nb 2 s14 = ((m : Int), s15) ∧ q.tr = trL s15 m ∧ s' = trS s15 m

section
variable {W W' w : World} {sp : Option Addr} {n : Nat} {g : Nat} {cs : List Value} {s s' : Rd}
theorem BsAt.put {l : List UInt8} (h : BsAt W sp n l) (a : Addr) (v u : Value) (hk : W.cell? a = some u) (hu : ∀ x, u ≠ .int .u8 x) : BsAt (W.setCell a v) sp n l :=
  ⟨h.n, h.m, fun h0 => by
    obtain ⟨b, off, e, hb, hc⟩ := h.c h0
    refine ⟨b, off, e, by simpa [World.setCell] using hb, fun j x hx => ?_⟩
    have h1 := hc j x hx
    have hne : a ≠ ⟨b, off + j, none⟩ := by
      rintro rfl
      rw [hk] at h1
      cases h1
      obtain ⟨y, _, rfl⟩ := List.mem_map.1 (List.mem_of_getElem? hx)
      exact hu _ rfl
    rw [World.cell?_setCell_other (h := hne)]
    exact h1⟩
theorem EfsAt.put {l : List Ef} (h : EfsAt W sp n l) (a : Addr) (v u : Value) (hk : W.cell? a = some u) (hu : ∀ x, u ≠ .int .i64 x) : EfsAt (W.setCell a v) sp n l :=
  ⟨h.n, h.m, fun h0 => by
    obtain ⟨b, off, e, hb, hc⟩ := h.c h0
    refine ⟨b, off, e, by simpa [World.setCell] using hb, fun i x hx => ?_⟩
    have h1 := hc i x hx
    have key : ∀ (p : Addr) (y : Int), W.cell? p = some (.int .i64 y) → (W.setCell a v).cell? p = some (.int .i64 y) := fun p y hp => by
      have hne : a ≠ p := by
        rintro rfl
        rw [hk] at hp
        cases hp
        exact hu _ rfl
      rw [World.cell?_setCell_other (h := hne)]
      exact hp
    exact ⟨key _ _ h1.c0, key _ _ h1.c1, key _ _ h1.c2, key _ _ h1.c3, key _ _ h1.c4⟩, h.v⟩
theorem RdIn.put (h : RdIn W g s) {k : Nat} (a : Addr) (v u : Value) (hkg : g ≠ a.block) (hk : W.cell? a = some u) (hu : ∀ x, u ≠ .int .u8 x) : RdIn (W.setCell a v) g s := by
  obtain ⟨sp, n, c, h1, h2, h3, h4⟩ := h
  exact ⟨sp, n, c, h1.far hkg _, BsAt.put h2 a v u hk hu, h3, h4⟩
theorem RdIn.below (h : RdIn W g s) (hb : Below W.heap.size W W') : RdIn W' g s := by
  obtain ⟨sp, n, c, h1, h2, h3, h4⟩ := h
  exact ⟨sp, n, c, h1.below hb h1.lt, h2.below hb (Nat.le_refl _), h3, h4⟩
abbrev zeroL : List Value := cL ⟨#[]⟩ 0 0 0 0 0 0 0 0 0 0 none 0 0 none 0 0 0
structure CS (w : World) (g : Nat) (W : World) (cs : List Value) (s : Rd) : Prop where
  a : has W w.heap.size 32 zeroL
  c : has W (w.heap.size + 1) 32 cs
  r : RdIn W g s
  b : w.grownBy W (some g)
theorem CS.call (h : CS w g W cs s) (hgl : g < w.heap.size) (hr : RdIn W' g s') (hg : W.grownBy W' (some g)) : CS w g W' cs s' :=
  ⟨h.a.grown hg (by intro e; cases e; omega), h.c.grown hg (by intro e; cases e; omega), hr, grown_trans h.b hg⟩
theorem CS.put (h : CS w g W cs s) (hgl : g < w.heap.size) (i : Nat) (v u : Value) (hi : cs[i]? = some u) (hu : ∀ x, u ≠ .int .u8 x) : CS w g (W.setCell ⟨w.heap.size + 1, i, none⟩ v) (cs.set i v) s :=
  ⟨h.a.far (by show w.heap.size ≠ w.heap.size + 1; omega) _, h.c.put i v, RdIn.put (k := 0) h.r ⟨w.heap.size + 1, i, none⟩ v u (by show g ≠ w.heap.size + 1; omega) ((h.c.cell i).trans hi) hu, grown_new h.b (grown_set W ⟨w.heap.size + 1, i, none⟩ v) (by show w.heap.size ≤ w.heap.size + 1; omega)⟩
theorem CS.drew (h : CS w g W cs s) : CS w g W.drew cs s := by
  obtain ⟨sp, n, c, h1, h2, h3, h4⟩ := h.r
  exact ⟨h.a, h.c, ⟨sp, n, c, h1, h2.below (Below.refl _ _).drew (Nat.le_refl _), h3, h4⟩, grown_trans h.b ⟨rfl, rfl, rfl, Nat.le_refl _, fun _ _ _ => rfl⟩⟩
end
end Go.Proofs.YtlhnnjllbcglcaaGreatDoor.caFn

/- The triggers that the reader has read, in memory. -/
namespace Go.Proofs.YtlhnnjllbcglcaaGreatDoor.caFn
open Go.ChangeShapes Go.WideShapes Go.ChangeAt Go.RowKit drMem efFn
set_option linter.unusedVariables false

theorem _root_.Go.World.grownBy.trans_own {a b c : World} {g : Nat} {vb : Option Nat} (h : a.grownBy b (some g)) (k : b.grownBy c vb) (hv : ∀ q, vb = some q → a.heap.size ≤ q) : a.grownBy c (some g) :=
  ⟨k.os.trans h.os, k.tape.trans h.tape, k.output.trans h.output, Nat.le_trans h.size k.size, fun i hi hr => (k.block i (Nat.lt_of_lt_of_le hi h.size) (fun e => by have := hv i e.symm; omega)).trans (h.block i hi hr)⟩
structure Tx where
  w : Int
  s : Option Addr
  n : Nat
  c : Nat
instance : Inhabited Tx := ⟨⟨0, none, 0, 0⟩⟩
abbrev Tx.l (x : Tx) : List Value := [.int .i64 x.w, .slice x.s x.n x.c]
def txC (xs : List Tx) : List Value := xs.flatMap Tx.l
theorem txC_len (l : List Tx) : (txC l).length = 2 * l.length := by
  induction l with
  | nil => rfl
  | cons a r ih => simp only [txC, List.flatMap_cons, List.length_append, List.length_cons] at *; simp at *; omega
theorem txC_app (a b : List Tx) : txC (a ++ b) = txC a ++ txC b := by simp [txC]
theorem txC_get (l : List Tx) (i j : Nat) (e : Tx) (h : l[i]? = some e) (hj : j < 2) : (txC l)[i * 2 + j]? = e.l[j]? := by
  induction l generalizing i with
  | nil => simp at h
  | cons a r ih =>
    have ea : txC (a :: r) = a.l ++ txC r := by simp [txC]
    have hl : a.l.length = 2 := rfl
    rw [ea]
    cases i with
    | zero =>
      simp at h
      subst h
      rw [List.getElem?_append_left (by omega)]
      simp
    | succ i =>
      rw [List.getElem?_append_right (by omega), hl]
      rw [show (i + 1) * 2 + j - 2 = i * 2 + j by omega]
      exact ih i (by simpa using h)
/- effects that do not lie in the block vb -/
def EfsX (W : World) (B : Nat) (vb : Option Nat) (sp : Option Addr) (n : Nat) (l : List Ef) : Prop := EfsAt W sp n l ∧ (∀ a, sp = some a → 0 < n → vb ≠ some a.block) ∧ ∀ a, sp = some a → 0 < n → B ≤ a.block
section
variable {W W' w : World} {sp es : Option Addr} {n en : Nat} {g : Nat} {s s' : Rd} {v v' : Value} {l ef : List Ef} {vb vb' : Option Nat} {B : Nat} {hd : Value → List Value} {k : Nat} {xs : List Tx}
theorem EfsX.call (h : EfsX W B vb sp n l) {t : TypeId} {s0 : Option Addr} {n0 c0 : Nat} {e0 : Int} (hg : has W g t [.slice s0 n0 c0, .int .i64 e0]) (hW : W.grownBy W' (some g)) : EfsX W' B vb sp n l := ⟨EfsAt.apart h.1 hg hW, h.2⟩
theorem EfsAt.grownTo (h : EfsAt W sp n l) (hW : W.grownBy W' vb) (hv : ∀ a, sp = some a → 0 < n → vb ≠ some a.block) : EfsAt W' sp n l :=
  ⟨h.n, h.m, fun h0 => by
    obtain ⟨b, off, e, hb, hc⟩ := h.c h0
    exact ⟨b, off, e, by have := hW.size; omega, fun i x hx => (hc i x hx).of_block (hW.block b hb (fun q => hv _ e h0 q.symm))⟩, h.v⟩
theorem EfsX.app (h : EfsX W B vb sp n l) (hW : W.grownBy W' vb) {g' : Nat} (hat : vb = some g' ∨ g' = W.heap.size) : EfsX W' B (some g') sp n l :=
  ⟨EfsAt.grownTo h.1 hW h.2.1, fun a ha h0 => by
    rcases hat with e | e
    · rw [← e]; exact h.2.1 a ha h0
    · obtain ⟨b, off, e', hb, _⟩ := h.1.c h0
      rw [ha] at e'
      cases e'
      simp; omega, h.2.2⟩
theorem EfsX.alloc (h : EfsX W B vb sp n l) (o : Obj) : EfsX (W.alloc o) B vb sp n l := ⟨h.1.below ((Below.refl _ W).alloc (Nat.le_refl _) o) (Nat.le_refl _), h.2⟩
theorem EfsX.put (h : EfsX W B vb sp n l) (a : Addr) (v u : Value) (hk : W.cell? a = some u) (hu : ∀ x, u ≠ .int .i64 x) : EfsX (W.setCell a v) B vb sp n l := ⟨EfsAt.put h.1 a v u hk hu, h.2⟩
theorem EfsX.drew (h : EfsX W B vb sp n l) : EfsX W.drew B vb sp n l := ⟨h.1.below (Below.refl _ _).drew (Nat.le_refl _), h.2⟩

/- k triggers are read: they lie in v, beside the card's box -/
structure LP (w : World) (g : Nat) (es : Option Addr) (en : Nat) (ef : List Ef) (cs : List Value) (ts : List Tr) (s : Rd) (W : World) (v : Value) (xs : List Tx) : Prop where
  c : CS w g W cs s
  own : W.ownsRow w.heap.size 47 2 v ts.length (txC xs)
  ef : EfsX W (w.heap.size + 2) v.ownBlock es en ef
  n : xs.length = ts.length
  x : ∀ j, j < ts.length → (xs.getD j default).w = (ts.getD j default).w ∧ EfsX W (w.heap.size + 2) v.ownBlock (xs.getD j default).s (xs.getD j default).n (ts.getD j default).e
variable {cs : List Value} {ts : List Tr}
theorem LP.box (h : LP w g es en ef cs ts s W v xs) : ∃ s0 n0 c0 e0, has W g 80 [.slice s0 n0 c0, .int .i64 e0] := by
  obtain ⟨s0, n0, c0, h1, _, _, _⟩ := h.c.r
  exact ⟨s0, n0, c0, _, h1⟩
theorem LP.call (h : LP w g es en ef cs ts s W v xs) (hgl : g < w.heap.size) (hr : RdIn W' g s') (hg : W.grownBy W' (some g)) : LP w g es en ef cs ts s' W' v xs := by
  obtain ⟨s0, n0, c0, e0, hb⟩ := h.box
  refine ⟨h.c.call hgl hr hg, h.own.kept hg ?_, h.ef.call hb hg, h.n, fun j hj => ⟨(h.x j hj).1, (h.x j hj).2.call hb hg⟩⟩
  cases hv : v.ownBlock with
  | none => exact .inl rfl
  | some q =>
    have h3 := (h.own.lt q hv).1
    exact .inr (by intro e; cases e; omega)
theorem LP.drew (h : LP w g es en ef cs ts s W v xs) : LP w g es en ef cs ts s W.drew v xs := ⟨h.c.drew, h.own.drew, h.ef.drew, h.n, fun j hj => ⟨(h.x j hj).1, (h.x j hj).2.drew⟩⟩
theorem CS.alloc (h : CS w g W cs s) (o : Obj) : CS w g (W.alloc o) cs s := by
  obtain ⟨sp, n, c, h1, h2, h3, h4⟩ := h.r
  exact ⟨h.a.alloc o, h.c.alloc o, ⟨sp, n, c, h1.alloc o, h2.below ((Below.refl _ W).alloc (Nat.le_refl _) o) (Nat.le_refl _), h3, h4⟩, grown_trans h.b (grown_of_below ((Below.refl _ W).alloc (Nat.le_refl _) o) _)⟩
theorem LP.alloc (h : LP w g es en ef cs ts s W v xs) (o : Obj) : LP w g es en ef cs ts s (W.alloc o) v xs := ⟨h.c.alloc o, h.own.alloc _, h.ef.alloc o, h.n, fun j hj => ⟨(h.x j hj).1, (h.x j hj).2.alloc o⟩⟩
/- one trigger more: appended, and the slice stored -/
theorem LP.app (h : LP w g es en ef cs ts s W v xs) (hgl : g < w.heap.size) {x : Tx} {t : Tr} {g' cap : Nat} (hw : x.w = t.w) (he : EfsX W (w.heap.size + 2) v.ownBlock x.s x.n t.e)
    (hown : W'.ownsRow w.heap.size 47 2 (.slice (some ⟨g', 0, none⟩) (ts.length + 1) cap) (ts.length + 1) (txC xs ++ x.l)) (hW : W.grownBy W' v.ownBlock) (hat : v.ownBlock = some g' ∨ g' = W.heap.size)
    (hi : ∃ u, cs[12]? = some u ∧ (∀ y, u ≠ .int .u8 y) ∧ ∀ y, u ≠ .int .i64 y) :
    LP w g es en ef (cs.set 12 (.slice (some ⟨g', 0, none⟩) (ts.length + 1) cap)) (ts ++ [t]) s (W'.setCell ⟨w.heap.size + 1, 12, none⟩ (.slice (some ⟨g', 0, none⟩) (ts.length + 1) cap)) (.slice (some ⟨g', 0, none⟩) (ts.length + 1) cap) (xs ++ [x]) := by
  obtain ⟨u, hu, hu8, hu64⟩ := hi
  have hA : has W' w.heap.size 32 zeroL := own_has' hW h.own h.c.a (by decide)
  have hC : has W' (w.heap.size + 1) 32 cs := own_has' hW h.own h.c.c (by decide)
  have hR : RdIn W' g s := by
    obtain ⟨sp, n, c, h1, h2, h3, h4⟩ := h.c.r
    refine ⟨sp, n, c, own_has' hW h.own h1 (by decide), ⟨h2.n, h2.m, fun h0 => ?_⟩, h3, h4⟩
    obtain ⟨b, off, e, hb, hc⟩ := h2.c h0
    have hlt := h4 _ e (by rw [bys_len, h2.n] at h0; exact h0)
    have hbw : v.ownBlock ≠ some b := fun q => by
      have := (h.own.lt b q).1
      dsimp only at hlt
      omega
    exact ⟨b, off, e, by have := hW.size; omega, fun j y hy => (World.cell?_of_block (hW.block b hb (fun q => hbw q.symm))).trans (hc j y hy)⟩
  have hcs : CS w g W' cs s := ⟨hA, hC, hR, h.c.b.trans_own hW (fun q hq => (h.own.lt q hq).1)⟩
  have hown2 := hown.kept (grown_set W' ⟨w.heap.size + 1, 12, none⟩ (.slice (some ⟨g', 0, none⟩) (ts.length + 1) cap)) (.inr (by
    intro e
    have e' : w.heap.size + 1 = g' := (Option.some.inj e).symm
    rcases hown.2 with ⟨h4, _⟩ | ⟨g2, c2, cur, h4, _, h6, _⟩
    · cases h4
    · cases h4
      rw [← e', show W'.heap[w.heap.size + 1]? = _ from hC] at h6
      simp at h6))
  have hk : W'.cell? ⟨w.heap.size + 1, 12, none⟩ = some u := (hC.cell 12).trans hu
  have key : ∀ {sp : Option Addr} {n : Nat} {l : List Ef}, EfsX W (w.heap.size + 2) v.ownBlock sp n l → EfsX (W'.setCell ⟨w.heap.size + 1, 12, none⟩ (.slice (some ⟨g', 0, none⟩) (ts.length + 1) cap)) (w.heap.size + 2) (some g') sp n l := fun hx => (hx.app hW hat).put _ _ u hk hu64
  refine ⟨hcs.put hgl 12 _ u hu hu8, ?_, key h.ef, by simp [h.n], fun j hj => ?_⟩
  · rw [List.length_append, List.length_singleton, txC_app, show txC [x] = x.l by simp [txC]]
    exact hown2
  · have hl : j < ts.length ∨ j = ts.length := by simp at hj; omega
    rcases hl with hl | hl
    · have e1 : (xs ++ [x]).getD j default = xs.getD j default := by simp only [List.getD_eq_getElem?_getD]; rw [List.getElem?_append_left (by rw [h.n]; exact hl)]
      have e2 : (ts ++ [t]).getD j default = ts.getD j default := by simp only [List.getD_eq_getElem?_getD]; rw [List.getElem?_append_left hl]
      rw [e1, e2]
      exact ⟨(h.x j hl).1, key (h.x j hl).2⟩
    · subst hl
      have e1 : (xs ++ [x]).getD ts.length default = x := by rw [← h.n]; simp [List.getD_eq_getElem?_getD]
      have e2 : (ts ++ [t]).getD ts.length default = t := by simp [List.getD_eq_getElem?_getD]
      rw [e1, e2]
      exact ⟨hw, key he⟩
theorem trs_of {base : Nat} {v : Value} (own : W.ownsRow base 47 2 v ts.length (txC xs)) (hn : xs.length = ts.length) (hx : ∀ j, j < ts.length → (xs.getD j default).w = (ts.getD j default).w ∧ EfsAt W (xs.getD j default).s (xs.getD j default).n (ts.getD j default).e) (hm : ts.length ≤ 1000) (hv : ∀ t ∈ ts, i64ok t.w) : ∃ sp c, v = .slice sp ts.length c ∧ TrsAt W sp ts.length ts ∧ ts.length ≤ c := by
  obtain ⟨sv, cv, h1, h2, h3, _⟩ := own_form own
  refine ⟨sv, cv, h1, ⟨rfl, by omega, fun h0 => ?_, hv⟩, h3⟩
  obtain ⟨b, off, e, hb, hc⟩ := h2 (by rw [txC_len, hn]; omega)
  refine ⟨b, off, e, hb, fun i t hi => ?_⟩
  have hil := (List.getElem?_eq_some_iff.1 hi).1
  obtain ⟨g1, g2⟩ := hx i hil
  have et : ts.getD i default = t := by rw [List.getD_eq_getElem?_getD, hi]; rfl
  have ex : xs[i]? = some (xs.getD i default) := by simp [List.getD_eq_getElem?_getD, hn, hil]
  rw [et] at g1 g2
  generalize xs.getD i default = x at *
  refine ⟨x.s, x.n, x.c, ?_, ?_, g2⟩
  · have := hc (i * 2 + 0) _ ((txC_get xs i 0 x ex (by omega)).trans rfl)
    rw [← g1]; simpa using this
  · have := hc (i * 2 + 1) _ ((txC_get xs i 1 x ex (by omega)).trans rfl)
    simpa [Nat.add_assoc] using this
theorem trL_ok (s : Rd) : ∀ k, ∀ t ∈ trL s k, i64ok t.w
  | 0, t, h => by simp [trL] at h
  | k + 1, t, h => by
    simp only [trL, List.mem_append, List.mem_singleton] at h
    rcases h with h | rfl
    · exact trL_ok s k t h
    · have := nb_bd 255 (trS s k) (by omega)
      show -9223372036854775808 ≤ (nb 255 (trS s k)).1 ∧ (nb 255 (trS s k)).1 ≤ 9223372036854775807
      omega
theorem RdIn.grown {q : Nat} (h : RdIn W g s) (hW : W.grownBy W' (some q)) (hq : g < q) : RdIn W' g s := by
  obtain ⟨sp, n, c, h1, h2, h3, h4⟩ := h
  refine ⟨sp, n, c, h1.grown hW (by intro e; cases e; omega), ⟨h2.n, h2.m, fun h0 => ?_⟩, h3, h4⟩
  obtain ⟨b, off, e, hb, hc⟩ := h2.c h0
  have hlt : b < g := h4 _ e (by rw [bys_len, h2.n] at h0; exact h0)
  exact ⟨b, off, e, by have := hW.size; omega, fun j y hy => (World.cell?_of_block (hW.block b hb (by intro q'; cases q'; omega))).trans (hc j y hy)⟩
/- the card stored into the result's block -/
theorem LP.fin (h : LP w g es en ef cs ts s W v xs) (hgl : g < w.heap.size) (hW : W.grownBy W' (some w.heap.size)) (hm : ts.length ≤ 1000) (hv : ∀ t ∈ ts, i64ok t.w) :
    ∃ sp c, v = .slice sp ts.length c ∧ CdAt W' es en ef sp ts.length ts ∧ ts.length ≤ c ∧ RdIn W' g s ∧ w.grownBy W' (some g) ∧ ∀ (W2 : World) (q : Nat), q < w.heap.size → W'.grownBy W2 (some q) → CdAt W2 es en ef sp ts.length ts := by
  have hown := h.own.kept hW (by
    rcases h.own.2 with ⟨h4, _⟩ | ⟨g2, c2, cur, h4, _, h6, _⟩
    · left; rw [h4]; rfl
    · right
      rw [h4]
      intro e
      have e' : g2 = w.heap.size := Option.some.inj e
      rw [e', show W.heap[w.heap.size]? = _ from h.c.a] at h6
      simp at h6)
  have key : ∀ {sp : Option Addr} {n : Nat} {l : List Ef}, EfsX W (w.heap.size + 2) v.ownBlock sp n l → EfsAt W' sp n l := fun hx => EfsAt.grownTo hx.1 hW (fun a ha h0 => by have := hx.2.2 a ha h0; intro e; have := Option.some.inj e; omega)
  obtain ⟨sp, c, h1, h2, h3⟩ := trs_of hown h.n (fun j hj => ⟨(h.x j hj).1, key (h.x j hj).2⟩) hm hv
  refine ⟨sp, c, h1, ⟨key h.ef, h2⟩, h3, RdIn.grown h.c.r hW hgl, grown_new h.c.b hW (Nat.le_refl _), fun W2 q hq hW2 => ?_⟩
  have hown2 := hown.kept hW2 (by
    cases hv : v.ownBlock with
    | none => exact .inl rfl
    | some k2 =>
      have := (hown.lt k2 hv).1
      exact .inr (by intro e; have := Option.some.inj e; omega))
  have key2 : ∀ {sp : Option Addr} {n : Nat} {l : List Ef}, EfsX W (w.heap.size + 2) v.ownBlock sp n l → EfsAt W2 sp n l := fun hx => EfsAt.grownTo (key hx) hW2 (fun a ha h0 => by have := hx.2.2 a ha h0; intro e; have := Option.some.inj e; omega)
  obtain ⟨sp2, c2, h4, h5, _⟩ := trs_of hown2 h.n (fun j hj => ⟨(h.x j hj).1, key2 (h.x j hj).2⟩) hm hv
  rw [h1] at h4
  cases h4
  exact ⟨key2 h.ef, h5⟩
end
end Go.Proofs.YtlhnnjllbcglcaaGreatDoor.caFn

/- The card that the reader reads. -/
namespace Go.Proofs.YtlhnnjllbcglcaaGreatDoor.caFn
open Go.ChangeShapes Go.WideShapes Go.ChangeAt Go.RowKit drMem efFn
set_option linter.unusedVariables false

theorem number_at {m : Int} {s s' : Rd} {x : Int} (e : nb m s = (x, s')) (g : Nat) (W : World) (h : RdIn W g s) :
    Calls Tryz.prog 58 #[.pointer (some ⟨g, 0, none⟩), .int .i64 m] W fun v W' => v = .returned (.int .i64 x) ∧ RdIn W' g s' ∧ W.grownBy W' (some g) :=
  (number_any m s g W h).mono fun v W' h => by unfold nbPost at h; rw [e] at h; exact h
theorem take_at {n : Nat} {s s' : Rd} {l : List UInt8} (e : tk n s = (l, s')) (g : Nat) (W : World) (h : RdIn W g s) :
    Calls Tryz.prog 59 #[.pointer (some ⟨g, 0, none⟩), .int .i64 (n : Int)] W fun v W' => ∃ sp m c, v = .returned (.slice sp m c) ∧ BsAt W' sp m l ∧ RdIn W' g s' ∧ W.grownBy W' (some g) :=
  (take_any n s g W h).mono fun v W' h => by unfold tkPost at h; rw [e] at h; exact h
theorem effects_at {s s' : Rd} {l : List Ef} (e : efR s = (l, s')) (g : Nat) (W : World) (h : RdIn W g s) :
    Calls Tryz.prog 60 #[.pointer (some ⟨g, 0, none⟩)] W fun v W' => ∃ sp n c, v = .returned (.slice sp n c) ∧ EfsAt W' sp n l ∧ RdIn W' g s' ∧ W.grownBy W' (some g) ∧ ∀ a, sp = some a → W.heap.size ≤ a.block :=
  (effects_any s g W h).mono fun v W' h => by unfold efPost at h; rw [e] at h; exact h
def cdPost (s : Rd) (g : Nat) (w : World) (v : Ending) (W : World) : Prop :=
  ∃ q s' es en ec ts tn tc, RdC s q s' ∧ v = .returned (cV (bs q.nm) q.kd q.a q.b q.c q.d q.x q.ml q.pw q.tg q.kw es en ec ts tn tc q.ra) ∧ CdAt W es en q.ef ts tn q.tr ∧ tn ≤ tc ∧ RdIn W g s' ∧ w.grownBy W (some g) ∧ ∀ (W2 : World) (k : Nat), k < w.heap.size → W.grownBy W2 (some k) → CdAt W2 es en q.ef ts tn q.tr
theorem infoT : (Tryz.prog.info? 47).map (fun i => (i.zero, i.size, i.bytes)) = some (some (.agg #[.int .i64 0, .slice none 0 0]), 2, 32) := by kernel_rfl
set_option maxRecDepth 100000 in
set_option maxHeartbeats 16000000 in
theorem card_any (s : Rd) (g : Nat) (w : World) (h : RdIn w g s) (hgl : g < w.heap.size) :
    Calls Tryz.prog 40 #[.pointer (some ⟨g, 0, none⟩)] w (cdPost s g w) := by
  obtain ⟨i0, hi, hz0, hz1, hz2⟩ := info_parts infoT
  obtain ⟨s1, kd, e1⟩ : ∃ s' x, nb 255 s = (x, s') := ⟨_, _, rfl⟩
  obtain ⟨s2, ra, e2⟩ : ∃ s' x, nb 255 s1 = (x, s') := ⟨_, _, rfl⟩
  obtain ⟨s3, n, e3⟩ : ∃ (s' : Rd) (n : Nat), nb 32 s2 = ((n : Int), s') := by
    obtain ⟨n, hn, _⟩ := nb_nat 32 s2 (by omega)
    exact ⟨_, n, by rw [← hn]⟩
  obtain ⟨s4, nm, e4⟩ : ∃ s' x, tk n s3 = (x, s') := ⟨_, _, rfl⟩
  obtain ⟨s5, a, e5⟩ : ∃ s' x, nb 255 s4 = (x, s') := ⟨_, _, rfl⟩
  obtain ⟨s6, b, e6⟩ : ∃ s' x, nb 255 s5 = (x, s') := ⟨_, _, rfl⟩
  obtain ⟨s7, c, e7⟩ : ∃ s' x, nb 255 s6 = (x, s') := ⟨_, _, rfl⟩
  obtain ⟨s8, d, e8⟩ : ∃ s' x, nb 255 s7 = (x, s') := ⟨_, _, rfl⟩
  obtain ⟨s9, x, e9⟩ : ∃ s' x, nb 255 s8 = (x, s') := ⟨_, _, rfl⟩
  obtain ⟨s10, ml, e10⟩ : ∃ s' x, nb 255 s9 = (x, s') := ⟨_, _, rfl⟩
  obtain ⟨s11, pw, e11⟩ : ∃ s' x, nb 255 s10 = (x, s') := ⟨_, _, rfl⟩
  obtain ⟨s12, tg, e12⟩ : ∃ s' x, nb 255 s11 = (x, s') := ⟨_, _, rfl⟩
  obtain ⟨s13, kw, e13⟩ : ∃ s' x, nb 255 s12 = (x, s') := ⟨_, _, rfl⟩
  obtain ⟨s14, ef, e14⟩ : ∃ s' x, efR s13 = (x, s') := ⟨_, _, rfl⟩
  obtain ⟨s15, m, e15, hm2⟩ : ∃ (s' : Rd) (m : Nat), nb 2 s14 = ((m : Int), s') ∧ m ≤ 2 := by
    obtain ⟨m, hm, hm2, _⟩ := nb_nat 2 s14 (by omega)
    exact ⟨_, m, by rw [← hm], by omega⟩
  have HRD : Hid (RdC s ⟨nm, kd, a, b, c, d, x, ml, pw, tg, kw, ef, trL s15 m, ra⟩ (trS s15 m)) := Lib.hid ⟨s1, s2, s3, s4, s5, s6, s7, s8, s9, s10, s11, s12, s13, s14, s15, n, m, e1, e2, e3, e4, e5, e6, e7, e8, e9, e10, e11, e12, e13, e14, e15, rfl, rfl⟩
  have E1 := Lib.hid e1
  have E2 := Lib.hid e2
  have E3 := Lib.hid e3
  have E4 := Lib.hid e4
  have E5 := Lib.hid e5
  have E6 := Lib.hid e6
  have E7 := Lib.hid e7
  have E8 := Lib.hid e8
  have E9 := Lib.hid e9
  have E10 := Lib.hid e10
  have E11 := Lib.hid e11
  have E12 := Lib.hid e12
  have E13 := Lib.hid e13
  have E14 := Lib.hid e14
  have E15 := Lib.hid e15
  clear e1 e2 e3 e4 e5 e6 e7 e8 e9 e10 e11 e12 e13 e14 e15
  have HS0 : Hid (CS w g ((w.alloc (.cells #[.string ⟨#[]⟩, .int .i64 0, .int .i64 0, .int .i64 0, .int .i64 0, .int .i64 0, .int .i64 0, .int .i64 0, .int .i64 0, .int .i64 0, .int .i64 0, .slice none 0 0, .slice none 0 0, .int .i64 0] 32)).alloc (.cells #[.string ⟨#[]⟩, .int .i64 0, .int .i64 0, .int .i64 0, .int .i64 0, .int .i64 0, .int .i64 0, .int .i64 0, .int .i64 0, .int .i64 0, .int .i64 0, .slice none 0 0, .slice none 0 0, .int .i64 0] 32)) [.string ⟨#[]⟩, .int .i64 0, .int .i64 0, .int .i64 0, .int .i64 0, .int .i64 0, .int .i64 0, .int .i64 0, .int .i64 0, .int .i64 0, .int .i64 0, .slice none 0 0, .slice none 0 0, .int .i64 0] s) := Lib.hid ⟨(new0 w 32 zeroL).alloc _, by have := has.new (w.alloc (.cells #[.string ⟨#[]⟩, .int .i64 0, .int .i64 0, .int .i64 0, .int .i64 0, .int .i64 0, .int .i64 0, .int .i64 0, .int .i64 0, .int .i64 0, .int .i64 0, .slice none 0 0, .slice none 0 0, .int .i64 0] 32)) 32 zeroL; simpa using this, RdIn.below h (((Below.refl _ w).alloc (Nat.le_refl _) _).alloc (by simp) _), grown_of_below (((Below.refl _ w).alloc (Nat.le_refl _) _).alloc (by simp) _) _⟩
  clear h
  go_enter Tryz.func40, Tryz.ntmps40
  go_wp2_with fail
  refine (number_at E1.out g _ HS0.out.r).mono ?_; rintro v w1 ⟨rfl, hr, hg⟩
  have HT1 := Lib.hid (HS0.out.call hgl hr hg)
  clear hr hg
  obtain ⟨-, u1, -, -, -, -, -, -, -, -, -, -, -, -, uf⟩ := card14 HT1.out.c
  have HS1 : Hid (CS w g (w1.setCell ⟨w.heap.size + 1, 1, none⟩ (.int .i64 kd)) [.string ⟨#[]⟩, .int .i64 kd, .int .i64 0, .int .i64 0, .int .i64 0, .int .i64 0, .int .i64 0, .int .i64 0, .int .i64 0, .int .i64 0, .int .i64 0, .slice none 0 0, .slice none 0 0, .int .i64 0] s1) := Lib.hid (HT1.out.put hgl 1 _ (.int .i64 0) rfl (by intro x; simp))
  go_wp2_with fail
  clear u1
  refine (number_at E2.out g _ HS1.out.r).mono ?_; rintro v w2 ⟨rfl, hr, hg⟩
  have HT2 := Lib.hid (HS1.out.call hgl hr hg)
  clear hr hg
  clear uf
  obtain ⟨-, -, -, -, -, -, -, -, -, -, -, -, -, u13, uf⟩ := card14 HT2.out.c
  have HS2 : Hid (CS w g (w2.setCell ⟨w.heap.size + 1, 13, none⟩ (.int .i64 ra)) [.string ⟨#[]⟩, .int .i64 kd, .int .i64 0, .int .i64 0, .int .i64 0, .int .i64 0, .int .i64 0, .int .i64 0, .int .i64 0, .int .i64 0, .int .i64 0, .slice none 0 0, .slice none 0 0, .int .i64 ra] s2) := Lib.hid (HT2.out.put hgl 13 _ (.int .i64 0) rfl (by intro x; simp))
  go_wp2_with fail
  clear u13
  refine (number_at E3.out g _ HS2.out.r).mono ?_; rintro v w3 ⟨rfl, hr, hg⟩
  have HT3 := Lib.hid (HS2.out.call hgl hr hg)
  clear hr hg uf
  go_wp2_with fail
  refine (take_at E4.out g _ HT3.out.r).mono ?_; rintro v w4 ⟨sp4, m4, c4, rfl, hb, hr, hg⟩
  have HT4 := Lib.hid (HT3.out.call hgl hr hg)
  have cv := hb.str c4
  clear hb hr hg
  obtain ⟨u0, -, -, -, -, -, -, -, -, -, -, -, -, -, uf⟩ := card14 HT4.out.c
  have HS4 : Hid (CS w g (w4.setCell ⟨w.heap.size + 1, 0, none⟩ (.string (bs nm))) [.string (bs nm), .int .i64 kd, .int .i64 0, .int .i64 0, .int .i64 0, .int .i64 0, .int .i64 0, .int .i64 0, .int .i64 0, .int .i64 0, .int .i64 0, .slice none 0 0, .slice none 0 0, .int .i64 ra] s4) := Lib.hid (HT4.out.put hgl 0 _ (.string ⟨#[]⟩) rfl (by intro x; simp))
  go_wp2_with fail
  clear u0 cv
  refine wp_loop_rounds 5 ?_
  rw [rounds_succ]
  go_wp2_with fail
  refine (number_at E5.out g _ HS4.out.r).mono ?_; rintro v w5 ⟨rfl, hr, hg⟩
  have HT5 := Lib.hid (HS4.out.call hgl hr hg)
  clear hr hg
  clear uf
  obtain ⟨-, -, u2, -, -, -, -, -, -, -, -, -, -, -, uf⟩ := card14 HT5.out.c
  have HS5 : Hid (CS w g (w5.setCell ⟨w.heap.size + 1, 2, none⟩ (.int .i64 a)) [.string (bs nm), .int .i64 kd, .int .i64 a, .int .i64 0, .int .i64 0, .int .i64 0, .int .i64 0, .int .i64 0, .int .i64 0, .int .i64 0, .int .i64 0, .slice none 0 0, .slice none 0 0, .int .i64 ra] s5) := Lib.hid (HT5.out.put hgl 2 _ (.int .i64 0) rfl (by intro x; simp))
  go_wp2_with fail
  clear u2
  rw [rounds_succ]
  go_wp2_with fail
  refine (number_at E6.out g _ HS5.out.r).mono ?_; rintro v w6 ⟨rfl, hr, hg⟩
  have HT6 := Lib.hid (HS5.out.call hgl hr hg)
  clear hr hg
  clear uf
  obtain ⟨-, -, -, u3, -, -, -, -, -, -, -, -, -, -, uf⟩ := card14 HT6.out.c
  have HS6 : Hid (CS w g (w6.setCell ⟨w.heap.size + 1, 3, none⟩ (.int .i64 b)) [.string (bs nm), .int .i64 kd, .int .i64 a, .int .i64 b, .int .i64 0, .int .i64 0, .int .i64 0, .int .i64 0, .int .i64 0, .int .i64 0, .int .i64 0, .slice none 0 0, .slice none 0 0, .int .i64 ra] s6) := Lib.hid (HT6.out.put hgl 3 _ (.int .i64 0) rfl (by intro x; simp))
  go_wp2_with fail
  clear u3
  rw [rounds_succ]
  go_wp2_with fail
  refine (number_at E7.out g _ HS6.out.r).mono ?_; rintro v w7 ⟨rfl, hr, hg⟩
  have HT7 := Lib.hid (HS6.out.call hgl hr hg)
  clear hr hg
  clear uf
  obtain ⟨-, -, -, -, u4, -, -, -, -, -, -, -, -, -, uf⟩ := card14 HT7.out.c
  have HS7 : Hid (CS w g (w7.setCell ⟨w.heap.size + 1, 4, none⟩ (.int .i64 c)) [.string (bs nm), .int .i64 kd, .int .i64 a, .int .i64 b, .int .i64 c, .int .i64 0, .int .i64 0, .int .i64 0, .int .i64 0, .int .i64 0, .int .i64 0, .slice none 0 0, .slice none 0 0, .int .i64 ra] s7) := Lib.hid (HT7.out.put hgl 4 _ (.int .i64 0) rfl (by intro x; simp))
  go_wp2_with fail
  clear u4
  rw [rounds_succ]
  go_wp2_with fail
  refine (number_at E8.out g _ HS7.out.r).mono ?_; rintro v w8 ⟨rfl, hr, hg⟩
  have HT8 := Lib.hid (HS7.out.call hgl hr hg)
  clear hr hg
  clear uf
  obtain ⟨-, -, -, -, -, u5, -, -, -, -, -, -, -, -, uf⟩ := card14 HT8.out.c
  have HS8 : Hid (CS w g (w8.setCell ⟨w.heap.size + 1, 5, none⟩ (.int .i64 d)) [.string (bs nm), .int .i64 kd, .int .i64 a, .int .i64 b, .int .i64 c, .int .i64 d, .int .i64 0, .int .i64 0, .int .i64 0, .int .i64 0, .int .i64 0, .slice none 0 0, .slice none 0 0, .int .i64 ra] s8) := Lib.hid (HT8.out.put hgl 5 _ (.int .i64 0) rfl (by intro x; simp))
  go_wp2_with fail
  clear u5
  rw [rounds_succ]
  go_wp2_with fail
  refine (number_at E9.out g _ HS8.out.r).mono ?_; rintro v w9 ⟨rfl, hr, hg⟩
  have HT9 := Lib.hid (HS8.out.call hgl hr hg)
  clear hr hg
  clear uf
  obtain ⟨-, -, -, -, -, -, u6, -, -, -, -, -, -, -, uf⟩ := card14 HT9.out.c
  have HS9 : Hid (CS w g (w9.setCell ⟨w.heap.size + 1, 6, none⟩ (.int .i64 x)) [.string (bs nm), .int .i64 kd, .int .i64 a, .int .i64 b, .int .i64 c, .int .i64 d, .int .i64 x, .int .i64 0, .int .i64 0, .int .i64 0, .int .i64 0, .slice none 0 0, .slice none 0 0, .int .i64 ra] s9) := Lib.hid (HT9.out.put hgl 6 _ (.int .i64 0) rfl (by intro x; simp))
  go_wp2_with fail
  clear u6
  refine (number_at E10.out g _ HS9.out.r).mono ?_; rintro v w10 ⟨rfl, hr, hg⟩
  have HT10 := Lib.hid (HS9.out.call hgl hr hg)
  clear hr hg
  clear uf
  obtain ⟨-, -, -, -, -, -, -, u7, -, -, -, -, -, -, uf⟩ := card14 HT10.out.c
  have HS10 : Hid (CS w g (w10.setCell ⟨w.heap.size + 1, 7, none⟩ (.int .i64 ml)) [.string (bs nm), .int .i64 kd, .int .i64 a, .int .i64 b, .int .i64 c, .int .i64 d, .int .i64 x, .int .i64 ml, .int .i64 0, .int .i64 0, .int .i64 0, .slice none 0 0, .slice none 0 0, .int .i64 ra] s10) := Lib.hid (HT10.out.put hgl 7 _ (.int .i64 0) rfl (by intro x; simp))
  go_wp2_with fail
  clear u7
  refine (number_at E11.out g _ HS10.out.r).mono ?_; rintro v w11 ⟨rfl, hr, hg⟩
  have HT11 := Lib.hid (HS10.out.call hgl hr hg)
  clear hr hg
  clear uf
  obtain ⟨-, -, -, -, -, -, -, -, u8, -, -, -, -, -, uf⟩ := card14 HT11.out.c
  have HS11 : Hid (CS w g (w11.setCell ⟨w.heap.size + 1, 8, none⟩ (.int .i64 pw)) [.string (bs nm), .int .i64 kd, .int .i64 a, .int .i64 b, .int .i64 c, .int .i64 d, .int .i64 x, .int .i64 ml, .int .i64 pw, .int .i64 0, .int .i64 0, .slice none 0 0, .slice none 0 0, .int .i64 ra] s11) := Lib.hid (HT11.out.put hgl 8 _ (.int .i64 0) rfl (by intro x; simp))
  go_wp2_with fail
  clear u8
  refine (number_at E12.out g _ HS11.out.r).mono ?_; rintro v w12 ⟨rfl, hr, hg⟩
  have HT12 := Lib.hid (HS11.out.call hgl hr hg)
  clear hr hg
  clear uf
  obtain ⟨-, -, -, -, -, -, -, -, -, u9, -, -, -, -, uf⟩ := card14 HT12.out.c
  have HS12 : Hid (CS w g (w12.setCell ⟨w.heap.size + 1, 9, none⟩ (.int .i64 tg)) [.string (bs nm), .int .i64 kd, .int .i64 a, .int .i64 b, .int .i64 c, .int .i64 d, .int .i64 x, .int .i64 ml, .int .i64 pw, .int .i64 tg, .int .i64 0, .slice none 0 0, .slice none 0 0, .int .i64 ra] s12) := Lib.hid (HT12.out.put hgl 9 _ (.int .i64 0) rfl (by intro x; simp))
  go_wp2_with fail
  clear u9
  refine (number_at E13.out g _ HS12.out.r).mono ?_; rintro v w13 ⟨rfl, hr, hg⟩
  have HT13 := Lib.hid (HS12.out.call hgl hr hg)
  clear hr hg
  clear uf
  obtain ⟨-, -, -, -, -, -, -, -, -, -, u10, -, -, -, uf⟩ := card14 HT13.out.c
  have HS13 : Hid (CS w g (w13.setCell ⟨w.heap.size + 1, 10, none⟩ (.int .i64 kw)) [.string (bs nm), .int .i64 kd, .int .i64 a, .int .i64 b, .int .i64 c, .int .i64 d, .int .i64 x, .int .i64 ml, .int .i64 pw, .int .i64 tg, .int .i64 kw, .slice none 0 0, .slice none 0 0, .int .i64 ra] s13) := Lib.hid (HT13.out.put hgl 10 _ (.int .i64 0) rfl (by intro x; simp))
  go_wp2_with fail
  clear u10
  refine (effects_at E14.out g _ HS13.out.r).mono ?_; rintro v w14 ⟨es, en, ec, rfl, he, hr, hg, hfr⟩
  have HT14 := Lib.hid (HS13.out.call hgl hr hg)
  clear hr hg uf
  obtain ⟨-, -, -, -, -, -, -, -, -, -, -, u11, -, -, uf⟩ := card14 HT14.out.c
  have HF14 : Hid (∀ a, es = some a → 0 < en → w.heap.size + 2 ≤ a.block) := Lib.hid (fun a ha _ => by have h1 := hfr a ha; have h2 := HS13.out.c.lt; have h3 : (w13.setCell ⟨w.heap.size + 1, 10, none⟩ (.int .i64 kw)).heap.size = w13.heap.size := (by simp [World.setCell]); omega)
  clear hfr
  have HE14 := Lib.hid (EfsAt.put he ⟨w.heap.size + 1, 11, none⟩ (.slice es en ec) _ u11 (by intro x; simp))
  clear he
  have HS14 : Hid (CS w g (w14.setCell ⟨w.heap.size + 1, 11, none⟩ (.slice es en ec)) [.string (bs nm), .int .i64 kd, .int .i64 a, .int .i64 b, .int .i64 c, .int .i64 d, .int .i64 x, .int .i64 ml, .int .i64 pw, .int .i64 tg, .int .i64 kw, .slice es en ec, .slice none 0 0, .int .i64 ra] s14) := Lib.hid (HT14.out.put hgl 11 _ (.slice none 0 0) rfl (by intro x; simp))
  go_wp2_with fail
  clear u11
  refine (number_at E15.out g _ HS14.out.r).mono ?_; rintro v w15 ⟨rfl, hr, hg⟩
  have HL0 : Hid (LP w g es en ef [.string (bs nm), .int .i64 kd, .int .i64 a, .int .i64 b, .int .i64 c, .int .i64 d, .int .i64 x, .int .i64 ml, .int .i64 pw, .int .i64 tg, .int .i64 kw, .slice es en ec, .slice none 0 0, .int .i64 ra] [] s15 w15 (.slice none 0 0) []) := Lib.hid (by
    obtain ⟨s0, n0, c0, hbx, _, _, _⟩ := HS14.out.r
    exact ⟨HS14.out.call hgl hr hg, World.ownsRow_nil _ _ _ _, ⟨EfsAt.apart HE14.out hbx hg, by simp [Value.ownBlock], HF14.out⟩, rfl, fun j hj => absurd hj (by simp)⟩)
  clear hr hg uf
  go_wp2_with fail
  go_loopw [50] (fun i wr => ∃ (k : Nat) (st : Option Addr) (sc : Nat) (xs : List Tx), k ≤ m ∧ i = .int .i64 k ∧ Hid (LP w g es en ef [.string (bs nm), .int .i64 kd, .int .i64 a, .int .i64 b, .int .i64 c, .int .i64 d, .int .i64 x, .int .i64 ml, .int .i64 pw, .int .i64 tg, .int .i64 kw, .slice es en ec, .slice st k sc, .int .i64 ra] (trL s15 k) (trS s15 k) wr (.slice st k sc) xs)) (fun i _ => m - (intOf i).toNat)
  case atStart => exact ⟨0, none, 0, [], Nat.zero_le _, rfl, HL0⟩
  case round =>
    obtain ⟨k, st, sc, xs, hk, rfl, HL⟩ := hrel
    by_cases hlt : k < m
    · obtain ⟨sa, wv, q1⟩ : ∃ s' x, nb 255 (trS s15 k) = (x, s') := ⟨_, _, rfl⟩
      obtain ⟨sb, le, q2⟩ : ∃ s' x, efR sa = (x, s') := ⟨_, _, rfl⟩
      have HX : Hid (trS s15 (k + 1) = sb ∧ trL s15 (k + 1) = trL s15 k ++ [⟨wv, le⟩]) := Lib.hid (by simp [trS, trL, q1, q2])
      have Q1 := Lib.hid q1
      have Q2 := Lib.hid q2
      have HLen := Lib.hid (trL_len s15 k)
      clear q1 q2
      generalize trL s15 k = tl at *
      generalize trS s15 k = sk at *
      go_wp2_with fail
      refine (number_at Q1.out g _ HL.out.c.r).mono ?_; rintro vv w1 ⟨rfl, hr, hg⟩
      have HL1 := Lib.hid (HL.out.call hgl hr hg)
      clear hr hg
      go_wp2_with fail
      have HL1d := Lib.hid HL1.out.drew
      have u12 : w1.drew.cell? ⟨w.heap.size + 1, 12, none⟩ = some (.slice st k sc) := HL1d.out.c.c.cell 12
      have zb := HL1d.out.c.c.lt
      have HOn : Hid (w1.drew.ownsRow w.heap.size 47 2 (.slice st k sc) k (txC xs)) := Lib.hid (by have := HL1d.out.own; rwa [HLen.out] at this)
      refine wp_region_held_drew (S := (fun _ => True)) (by kernel_rfl) ?_ (fun hH0 => ?_)
      · exact trivial
      refine wpAnyH_take (i := 0) (oi := _) (v := ?_) rfl (by kernel_rfl) (by kernel_rfl) (by kernel_rfl) (fun _ _ _ h => h) (Or.inl ⟨by rfl, ?_⟩) (by assumption) ?_
      rotate_left
      · intro w hSw; (try dsimp only at hSw); first | (go_simp; done) | (go_simp; with_reducible rfl)
      try simp only [go_sem]
      refine wpAnyH_take (i := 2) (oi := _) (v := ?_) rfl (by kernel_rfl) (by kernel_rfl) (by kernel_rfl) (fun _ _ _ h => h) (Or.inl ⟨by rfl, ?_⟩) (by assumption) ?_
      rotate_left
      · intro w hSw; (try dsimp only at hSw); first | (go_simp; done) | (go_simp; with_reducible rfl)
      try simp only [go_sem]
      refine wpAnyH_take (i := 3) (oi := _) (v := ?_) rfl (by kernel_rfl) (by kernel_rfl) (by kernel_rfl) (fun _ _ _ h => h) (Or.inl ⟨by rfl, ?_⟩) (by assumption) ?_
      rotate_left
      · intro w hSw; (try dsimp only at hSw); first | (go_simp; done) | (go_simp; with_reducible rfl)
      try simp only [go_sem]
      refine wpAnyH_ready (rs := [1, 4]) (by kernel_rfl) (by simp) ?_
      refine AllReadyH.cons (o := _) rfl (fun K hK => ?_) (AllReadyH.cons (o := _) rfl (fun K hK => ?_) AllReadyH.nil)
      · go_simp
        refine hK.out _ _ ?_ (fun hH1 => ?_)
        · exact trivial
        clear hK K hH0
        try simp only [go_sem]
        refine wpAnyH_ready (rs := [4]) (by kernel_rfl) (by simp) ?_
        refine AllReadyH.cons (o := _) rfl (fun K hK => ?_) AllReadyH.nil
        go_simp; refine (effects_at Q2.out g _ HL1d.out.c.r).mono ?_; rintro vv w2 ⟨sp2, n2, c2, rfl, he, hr, hg, hfr⟩; have HL2 := Lib.hid (HL1d.out.call hgl hr hg); have HE2 : Hid (EfsX w2 (w.heap.size + 2) (Value.slice st k sc).ownBlock sp2 n2 le) := Lib.hid ⟨he, (fun a ha _ q => by have h1 := hfr a ha; have h2 := (HL1d.out.own.lt _ q).2; omega), fun a ha _ => by have h1 := hfr a ha; have h2 := HL1d.out.c.c.lt; omega⟩; have u13 : w2.cell? ⟨w.heap.size + 1, 12, none⟩ = some (.slice st k sc) := HL2.out.c.c.cell 12; have u14 : (w2.alloc (.cells #[.int .i64 wv, .slice sp2 n2 c2] 47)).cell? ⟨w.heap.size + 1, 12, none⟩ = some (.slice st k sc) := (HL2.out.c.c.alloc _).cell 12; have zc := HL2.out.c.c.lt; clear he hr hg hfr
        refine hK.out _ _ ?_ (fun hH2 => ?_)
        · exact trivial
        clear hK K hH1
        try simp only [go_sem]
        refine wpAnyH_take (i := 5) (oi := _) (v := ?_) rfl (by kernel_rfl) (by kernel_rfl) (by kernel_rfl) (fun _ _ _ h => h) (Or.inl ⟨by rfl, ?_⟩) (by assumption) ?_
        rotate_left
        · intro w hSw; (try dsimp only at hSw); first | (go_simp; done) | (go_simp; with_reducible rfl)
        try simp only [go_sem]
        refine wpAnyH_ready (rs := [6]) (by kernel_rfl) (by simp) ?_
        refine AllReadyH.cons (o := _) rfl (fun K hK => ?_) AllReadyH.nil
        go_simp
        refine hK.out _ _ ?_ (fun hH3 => ?_)
        · exact trivial
        clear hK K hH2
        try simp only [go_sem]
        refine wpAnyH_ready (rs := [7]) (by kernel_rfl) (by simp) ?_
        refine AllReadyH.cons (o := _) rfl (fun K hK => ?_) AllReadyH.nil
        refine step_append_lies _ (by rfl) _ _ _ (by rfl) w.heap.size 47 i0 (.agg #[.int .i64 0, .slice none 0 0]) 2 32 Tryz.underlying30 hi hz0 hz1 hz2 rfl (by omega) (.slice st k sc) k (txC xs) (by rfl) (by have := (HL2.out.own.alloc (.cells #[.int .i64 wv, .slice sp2 n2 c2] 47)); rw [HLen.out] at this; exact this) ⟨w2.heap.size, 0, none⟩ 1 1 [.int .i64 wv, .slice sp2 n2 c2] (by rfl) (by rfl) (World.news_of_block (cs := #[.int .i64 wv, .slice sp2 n2 c2]) (t := 47) (fr := (0, 0)) (heap_alloc_new w2 _)) (by simp [Value.oneCell']) (by omega) (by unfold maxLen; omega) (by omega) (by have := HL2.out.c.b.size; simp; omega) (w2.heap.size + 1) (by simp) ?_; intro g5 cap5 w5 hown hgrow hat _; have HA := Lib.hid (LP.alloc HL2.out (.cells #[.int .i64 wv, .slice sp2 n2 c2] 47)); have hc5 := own_has' hgrow HA.out.own HA.out.c.c (by decide); have u15 : w5.cell? ⟨w.heap.size + 1, 12, none⟩ = some (.slice st k sc) := hc5.cell 12; have f15 : w5.frozen? ⟨w.heap.size + 1, 12, none⟩ = false := hc5.free 12; have HP5 := Lib.hid (LP.app (t := ⟨wv, le⟩) (x := ⟨wv, sp2, n2, c2⟩) HA.out hgl rfl (HE2.out.alloc _) (by rw [HLen.out]; exact hown) hgrow (by simpa using hat) ⟨.slice st k sc, rfl, by intro y; simp, by intro y; simp⟩); clear hown hgrow hat hc5
        refine hK.out _ _ ?_ (fun hH4 => ?_)
        · exact trivial
        clear hK K hH3
        try simp only [go_sem]
        refine wpAnyH_take (i := 8) (oi := _) (v := ?_) rfl (by kernel_rfl) (by kernel_rfl) (by kernel_rfl) (fun _ _ _ h => h) (Or.inl ⟨by rfl, ?_⟩) (by assumption) ?_
        rotate_left
        · intro w hSw; (try dsimp only at hSw); first | (go_simp; done) | (go_simp; with_reducible rfl)
        try simp only [go_sem]
        refine wpAnyH_ready (rs := [9]) (by kernel_rfl) (by simp) ?_
        refine AllReadyH.cons (o := _) rfl (fun K hK => ?_) AllReadyH.nil
        go_simp
        refine hK.out _ _ ?_ (fun hH5 => ?_)
        · exact trivial
        clear hK K hH4
        try simp only [go_sem]
        refine wpAnyH_done (by kernel_rfl) ?_ _
        have HP6 := HP5.out
        rw [HLen.out] at HP6
        have HP7 := Lib.hid HP6
        clear HP6 u15 f15
        go_wp2_with fail
        exact ⟨⟨k + 1, _, _, _, by omega, by go_num, Lib.hid (by rw [HX.out.1, HX.out.2]; exact HP7.out)⟩, by simp [intOf]; omega⟩
      · go_simp; refine (effects_at Q2.out g _ HL1d.out.c.r).mono ?_; rintro vv w2 ⟨sp2, n2, c2, rfl, he, hr, hg, hfr⟩; have HL2 := Lib.hid (HL1d.out.call hgl hr hg); have HE2 : Hid (EfsX w2 (w.heap.size + 2) (Value.slice st k sc).ownBlock sp2 n2 le) := Lib.hid ⟨he, (fun a ha _ q => by have h1 := hfr a ha; have h2 := (HL1d.out.own.lt _ q).2; omega), fun a ha _ => by have h1 := hfr a ha; have h2 := HL1d.out.c.c.lt; omega⟩; have u13 : w2.cell? ⟨w.heap.size + 1, 12, none⟩ = some (.slice st k sc) := HL2.out.c.c.cell 12; have u14 : (w2.alloc (.cells #[.int .i64 wv, .slice sp2 n2 c2] 47)).cell? ⟨w.heap.size + 1, 12, none⟩ = some (.slice st k sc) := (HL2.out.c.c.alloc _).cell 12; have zc := HL2.out.c.c.lt; clear he hr hg hfr
        refine hK.out _ _ ?_ (fun hH1 => ?_)
        · exact trivial
        clear hK K hH0
        try simp only [go_sem]
        refine wpAnyH_take (i := 5) (oi := _) (v := ?_) rfl (by kernel_rfl) (by kernel_rfl) (by kernel_rfl) (fun _ _ _ h => h) (Or.inl ⟨by rfl, ?_⟩) (by assumption) ?_
        rotate_left
        · intro w hSw; (try dsimp only at hSw); first | (go_simp; done) | (go_simp; with_reducible rfl)
        try simp only [go_sem]
        refine wpAnyH_ready (rs := [1, 6]) (by kernel_rfl) (by simp) ?_
        refine AllReadyH.cons (o := _) rfl (fun K hK => ?_) (AllReadyH.cons (o := _) rfl (fun K hK => ?_) AllReadyH.nil)
        · go_simp
          refine hK.out _ _ ?_ (fun hH2 => ?_)
          · exact trivial
          clear hK K hH1
          try simp only [go_sem]
          refine wpAnyH_ready (rs := [6]) (by kernel_rfl) (by simp) ?_
          refine AllReadyH.cons (o := _) rfl (fun K hK => ?_) AllReadyH.nil
          go_simp
          refine hK.out _ _ ?_ (fun hH3 => ?_)
          · exact trivial
          clear hK K hH2
          try simp only [go_sem]
          refine wpAnyH_ready (rs := [7]) (by kernel_rfl) (by simp) ?_
          refine AllReadyH.cons (o := _) rfl (fun K hK => ?_) AllReadyH.nil
          refine step_append_lies _ (by rfl) _ _ _ (by rfl) w.heap.size 47 i0 (.agg #[.int .i64 0, .slice none 0 0]) 2 32 Tryz.underlying30 hi hz0 hz1 hz2 rfl (by omega) (.slice st k sc) k (txC xs) (by rfl) (by have := (HL2.out.own.alloc (.cells #[.int .i64 wv, .slice sp2 n2 c2] 47)); rw [HLen.out] at this; exact this) ⟨w2.heap.size, 0, none⟩ 1 1 [.int .i64 wv, .slice sp2 n2 c2] (by rfl) (by rfl) (World.news_of_block (cs := #[.int .i64 wv, .slice sp2 n2 c2]) (t := 47) (fr := (0, 0)) (heap_alloc_new w2 _)) (by simp [Value.oneCell']) (by omega) (by unfold maxLen; omega) (by omega) (by have := HL2.out.c.b.size; simp; omega) (w2.heap.size + 1) (by simp) ?_; intro g5 cap5 w5 hown hgrow hat _; have HA := Lib.hid (LP.alloc HL2.out (.cells #[.int .i64 wv, .slice sp2 n2 c2] 47)); have hc5 := own_has' hgrow HA.out.own HA.out.c.c (by decide); have u15 : w5.cell? ⟨w.heap.size + 1, 12, none⟩ = some (.slice st k sc) := hc5.cell 12; have f15 : w5.frozen? ⟨w.heap.size + 1, 12, none⟩ = false := hc5.free 12; have HP5 := Lib.hid (LP.app (t := ⟨wv, le⟩) (x := ⟨wv, sp2, n2, c2⟩) HA.out hgl rfl (HE2.out.alloc _) (by rw [HLen.out]; exact hown) hgrow (by simpa using hat) ⟨.slice st k sc, rfl, by intro y; simp, by intro y; simp⟩); clear hown hgrow hat hc5
          refine hK.out _ _ ?_ (fun hH4 => ?_)
          · exact trivial
          clear hK K hH3
          try simp only [go_sem]
          refine wpAnyH_take (i := 8) (oi := _) (v := ?_) rfl (by kernel_rfl) (by kernel_rfl) (by kernel_rfl) (fun _ _ _ h => h) (Or.inl ⟨by rfl, ?_⟩) (by assumption) ?_
          rotate_left
          · intro w hSw; (try dsimp only at hSw); first | (go_simp; done) | (go_simp; with_reducible rfl)
          try simp only [go_sem]
          refine wpAnyH_ready (rs := [9]) (by kernel_rfl) (by simp) ?_
          refine AllReadyH.cons (o := _) rfl (fun K hK => ?_) AllReadyH.nil
          go_simp
          refine hK.out _ _ ?_ (fun hH5 => ?_)
          · exact trivial
          clear hK K hH4
          try simp only [go_sem]
          refine wpAnyH_done (by kernel_rfl) ?_ _
          have HP6 := HP5.out
          rw [HLen.out] at HP6
          have HP7 := Lib.hid HP6
          clear HP6 u15 f15
          go_wp2_with fail
          exact ⟨⟨k + 1, _, _, _, by omega, by go_num, Lib.hid (by rw [HX.out.1, HX.out.2]; exact HP7.out)⟩, by simp [intOf]; omega⟩
        · go_simp
          refine hK.out _ _ ?_ (fun hH2 => ?_)
          · exact trivial
          clear hK K hH1
          try simp only [go_sem]
          refine wpAnyH_ready (rs := [1]) (by kernel_rfl) (by simp) ?_
          refine AllReadyH.cons (o := _) rfl (fun K hK => ?_) AllReadyH.nil
          go_simp
          refine hK.out _ _ ?_ (fun hH3 => ?_)
          · exact trivial
          clear hK K hH2
          try simp only [go_sem]
          refine wpAnyH_ready (rs := [7]) (by kernel_rfl) (by simp) ?_
          refine AllReadyH.cons (o := _) rfl (fun K hK => ?_) AllReadyH.nil
          refine step_append_lies _ (by rfl) _ _ _ (by rfl) w.heap.size 47 i0 (.agg #[.int .i64 0, .slice none 0 0]) 2 32 Tryz.underlying30 hi hz0 hz1 hz2 rfl (by omega) (.slice st k sc) k (txC xs) (by rfl) (by have := (HL2.out.own.alloc (.cells #[.int .i64 wv, .slice sp2 n2 c2] 47)); rw [HLen.out] at this; exact this) ⟨w2.heap.size, 0, none⟩ 1 1 [.int .i64 wv, .slice sp2 n2 c2] (by rfl) (by rfl) (World.news_of_block (cs := #[.int .i64 wv, .slice sp2 n2 c2]) (t := 47) (fr := (0, 0)) (heap_alloc_new w2 _)) (by simp [Value.oneCell']) (by omega) (by unfold maxLen; omega) (by omega) (by have := HL2.out.c.b.size; simp; omega) (w2.heap.size + 1) (by simp) ?_; intro g5 cap5 w5 hown hgrow hat _; have HA := Lib.hid (LP.alloc HL2.out (.cells #[.int .i64 wv, .slice sp2 n2 c2] 47)); have hc5 := own_has' hgrow HA.out.own HA.out.c.c (by decide); have u15 : w5.cell? ⟨w.heap.size + 1, 12, none⟩ = some (.slice st k sc) := hc5.cell 12; have f15 : w5.frozen? ⟨w.heap.size + 1, 12, none⟩ = false := hc5.free 12; have HP5 := Lib.hid (LP.app (t := ⟨wv, le⟩) (x := ⟨wv, sp2, n2, c2⟩) HA.out hgl rfl (HE2.out.alloc _) (by rw [HLen.out]; exact hown) hgrow (by simpa using hat) ⟨.slice st k sc, rfl, by intro y; simp, by intro y; simp⟩); clear hown hgrow hat hc5
          refine hK.out _ _ ?_ (fun hH4 => ?_)
          · exact trivial
          clear hK K hH3
          try simp only [go_sem]
          refine wpAnyH_take (i := 8) (oi := _) (v := ?_) rfl (by kernel_rfl) (by kernel_rfl) (by kernel_rfl) (fun _ _ _ h => h) (Or.inl ⟨by rfl, ?_⟩) (by assumption) ?_
          rotate_left
          · intro w hSw; (try dsimp only at hSw); first | (go_simp; done) | (go_simp; with_reducible rfl)
          try simp only [go_sem]
          refine wpAnyH_ready (rs := [9]) (by kernel_rfl) (by simp) ?_
          refine AllReadyH.cons (o := _) rfl (fun K hK => ?_) AllReadyH.nil
          go_simp
          refine hK.out _ _ ?_ (fun hH5 => ?_)
          · exact trivial
          clear hK K hH4
          try simp only [go_sem]
          refine wpAnyH_done (by kernel_rfl) ?_ _
          have HP6 := HP5.out
          rw [HLen.out] at HP6
          have HP7 := Lib.hid HP6
          clear HP6 u15 f15
          go_wp2_with fail
          exact ⟨⟨k + 1, _, _, _, by omega, by go_num, Lib.hid (by rw [HX.out.1, HX.out.2]; exact HP7.out)⟩, by simp [intOf]; omega⟩
    · obtain rfl : k = m := by omega
      obtain ⟨p0, p1, p2, p3, p4, p5, p6, p7, p8, p9, pa, pb, pc, pd, pf⟩ := card14 HL.out.c.c
      obtain ⟨y0, y1, y2, y3, y4, y5, y6, y7, y8, y9, ya, yb, yc, yd, yf⟩ := card14 HL.out.c.a
      go_wp2_with fail
      have RR : has ((((((((((((((wr.setCell ⟨w.heap.size, 0, none⟩ (.string (bs nm))).setCell ⟨w.heap.size, 1, none⟩ (.int .i64 kd)).setCell ⟨w.heap.size, 2, none⟩ (.int .i64 a)).setCell ⟨w.heap.size, 3, none⟩ (.int .i64 b)).setCell ⟨w.heap.size, 4, none⟩ (.int .i64 c)).setCell ⟨w.heap.size, 5, none⟩ (.int .i64 d)).setCell ⟨w.heap.size, 6, none⟩ (.int .i64 x)).setCell ⟨w.heap.size, 7, none⟩ (.int .i64 ml)).setCell ⟨w.heap.size, 8, none⟩ (.int .i64 pw)).setCell ⟨w.heap.size, 9, none⟩ (.int .i64 tg)).setCell ⟨w.heap.size, 10, none⟩ (.int .i64 kw)).setCell ⟨w.heap.size, 11, none⟩ (.slice es en ec)).setCell ⟨w.heap.size, 12, none⟩ (.slice st k sc)).setCell ⟨w.heap.size, 13, none⟩ (.int .i64 ra)) w.heap.size 32 (cL (bs nm) kd a b c d x ml pw tg kw es en ec st k sc ra) := ((((((((((((((HL.out.c.a.put 0 (.string (bs nm))).put 1 (.int .i64 kd)).put 2 (.int .i64 a)).put 3 (.int .i64 b)).put 4 (.int .i64 c)).put 5 (.int .i64 d)).put 6 (.int .i64 x)).put 7 (.int .i64 ml)).put 8 (.int .i64 pw)).put 9 (.int .i64 tg)).put 10 (.int .i64 kw)).put 11 (.slice es en ec)).put 12 (.slice st k sc)).put 13 (.int .i64 ra))
      have RG : wr.grownBy ((((((((((((((wr.setCell ⟨w.heap.size, 0, none⟩ (.string (bs nm))).setCell ⟨w.heap.size, 1, none⟩ (.int .i64 kd)).setCell ⟨w.heap.size, 2, none⟩ (.int .i64 a)).setCell ⟨w.heap.size, 3, none⟩ (.int .i64 b)).setCell ⟨w.heap.size, 4, none⟩ (.int .i64 c)).setCell ⟨w.heap.size, 5, none⟩ (.int .i64 d)).setCell ⟨w.heap.size, 6, none⟩ (.int .i64 x)).setCell ⟨w.heap.size, 7, none⟩ (.int .i64 ml)).setCell ⟨w.heap.size, 8, none⟩ (.int .i64 pw)).setCell ⟨w.heap.size, 9, none⟩ (.int .i64 tg)).setCell ⟨w.heap.size, 10, none⟩ (.int .i64 kw)).setCell ⟨w.heap.size, 11, none⟩ (.slice es en ec)).setCell ⟨w.heap.size, 12, none⟩ (.slice st k sc)).setCell ⟨w.heap.size, 13, none⟩ (.int .i64 ra)) (some w.heap.size) := (grown_trans (grown_trans (grown_trans (grown_trans (grown_trans (grown_trans (grown_trans (grown_trans (grown_trans (grown_trans (grown_trans (grown_trans (grown_trans (grown_trans (grown_refl wr (some w.heap.size)) (grown_set _ ⟨w.heap.size, 0, none⟩ (.string (bs nm)))) (grown_set _ ⟨w.heap.size, 1, none⟩ (.int .i64 kd))) (grown_set _ ⟨w.heap.size, 2, none⟩ (.int .i64 a))) (grown_set _ ⟨w.heap.size, 3, none⟩ (.int .i64 b))) (grown_set _ ⟨w.heap.size, 4, none⟩ (.int .i64 c))) (grown_set _ ⟨w.heap.size, 5, none⟩ (.int .i64 d))) (grown_set _ ⟨w.heap.size, 6, none⟩ (.int .i64 x))) (grown_set _ ⟨w.heap.size, 7, none⟩ (.int .i64 ml))) (grown_set _ ⟨w.heap.size, 8, none⟩ (.int .i64 pw))) (grown_set _ ⟨w.heap.size, 9, none⟩ (.int .i64 tg))) (grown_set _ ⟨w.heap.size, 10, none⟩ (.int .i64 kw))) (grown_set _ ⟨w.heap.size, 11, none⟩ (.slice es en ec))) (grown_set _ ⟨w.heap.size, 12, none⟩ (.slice st k sc))) (grown_set _ ⟨w.heap.size, 13, none⟩ (.int .i64 ra)))
      obtain ⟨F, hF⟩ : ∃ F, ((((((((((((((wr.setCell ⟨w.heap.size, 0, none⟩ (.string (bs nm))).setCell ⟨w.heap.size, 1, none⟩ (.int .i64 kd)).setCell ⟨w.heap.size, 2, none⟩ (.int .i64 a)).setCell ⟨w.heap.size, 3, none⟩ (.int .i64 b)).setCell ⟨w.heap.size, 4, none⟩ (.int .i64 c)).setCell ⟨w.heap.size, 5, none⟩ (.int .i64 d)).setCell ⟨w.heap.size, 6, none⟩ (.int .i64 x)).setCell ⟨w.heap.size, 7, none⟩ (.int .i64 ml)).setCell ⟨w.heap.size, 8, none⟩ (.int .i64 pw)).setCell ⟨w.heap.size, 9, none⟩ (.int .i64 tg)).setCell ⟨w.heap.size, 10, none⟩ (.int .i64 kw)).setCell ⟨w.heap.size, 11, none⟩ (.slice es en ec)).setCell ⟨w.heap.size, 12, none⟩ (.slice st k sc)).setCell ⟨w.heap.size, 13, none⟩ (.int .i64 ra)) = F := ⟨_, rfl⟩
      rw [hF] at RR RG ⊢
      clear hF
      have hlen := trL_len s15 k
      obtain ⟨sp', c', hv, hcd, hle, hrd, hgw, hfar⟩ := HL.out.fin hgl RG (by rw [hlen]; omega) (trL_ok s15 k)
      rw [hlen] at hv hcd hle hfar
      cases hv
      obtain ⟨k0, k1, k2, k3, k4, k5, k6, k7, k8, k9, ka, kb, kc, kk, kf⟩ := card14 RR
      refine bodyPost_ret (v := cV (bs nm) kd a b c d x ml pw tg kw es en ec st k sc ra) (by simp [results, Tryz.results40, go_sem, k0, k1, k2, k3, k4, k5, k6, k7, k8, k9, ka, kb, kc, kk]) rfl ?_
      exact ⟨_, _, es, en, ec, st, k, sc, HRD.out, rfl, hcd, hle, hrd, hgw, hfar⟩
end Go.Proofs.YtlhnnjllbcglcaaGreatDoor.caFn

/- The card that bytes begin with: what Decode returns. -/
namespace Go.Proofs.YtlhnnjllbcglcaaGreatDoor.caFn
open Go.ChangeShapes Go.WideShapes Go.ChangeAt Go.RowKit drMem efFn
set_option linter.unusedVariables false

abbrev zeroCd : Cd := ⟨[], 0, 0, 0, 0, 0, 0, 0, 0, 0, 0, [], [], 0⟩
/- Decode's card, its number of bytes, its error: q and s' are what the reader reads -/
def deV (l : List UInt8) (q : Cd) (s' : Rd) : Cd × Int × Int :=
  if s'.2 ≠ 0 then (zeroCd, 0, s'.2) else if okCd q = true then (q, (l.length : Int) - s'.1.length, 0) else (zeroCd, 0, 6)
abbrev cdV (q : Cd) (es : Option Addr) (en ec : Nat) (ts : Option Addr) (tn tc : Nat) : Value := cV (bs q.nm) q.kd q.a q.b q.c q.d q.x q.ml q.pw q.tg q.kw es en ec ts tn tc q.ra
def dePost (l : List UInt8) (w : World) (v : Ending) (W : World) : Prop :=
  ∃ q s' es en ec ts tn tc, RdC (l, 0) q s' ∧ v = .returned (.tuple #[cdV (deV l q s').1 es en ec ts tn tc, .int .i64 (deV l q s').2.1, .int .i64 (deV l q s').2.2]) ∧ CdAt W es en (deV l q s').1.ef ts tn (deV l q s').1.tr ∧ tn ≤ tc ∧ Below w.heap.size w W
theorem below_new {a b c : World} {g : Nat} (h : Below a.heap.size a b) (k : b.grownBy c (some g)) (hg : a.heap.size ≤ g) : Below a.heap.size a c :=
  h.grown k h.size (fun q hq => by cases hq; exact hg)
theorem grown_drew (W : World) (row : Option Nat) : W.grownBy W.drew row := ⟨rfl, rfl, rfl, Nat.le_refl _, fun _ _ _ => rfl⟩
theorem has_drew {W : World} {g : Nat} {t : TypeId} {cs : List Value} (h : has W g t cs) : has W.drew g t cs := h
set_option maxRecDepth 100000 in
set_option maxHeartbeats 16000000 in
theorem DecodeC_any (sp : Option Addr) (n cap : Nat) (l : List UInt8) (w : World) (h : BsAt w sp n l) (hcap : n ≤ cap) :
    Calls Tryz.prog 27 #[.slice sp n cap] w (dePost l w) := by
  have hn := h.n
  have hm := h.m
  have B0 : Below w.heap.size w ((w.alloc (.cells #[.string ⟨#[]⟩, .int .i64 0, .int .i64 0, .int .i64 0, .int .i64 0, .int .i64 0, .int .i64 0, .int .i64 0, .int .i64 0, .int .i64 0, .int .i64 0, .slice none 0 0, .slice none 0 0, .int .i64 0] 32)).alloc (.cells #[.slice sp n cap, .int .i64 0] 80)) := ((Below.refl _ w).alloc (Nat.le_refl _) _).alloc (by simp) _
  have HA0 : Hid (has ((w.alloc (.cells #[.string ⟨#[]⟩, .int .i64 0, .int .i64 0, .int .i64 0, .int .i64 0, .int .i64 0, .int .i64 0, .int .i64 0, .int .i64 0, .int .i64 0, .int .i64 0, .slice none 0 0, .slice none 0 0, .int .i64 0] 32)).alloc (.cells #[.slice sp n cap, .int .i64 0] 80)) w.heap.size 32 zeroL) := Lib.hid ((new0 w 32 zeroL).alloc _)
  have HR0 : Hid (RdIn ((w.alloc (.cells #[.string ⟨#[]⟩, .int .i64 0, .int .i64 0, .int .i64 0, .int .i64 0, .int .i64 0, .int .i64 0, .int .i64 0, .int .i64 0, .int .i64 0, .int .i64 0, .slice none 0 0, .slice none 0 0, .int .i64 0] 32)).alloc (.cells #[.slice sp n cap, .int .i64 0] 80)) (w.heap.size + 1) (l, 0)) := Lib.hid ⟨sp, n, cap, by have := has.new (w.alloc (.cells #[.string ⟨#[]⟩, .int .i64 0, .int .i64 0, .int .i64 0, .int .i64 0, .int .i64 0, .int .i64 0, .int .i64 0, .int .i64 0, .int .i64 0, .int .i64 0, .slice none 0 0, .slice none 0 0, .int .i64 0] 32)) 80 [.slice sp n cap, .int .i64 0]; simpa using this, h.below B0 (Nat.le_refl _), hcap, fun a ha h0 => by
    obtain ⟨b, off, e, hb, _⟩ := h.c (by rw [bys_len, hn]; exact h0)
    rw [ha] at e
    cases e
    show b < _
    omega⟩
  have HC := card_any (l, 0) (w.heap.size + 1) _ HR0.out (by simp)
  have HB0 := Lib.hid B0
  have HN := Lib.hid hn
  clear B0 h hn
  go_enter Tryz.func27, Tryz.ntmps27
  go_wp2_with fail
  refine HC.mono ?_; rintro v w1 ⟨q, s', es, en, ec, ts, tn, tc, hrd, rfl, hcd, hle, hr, hg, hfar⟩
  obtain ⟨nm, kd, a, b, c, d, x, ml, pw, tg, kw, ef, tr, ra⟩ := q
  obtain ⟨lr, er⟩ := s'
  have HRD := Lib.hid hrd
  dsimp only at hcd hfar
  have HCD := Lib.hid hcd
  have HA1 := Lib.hid (HA0.out.grown hg (by intro e; have := Option.some.inj e; omega))
  have HB1 := Lib.hid (below_new HB0.out hg (by omega))
  have HR1 := Lib.hid hr
  clear hrd hcd hr hg
  obtain ⟨y0, y1, y2, y3, y4, y5, y6, y7, y8, y9, ya, yb, yc, yd, yf⟩ := card14 HA1.out
  dsimp only
  go_upto_region 3 with fail
  have RA : has ((((((((((((((w1.setCell ⟨w.heap.size, 0, none⟩ (.string (bs nm))).setCell ⟨w.heap.size, 1, none⟩ (.int .i64 kd)).setCell ⟨w.heap.size, 2, none⟩ (.int .i64 a)).setCell ⟨w.heap.size, 3, none⟩ (.int .i64 b)).setCell ⟨w.heap.size, 4, none⟩ (.int .i64 c)).setCell ⟨w.heap.size, 5, none⟩ (.int .i64 d)).setCell ⟨w.heap.size, 6, none⟩ (.int .i64 x)).setCell ⟨w.heap.size, 7, none⟩ (.int .i64 ml)).setCell ⟨w.heap.size, 8, none⟩ (.int .i64 pw)).setCell ⟨w.heap.size, 9, none⟩ (.int .i64 tg)).setCell ⟨w.heap.size, 10, none⟩ (.int .i64 kw)).setCell ⟨w.heap.size, 11, none⟩ (.slice es en ec)).setCell ⟨w.heap.size, 12, none⟩ (.slice ts tn tc)).setCell ⟨w.heap.size, 13, none⟩ (.int .i64 ra)) w.heap.size 32 (cL (bs nm) kd a b c d x ml pw tg kw es en ec ts tn tc ra) := ((((((((((((((HA1.out.put 0 (.string (bs nm))).put 1 (.int .i64 kd)).put 2 (.int .i64 a)).put 3 (.int .i64 b)).put 4 (.int .i64 c)).put 5 (.int .i64 d)).put 6 (.int .i64 x)).put 7 (.int .i64 ml)).put 8 (.int .i64 pw)).put 9 (.int .i64 tg)).put 10 (.int .i64 kw)).put 11 (.slice es en ec)).put 12 (.slice ts tn tc)).put 13 (.int .i64 ra))
  have RG : w1.grownBy ((((((((((((((w1.setCell ⟨w.heap.size, 0, none⟩ (.string (bs nm))).setCell ⟨w.heap.size, 1, none⟩ (.int .i64 kd)).setCell ⟨w.heap.size, 2, none⟩ (.int .i64 a)).setCell ⟨w.heap.size, 3, none⟩ (.int .i64 b)).setCell ⟨w.heap.size, 4, none⟩ (.int .i64 c)).setCell ⟨w.heap.size, 5, none⟩ (.int .i64 d)).setCell ⟨w.heap.size, 6, none⟩ (.int .i64 x)).setCell ⟨w.heap.size, 7, none⟩ (.int .i64 ml)).setCell ⟨w.heap.size, 8, none⟩ (.int .i64 pw)).setCell ⟨w.heap.size, 9, none⟩ (.int .i64 tg)).setCell ⟨w.heap.size, 10, none⟩ (.int .i64 kw)).setCell ⟨w.heap.size, 11, none⟩ (.slice es en ec)).setCell ⟨w.heap.size, 12, none⟩ (.slice ts tn tc)).setCell ⟨w.heap.size, 13, none⟩ (.int .i64 ra)) (some w.heap.size) := (grown_trans (grown_trans (grown_trans (grown_trans (grown_trans (grown_trans (grown_trans (grown_trans (grown_trans (grown_trans (grown_trans (grown_trans (grown_trans (grown_trans (grown_refl w1 (some w.heap.size)) (grown_set _ ⟨w.heap.size, 0, none⟩ (.string (bs nm)))) (grown_set _ ⟨w.heap.size, 1, none⟩ (.int .i64 kd))) (grown_set _ ⟨w.heap.size, 2, none⟩ (.int .i64 a))) (grown_set _ ⟨w.heap.size, 3, none⟩ (.int .i64 b))) (grown_set _ ⟨w.heap.size, 4, none⟩ (.int .i64 c))) (grown_set _ ⟨w.heap.size, 5, none⟩ (.int .i64 d))) (grown_set _ ⟨w.heap.size, 6, none⟩ (.int .i64 x))) (grown_set _ ⟨w.heap.size, 7, none⟩ (.int .i64 ml))) (grown_set _ ⟨w.heap.size, 8, none⟩ (.int .i64 pw))) (grown_set _ ⟨w.heap.size, 9, none⟩ (.int .i64 tg))) (grown_set _ ⟨w.heap.size, 10, none⟩ (.int .i64 kw))) (grown_set _ ⟨w.heap.size, 11, none⟩ (.slice es en ec))) (grown_set _ ⟨w.heap.size, 12, none⟩ (.slice ts tn tc))) (grown_set _ ⟨w.heap.size, 13, none⟩ (.int .i64 ra)))
  obtain ⟨F, hF⟩ : ∃ F, ((((((((((((((w1.setCell ⟨w.heap.size, 0, none⟩ (.string (bs nm))).setCell ⟨w.heap.size, 1, none⟩ (.int .i64 kd)).setCell ⟨w.heap.size, 2, none⟩ (.int .i64 a)).setCell ⟨w.heap.size, 3, none⟩ (.int .i64 b)).setCell ⟨w.heap.size, 4, none⟩ (.int .i64 c)).setCell ⟨w.heap.size, 5, none⟩ (.int .i64 d)).setCell ⟨w.heap.size, 6, none⟩ (.int .i64 x)).setCell ⟨w.heap.size, 7, none⟩ (.int .i64 ml)).setCell ⟨w.heap.size, 8, none⟩ (.int .i64 pw)).setCell ⟨w.heap.size, 9, none⟩ (.int .i64 tg)).setCell ⟨w.heap.size, 10, none⟩ (.int .i64 kw)).setCell ⟨w.heap.size, 11, none⟩ (.slice es en ec)).setCell ⟨w.heap.size, 12, none⟩ (.slice ts tn tc)).setCell ⟨w.heap.size, 13, none⟩ (.int .i64 ra)) = F := ⟨_, rfl⟩
  rw [hF] at RA RG ⊢
  clear hF HCD yf y0 y1 y2 y3 y4 y5 y6 y7 y8 y9 ya yb yc yd
  have HCF := Lib.hid (hfar F w.heap.size (by simp; omega) RG)
  have HRF : Hid (RdIn F (w.heap.size + 1) (lr, er)) := Lib.hid (by
    obtain ⟨sq, nq, cq, h1, h2, h3, h4⟩ := HR1.out
    refine ⟨sq, nq, cq, h1.grown RG (by intro e; have := Option.some.inj e; omega), ⟨h2.n, h2.m, fun h0 => ?_⟩, h3, h4⟩
    obtain ⟨b2, off, e, hb, hc⟩ := h2.c h0
    have hne : b2 ≠ w.heap.size := by
      intro q
      obtain ⟨x, r, hx⟩ : ∃ x r, lr = x :: r := by
        cases lr with
        | nil => simp [bys] at h0
        | cons x r => exact ⟨x, r, rfl⟩
      have h5 := hc 0 (.int .u8 (x.toNat : Int)) (by rw [hx]; rfl)
      rw [q, HA1.out.cell] at h5
      have h6 := List.mem_of_getElem? h5
      simp at h6
    exact ⟨b2, off, e, by have := RG.size; omega, fun j y hy => (World.cell?_of_block (RG.block b2 hb (by intro e; have := Option.some.inj e; omega))).trans (hc j y hy)⟩)
  have HBF := Lib.hid (below_new HB1.out RG (Nat.le_refl _))
  have HRA := Lib.hid RA
  have HG1 := Lib.hid RG
  have HFAR := Lib.hid hfar
  clear RG hfar
  obtain ⟨sq, nq, cq, hbox, hbq, hlq, hltq⟩ := HRF.out
  dsimp only at hbox hbq
  obtain ⟨t0, t1, t2⟩ := two hbox
  have hlen := hbq.n
  have HLQ := Lib.hid hlen
  obtain ⟨k0, k1, k2, k3, k4, k5, k6, k7, k8, k9, ka, kb, kc, kk, kf⟩ := card14 RA
  clear RA hbox hbq hltq hlen
  by_cases he : er = 0
  · subst he
    have HV := ValidV_any (bs nm) kd a b c d x ml pw tg kw es en ec ts tn tc ra ef tr F HCF.out hle
    go_wp2_with fail
    refine HV.mono ?_; rintro v w2 ⟨rfl, hb2⟩
    have HA2 := Lib.hid (HRA.out.below hb2 HRA.out.lt)
    have HB2 := Lib.hid (HBF.out.trans (hb2.mono HBF.out.size))
    have HC2 := Lib.hid (HCF.out.below hb2 (Nat.le_refl _))
    have HR2 := Lib.hid (RdIn.below HRF.out hb2)
    have HBL2 := Lib.hid hb2
    clear hb2 t0 t1 t2 k0 k1 k2 k3 k4 k5 k6 k7 k8 k9 ka kb kc kk kf
    obtain ⟨sq2, nq2, cq2, hbox, hbq, hlq2, hltq⟩ := HR2.out
    dsimp only at hbox hbq
    obtain ⟨t0, t1, t2⟩ := two hbox
    have HLQ2 := Lib.hid hbq.n
    have HWR := Lib.hid (IntWalk.i64_in ((n : Int) - (nq2 : Int)) (by have := hbq.m; omega))
    clear hbox hbq hltq
    obtain ⟨k0, k1, k2, k3, k4, k5, k6, k7, k8, k9, ka, kb, kc, kk, kf⟩ := card14 HA2.out
    cases ho : okCd ⟨(bs nm).data.toList, kd, a, b, c, d, x, ml, pw, tg, kw, ef, tr, ra⟩
    · have HDE : Hid (deV l ⟨nm, kd, a, b, c, d, x, ml, pw, tg, kw, ef, tr, ra⟩ (lr, 0) = (zeroCd, 0, 6)) := Lib.hid (by unfold deV; rw [if_neg (by simp), if_neg (by rw [show okCd ⟨nm, kd, a, b, c, d, x, ml, pw, tg, kw, ef, tr, ra⟩ = false from ho]; decide)])
      clear ho
      go_wp2_with fail
      have RA : has ((((((((((((((w2.setCell ⟨w.heap.size, 0, none⟩ (.string ⟨#[]⟩)).setCell ⟨w.heap.size, 1, none⟩ (.int .i64 0)).setCell ⟨w.heap.size, 2, none⟩ (.int .i64 0)).setCell ⟨w.heap.size, 3, none⟩ (.int .i64 0)).setCell ⟨w.heap.size, 4, none⟩ (.int .i64 0)).setCell ⟨w.heap.size, 5, none⟩ (.int .i64 0)).setCell ⟨w.heap.size, 6, none⟩ (.int .i64 0)).setCell ⟨w.heap.size, 7, none⟩ (.int .i64 0)).setCell ⟨w.heap.size, 8, none⟩ (.int .i64 0)).setCell ⟨w.heap.size, 9, none⟩ (.int .i64 0)).setCell ⟨w.heap.size, 10, none⟩ (.int .i64 0)).setCell ⟨w.heap.size, 11, none⟩ (.slice none 0 0)).setCell ⟨w.heap.size, 12, none⟩ (.slice none 0 0)).setCell ⟨w.heap.size, 13, none⟩ (.int .i64 0)) w.heap.size 32 zeroL := ((((((((((((((HA2.out.put 0 (.string ⟨#[]⟩)).put 1 (.int .i64 0)).put 2 (.int .i64 0)).put 3 (.int .i64 0)).put 4 (.int .i64 0)).put 5 (.int .i64 0)).put 6 (.int .i64 0)).put 7 (.int .i64 0)).put 8 (.int .i64 0)).put 9 (.int .i64 0)).put 10 (.int .i64 0)).put 11 (.slice none 0 0)).put 12 (.slice none 0 0)).put 13 (.int .i64 0))
      have RG : w2.grownBy ((((((((((((((w2.setCell ⟨w.heap.size, 0, none⟩ (.string ⟨#[]⟩)).setCell ⟨w.heap.size, 1, none⟩ (.int .i64 0)).setCell ⟨w.heap.size, 2, none⟩ (.int .i64 0)).setCell ⟨w.heap.size, 3, none⟩ (.int .i64 0)).setCell ⟨w.heap.size, 4, none⟩ (.int .i64 0)).setCell ⟨w.heap.size, 5, none⟩ (.int .i64 0)).setCell ⟨w.heap.size, 6, none⟩ (.int .i64 0)).setCell ⟨w.heap.size, 7, none⟩ (.int .i64 0)).setCell ⟨w.heap.size, 8, none⟩ (.int .i64 0)).setCell ⟨w.heap.size, 9, none⟩ (.int .i64 0)).setCell ⟨w.heap.size, 10, none⟩ (.int .i64 0)).setCell ⟨w.heap.size, 11, none⟩ (.slice none 0 0)).setCell ⟨w.heap.size, 12, none⟩ (.slice none 0 0)).setCell ⟨w.heap.size, 13, none⟩ (.int .i64 0)) (some w.heap.size) := (grown_trans (grown_trans (grown_trans (grown_trans (grown_trans (grown_trans (grown_trans (grown_trans (grown_trans (grown_trans (grown_trans (grown_trans (grown_trans (grown_trans (grown_refl w2 (some w.heap.size)) (grown_set _ ⟨w.heap.size, 0, none⟩ (.string ⟨#[]⟩))) (grown_set _ ⟨w.heap.size, 1, none⟩ (.int .i64 0))) (grown_set _ ⟨w.heap.size, 2, none⟩ (.int .i64 0))) (grown_set _ ⟨w.heap.size, 3, none⟩ (.int .i64 0))) (grown_set _ ⟨w.heap.size, 4, none⟩ (.int .i64 0))) (grown_set _ ⟨w.heap.size, 5, none⟩ (.int .i64 0))) (grown_set _ ⟨w.heap.size, 6, none⟩ (.int .i64 0))) (grown_set _ ⟨w.heap.size, 7, none⟩ (.int .i64 0))) (grown_set _ ⟨w.heap.size, 8, none⟩ (.int .i64 0))) (grown_set _ ⟨w.heap.size, 9, none⟩ (.int .i64 0))) (grown_set _ ⟨w.heap.size, 10, none⟩ (.int .i64 0))) (grown_set _ ⟨w.heap.size, 11, none⟩ (.slice none 0 0))) (grown_set _ ⟨w.heap.size, 12, none⟩ (.slice none 0 0))) (grown_set _ ⟨w.heap.size, 13, none⟩ (.int .i64 0)))
      obtain ⟨F2, hF⟩ : ∃ F2, ((((((((((((((w2.setCell ⟨w.heap.size, 0, none⟩ (.string ⟨#[]⟩)).setCell ⟨w.heap.size, 1, none⟩ (.int .i64 0)).setCell ⟨w.heap.size, 2, none⟩ (.int .i64 0)).setCell ⟨w.heap.size, 3, none⟩ (.int .i64 0)).setCell ⟨w.heap.size, 4, none⟩ (.int .i64 0)).setCell ⟨w.heap.size, 5, none⟩ (.int .i64 0)).setCell ⟨w.heap.size, 6, none⟩ (.int .i64 0)).setCell ⟨w.heap.size, 7, none⟩ (.int .i64 0)).setCell ⟨w.heap.size, 8, none⟩ (.int .i64 0)).setCell ⟨w.heap.size, 9, none⟩ (.int .i64 0)).setCell ⟨w.heap.size, 10, none⟩ (.int .i64 0)).setCell ⟨w.heap.size, 11, none⟩ (.slice none 0 0)).setCell ⟨w.heap.size, 12, none⟩ (.slice none 0 0)).setCell ⟨w.heap.size, 13, none⟩ (.int .i64 0)) = F2 := ⟨_, rfl⟩
      rw [hF] at RA RG ⊢
      clear hF
      obtain ⟨j0, j1, j2, j3, j4, j5, j6, j7, j8, j9, ja, jb, jc, jk, jf⟩ := card14 RA
      refine bodyPost_ret (v := .tuple #[cV ⟨#[]⟩ 0 0 0 0 0 0 0 0 0 0 none 0 0 none 0 0 0, .int .i64 0, .int .i64 6]) (by simp [results, Tryz.results27, go_sem, j0, j1, j2, j3, j4, j5, j6, j7, j8, j9, ja, jb, jc, jk]) rfl ?_
      refine ⟨_, _, none, 0, 0, none, 0, 0, HRD.out, ?_, ?_, Nat.le_refl _, below_new HB2.out RG (Nat.le_refl _)⟩
      · rw [HDE.out]; rfl
      · rw [HDE.out]; exact ⟨EfsAt.nil _ _, TrsAt.nil _ _⟩
    · have HDE : Hid (deV l ⟨nm, kd, a, b, c, d, x, ml, pw, tg, kw, ef, tr, ra⟩ (lr, 0) = (⟨nm, kd, a, b, c, d, x, ml, pw, tg, kw, ef, tr, ra⟩, (l.length : Int) - lr.length, 0)) := Lib.hid (by unfold deV; rw [if_neg (by simp), if_pos (show okCd ⟨nm, kd, a, b, c, d, x, ml, pw, tg, kw, ef, tr, ra⟩ = true from ho)])
      clear ho
      go_wp2_with fail
      go_region
      have RA : has ((((((((((((((w2.setCell ⟨w.heap.size, 0, none⟩ (.string (bs nm))).setCell ⟨w.heap.size, 1, none⟩ (.int .i64 kd)).setCell ⟨w.heap.size, 2, none⟩ (.int .i64 a)).setCell ⟨w.heap.size, 3, none⟩ (.int .i64 b)).setCell ⟨w.heap.size, 4, none⟩ (.int .i64 c)).setCell ⟨w.heap.size, 5, none⟩ (.int .i64 d)).setCell ⟨w.heap.size, 6, none⟩ (.int .i64 x)).setCell ⟨w.heap.size, 7, none⟩ (.int .i64 ml)).setCell ⟨w.heap.size, 8, none⟩ (.int .i64 pw)).setCell ⟨w.heap.size, 9, none⟩ (.int .i64 tg)).setCell ⟨w.heap.size, 10, none⟩ (.int .i64 kw)).setCell ⟨w.heap.size, 11, none⟩ (.slice es en ec)).setCell ⟨w.heap.size, 12, none⟩ (.slice ts tn tc)).setCell ⟨w.heap.size, 13, none⟩ (.int .i64 ra)).drew w.heap.size 32 (cL (bs nm) kd a b c d x ml pw tg kw es en ec ts tn tc ra) := has_drew ((((((((((((((HA2.out.put 0 (.string (bs nm))).put 1 (.int .i64 kd)).put 2 (.int .i64 a)).put 3 (.int .i64 b)).put 4 (.int .i64 c)).put 5 (.int .i64 d)).put 6 (.int .i64 x)).put 7 (.int .i64 ml)).put 8 (.int .i64 pw)).put 9 (.int .i64 tg)).put 10 (.int .i64 kw)).put 11 (.slice es en ec)).put 12 (.slice ts tn tc)).put 13 (.int .i64 ra))
      have RG : w2.grownBy ((((((((((((((w2.setCell ⟨w.heap.size, 0, none⟩ (.string (bs nm))).setCell ⟨w.heap.size, 1, none⟩ (.int .i64 kd)).setCell ⟨w.heap.size, 2, none⟩ (.int .i64 a)).setCell ⟨w.heap.size, 3, none⟩ (.int .i64 b)).setCell ⟨w.heap.size, 4, none⟩ (.int .i64 c)).setCell ⟨w.heap.size, 5, none⟩ (.int .i64 d)).setCell ⟨w.heap.size, 6, none⟩ (.int .i64 x)).setCell ⟨w.heap.size, 7, none⟩ (.int .i64 ml)).setCell ⟨w.heap.size, 8, none⟩ (.int .i64 pw)).setCell ⟨w.heap.size, 9, none⟩ (.int .i64 tg)).setCell ⟨w.heap.size, 10, none⟩ (.int .i64 kw)).setCell ⟨w.heap.size, 11, none⟩ (.slice es en ec)).setCell ⟨w.heap.size, 12, none⟩ (.slice ts tn tc)).setCell ⟨w.heap.size, 13, none⟩ (.int .i64 ra)).drew (some w.heap.size) := grown_trans (grown_trans (grown_trans (grown_trans (grown_trans (grown_trans (grown_trans (grown_trans (grown_trans (grown_trans (grown_trans (grown_trans (grown_trans (grown_trans (grown_trans (grown_refl w2 (some w.heap.size)) (grown_set _ ⟨w.heap.size, 0, none⟩ (.string (bs nm)))) (grown_set _ ⟨w.heap.size, 1, none⟩ (.int .i64 kd))) (grown_set _ ⟨w.heap.size, 2, none⟩ (.int .i64 a))) (grown_set _ ⟨w.heap.size, 3, none⟩ (.int .i64 b))) (grown_set _ ⟨w.heap.size, 4, none⟩ (.int .i64 c))) (grown_set _ ⟨w.heap.size, 5, none⟩ (.int .i64 d))) (grown_set _ ⟨w.heap.size, 6, none⟩ (.int .i64 x))) (grown_set _ ⟨w.heap.size, 7, none⟩ (.int .i64 ml))) (grown_set _ ⟨w.heap.size, 8, none⟩ (.int .i64 pw))) (grown_set _ ⟨w.heap.size, 9, none⟩ (.int .i64 tg))) (grown_set _ ⟨w.heap.size, 10, none⟩ (.int .i64 kw))) (grown_set _ ⟨w.heap.size, 11, none⟩ (.slice es en ec))) (grown_set _ ⟨w.heap.size, 12, none⟩ (.slice ts tn tc))) (grown_set _ ⟨w.heap.size, 13, none⟩ (.int .i64 ra))) (grown_drew _ _)
      obtain ⟨F2, hF⟩ : ∃ F2, ((((((((((((((w2.setCell ⟨w.heap.size, 0, none⟩ (.string (bs nm))).setCell ⟨w.heap.size, 1, none⟩ (.int .i64 kd)).setCell ⟨w.heap.size, 2, none⟩ (.int .i64 a)).setCell ⟨w.heap.size, 3, none⟩ (.int .i64 b)).setCell ⟨w.heap.size, 4, none⟩ (.int .i64 c)).setCell ⟨w.heap.size, 5, none⟩ (.int .i64 d)).setCell ⟨w.heap.size, 6, none⟩ (.int .i64 x)).setCell ⟨w.heap.size, 7, none⟩ (.int .i64 ml)).setCell ⟨w.heap.size, 8, none⟩ (.int .i64 pw)).setCell ⟨w.heap.size, 9, none⟩ (.int .i64 tg)).setCell ⟨w.heap.size, 10, none⟩ (.int .i64 kw)).setCell ⟨w.heap.size, 11, none⟩ (.slice es en ec)).setCell ⟨w.heap.size, 12, none⟩ (.slice ts tn tc)).setCell ⟨w.heap.size, 13, none⟩ (.int .i64 ra)).drew = F2 := ⟨_, rfl⟩
      rw [hF] at RA RG ⊢
      clear hF
      go_wp2_with fail
      obtain ⟨j0, j1, j2, j3, j4, j5, j6, j7, j8, j9, ja, jb, jc, jk, jf⟩ := card14 RA
      refine bodyPost_ret (v := .tuple #[cV (bs nm) kd a b c d x ml pw tg kw es en ec ts tn tc ra, .int .i64 (IntKind.i64.wrap ((n : Int) - (nq2 : Int))), .int .i64 0]) (by simp [results, Tryz.results27, go_sem, j0, j1, j2, j3, j4, j5, j6, j7, j8, j9, ja, jb, jc, jk]; exact (IntWalk.i64_left _).symm) rfl ?_
      refine ⟨_, _, es, en, ec, ts, tn, tc, HRD.out, ?_, ?_, hle, below_new HB2.out RG (Nat.le_refl _)⟩
      · rw [HDE.out, HN.out, HLQ2.out, HWR.out]
      · rw [HDE.out]; exact HFAR.out F2 w.heap.size (by simp; omega) (grown_trans (grown_trans HG1.out (grown_of_below HBL2.out _)) RG)
  · have HDE : Hid (deV l ⟨nm, kd, a, b, c, d, x, ml, pw, tg, kw, ef, tr, ra⟩ (lr, er) = (zeroCd, 0, er)) := Lib.hid (by unfold deV; rw [if_pos he])
    have e2 : (er != 0) = true := by rw [bne_iff_ne]; exact he
    go_wp2_with fail
    clear he
    go_region
    have RA : has ((((((((((((((F.setCell ⟨w.heap.size, 0, none⟩ (.string ⟨#[]⟩)).setCell ⟨w.heap.size, 1, none⟩ (.int .i64 0)).setCell ⟨w.heap.size, 2, none⟩ (.int .i64 0)).setCell ⟨w.heap.size, 3, none⟩ (.int .i64 0)).setCell ⟨w.heap.size, 4, none⟩ (.int .i64 0)).setCell ⟨w.heap.size, 5, none⟩ (.int .i64 0)).setCell ⟨w.heap.size, 6, none⟩ (.int .i64 0)).setCell ⟨w.heap.size, 7, none⟩ (.int .i64 0)).setCell ⟨w.heap.size, 8, none⟩ (.int .i64 0)).setCell ⟨w.heap.size, 9, none⟩ (.int .i64 0)).setCell ⟨w.heap.size, 10, none⟩ (.int .i64 0)).setCell ⟨w.heap.size, 11, none⟩ (.slice none 0 0)).setCell ⟨w.heap.size, 12, none⟩ (.slice none 0 0)).setCell ⟨w.heap.size, 13, none⟩ (.int .i64 0)).drew w.heap.size 32 zeroL := has_drew ((((((((((((((HRA.out.put 0 (.string ⟨#[]⟩)).put 1 (.int .i64 0)).put 2 (.int .i64 0)).put 3 (.int .i64 0)).put 4 (.int .i64 0)).put 5 (.int .i64 0)).put 6 (.int .i64 0)).put 7 (.int .i64 0)).put 8 (.int .i64 0)).put 9 (.int .i64 0)).put 10 (.int .i64 0)).put 11 (.slice none 0 0)).put 12 (.slice none 0 0)).put 13 (.int .i64 0))
    have RG : F.grownBy ((((((((((((((F.setCell ⟨w.heap.size, 0, none⟩ (.string ⟨#[]⟩)).setCell ⟨w.heap.size, 1, none⟩ (.int .i64 0)).setCell ⟨w.heap.size, 2, none⟩ (.int .i64 0)).setCell ⟨w.heap.size, 3, none⟩ (.int .i64 0)).setCell ⟨w.heap.size, 4, none⟩ (.int .i64 0)).setCell ⟨w.heap.size, 5, none⟩ (.int .i64 0)).setCell ⟨w.heap.size, 6, none⟩ (.int .i64 0)).setCell ⟨w.heap.size, 7, none⟩ (.int .i64 0)).setCell ⟨w.heap.size, 8, none⟩ (.int .i64 0)).setCell ⟨w.heap.size, 9, none⟩ (.int .i64 0)).setCell ⟨w.heap.size, 10, none⟩ (.int .i64 0)).setCell ⟨w.heap.size, 11, none⟩ (.slice none 0 0)).setCell ⟨w.heap.size, 12, none⟩ (.slice none 0 0)).setCell ⟨w.heap.size, 13, none⟩ (.int .i64 0)).drew (some w.heap.size) := grown_trans (grown_trans (grown_trans (grown_trans (grown_trans (grown_trans (grown_trans (grown_trans (grown_trans (grown_trans (grown_trans (grown_trans (grown_trans (grown_trans (grown_trans (grown_refl F (some w.heap.size)) (grown_set _ ⟨w.heap.size, 0, none⟩ (.string ⟨#[]⟩))) (grown_set _ ⟨w.heap.size, 1, none⟩ (.int .i64 0))) (grown_set _ ⟨w.heap.size, 2, none⟩ (.int .i64 0))) (grown_set _ ⟨w.heap.size, 3, none⟩ (.int .i64 0))) (grown_set _ ⟨w.heap.size, 4, none⟩ (.int .i64 0))) (grown_set _ ⟨w.heap.size, 5, none⟩ (.int .i64 0))) (grown_set _ ⟨w.heap.size, 6, none⟩ (.int .i64 0))) (grown_set _ ⟨w.heap.size, 7, none⟩ (.int .i64 0))) (grown_set _ ⟨w.heap.size, 8, none⟩ (.int .i64 0))) (grown_set _ ⟨w.heap.size, 9, none⟩ (.int .i64 0))) (grown_set _ ⟨w.heap.size, 10, none⟩ (.int .i64 0))) (grown_set _ ⟨w.heap.size, 11, none⟩ (.slice none 0 0))) (grown_set _ ⟨w.heap.size, 12, none⟩ (.slice none 0 0))) (grown_set _ ⟨w.heap.size, 13, none⟩ (.int .i64 0))) (grown_drew _ _)
    obtain ⟨F2, hF⟩ : ∃ F2, ((((((((((((((F.setCell ⟨w.heap.size, 0, none⟩ (.string ⟨#[]⟩)).setCell ⟨w.heap.size, 1, none⟩ (.int .i64 0)).setCell ⟨w.heap.size, 2, none⟩ (.int .i64 0)).setCell ⟨w.heap.size, 3, none⟩ (.int .i64 0)).setCell ⟨w.heap.size, 4, none⟩ (.int .i64 0)).setCell ⟨w.heap.size, 5, none⟩ (.int .i64 0)).setCell ⟨w.heap.size, 6, none⟩ (.int .i64 0)).setCell ⟨w.heap.size, 7, none⟩ (.int .i64 0)).setCell ⟨w.heap.size, 8, none⟩ (.int .i64 0)).setCell ⟨w.heap.size, 9, none⟩ (.int .i64 0)).setCell ⟨w.heap.size, 10, none⟩ (.int .i64 0)).setCell ⟨w.heap.size, 11, none⟩ (.slice none 0 0)).setCell ⟨w.heap.size, 12, none⟩ (.slice none 0 0)).setCell ⟨w.heap.size, 13, none⟩ (.int .i64 0)).drew = F2 := ⟨_, rfl⟩
    rw [hF] at RA RG ⊢
    clear hF
    go_wp2_with fail
    obtain ⟨j0, j1, j2, j3, j4, j5, j6, j7, j8, j9, ja, jb, jc, jk, jf⟩ := card14 RA
    refine bodyPost_ret (v := .tuple #[cV ⟨#[]⟩ 0 0 0 0 0 0 0 0 0 0 none 0 0 none 0 0 0, .int .i64 0, .int .i64 er]) (by simp [results, Tryz.results27, go_sem, j0, j1, j2, j3, j4, j5, j6, j7, j8, j9, ja, jb, jc, jk]) rfl ?_
    refine ⟨_, _, none, 0, 0, none, 0, 0, HRD.out, ?_, ?_, Nat.le_refl _, below_new HBF.out RG (Nat.le_refl _)⟩
    · rw [HDE.out]; rfl
    · rw [HDE.out]; exact ⟨EfsAt.nil _ _, TrsAt.nil _ _⟩
end Go.Proofs.YtlhnnjllbcglcaaGreatDoor.caFn
