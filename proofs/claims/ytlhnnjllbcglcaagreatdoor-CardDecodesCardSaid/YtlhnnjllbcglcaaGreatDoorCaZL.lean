/- Joined texts: CaLineM CaKind CaLineN CaLineC CaLineD CaLineS CaLine -/
import Derived.Test.YtlhnnjllbcglcaaGreatDoorCaZY
import Derived.Test.YtlhnnjllbcglcaaGreatDoorCeTextE
import Derived.Test.YtlhnnjllbcglcaaGreatDoorCaMaText
import Derived.BigRegion
import Derived.Deep.RegionHeld3
import Derived.Deep.AppendLies
/- The line of a card, as data; lists of strings that are being filled. -/
namespace Go.Proofs.YtlhnnjllbcglcaaGreatDoor.caFn
open Go.ChangeShapes Go.WideShapes Go.ChangeAt Go.RowKit drMem efFn
set_option linter.unusedVariables false

theorem bs_app (a b : List UInt8) : bs a ++ bs b = bs (a ++ b) := ByteArray.mk_append_mk a b
def costT (q : Cd) : List UInt8 := maFn.textL q.a.toNat q.b.toNat q.c.toNat q.d.toNat q.x.toNat
def letT (k : Int) : List UInt8 := if k = 0 then [69] else if k = 1 then [84] else if k = 2 then [76] else [83]
theorem letT_eq (k : Int) : maFn.letB k = bs (letT k) := by unfold maFn.letB letT; (repeat' split) <;> rfl
def kdT (q : Cd) : List UInt8 :=
  if q.kd = 1 then [115, 111, 117, 114, 99, 101, 32, 111, 102, 32] ++ letT q.ml else
  (if q.kd = 2 then [99, 114, 101, 97, 116, 117, 114, 101, 32] else if q.kd = 3 then [115, 112, 101, 108, 108, 32] else [116, 114, 105, 99, 107, 32]) ++ costT q
def ptT (q : Cd) : List (List UInt8) := if q.kd = 2 then [Lib.decDigits q.pw.toNat ++ [47] ++ Lib.decDigits q.tg.toNat] else []
def kwT (k : Nat) (n : Nat) : List (List UInt8) := (List.range n).flatMap fun i => if kwHas k i then [kcL i] else []
def trT (t : Tr) : List UInt8 := whL t.w.toNat ++ [58, 32] ++ Lib.join (t.e.map textE) [32, 97, 110, 100, 32]
def partsT (q : Cd) : List (List UInt8) := [q.nm, kdT q] ++ ptT q ++ kwT q.kw.toNat 4 ++ q.ef.map textE ++ q.tr.map trT
def lineT (q : Cd) : List UInt8 := Lib.join (partsT q) [44, 32]
def lnZ (q : Cd) : List UInt8 × Int := if okCd q = true then (lineT q, 0) else ([], 2)

/- joined texts are not long -/
theorem joinT_len (sep : List UInt8) (K : Nat) : ∀ (r : List (List UInt8)), (∀ x ∈ r, x.length ≤ K) → (Lib.joinTail sep r).length ≤ (K + sep.length) * r.length
  | [], _ => by simp [Lib.joinTail]
  | a :: r, h => by
    have ih := joinT_len sep K r (fun x hx => h x (by simp [hx]))
    have ha := h a (by simp)
    simp only [Lib.joinTail, List.map_cons, List.flatten_cons, List.length_append, List.length_cons, Nat.mul_add, Nat.mul_one] at *
    omega
theorem joinA_len (sep : List UInt8) (K : Nat) (l : List (List UInt8)) (h : ∀ x ∈ l, x.length ≤ K) : (Lib.join l sep).length ≤ (K + sep.length) * l.length := by
  cases l with
  | nil => simp [Lib.join_nil]
  | cons a r =>
    rw [Lib.join_cons, List.length_append]
    have := joinT_len sep K r (fun x hx => h x (by simp [hx]))
    have := h a (by simp)
    simp only [List.length_cons, Nat.mul_add, Nat.mul_one]
    omega
theorem costT_len {q : Cd} (h : maFn.okC q.a q.b q.c q.d q.x = true) : (costT q).length ≤ 82 := by
  have g := (maFn.okC_iff _ _ _ _ _).1 h
  have h1 : (maFn.numL q.a.toNat q.b.toNat q.c.toNat q.d.toNat q.x.toNat).length ≤ 2 := by
    unfold maFn.numL
    split
    · exact maFn.dec_len _ (by omega)
    · simp
  unfold costT maFn.textL maFn.letL
  simp only [List.length_append, List.length_replicate]
  omega

/- a slice of strings that a call fills, beside a block that it keeps -/
structure SS (w : World) (tb : TypeId) (cs : List Value) (W : World) (v : Value) (n : Nat) (out : List (List UInt8)) : Prop where
  own : W.ownsRow w.heap.size 9 1 v n (ss (out.map bs))
  hb : Below w.heap.size w W
  box : has W w.heap.size tb cs
section
variable {w W W' : World} {v v' : Value} {n n' : Nat} {out out' : List (List UInt8)} {tb : TypeId} {cs xs : List Value}
theorem SS.alloc (h : SS w tb cs W v n out) (o : Obj) : SS w tb cs (W.alloc o) v n out := ⟨h.own.alloc _, h.hb.alloc h.hb.size _, h.box.alloc _⟩
theorem SS.below (h : SS w tb cs W v n out) (hb : Below W.heap.size W W') : SS w tb cs W' v n out := ⟨own_below h.own hb, h.hb.trans (hb.mono h.hb.size), h.box.below hb h.box.lt⟩
theorem SS.drew (h : SS w tb cs W v n out) : SS w tb cs W.drew v n out := ⟨h.own.drew, h.hb.drew, h.box⟩
theorem SS.app (h : SS w tb cs W v n out) (hne : tb ≠ 9) (hown : W'.ownsRow w.heap.size 9 1 v' n' xs) (hg : W.grownBy W' v.ownBlock) (hx : xs = ss (out'.map bs)) : SS w tb cs W' v' n' out' :=
  ⟨hx ▸ hown, below_own h.hb h.own hg h.hb.size, own_has' hg h.own h.box hne⟩
theorem ss_app (a b : List ByteArray) : ss (a ++ b) = ss a ++ ss b := by simp [ss]
theorem SS.len (h : SS w tb cs W v n out) : n = out.length := by
  have := h.own.1
  rw [ss_len, List.length_map, Nat.mul_one] at this
  exact this.symm
end
/- strings joined -/
theorem JoinA {B : Nat} {W : World} {v : Value} {n : Nat} {l : List (List UInt8)} (sep : List UInt8) (x : ByteArray) (hx : x = bs sep) (h : W.ownsRow B 9 1 v n (ss (l.map bs))) (hn : 0 < n) (hn2 : n ≤ 1000) (hlen : (Lib.join l sep).length ≤ 1000000) :
    Calls Tryz.prog 36 #[v, .string x] W fun e w' => e = .returned (.string (bs (Lib.join l sep))) ∧ Below W.heap.size W w' := by
  subst hx
  obtain ⟨g, cap, rfl, hbg, hgl⟩ := h.form hn
  have hl : (l.map bs).length = n := by have := h.1; rw [ss_len, Nat.mul_one] at this; exact this
  have hc : ∀ j y, (l.map bs)[j]? = some y → W.cell? ⟨g, 0 + j, none⟩ = some (.string y) := fun j y hy => by
    have hj := (List.getElem?_eq_some_iff.1 hy).1
    rw [Nat.zero_add, h.cellAt j (by omega)]
    show ((l.map bs).map Value.string)[j]? = _
    rw [List.getElem?_map, hy]; rfl
  have hm : (l.map bs).map (fun x => x.data.toList) = l := by rw [List.map_map]; exact List.map_id' l
  have hcap : n ≤ cap := by
    obtain ⟨sv, cv, h1, _, h3, _⟩ := own_form h
    cases h1
    exact h3
  have := Tryz.strings_Join g 0 cap (l.map bs) (bs sep) W hc hgl (by omega) (by rw [hl]; exact hcap) (by rw [hm]; exact Nat.le_trans hlen (by decide))
  rw [hl, hm] at this
  exact this
/- the texts of effects -/
def exPost (l : List Ef) (w : World) (e : Ending) (w' : World) : Prop := ∃ g cap, e = .returned (.slice (some ⟨g, 0, none⟩) l.length cap) ∧ w'.ownsRow w.heap.size 9 1 (.slice (some ⟨g, 0, none⟩) l.length cap) l.length (ss ((l.map textE).map bs)) ∧ Below w.heap.size w w'
set_option maxRecDepth 100000 in
set_option maxHeartbeats 4000000 in
theorem effectTexts_any (sp : Option Addr) (n cap : Nat) (l : List Ef) (w : World) (h : EfsAt w sp n l) (hG : G w) (ha : allB l = true) :
    Calls Tryz.prog 35 #[.slice sp n cap] w (exPost l w) := by
  obtain ⟨i0, hi, hz0, hz1, hz2⟩ := info_parts infoS
  have hn := h.n
  have h4 : n ≤ 4 := by rw [← hn]; unfold allB at ha; rw [Bool.and_eq_true] at ha; exact of_decide_eq_true ha.1
  have hok : ∀ e ∈ l, e.ok = true := by unfold allB at ha; rw [Bool.and_eq_true] at ha; exact List.all_eq_true.1 ha.2
  have HG := Lib.hid hG
  have HO : Hid ((w.alloc (.cells #[] 9)).ownsRow w.heap.size 9 1 (.slice (some ⟨w.heap.size, 0, none⟩) 0 0) 0 []) := Lib.hid (World.ownsRow_lit (base := w.heap.size) (e := 9) (size := 1) w #[] 0 (Nat.le_refl _) (by unfold maxLen; omega) rfl)
  have HB0 : Hid (Below w.heap.size w (w.alloc (.cells #[] 9))) := Lib.hid ((Below.refl _ _).alloc (Nat.le_refl _) _)
  have HN := Lib.hid hn
  have HOK := Lib.hid hok
  have HH := Lib.hid h
  have hm := h.m
  clear h ha hok hn hG
  rcases Nat.eq_zero_or_pos n with h0 | h0
  · have hd0 : ¬ (0 : Int) < (n : Int) := by omega
    have H0 := Lib.hid h0
    clear h0
    go_enter Tryz.func35, Tryz.ntmps35
    go_wp2
    refine wp_loop_rounds 1 ?_
    rw [rounds_succ]
    go_wp2
    go_ret
    have hl0 : l = [] := List.eq_nil_of_length_eq_zero (HN.out.trans H0.out)
    subst hl0
    exact ⟨w.heap.size, 0, rfl, HO.out, HB0.out⟩
  · obtain ⟨b, off, rfl, hbl, hc⟩ := HH.out.c h0
    have C : Hid (∀ k, k < n → EfAt w b (off + k * 5) (l.getD k default)) := Lib.hid fun k hk => hc k _ (get_some (by rw [HN.out]; exact hk))
    have HK : Hid (∀ k, k < n → (l.getD k default).ok = true) := Lib.hid fun k hk => HOK.out _ (by rw [List.getD_eq_getElem?_getD, List.getElem?_eq_getElem (by rw [HN.out]; exact hk)]; exact List.getElem_mem _)
    have HS : Hid (∀ k, k < n → ss (((l.take (k + 1)).map textE).map bs) = ss (((l.take k).map textE).map bs) ++ [.string (bs (textE (l.getD k default)))]) := Lib.hid fun k hk => by
      have hk' : k < l.length := by rw [HN.out]; exact hk
      rw [List.take_succ_eq_append_getElem hk', List.map_append, List.map_append, ss_app]
      simp [ss, List.getD_eq_getElem?_getD, hk']
    clear hc
    go_enter Tryz.func35, Tryz.ntmps35
    go_wp2
    go_loopw [3, 11] (fun v i wr => ∃ k : Nat, k ≤ n ∧ i = .int .i64 k ∧ Hid (wr.ownsRow w.heap.size 9 1 v k (ss (((l.take k).map textE).map bs)) ∧ Below w.heap.size w wr)) (fun _ i _ => n - (intOf i).toNat)
    case atStart => exact ⟨0, Nat.zero_le _, rfl, Lib.hid ⟨HO.out, HB0.out⟩⟩
    case round =>
      obtain ⟨k, hk, rfl, HT⟩ := hrel
      by_cases hlt : k < n
      · obtain ⟨c0, c1, c2, c3, c4⟩ := (C.out k hlt).below HT.out.2 hbl
        have HX := Lib.hid (HS.out k hlt)
        have hx := HK.out k hlt
        generalize l.getD k default = x at *
        obtain ⟨xc, xt, xn, xm, xk⟩ := x
        dsimp only at c0 c1 c2 c3 c4
        have B1 : Below w.heap.size w (wr.alloc (.cells #[.int .i64 xc, .int .i64 xt, .int .i64 xn, .int .i64 xm, .int .i64 xk] 51)) := HT.out.2.alloc HT.out.2.size _
        have HTX := Text_yes ⟨xc, xt, xn, xm, xk⟩ _ (HG.out.below B1) hx
        have HB1 := Lib.hid B1
        have HO1 := Lib.hid (HT.out.1.alloc (.cells #[.int .i64 xc, .int .i64 xt, .int .i64 xn, .int .i64 xm, .int .i64 xk] 51))
        clear B1 hx
        go_wp2_with fail
        refine HTX.mono ?_; rintro e w1 ⟨rfl, hb1⟩
        have HB2 := Lib.hid (HB1.out.trans (hb1.mono HB1.out.size))
        have HO2 := Lib.hid (own_below HO1.out hb1)
        clear hb1 c0 c1 c2 c3 c4
        have z1 := HB2.out.size
        go_wp2_with (at_builtin; refine wpList_append_own _ rfl _ _ 63 rfl w.heap.size 9 i0 (.string ⟨#[]⟩) 1 16 Tryz.underlying63 hi hz0 hz1 hz2 rfl (by decide) _ k _ rfl (HO2.out.alloc _) ⟨w1.heap.size, 0, none⟩ 1 1 [.string (bs (textE ⟨xc, xt, xn, xm, xk⟩))] rfl rfl (fun j u hu => by rw [addr_add, Nat.zero_add]; exact ((new0 w1 9 [.string (bs (textE ⟨xc, xt, xn, xm, xk⟩))]).cell j).trans hu) (by simp [Value.oneCell']) (by unfold maxLen; omega) (by omega) (by simp; omega) ?_; intro v5 w5 hown hgrow _; have HO5 := Lib.hid hown; have HB5 := Lib.hid (below_own (HB2.out.alloc HB2.out.size _) (HO2.out.alloc _) hgrow (by simp; omega)); clear hown hgrow)
        exact ⟨⟨k + 1, by omega, by go_num, Lib.hid ⟨by rw [HX.out]; exact HO5.out, HB5.out⟩⟩, by simp [intOf]; omega⟩
      · obtain rfl : k = n := by omega
        go_wp2
        go_ret
        have h1 := HT.out.1
        rw [List.take_of_length_le (by rw [HN.out]; exact Nat.le_refl _)] at h1
        obtain ⟨g, cap, rfl, _, _⟩ := h1.form h0
        unfold exPost
        rw [HN.out]
        exact ⟨g, cap, rfl, h1, HT.out.2⟩
end Go.Proofs.YtlhnnjllbcglcaaGreatDoor.caFn

/- The kind of a card, as text. -/
namespace Go.Proofs.YtlhnnjllbcglcaaGreatDoor.caFn
open Go.ChangeShapes Go.WideShapes Go.ChangeAt Go.RowKit drMem efFn
set_option linter.unusedVariables false

def kdS (kd m : Int) (co : List UInt8) : List UInt8 :=
  if kd = 1 then [115, 111, 117, 114, 99, 101, 32, 111, 102, 32] ++ letT m else
  (if kd = 2 then [99, 114, 101, 97, 116, 117, 114, 101, 32] else if kd = 3 then [115, 112, 101, 108, 108, 32] else [116, 114, 105, 99, 107, 32]) ++ co
theorem letT_len (k : Int) : (letT k).length ≤ 1 := by unfold letT; (repeat' split) <;> decide
theorem bs_cat (a : ByteArray) (x b : List UInt8) (h : a = bs x) : a ++ bs b = bs (x ++ b) := by rw [h, bs_app]
set_option maxRecDepth 100000 in
set_option maxHeartbeats 4000000 in
theorem kindText_any (s : ByteArray) (kd m p t k : Int) (ka kb kc kdd kx : Nat) (es : Option Addr) (en ec : Nat) (ts : Option Addr) (tn tc : Nat) (r : Int) (w : World) (hc : maFn.okC ka kb kc kdd kx = true) (hm : kd = 1 → maFn.okN 3 m = true) :
    Calls Tryz.prog 33 #[cV s kd (ka : Nat) (kb : Nat) (kc : Nat) (kdd : Nat) (kx : Nat) m p t k es en ec ts tn tc r] w fun v w' => v = .returned (.string (bs (kdS kd m (maFn.textL ka kb kc kdd kx)))) ∧ Below w.heap.size w w' := by
  have HM0 := Lib.hid (new0 w 32 (cL s kd (ka : Nat) (kb : Nat) (kc : Nat) (kdd : Nat) (kx : Nat) m p t k es en ec ts tn tc r))
  have B0 : Below w.heap.size w (w.alloc (.cells #[.string s, .int .i64 kd, .int .i64 (ka : Nat), .int .i64 (kb : Nat), .int .i64 (kc : Nat), .int .i64 (kdd : Nat), .int .i64 (kx : Nat), .int .i64 m, .int .i64 p, .int .i64 t, .int .i64 k, .slice es en ec, .slice ts tn tc, .int .i64 r] 32)) := (Below.refl _ _).alloc (Nat.le_refl _) _
  have HB0 := Lib.hid B0
  have HT := maFn.Text_yes ka kb kc kdd kx (w.alloc (.cells #[.string s, .int .i64 kd, .int .i64 (ka : Nat), .int .i64 (kb : Nat), .int .i64 (kc : Nat), .int .i64 (kdd : Nat), .int .i64 (kx : Nat), .int .i64 m, .int .i64 p, .int .i64 t, .int .i64 k, .slice es en ec, .slice ts tn tc, .int .i64 r] 32)) hc
  have hco : (maFn.textL ka kb kc kdd kx).length ≤ 82 := by have := costT_len (q := ⟨[], 0, ka, kb, kc, kdd, kx, 0, 0, 0, 0, [], [], 0⟩) hc; simpa [costT] using this
  generalize maFn.textL ka kb kc kdd kx = co at *
  have hcs : (bs co).size ≤ 82 := by rw [bs_size]; exact hco
  rw [show maFn.bs co = bs co from rfl] at HT
  clear hc B0 hco
  go_enter Tryz.func33, Tryz.ntmps33
  go_wp2_with fail
  refine HT.mono ?_; rintro v w1 ⟨rfl, hb⟩
  have HM1 := Lib.hid (HM0.out.below hb HM0.out.lt)
  have HB1 := Lib.hid (next HB0.out hb)
  clear hb
  obtain ⟨-, u1, -, -, -, -, -, u7, -, -, -, -, -, -, -⟩ := card14 HM1.out
  by_cases k1 : kd = 1
  · have HL := maFn.Letter_yes m w1 (hm k1)
    have c1 := maFn.cat_run ⟨#[115, 111, 117, 114, 99, 101, 32, 111, 102, 32]⟩ (bs (letT m)) (by rw [bs_size]; have := letT_len m; simp [ByteArray.size]; omega)
    have HK : Hid (kdS kd m co = [115, 111, 117, 114, 99, 101, 32, 111, 102, 32] ++ letT m) := Lib.hid (if_pos k1)
    rw [letT_eq] at HL
    subst k1
    go_wp2_with fail
    refine HL.mono ?_; rintro v w2 ⟨rfl, hw⟩
    subst hw
    go_wp2_with fail
    go_ret
    exact ⟨by rw [HK.out, ← bs_app]; rfl, HB1.out⟩
  · by_cases k2 : kd = 2
    · have c1 := maFn.cat_run ⟨#[99, 114, 101, 97, 116, 117, 114, 101, 32]⟩ (bs co) (Nat.le_trans (Nat.add_le_add (show ByteArray.size _ ≤ 10 by decide) hcs) (by decide))
      have HK : Hid (kdS kd m co = [99, 114, 101, 97, 116, 117, 114, 101, 32] ++ co) := Lib.hid (by unfold kdS; rw [if_neg k1, if_pos k2])
      subst k2
      go_wp2_with fail
      go_ret
      exact ⟨by rw [HK.out, ← bs_app]; rfl, HB1.out⟩
    · by_cases k3 : kd = 3
      · have c1 := maFn.cat_run ⟨#[115, 112, 101, 108, 108, 32]⟩ (bs co) (Nat.le_trans (Nat.add_le_add (show ByteArray.size _ ≤ 10 by decide) hcs) (by decide))
        have HK : Hid (kdS kd m co = [115, 112, 101, 108, 108, 32] ++ co) := Lib.hid (by unfold kdS; rw [if_neg k1, if_neg k2, if_pos k3])
        subst k3
        go_wp2_with fail
        go_ret
        exact ⟨by rw [HK.out, ← bs_app]; rfl, HB1.out⟩
      · have c1 := maFn.cat_run ⟨#[116, 114, 105, 99, 107, 32]⟩ (bs co) (Nat.le_trans (Nat.add_le_add (show ByteArray.size _ ≤ 10 by decide) hcs) (by decide))
        have HK : Hid (kdS kd m co = [116, 114, 105, 99, 107, 32] ++ co) := Lib.hid (by unfold kdS; rw [if_neg k1, if_neg k2, if_neg k3])
        have e1 : (kd == 1) = false := by rw [beq_eq_false_iff_ne]; exact k1
        have e2 : (kd == 2) = false := by rw [beq_eq_false_iff_ne]; exact k2
        have e3 : (kd == 3) = false := by rw [beq_eq_false_iff_ne]; exact k3
        go_wp2_with fail
        go_ret
        exact ⟨by rw [HK.out, ← bs_app]; rfl, HB1.out⟩
end Go.Proofs.YtlhnnjllbcglcaaGreatDoor.caFn

/- What Line says of a card that is not valid; words. -/
namespace Go.Proofs.YtlhnnjllbcglcaaGreatDoor.caFn
open Go.ChangeShapes Go.WideShapes Go.ChangeAt Go.RowKit drMem efFn
set_option linter.unusedVariables false

set_option maxRecDepth 100000 in
theorem ix_kw (k : Nat) (h : k < 4) : ∀ w, (Instr.index 74 (.agg #[.string (bs (kcL 0)), .string (bs (kcL 1)), .string (bs (kcL 2)), .string (bs (kcL 3))]) (.int .i64 (k : Int))).run Tryz.prog w = .ok (.string (bs (kcL k))) w := by
  have hk : k = 0 ∨ k = 1 ∨ k = 2 ∨ k = 3 := by omega
  rcases hk with rfl | rfl | rfl | rfl
  · exact fun _ => by kernel_rfl
  · exact fun _ => by kernel_rfl
  · exact fun _ => by kernel_rfl
  · exact fun _ => by kernel_rfl
theorem textE_36 (e : Ef) : (textE e).length ≤ 36 := by
  have h := joinA_len [32] 8 (wordsE e) (words_len8 e)
  have h4 := words_len e
  unfold textE
  simp only [List.length_cons, List.length_nil] at h
  omega
theorem joinE_82 (l : List Ef) (h : l.length ≤ 2) : (Lib.join (l.map textE) [32, 97, 110, 100, 32]).length ≤ 82 := by
  have := joinA_len [32, 97, 110, 100, 32] 36 (l.map textE) (fun x hx => by obtain ⟨e, _, rfl⟩ := List.mem_map.1 hx; exact textE_36 e)
  simp only [List.length_map, List.length_cons, List.length_nil] at this
  omega
theorem kcL_len (k : Nat) : (kcL k).length ≤ 8 := by unfold kcL; (repeat' split) <;> decide
theorem whL_len (k : Nat) : (whL k).length ≤ 8 := by unfold whL; (repeat' split) <;> decide
theorem trT_len (t : Tr) (h : t.e.length ≤ 2) : (trT t).length ≤ 100 := by
  unfold trT
  have := joinE_82 t.e h
  have := whL_len t.w.toNat
  simp only [List.length_append, List.length_cons, List.length_nil]
  omega
theorem kwT_len (k : Nat) : (kwT k 4).length ≤ 4 ∧ ∀ x ∈ kwT k 4, x.length ≤ 100 := by
  refine ⟨?_, fun x hx => ?_⟩
  · unfold kwT
    simp only [List.range, List.range.loop, List.flatMap_cons, List.flatMap_nil, List.length_append, List.length_nil]
    (repeat' split) <;> simp
  · unfold kwT at hx
    obtain ⟨i, _, hi⟩ := List.mem_flatMap.1 hx
    split at hi
    · simp at hi; subst hi; have := kcL_len i; omega
    · cases hi
theorem line_len (o : List (List UInt8)) (ho : o.length ≤ 3) (hx : ∀ x ∈ o, x.length ≤ 100) (k : Nat) (e : List Ef) (he : e.length ≤ 4) (l : List Tr) (hl : l.length ≤ 2) (ht : ∀ t ∈ l, t.e.length ≤ 2) :
    (Lib.join (((o ++ kwT k 4) ++ e.map textE) ++ l.map trT) [44, 32]).length ≤ 1000000 := by
  obtain ⟨k1, k2⟩ := kwT_len k
  have h := joinA_len [44, 32] 100 (((o ++ kwT k 4) ++ e.map textE) ++ l.map trT) (fun x h => by
    simp only [List.mem_append] at h
    rcases h with ((h | h) | h) | h
    · exact hx x h
    · exact k2 x h
    · obtain ⟨e, _, rfl⟩ := List.mem_map.1 h; have := textE_36 e; omega
    · obtain ⟨t, h1, rfl⟩ := List.mem_map.1 h; exact trT_len t (ht t h1))
  simp only [List.length_append, List.length_map, List.length_cons, List.length_nil] at h
  omega
theorem wh_at {w : World} (h : G w) (t : Int) (h0 : 1 ≤ t) (h1 : t ≤ 3) : w.cell? ⟨1, t.toNat, none⟩ = some (.string (bs (whL t.toNat))) := by
  have hc := var_cell h.wh
  have ht : t = 1 ∨ t = 2 ∨ t = 3 := by omega
  rcases ht with rfl | rfl | rfl
  · exact hc 1
  · exact hc 2
  · exact hc 3
theorem kwT_succ (k n : Nat) : kwT k (n + 1) = kwT k n ++ if kwHas k n then [kcL n] else [] := by
  simp [kwT, List.range_succ]
theorem ss_snoc (o : List (List UInt8)) (x : List UInt8) : ss ((o ++ [x]).map bs) = ss (o.map bs) ++ [.string (bs x)] := by simp [ss]
theorem ss_cat (o y : List (List UInt8)) : ss ((o ++ y).map bs) = ss (o.map bs) ++ ss (y.map bs) := by simp [ss]
def lnPost (l : List UInt8) (w : World) (e : Ending) (w' : World) : Prop := e = .returned (.tuple #[.string (bs l), .int .i64 0]) ∧ Below w.heap.size w w'
theorem Line_no (s : ByteArray) (kd a b c d x m p t k : Int) (es : Option Addr) (en ec : Nat) (ts : Option Addr) (tn tc : Nat) (r : Int) (e : List Ef) (l : List Tr) (w : World) (h : CdAt w es en e ts tn l) (htc : tn ≤ tc) (ho : okCd ⟨s.data.toList, kd, a, b, c, d, x, m, p, t, k, e, l, r⟩ = false) :
    Calls Tryz.prog 21 #[cV s kd a b c d x m p t k es en ec ts tn tc r] w fun v w' => v = .returned (.tuple #[.string ⟨#[]⟩, .int .i64 2]) ∧ Below w.heap.size w w' := by
  have B0 : Below w.heap.size w (w.alloc (.cells #[.string s, .int .i64 kd, .int .i64 a, .int .i64 b, .int .i64 c, .int .i64 d, .int .i64 x, .int .i64 m, .int .i64 p, .int .i64 t, .int .i64 k, .slice es en ec, .slice ts tn tc, .int .i64 r] 32)) := (Below.refl _ _).alloc (Nat.le_refl _) _
  have HV := ValidV_any s kd a b c d x m p t k es en ec ts tn tc r e l _ (h.below B0 (Nat.le_refl _)) htc
  rw [ho] at HV
  have HB0 := Lib.hid B0
  clear h B0
  go_enter Tryz.func21, Tryz.ntmps21
  go_wp2_with fail
  refine HV.mono ?_; rintro v w1 ⟨rfl, hb⟩
  have HB1 := Lib.hid (next HB0.out hb)
  clear hb
  go_wp2_with fail
  go_ret2
  exact ⟨rfl, HB1.out⟩

end Go.Proofs.YtlhnnjllbcglcaaGreatDoor.caFn

/- The line of a creature with triggers. -/
namespace Go.Proofs.YtlhnnjllbcglcaaGreatDoor.caFn
open Go.ChangeShapes Go.WideShapes Go.ChangeAt Go.RowKit drMem efFn
set_option linter.unusedVariables false

set_option maxRecDepth 100000 in
set_option maxHeartbeats 16000000 in
theorem Line_2t (s : ByteArray) (m r : Int) (ka kb kc kdd kx kp kt kk : Nat) (es : Option Addr) (en ec : Nat) (tb toff : Nat) (tn tc : Nat) (e : List Ef) (l : List Tr) (w : World) (h : CdAt w es en e (some ⟨tb, toff, none⟩) tn l) (htc : tn ≤ tc) (hG : G w) (h0 : 0 < tn) (ho : okCd ⟨s.data.toList, 2, (ka : Nat), (kb : Nat), (kc : Nat), (kdd : Nat), (kx : Nat), m, (kp : Nat), (kt : Nat), (kk : Nat), e, l, r⟩ = true) :
    Calls Tryz.prog 21 #[cV s 2 (ka : Nat) (kb : Nat) (kc : Nat) (kdd : Nat) (kx : Nat) m (kp : Nat) (kt : Nat) (kk : Nat) es en ec (some ⟨tb, toff, none⟩) tn tc r] w (lnPost (lineT ⟨s.data.toList, 2, (ka : Nat), (kb : Nat), (kc : Nat), (kdd : Nat), (kx : Nat), m, (kp : Nat), (kt : Nat), (kk : Nat), e, l, r⟩) w) := by
  obtain ⟨i0, hi, hz0, hz1, hz2⟩ := info_parts infoS
  obtain ⟨hnm, _, hkind⟩ := okCd_parts ho
  obtain ⟨⟨nm0, nm1⟩, _, _, _, _, _, _, _, _, _, _, kw0, eA, tr0, tw0⟩ := okCd_bd ho
  dsimp only at nm0 nm1 kw0 eA tr0 tw0
  rw [list_len] at nm0 nm1
  have hcost : maFn.okC (ka : Nat) (kb : Nat) (kc : Nat) (kdd : Nat) (kx : Nat) = true := by
    rcases kind_cases hkind with ⟨_, q⟩ | ⟨_, q⟩ | ⟨_, q⟩
    · obtain ⟨_, ⟨g1, g2, g3, g4, g5⟩, _⟩ := srcB_bd q
      dsimp only at g1 g2 g3 g4 g5
      rw [g1, g2, g3, g4, g5]; rfl
    · exact (creB_bd q).1
    · exact (splB_bd q).1
  have hml : (2 : Int) = 1 → maFn.okN 3 m = true := by
    intro hk1
    rcases kind_cases hkind with ⟨_, q⟩ | ⟨q0, q⟩ | ⟨q0, q⟩
    · obtain ⟨g1, _⟩ := srcB_bd q
      exact (maFn.okN_iff 3 m).2 g1
    · (try dsimp only at q0); omega
    · (try dsimp only at q0); omega
  have hkw : kk < 16 := by
    rcases kind_cases hkind with ⟨_, q⟩ | ⟨_, q⟩ | ⟨_, q⟩
    · obtain ⟨_, _, _, _, g, _⟩ := srcB_bd q; dsimp only at g; omega
    · obtain ⟨_, _, _, _, g, _⟩ := creB_bd q; dsimp only at g; omega
    · obtain ⟨_, _, _, _, _, _, g, _⟩ := splB_bd q; dsimp only at g; omega
  have hw3 : ∀ t ∈ l, ((1 ≤ t.w ∧ t.w ≤ 3) ∧ allB t.e = true) ∧ 1 ≤ t.e.length ∧ t.e.length ≤ 2 := by
    rcases kind_cases hkind with ⟨_, q⟩ | ⟨_, q⟩ | ⟨_, q⟩
    · obtain ⟨_, _, _, _, _, _, g⟩ := srcB_bd q; dsimp only at g; rw [g]; simp
    · obtain ⟨_, _, _, _, _, _, g⟩ := creB_bd q
      exact fun t ht => by obtain ⟨b1, b2, b3, _⟩ := trB_bd ((trsB_bd g).2 t ht); exact ⟨⟨b1, b3⟩, b2⟩
    · obtain ⟨_, _, _, _, _, _, _, g⟩ := splB_bd q; dsimp only at g; rw [g]; simp
  have hpt : kp ≤ 20 ∧ kt ≤ 20 := by
    rcases kind_cases hkind with ⟨q0, q⟩ | ⟨_, q⟩ | ⟨q0, q⟩
    · (try dsimp only at q0); omega
    · obtain ⟨_, _, g1, g2, _⟩ := creB_bd q; dsimp only at g1 g2; omega
    · (try dsimp only at q0); omega
  obtain ⟨hp20, ht20⟩ := hpt
  have HLT : Hid (lineT ⟨s.data.toList, 2, (ka : Nat), (kb : Nat), (kc : Nat), (kdd : Nat), (kx : Nat), m, (kp : Nat), (kt : Nat), (kk : Nat), e, l, r⟩ = Lib.join (((([s.data.toList, kdS 2 m (maFn.textL ka kb kc kdd kx)] ++ [Lib.decDigits kp ++ [47] ++ Lib.decDigits kt]) ++ kwT kk 4) ++ e.map textE) ++ l.map trT) [44, 32]) := Lib.hid (by
    have hpt : ptT ⟨s.data.toList, 2, (ka : Nat), (kb : Nat), (kc : Nat), (kdd : Nat), (kx : Nat), m, (kp : Nat), (kt : Nat), (kk : Nat), e, l, r⟩ = [Lib.decDigits kp ++ [47] ++ Lib.decDigits kt] := if_pos rfl
    unfold lineT partsT
    rw [hpt]
    rfl)
  have hcl : (maFn.textL ka kb kc kdd kx).length ≤ 82 := by have := costT_len (q := ⟨[], 0, ka, kb, kc, kdd, kx, 0, 0, 0, 0, [], [], 0⟩) hcost; simpa [costT] using this
  have hkl : (kdS 2 m (maFn.textL ka kb kc kdd kx)).length ≤ 100 := by
    unfold kdS
    have := letT_len m
    (repeat' split) <;> simp only [List.length_append, List.length_cons, List.length_nil] <;> omega
  have hln := h.t.n
  have hle := h.e.n
  rw [hln] at tr0
  have en4 : en ≤ 4 := by have := (all_bd eA).1; omega
  have HLN := Lib.hid hln
  have HLE := Lib.hid hle
  have HW := Lib.hid hw3
  have HG := Lib.hid hG
  have HH := Lib.hid h
  have HEA := Lib.hid eA
  have HKL := Lib.hid hkl
  have B0 : Below w.heap.size w (w.alloc (.cells #[.string s, .int .i64 2, .int .i64 (ka : Nat), .int .i64 (kb : Nat), .int .i64 (kc : Nat), .int .i64 (kdd : Nat), .int .i64 (kx : Nat), .int .i64 m, .int .i64 (kp : Nat), .int .i64 (kt : Nat), .int .i64 (kk : Nat), .slice es en ec, .slice (some ⟨tb, toff, none⟩) tn tc, .int .i64 r] 32)) := (Below.refl _ _).alloc (Nat.le_refl _) _
  have HV := ValidV_any s 2 (ka : Nat) (kb : Nat) (kc : Nat) (kdd : Nat) (kx : Nat) m (kp : Nat) (kt : Nat) (kk : Nat) es en ec (some ⟨tb, toff, none⟩) tn tc r e l _ (h.below B0 (Nat.le_refl _)) htc
  rw [ho] at HV
  have HB0 := Lib.hid B0
  have HM0 := Lib.hid (new0 w 32 (cL s 2 (ka : Nat) (kb : Nat) (kc : Nat) (kdd : Nat) (kx : Nat) m (kp : Nat) (kt : Nat) (kk : Nat) es en ec (some ⟨tb, toff, none⟩) tn tc r))
  have HLLP : ((kdS 2 m (maFn.textL ka kb kc kdd kx)).length ≤ 100) → (Lib.join (((([s.data.toList, kdS 2 m (maFn.textL ka kb kc kdd kx)] ++ [Lib.decDigits kp ++ [47] ++ Lib.decDigits kt]) ++ kwT kk 4) ++ e.map textE) ++ l.map trT) [44, 32]).length ≤ 1000000 := fun hk => line_len _ (by simp) (fun x hx => by
    simp only [List.mem_append, List.mem_cons, List.not_mem_nil, or_false] at hx
    rcases hx with (rfl | rfl) | rfl
    · rw [list_len]; omega
    · exact hk
    · simp only [List.length_append, List.length_cons, List.length_nil]; have := maFn.dec_len kp hp20; have := maFn.dec_len kt ht20; omega) kk e (by rw [hle]; omega) l (by rw [hln]; exact tr0) (fun t ht => (hw3 t ht).2.2)
  have HLL := Lib.hid (HLLP hkl)
  clear HLLP
  have HKT := fun W => kindText_any s 2 m (kp : Nat) (kt : Nat) (kk : Nat) ka kb kc kdd kx es en ec (some ⟨tb, toff, none⟩) tn tc r W hcost hml
  clear h B0 ho hw3 hln hle hG eA hkl hnm hkind hml hcost hcl tw0 kw0
  generalize hKS : kdS 2 m (maFn.textL ka kb kc kdd kx) = ks at *
  clear hKS
  go_enter Tryz.func21, Tryz.ntmps21
  go_wp2_with fail
  refine HV.mono ?_; rintro v w1 ⟨rfl, hb⟩
  have HM1 := Lib.hid (HM0.out.below hb HM0.out.lt)
  have HB1 := Lib.hid (next HB0.out hb)
  clear hb
  go_wp2_with fail
  refine wp_region_held_drew (S := (fun w' => has w' w.heap.size 32 (cL s 2 (ka : Nat) (kb : Nat) (kc : Nat) (kdd : Nat) (kx : Nat) m (kp : Nat) (kt : Nat) (kk : Nat) es en ec (some ⟨tb, toff, none⟩) tn tc r))) (by kernel_rfl) ?_ (fun hH0 => ?_)
  · exact HM1.out
  refine wpAnyH_take (i := 0) (oi := _) (v := ?_) rfl (by kernel_rfl) (by kernel_rfl) (by kernel_rfl) (fun _ _ _ h => h) (Or.inl ⟨by rfl, ?_⟩) (by assumption) ?_
  rotate_left
  · intro w hSw; (try dsimp only at hSw); obtain ⟨u0, u1, u2, u3, u4, u5, u6, u7, u8, u9, ua, ub, uc, ud, uf⟩ := card14 hSw; first | (go_simp; done) | (go_simp; with_reducible rfl)
  try simp only [go_sem]
  refine wpAnyH_take (i := 1) (oi := _) (v := ?_) rfl (by kernel_rfl) (by kernel_rfl) (by kernel_rfl) (fun _ _ _ h => h) (Or.inl ⟨by rfl, ?_⟩) (by assumption) ?_
  rotate_left
  · intro w hSw; (try dsimp only at hSw); obtain ⟨u0, u1, u2, u3, u4, u5, u6, u7, u8, u9, ua, ub, uc, ud, uf⟩ := card14 hSw; first | (go_simp; done) | (go_simp; with_reducible rfl)
  try simp only [go_sem]
  refine wpAnyH_take (i := 2) (oi := _) (v := ?_) rfl (by kernel_rfl) (by kernel_rfl) (by kernel_rfl) (fun _ _ _ h => h) (Or.inl ⟨by rfl, ?_⟩) (by assumption) ?_
  rotate_left
  · intro w hSw; (try dsimp only at hSw); obtain ⟨u0, u1, u2, u3, u4, u5, u6, u7, u8, u9, ua, ub, uc, ud, uf⟩ := card14 hSw; first | (go_simp; done) | (go_simp; with_reducible rfl)
  try simp only [go_sem]
  refine wpAnyH_ready (rs := [3]) (by kernel_rfl) (by simp) ?_
  refine AllReadyH.cons (o := _) rfl (fun K hK => ?_) AllReadyH.nil
  go_simp; refine (HKT w1.drew).mono ?_; rintro vv w2 ⟨rfl, hb⟩; have HM2 := Lib.hid ((show has w1.drew w.heap.size 32 (cL s 2 (ka : Nat) (kb : Nat) (kc : Nat) (kdd : Nat) (kx : Nat) m (kp : Nat) (kt : Nat) (kk : Nat) es en ec (some ⟨tb, toff, none⟩) tn tc r) from HM1.out).below hb HM1.out.lt); have HB2 := Lib.hid (next HB1.out.drew hb); clear hb
  refine hK.out _ _ ?_ (fun hH1 => ?_)
  · exact HM2.out
  clear hK K hH0
  try simp only [go_sem]
  refine wpAnyH_ready (rs := [4]) (by kernel_rfl) (by simp) ?_
  refine AllReadyH.cons (o := _) rfl (fun K hK => ?_) AllReadyH.nil
  go_simp
  refine hK.out _ _ ?_ (fun hH2 => ?_)
  · exact HM2.out.alloc _
  clear hK K hH1
  try simp only [go_sem]
  refine wpAnyH_take (i := 5) (oi := _) (v := ?_) rfl (by kernel_rfl) (by kernel_rfl) (by kernel_rfl) (fun _ _ _ h => h) (Or.inl ⟨by rfl, ?_⟩) (by assumption) ?_
  rotate_left
  · intro w hSw; (try dsimp only at hSw); obtain ⟨u0, u1, u2, u3, u4, u5, u6, u7, u8, u9, ua, ub, uc, ud, uf⟩ := card14 hSw; first | (go_simp; done) | (go_simp; with_reducible rfl)
  try simp only [go_sem]
  refine wpAnyH_done (by kernel_rfl) ?_ _
  have HS0 : Hid (SS w 32 (cL s 2 (ka : Nat) (kb : Nat) (kc : Nat) (kdd : Nat) (kx : Nat) m (kp : Nat) (kt : Nat) (kk : Nat) es en ec (some ⟨tb, toff, none⟩) tn tc r) (w2.alloc (.cells #[.string s, .string (bs ks)] 9)) (.slice (some ⟨w2.heap.size, 0, none⟩) 2 2) 2 [s.data.toList, ks]) := Lib.hid ⟨World.ownsRow_lit (base := w.heap.size) (e := 9) (size := 1) w2 #[.string s, .string (bs ks)] 2 HB2.out.size (by unfold maxLen; omega) rfl, HB2.out.alloc HB2.out.size _, HM2.out.alloc _⟩
  have u1 : (w2.alloc (.cells #[.string s, .string (bs ks)] 9)).cell? ⟨w.heap.size, 1, none⟩ = some (.int .i64 2) := HS0.out.box.cell 1
  go_wp2_with fail
  obtain ⟨W, hW⟩ : ∃ W, w2.alloc (.cells #[.string s, .string (bs ks)] 9) = W := ⟨_, rfl⟩
  obtain ⟨v0, hv0⟩ : ∃ v0, Value.slice (some ⟨w2.heap.size, 0, none⟩) 2 2 = v0 := ⟨_, rfl⟩
  rw [hW, hv0] at HS0
  rw [hW, hv0]
  clear hW hv0 u1 HM2 HB2 HM1 HB1 HB0 HM0 HV
  obtain ⟨dp, hdp⟩ : ∃ dp, Lib.decDigits kp = dp := ⟨_, rfl⟩
  obtain ⟨dt, hdt⟩ : ∃ dt, Lib.decDigits kt = dt := ⟨_, rfl⟩
  have HI1 := Tryz.strconv_Itoa_small kp (by omega)
  have HI2 := Tryz.strconv_Itoa_small kt (by omega)
  have lp : (bs dp).size ≤ 2 := by rw [bs_size, ← hdp]; exact maFn.dec_len kp hp20
  have lt : (bs dt).size ≤ 2 := by rw [bs_size, ← hdt]; exact maFn.dec_len kt ht20
  have c1 := maFn.cat_run (bs dp) ⟨#[47]⟩ (Nat.le_trans (Nat.add_le_add lp (show ByteArray.size _ ≤ 2 by decide)) (by decide))
  have c2 := maFn.cat_run (bs dp ++ ⟨#[47]⟩) (bs dt) (by rw [ByteArray.size_append]; have : (⟨#[47]⟩ : ByteArray).size = 1 := rfl; omega)
  have HPT : Hid (bs dp ++ ⟨#[47]⟩ ++ bs dt = bs (dp ++ [47] ++ dt)) := Lib.hid (by rw [← bs_app, ← bs_app]; rfl)
  rw [hdp] at HI1 HLT HLL
  rw [hdt] at HI2 HLT HLL
  have HPL : Hid ((dp ++ [47] ++ dt).length ≤ 5) := Lib.hid (by rw [bs_size] at lp lt; simp only [List.length_append, List.length_cons, List.length_nil]; omega)
  clear hdp hdt lp lt
  have HS1 := Lib.hid HS0.out.drew
  refine wp_region_held_drew (S := (fun w' => has w' w.heap.size 32 (cL s 2 (ka : Nat) (kb : Nat) (kc : Nat) (kdd : Nat) (kx : Nat) m (kp : Nat) (kt : Nat) (kk : Nat) es en ec (some ⟨tb, toff, none⟩) tn tc r))) (by kernel_rfl) ?_ (fun hH0 => ?_)
  · exact HS1.out.box
  refine wpAnyH_take (i := 0) (oi := _) (v := ?_) rfl (by kernel_rfl) (by kernel_rfl) (by kernel_rfl) (fun _ _ _ h => h) (Or.inl ⟨by rfl, ?_⟩) (by assumption) ?_
  rotate_left
  · intro w hSw; (try dsimp only at hSw); obtain ⟨u0, u1, u2, u3, u4, u5, u6, u7, u8, u9, ua, ub, uc, ud, uf⟩ := card14 hSw; first | (go_simp; done) | (go_simp; with_reducible rfl)
  try simp only [go_sem]
  refine wpAnyH_take (i := 1) (oi := _) (v := ?_) rfl (by kernel_rfl) (by kernel_rfl) (by kernel_rfl) (fun _ _ _ h => h) (Or.inl ⟨by rfl, ?_⟩) (by assumption) ?_
  rotate_left
  · intro w hSw; (try dsimp only at hSw); obtain ⟨u0, u1, u2, u3, u4, u5, u6, u7, u8, u9, ua, ub, uc, ud, uf⟩ := card14 hSw; first | (go_simp; done) | (go_simp; with_reducible rfl)
  try simp only [go_sem]
  refine wpAnyH_take (i := 2) (oi := _) (v := ?_) rfl (by kernel_rfl) (by kernel_rfl) (by kernel_rfl) (fun _ _ _ h => h) (Or.inl ⟨by rfl, ?_⟩) (by assumption) ?_
  rotate_left
  · intro w hSw; (try dsimp only at hSw); obtain ⟨u0, u1, u2, u3, u4, u5, u6, u7, u8, u9, ua, ub, uc, ud, uf⟩ := card14 hSw; first | (go_simp; done) | (go_simp; with_reducible rfl)
  try simp only [go_sem]
  refine wpAnyH_take (i := 5) (oi := _) (v := ?_) rfl (by kernel_rfl) (by kernel_rfl) (by kernel_rfl) (fun _ _ _ h => h) (Or.inl ⟨by rfl, ?_⟩) (by assumption) ?_
  rotate_left
  · intro w hSw; (try dsimp only at hSw); obtain ⟨u0, u1, u2, u3, u4, u5, u6, u7, u8, u9, ua, ub, uc, ud, uf⟩ := card14 hSw; first | (go_simp; done) | (go_simp; with_reducible rfl)
  try simp only [go_sem]
  refine wpAnyH_take (i := 6) (oi := _) (v := ?_) rfl (by kernel_rfl) (by kernel_rfl) (by kernel_rfl) (fun _ _ _ h => h) (Or.inl ⟨by rfl, ?_⟩) (by assumption) ?_
  rotate_left
  · intro w hSw; (try dsimp only at hSw); obtain ⟨u0, u1, u2, u3, u4, u5, u6, u7, u8, u9, ua, ub, uc, ud, uf⟩ := card14 hSw; first | (go_simp; done) | (go_simp; with_reducible rfl)
  try simp only [go_sem]
  refine wpAnyH_ready (rs := [3]) (by kernel_rfl) (by simp) ?_
  refine AllReadyH.cons (o := _) rfl (fun K hK => ?_) AllReadyH.nil
  go_simp; refine (HI1 _).mono ?_; rintro vv w3 ⟨rfl, rfl⟩; rw [show (ByteArray.mk dp.toArray) = bs dp from rfl]
  refine hK.out _ _ ?_ (fun hH1 => ?_)
  · exact HS1.out.box
  clear hK K hH0
  try simp only [go_sem]
  refine wpAnyH_take (i := 4) (oi := _) (v := ?_) rfl (by kernel_rfl) (by kernel_rfl) (by kernel_rfl) (fun _ _ _ h => h) (Or.inl ⟨by rfl, ?_⟩) (by assumption) ?_
  rotate_left
  · intro w hSw; (try dsimp only at hSw); obtain ⟨u0, u1, u2, u3, u4, u5, u6, u7, u8, u9, ua, ub, uc, ud, uf⟩ := card14 hSw; first | (go_simp; done) | (go_simp; with_reducible rfl)
  try simp only [go_sem]
  refine wpAnyH_ready (rs := [7]) (by kernel_rfl) (by simp) ?_
  refine AllReadyH.cons (o := _) rfl (fun K hK => ?_) AllReadyH.nil
  go_simp; refine (HI2 _).mono ?_; rintro vv w3 ⟨rfl, rfl⟩; rw [show (ByteArray.mk dt.toArray) = bs dt from rfl]
  refine hK.out _ _ ?_ (fun hH2 => ?_)
  · exact HS1.out.box
  clear hK K hH1
  try simp only [go_sem]
  refine wpAnyH_take (i := 8) (oi := _) (v := ?_) rfl (by kernel_rfl) (by kernel_rfl) (by kernel_rfl) (fun _ _ _ h => h) (Or.inl ⟨by rfl, ?_⟩) (by assumption) ?_
  rotate_left
  · intro w hSw; (try dsimp only at hSw); obtain ⟨u0, u1, u2, u3, u4, u5, u6, u7, u8, u9, ua, ub, uc, ud, uf⟩ := card14 hSw; first | (go_simp; done) | (go_simp; with_reducible rfl)
  try simp only [go_sem]
  refine wpAnyH_ready (rs := [9]) (by kernel_rfl) (by simp) ?_
  refine AllReadyH.cons (o := _) rfl (fun K hK => ?_) AllReadyH.nil
  go_simp
  refine hK.out _ _ ?_ (fun hH3 => ?_)
  · exact HS1.out.box.alloc _
  clear hK K hH2
  try simp only [go_sem]
  refine wpAnyH_ready (rs := [10]) (by kernel_rfl) (by simp) ?_
  refine AllReadyH.cons (o := _) rfl (fun K hK => ?_) AllReadyH.nil
  refine step_append_lies _ (by rfl) _ _ _ (by rfl) w.heap.size 9 i0 (.string ⟨#[]⟩) 1 16 Tryz.underlying63 hi hz0 hz1 hz2 rfl (by omega) v0 2 (ss ([s.data.toList, ks].map bs)) (by rfl) (HS1.out.alloc _).own ⟨W.heap.size, 0, none⟩ 1 1 [.string (bs dp ++ ⟨#[47]⟩ ++ bs dt)] (by rfl) (by rfl) (World.news_of_block (cs := #[.string (bs dp ++ ⟨#[47]⟩ ++ bs dt)]) (t := 9) (fr := (0, 0)) (heap_alloc_new W.drew _)) (by simp [Value.oneCell']) (by omega) (by unfold maxLen; omega) (by omega) (by have := HS0.out.hb.size; simp; omega) (W.heap.size + 1) (by simp) ?_; intro g5 cap5 w5 hown hgrow _ _; have HS5 : Hid (SS w 32 (cL s 2 (ka : Nat) (kb : Nat) (kc : Nat) (kdd : Nat) (kx : Nat) m (kp : Nat) (kt : Nat) (kk : Nat) es en ec (some ⟨tb, toff, none⟩) tn tc r) w5 (.slice (some ⟨g5, 0, none⟩) (2 + 1) cap5) (2 + 1) ([s.data.toList, ks] ++ [dp ++ [47] ++ dt])) := Lib.hid ((HS1.out.alloc _).app (by decide) hown hgrow (by rw [ss_snoc, ← HPT.out])); clear hown hgrow
  refine hK.out _ _ ?_ (fun hH4 => ?_)
  · exact HS5.out.box
  clear hK K hH3
  try simp only [go_sem]
  refine wpAnyH_take (i := 11) (oi := _) (v := ?_) rfl (by kernel_rfl) (by kernel_rfl) (by kernel_rfl) (fun _ _ _ h => h) (Or.inl ⟨by rfl, ?_⟩) (by assumption) ?_
  rotate_left
  · intro w hSw; (try dsimp only at hSw); obtain ⟨u0, u1, u2, u3, u4, u5, u6, u7, u8, u9, ua, ub, uc, ud, uf⟩ := card14 hSw; first | (go_simp; done) | (go_simp; with_reducible rfl)
  try simp only [go_sem]
  refine wpAnyH_done (by kernel_rfl) ?_ _
  have hg := HG.out.below HS5.out.hb
  have h0 : w5.cell? ⟨0, 0, none⟩ = some (.string (bs (kcL 0))) := var_cell hg.kc 0
  have h1 : w5.cell? ⟨0, 1, none⟩ = some (.string (bs (kcL 1))) := var_cell hg.kc 1
  have h2 : w5.cell? ⟨0, 2, none⟩ = some (.string (bs (kcL 2))) := var_cell hg.kc 2
  have h3 : w5.cell? ⟨0, 3, none⟩ = some (.string (bs (kcL 3))) := var_cell hg.kc 3
  clear hg
  go_wp2_with fail
  clear h0 h1 h2 h3
  go_loopw [4, 32] (fun v i wr => ∃ q n : Nat, q ≤ 4 ∧ n ≤ 3 + q ∧ i = .int .i64 q ∧ Hid (SS w 32 (cL s 2 (ka : Nat) (kb : Nat) (kc : Nat) (kdd : Nat) (kx : Nat) m (kp : Nat) (kt : Nat) (kk : Nat) es en ec (some ⟨tb, toff, none⟩) tn tc r) wr v n (([s.data.toList, ks] ++ [dp ++ [47] ++ dt]) ++ kwT kk q))) (fun _ i _ => 4 - (intOf i).toNat)
  case atStart => exact ⟨0, 3, Nat.zero_le _, by omega, rfl, Lib.hid (by rw [show kwT kk 0 = [] from rfl, List.append_nil]; exact HS5.out)⟩
  case round =>
    obtain ⟨q, n, hq, hnq, rfl, HT⟩ := hrel
    by_cases hlt : q < 4
    · have hq4 : q = 0 ∨ q = 1 ∨ q = 2 ∨ q = 3 := by omega
      clear hlt hq
      rcases hq4 with rfl | rfl | rfl | rfl
      · have hk : (bits .and .i64 (kk : Int) (IntKind.i64.wrap 1) == IntKind.i64.wrap 1) = kwHas kk 0 := (by have := hasK kk hkw 0 (by omega); rw [show IntKind.i64.wrap 1 = 1 by decide]; exact this)
        have ix : ∀ w, (Instr.index 74 (.agg #[.string (bs (kcL 0)), .string (bs (kcL 1)), .string (bs (kcL 2)), .string (bs (kcL 3))]) (.int .i64 0)).run Tryz.prog w = .ok (.string (bs (kcL 0))) w := ix_kw 0 (by omega)
        have HKS : Hid (kwT kk (0 + 1) = kwT kk 0 ++ if kwHas kk 0 then [kcL 0] else []) := Lib.hid (kwT_succ kk 0)
        have HS6 := Lib.hid HT.out.drew
        go_wp2_with fail
        refine wp_region_held_drew (S := (fun w' => has w' w.heap.size 32 (cL s 2 (ka : Nat) (kb : Nat) (kc : Nat) (kdd : Nat) (kx : Nat) m (kp : Nat) (kt : Nat) (kk : Nat) es en ec (some ⟨tb, toff, none⟩) tn tc r))) (by kernel_rfl) ?_ (fun hH0 => ?_)
        · exact HS6.out.box
        refine wpAnyH_take (i := 0) (oi := _) (v := ?_) rfl (by kernel_rfl) (by kernel_rfl) (by kernel_rfl) (fun _ _ _ h => h) (Or.inl ⟨by rfl, ?_⟩) (by assumption) ?_
        rotate_left
        · intro w hSw; (try dsimp only at hSw); obtain ⟨u0, u1, u2, u3, u4, u5, u6, u7, u8, u9, ua, ub, uc, ud, uf⟩ := card14 hSw; first | (go_simp; done) | (go_simp; with_reducible rfl)
        try simp only [go_sem]
        refine wpAnyH_take (i := 1) (oi := _) (v := ?_) rfl (by kernel_rfl) (by kernel_rfl) (by kernel_rfl) (fun _ _ _ h => h) (Or.inl ⟨by rfl, ?_⟩) (by assumption) ?_
        rotate_left
        · intro w hSw; (try dsimp only at hSw); obtain ⟨u0, u1, u2, u3, u4, u5, u6, u7, u8, u9, ua, ub, uc, ud, uf⟩ := card14 hSw; first | (go_simp; done) | (go_simp; with_reducible rfl)
        try simp only [go_sem]
        refine wpAnyH_take (i := 2) (oi := _) (v := ?_) rfl (by kernel_rfl) (by kernel_rfl) (by kernel_rfl) (fun _ _ _ h => h) (Or.inl ⟨by rfl, ?_⟩) (by assumption) ?_
        rotate_left
        · intro w hSw; (try dsimp only at hSw); obtain ⟨u0, u1, u2, u3, u4, u5, u6, u7, u8, u9, ua, ub, uc, ud, uf⟩ := card14 hSw; first | (go_simp; done) | (go_simp; with_reducible rfl)
        try simp only [go_sem]
        refine wpAnyH_take (i := 3) (oi := _) (v := ?_) rfl (by kernel_rfl) (by kernel_rfl) (by kernel_rfl) (fun _ _ _ h => h) (Or.inl ⟨by rfl, ?_⟩) (by assumption) ?_
        rotate_left
        · intro w hSw; (try dsimp only at hSw); obtain ⟨u0, u1, u2, u3, u4, u5, u6, u7, u8, u9, ua, ub, uc, ud, uf⟩ := card14 hSw; first | (go_simp; done) | (go_simp; with_reducible rfl)
        try simp only [go_sem]
        refine wpAnyH_ready (rs := [4]) (by kernel_rfl) (by simp) ?_
        refine AllReadyH.cons (o := _) rfl (fun K hK => ?_) AllReadyH.nil
        go_simp; refine (Has_any _ _ _).mono ?_; rintro vv w3 ⟨rfl, rfl⟩
        refine hK.out _ _ ?_ (fun hH1 => ?_)
        · exact HS6.out.box
        clear hK K hH0
        try simp only [go_sem]
        refine wpAnyH_done (by kernel_rfl) ?_ _
        cases hb : kwHas kk 0
        all_goals rw [hb] at hk
        · have HR : Hid (kwT kk (0 + 1) = kwT kk 0) := Lib.hid (by rw [HKS.out, hb]; simp)
          go_wp2_with fail
          exact ⟨⟨1, n, by omega, by omega, by go_num, Lib.hid (by rw [show (1 : Nat) = 0 + 1 from rfl, HR.out]; exact HS6.out)⟩, by simp [intOf]⟩
        · have HR : Hid (kwT kk (0 + 1) = kwT kk 0 ++ [kcL 0]) := Lib.hid (by rw [HKS.out, hb]; simp)
          have HA := Lib.hid (HS6.out.alloc (.cells #[.string (bs (kcL 0))] 9))
          have z1 := HA.out.hb.size
          go_wp2_with (at_builtin; refine wpList_append_own _ rfl _ _ 63 rfl w.heap.size 9 i0 (.string ⟨#[]⟩) 1 16 Tryz.underlying63 hi hz0 hz1 hz2 rfl (by decide) _ n _ rfl HA.out.own ⟨wr.heap.size, 0, none⟩ 1 1 [.string (bs (kcL 0))] rfl rfl (fun j u hu => by rw [addr_add, Nat.zero_add]; exact ((new0 wr.drew 9 [.string (bs (kcL 0))]).cell j).trans hu) (by simp [Value.oneCell']) (by unfold maxLen; omega) (by omega) z1 ?_; intro v7 w7 hown hgrow _; have HS7 : Hid (SS w 32 (cL s 2 (ka : Nat) (kb : Nat) (kc : Nat) (kdd : Nat) (kx : Nat) m (kp : Nat) (kt : Nat) (kk : Nat) es en ec (some ⟨tb, toff, none⟩) tn tc r) w7 v7 (n + 1) (([s.data.toList, ks] ++ [dp ++ [47] ++ dt]) ++ kwT kk (0 + 1))) := Lib.hid (HA.out.app (by decide) hown hgrow (by rw [HR.out, ← List.append_assoc, ss_snoc])); clear hown hgrow)
          exact ⟨⟨1, n + 1, by omega, by omega, by go_num, HS7⟩, by simp [intOf]⟩
      · have hk : (bits .and .i64 (kk : Int) (IntKind.i64.wrap 2) == IntKind.i64.wrap 2) = kwHas kk 1 := (by have := hasK kk hkw 1 (by omega); rw [show IntKind.i64.wrap 2 = 2 by decide]; exact this)
        have ix : ∀ w, (Instr.index 74 (.agg #[.string (bs (kcL 0)), .string (bs (kcL 1)), .string (bs (kcL 2)), .string (bs (kcL 3))]) (.int .i64 1)).run Tryz.prog w = .ok (.string (bs (kcL 1))) w := ix_kw 1 (by omega)
        have HKS : Hid (kwT kk (1 + 1) = kwT kk 1 ++ if kwHas kk 1 then [kcL 1] else []) := Lib.hid (kwT_succ kk 1)
        have HS6 := Lib.hid HT.out.drew
        go_wp2_with fail
        refine wp_region_held_drew (S := (fun w' => has w' w.heap.size 32 (cL s 2 (ka : Nat) (kb : Nat) (kc : Nat) (kdd : Nat) (kx : Nat) m (kp : Nat) (kt : Nat) (kk : Nat) es en ec (some ⟨tb, toff, none⟩) tn tc r))) (by kernel_rfl) ?_ (fun hH0 => ?_)
        · exact HS6.out.box
        refine wpAnyH_take (i := 0) (oi := _) (v := ?_) rfl (by kernel_rfl) (by kernel_rfl) (by kernel_rfl) (fun _ _ _ h => h) (Or.inl ⟨by rfl, ?_⟩) (by assumption) ?_
        rotate_left
        · intro w hSw; (try dsimp only at hSw); obtain ⟨u0, u1, u2, u3, u4, u5, u6, u7, u8, u9, ua, ub, uc, ud, uf⟩ := card14 hSw; first | (go_simp; done) | (go_simp; with_reducible rfl)
        try simp only [go_sem]
        refine wpAnyH_take (i := 1) (oi := _) (v := ?_) rfl (by kernel_rfl) (by kernel_rfl) (by kernel_rfl) (fun _ _ _ h => h) (Or.inl ⟨by rfl, ?_⟩) (by assumption) ?_
        rotate_left
        · intro w hSw; (try dsimp only at hSw); obtain ⟨u0, u1, u2, u3, u4, u5, u6, u7, u8, u9, ua, ub, uc, ud, uf⟩ := card14 hSw; first | (go_simp; done) | (go_simp; with_reducible rfl)
        try simp only [go_sem]
        refine wpAnyH_take (i := 2) (oi := _) (v := ?_) rfl (by kernel_rfl) (by kernel_rfl) (by kernel_rfl) (fun _ _ _ h => h) (Or.inl ⟨by rfl, ?_⟩) (by assumption) ?_
        rotate_left
        · intro w hSw; (try dsimp only at hSw); obtain ⟨u0, u1, u2, u3, u4, u5, u6, u7, u8, u9, ua, ub, uc, ud, uf⟩ := card14 hSw; first | (go_simp; done) | (go_simp; with_reducible rfl)
        try simp only [go_sem]
        refine wpAnyH_take (i := 3) (oi := _) (v := ?_) rfl (by kernel_rfl) (by kernel_rfl) (by kernel_rfl) (fun _ _ _ h => h) (Or.inl ⟨by rfl, ?_⟩) (by assumption) ?_
        rotate_left
        · intro w hSw; (try dsimp only at hSw); obtain ⟨u0, u1, u2, u3, u4, u5, u6, u7, u8, u9, ua, ub, uc, ud, uf⟩ := card14 hSw; first | (go_simp; done) | (go_simp; with_reducible rfl)
        try simp only [go_sem]
        refine wpAnyH_ready (rs := [4]) (by kernel_rfl) (by simp) ?_
        refine AllReadyH.cons (o := _) rfl (fun K hK => ?_) AllReadyH.nil
        go_simp; refine (Has_any _ _ _).mono ?_; rintro vv w3 ⟨rfl, rfl⟩
        refine hK.out _ _ ?_ (fun hH1 => ?_)
        · exact HS6.out.box
        clear hK K hH0
        try simp only [go_sem]
        refine wpAnyH_done (by kernel_rfl) ?_ _
        cases hb : kwHas kk 1
        all_goals rw [hb] at hk
        · have HR : Hid (kwT kk (1 + 1) = kwT kk 1) := Lib.hid (by rw [HKS.out, hb]; simp)
          go_wp2_with fail
          exact ⟨⟨2, n, by omega, by omega, by go_num, Lib.hid (by rw [show (2 : Nat) = 1 + 1 from rfl, HR.out]; exact HS6.out)⟩, by simp [intOf]⟩
        · have HR : Hid (kwT kk (1 + 1) = kwT kk 1 ++ [kcL 1]) := Lib.hid (by rw [HKS.out, hb]; simp)
          have HA := Lib.hid (HS6.out.alloc (.cells #[.string (bs (kcL 1))] 9))
          have z1 := HA.out.hb.size
          go_wp2_with (at_builtin; refine wpList_append_own _ rfl _ _ 63 rfl w.heap.size 9 i0 (.string ⟨#[]⟩) 1 16 Tryz.underlying63 hi hz0 hz1 hz2 rfl (by decide) _ n _ rfl HA.out.own ⟨wr.heap.size, 0, none⟩ 1 1 [.string (bs (kcL 1))] rfl rfl (fun j u hu => by rw [addr_add, Nat.zero_add]; exact ((new0 wr.drew 9 [.string (bs (kcL 1))]).cell j).trans hu) (by simp [Value.oneCell']) (by unfold maxLen; omega) (by omega) z1 ?_; intro v7 w7 hown hgrow _; have HS7 : Hid (SS w 32 (cL s 2 (ka : Nat) (kb : Nat) (kc : Nat) (kdd : Nat) (kx : Nat) m (kp : Nat) (kt : Nat) (kk : Nat) es en ec (some ⟨tb, toff, none⟩) tn tc r) w7 v7 (n + 1) (([s.data.toList, ks] ++ [dp ++ [47] ++ dt]) ++ kwT kk (1 + 1))) := Lib.hid (HA.out.app (by decide) hown hgrow (by rw [HR.out, ← List.append_assoc, ss_snoc])); clear hown hgrow)
          exact ⟨⟨2, n + 1, by omega, by omega, by go_num, HS7⟩, by simp [intOf]⟩
      · have hk : (bits .and .i64 (kk : Int) (IntKind.i64.wrap 4) == IntKind.i64.wrap 4) = kwHas kk 2 := (by have := hasK kk hkw 2 (by omega); rw [show IntKind.i64.wrap 4 = 4 by decide]; exact this)
        have ix : ∀ w, (Instr.index 74 (.agg #[.string (bs (kcL 0)), .string (bs (kcL 1)), .string (bs (kcL 2)), .string (bs (kcL 3))]) (.int .i64 2)).run Tryz.prog w = .ok (.string (bs (kcL 2))) w := ix_kw 2 (by omega)
        have HKS : Hid (kwT kk (2 + 1) = kwT kk 2 ++ if kwHas kk 2 then [kcL 2] else []) := Lib.hid (kwT_succ kk 2)
        have HS6 := Lib.hid HT.out.drew
        go_wp2_with fail
        refine wp_region_held_drew (S := (fun w' => has w' w.heap.size 32 (cL s 2 (ka : Nat) (kb : Nat) (kc : Nat) (kdd : Nat) (kx : Nat) m (kp : Nat) (kt : Nat) (kk : Nat) es en ec (some ⟨tb, toff, none⟩) tn tc r))) (by kernel_rfl) ?_ (fun hH0 => ?_)
        · exact HS6.out.box
        refine wpAnyH_take (i := 0) (oi := _) (v := ?_) rfl (by kernel_rfl) (by kernel_rfl) (by kernel_rfl) (fun _ _ _ h => h) (Or.inl ⟨by rfl, ?_⟩) (by assumption) ?_
        rotate_left
        · intro w hSw; (try dsimp only at hSw); obtain ⟨u0, u1, u2, u3, u4, u5, u6, u7, u8, u9, ua, ub, uc, ud, uf⟩ := card14 hSw; first | (go_simp; done) | (go_simp; with_reducible rfl)
        try simp only [go_sem]
        refine wpAnyH_take (i := 1) (oi := _) (v := ?_) rfl (by kernel_rfl) (by kernel_rfl) (by kernel_rfl) (fun _ _ _ h => h) (Or.inl ⟨by rfl, ?_⟩) (by assumption) ?_
        rotate_left
        · intro w hSw; (try dsimp only at hSw); obtain ⟨u0, u1, u2, u3, u4, u5, u6, u7, u8, u9, ua, ub, uc, ud, uf⟩ := card14 hSw; first | (go_simp; done) | (go_simp; with_reducible rfl)
        try simp only [go_sem]
        refine wpAnyH_take (i := 2) (oi := _) (v := ?_) rfl (by kernel_rfl) (by kernel_rfl) (by kernel_rfl) (fun _ _ _ h => h) (Or.inl ⟨by rfl, ?_⟩) (by assumption) ?_
        rotate_left
        · intro w hSw; (try dsimp only at hSw); obtain ⟨u0, u1, u2, u3, u4, u5, u6, u7, u8, u9, ua, ub, uc, ud, uf⟩ := card14 hSw; first | (go_simp; done) | (go_simp; with_reducible rfl)
        try simp only [go_sem]
        refine wpAnyH_take (i := 3) (oi := _) (v := ?_) rfl (by kernel_rfl) (by kernel_rfl) (by kernel_rfl) (fun _ _ _ h => h) (Or.inl ⟨by rfl, ?_⟩) (by assumption) ?_
        rotate_left
        · intro w hSw; (try dsimp only at hSw); obtain ⟨u0, u1, u2, u3, u4, u5, u6, u7, u8, u9, ua, ub, uc, ud, uf⟩ := card14 hSw; first | (go_simp; done) | (go_simp; with_reducible rfl)
        try simp only [go_sem]
        refine wpAnyH_ready (rs := [4]) (by kernel_rfl) (by simp) ?_
        refine AllReadyH.cons (o := _) rfl (fun K hK => ?_) AllReadyH.nil
        go_simp; refine (Has_any _ _ _).mono ?_; rintro vv w3 ⟨rfl, rfl⟩
        refine hK.out _ _ ?_ (fun hH1 => ?_)
        · exact HS6.out.box
        clear hK K hH0
        try simp only [go_sem]
        refine wpAnyH_done (by kernel_rfl) ?_ _
        cases hb : kwHas kk 2
        all_goals rw [hb] at hk
        · have HR : Hid (kwT kk (2 + 1) = kwT kk 2) := Lib.hid (by rw [HKS.out, hb]; simp)
          go_wp2_with fail
          exact ⟨⟨3, n, by omega, by omega, by go_num, Lib.hid (by rw [show (3 : Nat) = 2 + 1 from rfl, HR.out]; exact HS6.out)⟩, by simp [intOf]⟩
        · have HR : Hid (kwT kk (2 + 1) = kwT kk 2 ++ [kcL 2]) := Lib.hid (by rw [HKS.out, hb]; simp)
          have HA := Lib.hid (HS6.out.alloc (.cells #[.string (bs (kcL 2))] 9))
          have z1 := HA.out.hb.size
          go_wp2_with (at_builtin; refine wpList_append_own _ rfl _ _ 63 rfl w.heap.size 9 i0 (.string ⟨#[]⟩) 1 16 Tryz.underlying63 hi hz0 hz1 hz2 rfl (by decide) _ n _ rfl HA.out.own ⟨wr.heap.size, 0, none⟩ 1 1 [.string (bs (kcL 2))] rfl rfl (fun j u hu => by rw [addr_add, Nat.zero_add]; exact ((new0 wr.drew 9 [.string (bs (kcL 2))]).cell j).trans hu) (by simp [Value.oneCell']) (by unfold maxLen; omega) (by omega) z1 ?_; intro v7 w7 hown hgrow _; have HS7 : Hid (SS w 32 (cL s 2 (ka : Nat) (kb : Nat) (kc : Nat) (kdd : Nat) (kx : Nat) m (kp : Nat) (kt : Nat) (kk : Nat) es en ec (some ⟨tb, toff, none⟩) tn tc r) w7 v7 (n + 1) (([s.data.toList, ks] ++ [dp ++ [47] ++ dt]) ++ kwT kk (2 + 1))) := Lib.hid (HA.out.app (by decide) hown hgrow (by rw [HR.out, ← List.append_assoc, ss_snoc])); clear hown hgrow)
          exact ⟨⟨3, n + 1, by omega, by omega, by go_num, HS7⟩, by simp [intOf]⟩
      · have hk : (bits .and .i64 (kk : Int) (IntKind.i64.wrap 8) == IntKind.i64.wrap 8) = kwHas kk 3 := (by have := hasK kk hkw 3 (by omega); rw [show IntKind.i64.wrap 8 = 8 by decide]; exact this)
        have ix : ∀ w, (Instr.index 74 (.agg #[.string (bs (kcL 0)), .string (bs (kcL 1)), .string (bs (kcL 2)), .string (bs (kcL 3))]) (.int .i64 3)).run Tryz.prog w = .ok (.string (bs (kcL 3))) w := ix_kw 3 (by omega)
        have HKS : Hid (kwT kk (3 + 1) = kwT kk 3 ++ if kwHas kk 3 then [kcL 3] else []) := Lib.hid (kwT_succ kk 3)
        have HS6 := Lib.hid HT.out.drew
        go_wp2_with fail
        refine wp_region_held_drew (S := (fun w' => has w' w.heap.size 32 (cL s 2 (ka : Nat) (kb : Nat) (kc : Nat) (kdd : Nat) (kx : Nat) m (kp : Nat) (kt : Nat) (kk : Nat) es en ec (some ⟨tb, toff, none⟩) tn tc r))) (by kernel_rfl) ?_ (fun hH0 => ?_)
        · exact HS6.out.box
        refine wpAnyH_take (i := 0) (oi := _) (v := ?_) rfl (by kernel_rfl) (by kernel_rfl) (by kernel_rfl) (fun _ _ _ h => h) (Or.inl ⟨by rfl, ?_⟩) (by assumption) ?_
        rotate_left
        · intro w hSw; (try dsimp only at hSw); obtain ⟨u0, u1, u2, u3, u4, u5, u6, u7, u8, u9, ua, ub, uc, ud, uf⟩ := card14 hSw; first | (go_simp; done) | (go_simp; with_reducible rfl)
        try simp only [go_sem]
        refine wpAnyH_take (i := 1) (oi := _) (v := ?_) rfl (by kernel_rfl) (by kernel_rfl) (by kernel_rfl) (fun _ _ _ h => h) (Or.inl ⟨by rfl, ?_⟩) (by assumption) ?_
        rotate_left
        · intro w hSw; (try dsimp only at hSw); obtain ⟨u0, u1, u2, u3, u4, u5, u6, u7, u8, u9, ua, ub, uc, ud, uf⟩ := card14 hSw; first | (go_simp; done) | (go_simp; with_reducible rfl)
        try simp only [go_sem]
        refine wpAnyH_take (i := 2) (oi := _) (v := ?_) rfl (by kernel_rfl) (by kernel_rfl) (by kernel_rfl) (fun _ _ _ h => h) (Or.inl ⟨by rfl, ?_⟩) (by assumption) ?_
        rotate_left
        · intro w hSw; (try dsimp only at hSw); obtain ⟨u0, u1, u2, u3, u4, u5, u6, u7, u8, u9, ua, ub, uc, ud, uf⟩ := card14 hSw; first | (go_simp; done) | (go_simp; with_reducible rfl)
        try simp only [go_sem]
        refine wpAnyH_take (i := 3) (oi := _) (v := ?_) rfl (by kernel_rfl) (by kernel_rfl) (by kernel_rfl) (fun _ _ _ h => h) (Or.inl ⟨by rfl, ?_⟩) (by assumption) ?_
        rotate_left
        · intro w hSw; (try dsimp only at hSw); obtain ⟨u0, u1, u2, u3, u4, u5, u6, u7, u8, u9, ua, ub, uc, ud, uf⟩ := card14 hSw; first | (go_simp; done) | (go_simp; with_reducible rfl)
        try simp only [go_sem]
        refine wpAnyH_ready (rs := [4]) (by kernel_rfl) (by simp) ?_
        refine AllReadyH.cons (o := _) rfl (fun K hK => ?_) AllReadyH.nil
        go_simp; refine (Has_any _ _ _).mono ?_; rintro vv w3 ⟨rfl, rfl⟩
        refine hK.out _ _ ?_ (fun hH1 => ?_)
        · exact HS6.out.box
        clear hK K hH0
        try simp only [go_sem]
        refine wpAnyH_done (by kernel_rfl) ?_ _
        cases hb : kwHas kk 3
        all_goals rw [hb] at hk
        · have HR : Hid (kwT kk (3 + 1) = kwT kk 3) := Lib.hid (by rw [HKS.out, hb]; simp)
          go_wp2_with fail
          exact ⟨⟨4, n, by omega, by omega, by go_num, Lib.hid (by rw [show (4 : Nat) = 3 + 1 from rfl, HR.out]; exact HS6.out)⟩, by simp [intOf]⟩
        · have HR : Hid (kwT kk (3 + 1) = kwT kk 3 ++ [kcL 3]) := Lib.hid (by rw [HKS.out, hb]; simp)
          have HA := Lib.hid (HS6.out.alloc (.cells #[.string (bs (kcL 3))] 9))
          have z1 := HA.out.hb.size
          go_wp2_with (at_builtin; refine wpList_append_own _ rfl _ _ 63 rfl w.heap.size 9 i0 (.string ⟨#[]⟩) 1 16 Tryz.underlying63 hi hz0 hz1 hz2 rfl (by decide) _ n _ rfl HA.out.own ⟨wr.heap.size, 0, none⟩ 1 1 [.string (bs (kcL 3))] rfl rfl (fun j u hu => by rw [addr_add, Nat.zero_add]; exact ((new0 wr.drew 9 [.string (bs (kcL 3))]).cell j).trans hu) (by simp [Value.oneCell']) (by unfold maxLen; omega) (by omega) z1 ?_; intro v7 w7 hown hgrow _; have HS7 : Hid (SS w 32 (cL s 2 (ka : Nat) (kb : Nat) (kc : Nat) (kdd : Nat) (kx : Nat) m (kp : Nat) (kt : Nat) (kk : Nat) es en ec (some ⟨tb, toff, none⟩) tn tc r) w7 v7 (n + 1) (([s.data.toList, ks] ++ [dp ++ [47] ++ dt]) ++ kwT kk (3 + 1))) := Lib.hid (HA.out.app (by decide) hown hgrow (by rw [HR.out, ← List.append_assoc, ss_snoc])); clear hown hgrow)
          exact ⟨⟨4, n + 1, by omega, by omega, by go_num, HS7⟩, by simp [intOf]⟩
    · have hq4 : q = 4 := by omega
      subst hq4
      have HEX := effectTexts_any es en ec e wr (HH.out.e.below HT.out.hb (Nat.le_refl _)) (HG.out.below HT.out.hb) HEA.out
      have he4 : e.length ≤ 4 := by rw [HLE.out]; exact en4
      have hn7 : n ≤ 7 := by omega
      clear hq hlt hnq
      obtain ⟨-, -, -, -, -, -, -, -, -, -, -, ub, -, -, -⟩ := card14 HT.out.box
      go_wp2_with fail
      refine HEX.mono ?_; rintro vv w8 ⟨g8, cap8, rfl, hown8, hb8⟩
      have HT8 := Lib.hid (HT.out.below hb8)
      have HO8 := Lib.hid hown8
      clear hown8 hb8 ub
      have z8 := HT8.out.hb.size
      go_wp2_with (at_builtin; refine wpList_append_own _ rfl _ _ 63 rfl w.heap.size 9 i0 (.string ⟨#[]⟩) 1 16 Tryz.underlying63 hi hz0 hz1 hz2 rfl (by decide) _ n _ rfl HT8.out.own ⟨g8, 0, none⟩ e.length cap8 (ss ((e.map textE).map bs)) rfl (by rw [ss_len, List.length_map, List.length_map, Nat.mul_one]) (fun j u hu => by rw [addr_add, Nat.zero_add, HO8.out.cellAt j (by have := (List.getElem?_eq_some_iff.1 hu).1; rw [ss_len, List.length_map, List.length_map] at this; omega)]; exact hu) (ss_one _) (by unfold maxLen; omega) (by omega) z8 ?_; intro v9 w9 hown hgrow _; have HS9 : Hid (SS w 32 (cL s 2 (ka : Nat) (kb : Nat) (kc : Nat) (kdd : Nat) (kx : Nat) m (kp : Nat) (kt : Nat) (kk : Nat) es en ec (some ⟨tb, toff, none⟩) tn tc r) w9 v9 (n + e.length) ((([s.data.toList, ks] ++ [dp ++ [47] ++ dt]) ++ kwT kk 4) ++ e.map textE)) := Lib.hid (HT8.out.app (by decide) hown hgrow (ss_cat _ _).symm); clear hown hgrow; obtain ⟨-, -, -, -, -, -, -, -, -, -, -, -, uc, -, -⟩ := card14 HS9.out.box)
      clear z8
      obtain ⟨tb', toff', hts, htb, hc⟩ := HH.out.t.c h0
      cases hts
      have C : Hid (∀ q, q < tn → ∃ s m c, TrAt w tb (toff + q * 2) (l.getD q default) s m c) := Lib.hid fun q hq => hc q _ (getT (by rw [HLN.out]; exact hq))
      have HY : Hid (∀ q, q < tn → ((1 ≤ (l.getD q default).w ∧ (l.getD q default).w ≤ 3) ∧ allB (l.getD q default).e = true) ∧ 1 ≤ (l.getD q default).e.length ∧ (l.getD q default).e.length ≤ 2) := Lib.hid fun q hq => HW.out _ (by rw [List.getD_eq_getElem?_getD, List.getElem?_eq_getElem (by rw [HLN.out]; exact hq)]; exact List.getElem_mem _)
      have HX : Hid (∀ q, q < tn → (l.take (q + 1)).map trT = (l.take q).map trT ++ [trT (l.getD q default)]) := Lib.hid fun q hq => by
        have hq' : q < l.length := by rw [HLN.out]; exact hq
        rw [List.take_succ_eq_append_getElem hq', List.map_append]
        simp [List.getD_eq_getElem?_getD, hq']
      clear hc
      generalize hN9 : n + e.length = n9 at *
      have hn9 : n9 ≤ 11 := by omega
      clear hN9
      go_loopw [4, 54] (fun v i wr => ∃ q n2 : Nat, q ≤ tn ∧ n2 ≤ 11 + q ∧ i = .int .i64 q ∧ Hid (SS w 32 (cL s 2 (ka : Nat) (kb : Nat) (kc : Nat) (kdd : Nat) (kx : Nat) m (kp : Nat) (kt : Nat) (kk : Nat) es en ec (some ⟨tb, toff, none⟩) tn tc r) wr v n2 (((([s.data.toList, ks] ++ [dp ++ [47] ++ dt]) ++ kwT kk 4) ++ e.map textE) ++ (l.take q).map trT))) (fun _ i _ => tn - (intOf i).toNat)
      case atStart => exact ⟨0, n9, Nat.zero_le _, by omega, rfl, Lib.hid (by rw [List.take_zero, List.map_nil, List.append_nil]; exact HS9.out)⟩
      case round =>
        obtain ⟨q, n2, hq, hn2, rfl, HU⟩ := hrel
        by_cases hlt : q < tn
        · obtain ⟨s', n', c', hat⟩ := C.out q hlt
          obtain ⟨c0, c1, _⟩ := hat.below HU.out.hb htb (Nat.le_refl _)
          have HX' := Lib.hid (HX.out q hlt)
          obtain ⟨⟨⟨w0, w1⟩, hA⟩, hy1, hy2⟩ := HY.out q hlt
          generalize l.getD q default = y at *
          obtain ⟨yw, ye⟩ := y
          dsimp only at c0 c1 HX' w0 w1 hA hy1 hy2
          have CW : Hid (∀ W, Below w.heap.size w W → EfsAt W s' n' ye) := Lib.hid fun W hW => hat.e.below hW (Nat.le_refl _)
          clear hat
          have HM6 := Lib.hid (new0 wr 47 [.int .i64 yw, .slice s' n' c'])
          have HU6 := Lib.hid ((HU.out.alloc (.cells #[.int .i64 yw, .slice s' n' c'] 47)).drew)
          have HEY := effectTexts_any s' n' c' ye (wr.alloc (.cells #[.int .i64 yw, .slice s' n' c'] 47)).drew (CW.out _ HU6.out.hb) (HG.out.below HU6.out.hb) hA
          have d1 := maFn.cat_run (bs (whL yw.toNat)) ⟨#[58, 32]⟩ (Nat.le_trans (Nat.add_le_add (show (bs (whL yw.toNat)).size ≤ 8 by rw [bs_size]; exact whL_len _) (show ByteArray.size _ ≤ 2 by decide)) (by decide))
          obtain ⟨je, hje⟩ : ∃ je, Lib.join (ye.map textE) [32, 97, 110, 100, 32] = je := ⟨_, rfl⟩
          have hjl : (bs je).size ≤ 82 := by rw [bs_size, ← hje]; exact joinE_82 ye hy2
          have d2 := maFn.cat_run (bs (whL yw.toNat) ++ ⟨#[58, 32]⟩) (bs je) (by rw [ByteArray.size_append]; have h8 : (bs (whL yw.toNat)).size ≤ 8 := (by rw [bs_size]; exact whL_len _); have h2 : (⟨#[58, 32]⟩ : ByteArray).size = 2 := rfl; omega)
          have HTR : Hid (bs (whL yw.toNat) ++ ⟨#[58, 32]⟩ ++ bs je = bs (trT ⟨yw, ye⟩)) := Lib.hid (by unfold trT; rw [hje, ← bs_app, ← bs_app]; rfl)
          have HJE := Lib.hid hje
          clear hA hje hjl
          have w2' : (0 : Int) ≤ yw := by omega
          have w3' : yw < 4 := by omega
          go_wp2_with fail
          refine wp_region_held_drew (S := (fun w' => has w' wr.heap.size 47 [.int .i64 yw, .slice s' n' c'] ∧ w'.cell? ⟨1, yw.toNat, none⟩ = some (.string (bs (whL yw.toNat))))) (by kernel_rfl) ?_ (fun hH0 => ?_)
          · exact ⟨HM6.out, wh_at (HG.out.below HU6.out.hb) yw w0 w1⟩
          refine wpAnyH_take (i := 0) (oi := _) (v := ?_) rfl (by kernel_rfl) (by kernel_rfl) (by kernel_rfl) (fun _ _ _ h => h) (Or.inl ⟨by rfl, ?_⟩) (by assumption) ?_
          rotate_left
          · intro w hSw; (try dsimp only at hSw); obtain ⟨hS1, h5⟩ := hSw; obtain ⟨x0, x1, x2⟩ := two hS1; first | (go_simp; done) | (go_simp; with_reducible rfl)
          try simp only [go_sem]
          refine wpAnyH_take (i := 1) (oi := _) (v := ?_) rfl (by kernel_rfl) (by kernel_rfl) (by kernel_rfl) (fun _ _ _ h => h) (Or.inl ⟨by rfl, ?_⟩) (by assumption) ?_
          rotate_left
          · intro w hSw; (try dsimp only at hSw); obtain ⟨hS1, h5⟩ := hSw; obtain ⟨x0, x1, x2⟩ := two hS1; first | (go_simp; done) | (go_simp; with_reducible rfl)
          try simp only [go_sem]
          refine wpAnyH_take (i := 2) (oi := _) (v := ?_) rfl (by kernel_rfl) (by kernel_rfl) (by kernel_rfl) (fun _ _ _ h => h) (Or.inl ⟨by rfl, ?_⟩) (by assumption) ?_
          rotate_left
          · intro w hSw; (try dsimp only at hSw); obtain ⟨hS1, h5⟩ := hSw; obtain ⟨x0, x1, x2⟩ := two hS1; first | (go_simp; done) | (go_simp; with_reducible rfl)
          try simp only [go_sem]
          refine wpAnyH_take (i := 3) (oi := _) (v := ?_) rfl (by kernel_rfl) (by kernel_rfl) (by kernel_rfl) (fun _ _ _ h => h) (Or.inl ⟨by rfl, ?_⟩) (by assumption) ?_
          rotate_left
          · intro w hSw; (try dsimp only at hSw); obtain ⟨hS1, h5⟩ := hSw; obtain ⟨x0, x1, x2⟩ := two hS1; first | (go_simp; done) | (go_simp; with_reducible rfl)
          try simp only [go_sem]
          refine wpAnyH_take (i := 4) (oi := _) (v := ?_) rfl (by kernel_rfl) (by kernel_rfl) (by kernel_rfl) (fun _ _ _ h => h) (Or.inl ⟨by rfl, ?_⟩) (by assumption) ?_
          rotate_left
          · intro w hSw; (try dsimp only at hSw); obtain ⟨hS1, h5⟩ := hSw; obtain ⟨x0, x1, x2⟩ := two hS1; first | (go_simp; done) | (go_simp; with_reducible rfl)
          try simp only [go_sem]
          refine wpAnyH_take (i := 5) (oi := _) (v := ?_) rfl (by kernel_rfl) (by kernel_rfl) (by kernel_rfl) (fun _ _ _ h => h) (Or.inl ⟨by rfl, ?_⟩) (by assumption) ?_
          rotate_left
          · intro w hSw; (try dsimp only at hSw); obtain ⟨hS1, h5⟩ := hSw; obtain ⟨x0, x1, x2⟩ := two hS1; first | (go_simp; done) | (go_simp; with_reducible rfl)
          try simp only [go_sem]
          refine wpAnyH_take (i := 6) (oi := _) (v := ?_) rfl (by kernel_rfl) (by kernel_rfl) (by kernel_rfl) (fun _ _ _ h => h) (Or.inl ⟨by rfl, ?_⟩) (by assumption) ?_
          rotate_left
          · intro w hSw; (try dsimp only at hSw); obtain ⟨hS1, h5⟩ := hSw; obtain ⟨x0, x1, x2⟩ := two hS1; first | (go_simp; done) | (go_simp; with_reducible rfl)
          try simp only [go_sem]
          refine wpAnyH_take (i := 7) (oi := _) (v := ?_) rfl (by kernel_rfl) (by kernel_rfl) (by kernel_rfl) (fun _ _ _ h => h) (Or.inl ⟨by rfl, ?_⟩) (by assumption) ?_
          rotate_left
          · intro w hSw; (try dsimp only at hSw); obtain ⟨hS1, h5⟩ := hSw; obtain ⟨x0, x1, x2⟩ := two hS1; first | (go_simp; done) | (go_simp; with_reducible rfl)
          try simp only [go_sem]
          refine wpAnyH_ready (rs := [8]) (by kernel_rfl) (by simp) ?_
          refine AllReadyH.cons (o := _) rfl (fun K hK => ?_) AllReadyH.nil
          go_simp; refine HEY.mono ?_; rintro vv w6 ⟨g6, cap6, rfl, hown6, hb6⟩; have HM7 := Lib.hid ((show has (wr.alloc (.cells #[.int .i64 yw, .slice s' n' c'] 47)).drew wr.heap.size 47 [.int .i64 yw, .slice s' n' c'] from HM6.out).below hb6 HM6.out.lt); have HU7 := Lib.hid (HU6.out.below hb6); have HJ6 := JoinA [32, 97, 110, 100, 32] ⟨#[32, 97, 110, 100, 32]⟩ rfl hown6 (by omega) (by omega) (by have := joinE_82 ye hy2; omega); rw [HJE.out] at HJ6; clear hown6 hb6
          refine hK.out _ _ ?_ (fun hH1 => ?_)
          · exact ⟨HM7.out, wh_at (HG.out.below HU7.out.hb) yw w0 w1⟩
          clear hK K hH0
          try simp only [go_sem]
          refine wpAnyH_ready (rs := [9]) (by kernel_rfl) (by simp) ?_
          refine AllReadyH.cons (o := _) rfl (fun K hK => ?_) AllReadyH.nil
          go_simp; refine HJ6.mono ?_; rintro vv wk ⟨rfl, hbk⟩; have HM8 := Lib.hid (HM7.out.below hbk HM7.out.lt); have HU8 := Lib.hid (HU7.out.below hbk); clear hbk
          refine hK.out _ _ ?_ (fun hH2 => ?_)
          · exact ⟨HM8.out, wh_at (HG.out.below HU8.out.hb) yw w0 w1⟩
          clear hK K hH1
          try simp only [go_sem]
          refine wpAnyH_take (i := 10) (oi := _) (v := ?_) rfl (by kernel_rfl) (by kernel_rfl) (by kernel_rfl) (fun _ _ _ h => h) (Or.inl ⟨by rfl, ?_⟩) (by assumption) ?_
          rotate_left
          · intro w hSw; (try dsimp only at hSw); obtain ⟨hS1, h5⟩ := hSw; obtain ⟨x0, x1, x2⟩ := two hS1; first | (go_simp; done) | (go_simp; with_reducible rfl)
          try simp only [go_sem]
          refine wpAnyH_ready (rs := [11]) (by kernel_rfl) (by simp) ?_
          refine AllReadyH.cons (o := _) rfl (fun K hK => ?_) AllReadyH.nil
          go_simp
          refine hK.out _ _ ?_ (fun hH3 => ?_)
          · exact ⟨HM8.out.alloc _, wh_at (HG.out.below (HU8.out.alloc _).hb) yw w0 w1⟩
          clear hK K hH2
          try simp only [go_sem]
          refine wpAnyH_ready (rs := [12]) (by kernel_rfl) (by simp) ?_
          refine AllReadyH.cons (o := _) rfl (fun K hK => ?_) AllReadyH.nil
          refine step_append_lies _ (by rfl) _ _ _ (by rfl) w.heap.size 9 i0 (.string ⟨#[]⟩) 1 16 Tryz.underlying63 hi hz0 hz1 hz2 rfl (by omega) u4 n2 (ss ((((([s.data.toList, ks] ++ [dp ++ [47] ++ dt]) ++ kwT kk 4) ++ e.map textE) ++ (l.take q).map trT).map bs)) (by rfl) (HU8.out.alloc _).own ⟨wk.heap.size, 0, none⟩ 1 1 [.string (bs (whL yw.toNat) ++ ⟨#[58, 32]⟩ ++ bs je)] (by rfl) (by rfl) (World.news_of_block (cs := #[.string (bs (whL yw.toNat) ++ ⟨#[58, 32]⟩ ++ bs je)]) (t := 9) (fr := (0, 0)) (heap_alloc_new wk _)) (by simp [Value.oneCell']) (by omega) (by unfold maxLen; omega) (by omega) (by have := HU8.out.hb.size; simp; omega) (wk.heap.size + 1) (by simp) ?_; intro g7 cap7 w7 hown hgrow _ _; have HS7 : Hid (SS w 32 (cL s 2 (ka : Nat) (kb : Nat) (kc : Nat) (kdd : Nat) (kx : Nat) m (kp : Nat) (kt : Nat) (kk : Nat) es en ec (some ⟨tb, toff, none⟩) tn tc r) w7 (.slice (some ⟨g7, 0, none⟩) (n2 + 1) cap7) (n2 + 1) (((([s.data.toList, ks] ++ [dp ++ [47] ++ dt]) ++ kwT kk 4) ++ e.map textE) ++ (l.take q).map trT ++ [trT ⟨yw, ye⟩])) := Lib.hid ((HU8.out.alloc _).app (by decide) hown hgrow (by rw [ss_snoc, ← HTR.out])); have HM9 := Lib.hid (own_has' hgrow (HU8.out.alloc _).own (HM8.out.alloc _) (by decide)); clear hown hgrow
          refine hK.out _ _ ?_ (fun hH4 => ?_)
          · exact ⟨HM9.out, wh_at (HG.out.below HS7.out.hb) yw w0 w1⟩
          clear hK K hH3
          try simp only [go_sem]
          refine wpAnyH_take (i := 13) (oi := _) (v := ?_) rfl (by kernel_rfl) (by kernel_rfl) (by kernel_rfl) (fun _ _ _ h => h) (Or.inl ⟨by rfl, ?_⟩) (by assumption) ?_
          rotate_left
          · intro w hSw; (try dsimp only at hSw); obtain ⟨hS1, h5⟩ := hSw; obtain ⟨x0, x1, x2⟩ := two hS1; first | (go_simp; done) | (go_simp; with_reducible rfl)
          try simp only [go_sem]
          refine wpAnyH_done (by kernel_rfl) ?_ _
          go_wp2_with fail
          exact ⟨⟨q + 1, n2 + 1, by omega, by omega, by go_num, Lib.hid (by rw [HX'.out, ← List.append_assoc]; exact HS7.out)⟩, by simp [intOf]; omega⟩
        · obtain rfl : q = tn := by omega
          have HTT : Hid (l.take q = l) := Lib.hid (List.take_of_length_le (by rw [HLN.out]; exact Nat.le_refl _))
          have hnp : 0 < n2 := by have h1 := HU.out.len; simp only [List.length_append, List.length_cons] at h1; omega
          have HUT : Hid (SS w 32 (cL s 2 (ka : Nat) (kb : Nat) (kc : Nat) (kdd : Nat) (kx : Nat) m (kp : Nat) (kt : Nat) (kk : Nat) es en ec (some ⟨tb, toff, none⟩) q tc r) wr u4 n2 (((([s.data.toList, ks] ++ [dp ++ [47] ++ dt]) ++ kwT kk 4) ++ e.map textE) ++ l.map trT)) := Lib.hid (by have := HU.out; rw [HTT.out] at this; exact this)
          have HJ := JoinA [44, 32] ⟨#[44, 32]⟩ rfl HUT.out.own (by omega) (by omega) HLL.out
          go_wp2_with fail
          refine HJ.mono ?_; rintro vv wz ⟨rfl, hbz⟩
          have HBZ := Lib.hid (HUT.out.hb.trans (hbz.mono HUT.out.hb.size))
          clear hbz
          go_wp2_with fail
          go_ret2
          exact ⟨by rw [HLT.out]; simp, HBZ.out⟩
end Go.Proofs.YtlhnnjllbcglcaaGreatDoor.caFn

/- The line of a creature without triggers. -/
namespace Go.Proofs.YtlhnnjllbcglcaaGreatDoor.caFn
open Go.ChangeShapes Go.WideShapes Go.ChangeAt Go.RowKit drMem efFn
set_option linter.unusedVariables false

set_option maxRecDepth 100000 in
set_option maxHeartbeats 16000000 in
theorem Line_2 (s : ByteArray) (m r : Int) (ka kb kc kdd kx kp kt kk : Nat) (es : Option Addr) (en ec : Nat) (ts : Option Addr) (tn tc : Nat) (e : List Ef) (l : List Tr) (w : World) (h : CdAt w es en e ts tn l) (htc : tn ≤ tc) (hG : G w) (h0 : tn = 0) (ho : okCd ⟨s.data.toList, 2, (ka : Nat), (kb : Nat), (kc : Nat), (kdd : Nat), (kx : Nat), m, (kp : Nat), (kt : Nat), (kk : Nat), e, l, r⟩ = true) :
    Calls Tryz.prog 21 #[cV s 2 (ka : Nat) (kb : Nat) (kc : Nat) (kdd : Nat) (kx : Nat) m (kp : Nat) (kt : Nat) (kk : Nat) es en ec ts tn tc r] w (lnPost (lineT ⟨s.data.toList, 2, (ka : Nat), (kb : Nat), (kc : Nat), (kdd : Nat), (kx : Nat), m, (kp : Nat), (kt : Nat), (kk : Nat), e, l, r⟩) w) := by
  obtain ⟨i0, hi, hz0, hz1, hz2⟩ := info_parts infoS
  obtain ⟨hnm, _, hkind⟩ := okCd_parts ho
  obtain ⟨⟨nm0, nm1⟩, _, _, _, _, _, _, _, _, _, _, kw0, eA, tr0, tw0⟩ := okCd_bd ho
  dsimp only at nm0 nm1 kw0 eA tr0 tw0
  rw [list_len] at nm0 nm1
  have hcost : maFn.okC (ka : Nat) (kb : Nat) (kc : Nat) (kdd : Nat) (kx : Nat) = true := by
    rcases kind_cases hkind with ⟨_, q⟩ | ⟨_, q⟩ | ⟨_, q⟩
    · obtain ⟨_, ⟨g1, g2, g3, g4, g5⟩, _⟩ := srcB_bd q
      dsimp only at g1 g2 g3 g4 g5
      rw [g1, g2, g3, g4, g5]; rfl
    · exact (creB_bd q).1
    · exact (splB_bd q).1
  have hml : (2 : Int) = 1 → maFn.okN 3 m = true := by
    intro hk1
    rcases kind_cases hkind with ⟨_, q⟩ | ⟨q0, q⟩ | ⟨q0, q⟩
    · obtain ⟨g1, _⟩ := srcB_bd q
      exact (maFn.okN_iff 3 m).2 g1
    · (try dsimp only at q0); omega
    · (try dsimp only at q0); omega
  have hkw : kk < 16 := by
    rcases kind_cases hkind with ⟨_, q⟩ | ⟨_, q⟩ | ⟨_, q⟩
    · obtain ⟨_, _, _, _, g, _⟩ := srcB_bd q; dsimp only at g; omega
    · obtain ⟨_, _, _, _, g, _⟩ := creB_bd q; dsimp only at g; omega
    · obtain ⟨_, _, _, _, _, _, g, _⟩ := splB_bd q; dsimp only at g; omega
  have hw3 : ∀ t ∈ l, ((1 ≤ t.w ∧ t.w ≤ 3) ∧ allB t.e = true) ∧ 1 ≤ t.e.length ∧ t.e.length ≤ 2 := by
    rcases kind_cases hkind with ⟨_, q⟩ | ⟨_, q⟩ | ⟨_, q⟩
    · obtain ⟨_, _, _, _, _, _, g⟩ := srcB_bd q; dsimp only at g; rw [g]; simp
    · obtain ⟨_, _, _, _, _, _, g⟩ := creB_bd q
      exact fun t ht => by obtain ⟨b1, b2, b3, _⟩ := trB_bd ((trsB_bd g).2 t ht); exact ⟨⟨b1, b3⟩, b2⟩
    · obtain ⟨_, _, _, _, _, _, _, g⟩ := splB_bd q; dsimp only at g; rw [g]; simp
  have hpt : kp ≤ 20 ∧ kt ≤ 20 := by
    rcases kind_cases hkind with ⟨q0, q⟩ | ⟨_, q⟩ | ⟨q0, q⟩
    · (try dsimp only at q0); omega
    · obtain ⟨_, _, g1, g2, _⟩ := creB_bd q; dsimp only at g1 g2; omega
    · (try dsimp only at q0); omega
  obtain ⟨hp20, ht20⟩ := hpt
  have HLT : Hid (lineT ⟨s.data.toList, 2, (ka : Nat), (kb : Nat), (kc : Nat), (kdd : Nat), (kx : Nat), m, (kp : Nat), (kt : Nat), (kk : Nat), e, l, r⟩ = Lib.join (((([s.data.toList, kdS 2 m (maFn.textL ka kb kc kdd kx)] ++ [Lib.decDigits kp ++ [47] ++ Lib.decDigits kt]) ++ kwT kk 4) ++ e.map textE) ++ l.map trT) [44, 32]) := Lib.hid (by
    have hpt : ptT ⟨s.data.toList, 2, (ka : Nat), (kb : Nat), (kc : Nat), (kdd : Nat), (kx : Nat), m, (kp : Nat), (kt : Nat), (kk : Nat), e, l, r⟩ = [Lib.decDigits kp ++ [47] ++ Lib.decDigits kt] := if_pos rfl
    unfold lineT partsT
    rw [hpt]
    rfl)
  have hcl : (maFn.textL ka kb kc kdd kx).length ≤ 82 := by have := costT_len (q := ⟨[], 0, ka, kb, kc, kdd, kx, 0, 0, 0, 0, [], [], 0⟩) hcost; simpa [costT] using this
  have hkl : (kdS 2 m (maFn.textL ka kb kc kdd kx)).length ≤ 100 := by
    unfold kdS
    have := letT_len m
    (repeat' split) <;> simp only [List.length_append, List.length_cons, List.length_nil] <;> omega
  have hln := h.t.n
  have hle := h.e.n
  rw [hln] at tr0
  have en4 : en ≤ 4 := by have := (all_bd eA).1; omega
  have HLN := Lib.hid hln
  have HLE := Lib.hid hle
  have HW := Lib.hid hw3
  have HG := Lib.hid hG
  have HH := Lib.hid h
  have HEA := Lib.hid eA
  have HKL := Lib.hid hkl
  have B0 : Below w.heap.size w (w.alloc (.cells #[.string s, .int .i64 2, .int .i64 (ka : Nat), .int .i64 (kb : Nat), .int .i64 (kc : Nat), .int .i64 (kdd : Nat), .int .i64 (kx : Nat), .int .i64 m, .int .i64 (kp : Nat), .int .i64 (kt : Nat), .int .i64 (kk : Nat), .slice es en ec, .slice ts tn tc, .int .i64 r] 32)) := (Below.refl _ _).alloc (Nat.le_refl _) _
  have HV := ValidV_any s 2 (ka : Nat) (kb : Nat) (kc : Nat) (kdd : Nat) (kx : Nat) m (kp : Nat) (kt : Nat) (kk : Nat) es en ec ts tn tc r e l _ (h.below B0 (Nat.le_refl _)) htc
  rw [ho] at HV
  have HB0 := Lib.hid B0
  have HM0 := Lib.hid (new0 w 32 (cL s 2 (ka : Nat) (kb : Nat) (kc : Nat) (kdd : Nat) (kx : Nat) m (kp : Nat) (kt : Nat) (kk : Nat) es en ec ts tn tc r))
  have HLLP : ((kdS 2 m (maFn.textL ka kb kc kdd kx)).length ≤ 100) → (Lib.join (((([s.data.toList, kdS 2 m (maFn.textL ka kb kc kdd kx)] ++ [Lib.decDigits kp ++ [47] ++ Lib.decDigits kt]) ++ kwT kk 4) ++ e.map textE) ++ l.map trT) [44, 32]).length ≤ 1000000 := fun hk => line_len _ (by simp) (fun x hx => by
    simp only [List.mem_append, List.mem_cons, List.not_mem_nil, or_false] at hx
    rcases hx with (rfl | rfl) | rfl
    · rw [list_len]; omega
    · exact hk
    · simp only [List.length_append, List.length_cons, List.length_nil]; have := maFn.dec_len kp hp20; have := maFn.dec_len kt ht20; omega) kk e (by rw [hle]; omega) l (by rw [hln]; exact tr0) (fun t ht => (hw3 t ht).2.2)
  have HLL := Lib.hid (HLLP hkl)
  clear HLLP
  have HKT := fun W => kindText_any s 2 m (kp : Nat) (kt : Nat) (kk : Nat) ka kb kc kdd kx es en ec ts tn tc r W hcost hml
  clear h B0 ho hw3 hln hle hG eA hkl hnm hkind hml hcost hcl tw0 kw0
  have hd0 : ¬ (0 : Int) < (tn : Int) := by omega
  have H00 := Lib.hid h0
  clear h0
  generalize hKS : kdS 2 m (maFn.textL ka kb kc kdd kx) = ks at *
  clear hKS
  go_enter Tryz.func21, Tryz.ntmps21
  go_wp2_with fail
  refine HV.mono ?_; rintro v w1 ⟨rfl, hb⟩
  have HM1 := Lib.hid (HM0.out.below hb HM0.out.lt)
  have HB1 := Lib.hid (next HB0.out hb)
  clear hb
  go_wp2_with fail
  refine wp_region_held_drew (S := (fun w' => has w' w.heap.size 32 (cL s 2 (ka : Nat) (kb : Nat) (kc : Nat) (kdd : Nat) (kx : Nat) m (kp : Nat) (kt : Nat) (kk : Nat) es en ec ts tn tc r))) (by kernel_rfl) ?_ (fun hH0 => ?_)
  · exact HM1.out
  refine wpAnyH_take (i := 0) (oi := _) (v := ?_) rfl (by kernel_rfl) (by kernel_rfl) (by kernel_rfl) (fun _ _ _ h => h) (Or.inl ⟨by rfl, ?_⟩) (by assumption) ?_
  rotate_left
  · intro w hSw; (try dsimp only at hSw); obtain ⟨u0, u1, u2, u3, u4, u5, u6, u7, u8, u9, ua, ub, uc, ud, uf⟩ := card14 hSw; first | (go_simp; done) | (go_simp; with_reducible rfl)
  try simp only [go_sem]
  refine wpAnyH_take (i := 1) (oi := _) (v := ?_) rfl (by kernel_rfl) (by kernel_rfl) (by kernel_rfl) (fun _ _ _ h => h) (Or.inl ⟨by rfl, ?_⟩) (by assumption) ?_
  rotate_left
  · intro w hSw; (try dsimp only at hSw); obtain ⟨u0, u1, u2, u3, u4, u5, u6, u7, u8, u9, ua, ub, uc, ud, uf⟩ := card14 hSw; first | (go_simp; done) | (go_simp; with_reducible rfl)
  try simp only [go_sem]
  refine wpAnyH_take (i := 2) (oi := _) (v := ?_) rfl (by kernel_rfl) (by kernel_rfl) (by kernel_rfl) (fun _ _ _ h => h) (Or.inl ⟨by rfl, ?_⟩) (by assumption) ?_
  rotate_left
  · intro w hSw; (try dsimp only at hSw); obtain ⟨u0, u1, u2, u3, u4, u5, u6, u7, u8, u9, ua, ub, uc, ud, uf⟩ := card14 hSw; first | (go_simp; done) | (go_simp; with_reducible rfl)
  try simp only [go_sem]
  refine wpAnyH_ready (rs := [3]) (by kernel_rfl) (by simp) ?_
  refine AllReadyH.cons (o := _) rfl (fun K hK => ?_) AllReadyH.nil
  go_simp; refine (HKT w1.drew).mono ?_; rintro vv w2 ⟨rfl, hb⟩; have HM2 := Lib.hid ((show has w1.drew w.heap.size 32 (cL s 2 (ka : Nat) (kb : Nat) (kc : Nat) (kdd : Nat) (kx : Nat) m (kp : Nat) (kt : Nat) (kk : Nat) es en ec ts tn tc r) from HM1.out).below hb HM1.out.lt); have HB2 := Lib.hid (next HB1.out.drew hb); clear hb
  refine hK.out _ _ ?_ (fun hH1 => ?_)
  · exact HM2.out
  clear hK K hH0
  try simp only [go_sem]
  refine wpAnyH_ready (rs := [4]) (by kernel_rfl) (by simp) ?_
  refine AllReadyH.cons (o := _) rfl (fun K hK => ?_) AllReadyH.nil
  go_simp
  refine hK.out _ _ ?_ (fun hH2 => ?_)
  · exact HM2.out.alloc _
  clear hK K hH1
  try simp only [go_sem]
  refine wpAnyH_take (i := 5) (oi := _) (v := ?_) rfl (by kernel_rfl) (by kernel_rfl) (by kernel_rfl) (fun _ _ _ h => h) (Or.inl ⟨by rfl, ?_⟩) (by assumption) ?_
  rotate_left
  · intro w hSw; (try dsimp only at hSw); obtain ⟨u0, u1, u2, u3, u4, u5, u6, u7, u8, u9, ua, ub, uc, ud, uf⟩ := card14 hSw; first | (go_simp; done) | (go_simp; with_reducible rfl)
  try simp only [go_sem]
  refine wpAnyH_done (by kernel_rfl) ?_ _
  have HS0 : Hid (SS w 32 (cL s 2 (ka : Nat) (kb : Nat) (kc : Nat) (kdd : Nat) (kx : Nat) m (kp : Nat) (kt : Nat) (kk : Nat) es en ec ts tn tc r) (w2.alloc (.cells #[.string s, .string (bs ks)] 9)) (.slice (some ⟨w2.heap.size, 0, none⟩) 2 2) 2 [s.data.toList, ks]) := Lib.hid ⟨World.ownsRow_lit (base := w.heap.size) (e := 9) (size := 1) w2 #[.string s, .string (bs ks)] 2 HB2.out.size (by unfold maxLen; omega) rfl, HB2.out.alloc HB2.out.size _, HM2.out.alloc _⟩
  have u1 : (w2.alloc (.cells #[.string s, .string (bs ks)] 9)).cell? ⟨w.heap.size, 1, none⟩ = some (.int .i64 2) := HS0.out.box.cell 1
  go_wp2_with fail
  obtain ⟨W, hW⟩ : ∃ W, w2.alloc (.cells #[.string s, .string (bs ks)] 9) = W := ⟨_, rfl⟩
  obtain ⟨v0, hv0⟩ : ∃ v0, Value.slice (some ⟨w2.heap.size, 0, none⟩) 2 2 = v0 := ⟨_, rfl⟩
  rw [hW, hv0] at HS0
  rw [hW, hv0]
  clear hW hv0 u1 HM2 HB2 HM1 HB1 HB0 HM0 HV
  obtain ⟨dp, hdp⟩ : ∃ dp, Lib.decDigits kp = dp := ⟨_, rfl⟩
  obtain ⟨dt, hdt⟩ : ∃ dt, Lib.decDigits kt = dt := ⟨_, rfl⟩
  have HI1 := Tryz.strconv_Itoa_small kp (by omega)
  have HI2 := Tryz.strconv_Itoa_small kt (by omega)
  have lp : (bs dp).size ≤ 2 := by rw [bs_size, ← hdp]; exact maFn.dec_len kp hp20
  have lt : (bs dt).size ≤ 2 := by rw [bs_size, ← hdt]; exact maFn.dec_len kt ht20
  have c1 := maFn.cat_run (bs dp) ⟨#[47]⟩ (Nat.le_trans (Nat.add_le_add lp (show ByteArray.size _ ≤ 2 by decide)) (by decide))
  have c2 := maFn.cat_run (bs dp ++ ⟨#[47]⟩) (bs dt) (by rw [ByteArray.size_append]; have : (⟨#[47]⟩ : ByteArray).size = 1 := rfl; omega)
  have HPT : Hid (bs dp ++ ⟨#[47]⟩ ++ bs dt = bs (dp ++ [47] ++ dt)) := Lib.hid (by rw [← bs_app, ← bs_app]; rfl)
  rw [hdp] at HI1 HLT HLL
  rw [hdt] at HI2 HLT HLL
  have HPL : Hid ((dp ++ [47] ++ dt).length ≤ 5) := Lib.hid (by rw [bs_size] at lp lt; simp only [List.length_append, List.length_cons, List.length_nil]; omega)
  clear hdp hdt lp lt
  have HS1 := Lib.hid HS0.out.drew
  refine wp_region_held_drew (S := (fun w' => has w' w.heap.size 32 (cL s 2 (ka : Nat) (kb : Nat) (kc : Nat) (kdd : Nat) (kx : Nat) m (kp : Nat) (kt : Nat) (kk : Nat) es en ec ts tn tc r))) (by kernel_rfl) ?_ (fun hH0 => ?_)
  · exact HS1.out.box
  refine wpAnyH_take (i := 0) (oi := _) (v := ?_) rfl (by kernel_rfl) (by kernel_rfl) (by kernel_rfl) (fun _ _ _ h => h) (Or.inl ⟨by rfl, ?_⟩) (by assumption) ?_
  rotate_left
  · intro w hSw; (try dsimp only at hSw); obtain ⟨u0, u1, u2, u3, u4, u5, u6, u7, u8, u9, ua, ub, uc, ud, uf⟩ := card14 hSw; first | (go_simp; done) | (go_simp; with_reducible rfl)
  try simp only [go_sem]
  refine wpAnyH_take (i := 1) (oi := _) (v := ?_) rfl (by kernel_rfl) (by kernel_rfl) (by kernel_rfl) (fun _ _ _ h => h) (Or.inl ⟨by rfl, ?_⟩) (by assumption) ?_
  rotate_left
  · intro w hSw; (try dsimp only at hSw); obtain ⟨u0, u1, u2, u3, u4, u5, u6, u7, u8, u9, ua, ub, uc, ud, uf⟩ := card14 hSw; first | (go_simp; done) | (go_simp; with_reducible rfl)
  try simp only [go_sem]
  refine wpAnyH_take (i := 2) (oi := _) (v := ?_) rfl (by kernel_rfl) (by kernel_rfl) (by kernel_rfl) (fun _ _ _ h => h) (Or.inl ⟨by rfl, ?_⟩) (by assumption) ?_
  rotate_left
  · intro w hSw; (try dsimp only at hSw); obtain ⟨u0, u1, u2, u3, u4, u5, u6, u7, u8, u9, ua, ub, uc, ud, uf⟩ := card14 hSw; first | (go_simp; done) | (go_simp; with_reducible rfl)
  try simp only [go_sem]
  refine wpAnyH_take (i := 5) (oi := _) (v := ?_) rfl (by kernel_rfl) (by kernel_rfl) (by kernel_rfl) (fun _ _ _ h => h) (Or.inl ⟨by rfl, ?_⟩) (by assumption) ?_
  rotate_left
  · intro w hSw; (try dsimp only at hSw); obtain ⟨u0, u1, u2, u3, u4, u5, u6, u7, u8, u9, ua, ub, uc, ud, uf⟩ := card14 hSw; first | (go_simp; done) | (go_simp; with_reducible rfl)
  try simp only [go_sem]
  refine wpAnyH_take (i := 6) (oi := _) (v := ?_) rfl (by kernel_rfl) (by kernel_rfl) (by kernel_rfl) (fun _ _ _ h => h) (Or.inl ⟨by rfl, ?_⟩) (by assumption) ?_
  rotate_left
  · intro w hSw; (try dsimp only at hSw); obtain ⟨u0, u1, u2, u3, u4, u5, u6, u7, u8, u9, ua, ub, uc, ud, uf⟩ := card14 hSw; first | (go_simp; done) | (go_simp; with_reducible rfl)
  try simp only [go_sem]
  refine wpAnyH_ready (rs := [3]) (by kernel_rfl) (by simp) ?_
  refine AllReadyH.cons (o := _) rfl (fun K hK => ?_) AllReadyH.nil
  go_simp; refine (HI1 _).mono ?_; rintro vv w3 ⟨rfl, rfl⟩; rw [show (ByteArray.mk dp.toArray) = bs dp from rfl]
  refine hK.out _ _ ?_ (fun hH1 => ?_)
  · exact HS1.out.box
  clear hK K hH0
  try simp only [go_sem]
  refine wpAnyH_take (i := 4) (oi := _) (v := ?_) rfl (by kernel_rfl) (by kernel_rfl) (by kernel_rfl) (fun _ _ _ h => h) (Or.inl ⟨by rfl, ?_⟩) (by assumption) ?_
  rotate_left
  · intro w hSw; (try dsimp only at hSw); obtain ⟨u0, u1, u2, u3, u4, u5, u6, u7, u8, u9, ua, ub, uc, ud, uf⟩ := card14 hSw; first | (go_simp; done) | (go_simp; with_reducible rfl)
  try simp only [go_sem]
  refine wpAnyH_ready (rs := [7]) (by kernel_rfl) (by simp) ?_
  refine AllReadyH.cons (o := _) rfl (fun K hK => ?_) AllReadyH.nil
  go_simp; refine (HI2 _).mono ?_; rintro vv w3 ⟨rfl, rfl⟩; rw [show (ByteArray.mk dt.toArray) = bs dt from rfl]
  refine hK.out _ _ ?_ (fun hH2 => ?_)
  · exact HS1.out.box
  clear hK K hH1
  try simp only [go_sem]
  refine wpAnyH_take (i := 8) (oi := _) (v := ?_) rfl (by kernel_rfl) (by kernel_rfl) (by kernel_rfl) (fun _ _ _ h => h) (Or.inl ⟨by rfl, ?_⟩) (by assumption) ?_
  rotate_left
  · intro w hSw; (try dsimp only at hSw); obtain ⟨u0, u1, u2, u3, u4, u5, u6, u7, u8, u9, ua, ub, uc, ud, uf⟩ := card14 hSw; first | (go_simp; done) | (go_simp; with_reducible rfl)
  try simp only [go_sem]
  refine wpAnyH_ready (rs := [9]) (by kernel_rfl) (by simp) ?_
  refine AllReadyH.cons (o := _) rfl (fun K hK => ?_) AllReadyH.nil
  go_simp
  refine hK.out _ _ ?_ (fun hH3 => ?_)
  · exact HS1.out.box.alloc _
  clear hK K hH2
  try simp only [go_sem]
  refine wpAnyH_ready (rs := [10]) (by kernel_rfl) (by simp) ?_
  refine AllReadyH.cons (o := _) rfl (fun K hK => ?_) AllReadyH.nil
  refine step_append_lies _ (by rfl) _ _ _ (by rfl) w.heap.size 9 i0 (.string ⟨#[]⟩) 1 16 Tryz.underlying63 hi hz0 hz1 hz2 rfl (by omega) v0 2 (ss ([s.data.toList, ks].map bs)) (by rfl) (HS1.out.alloc _).own ⟨W.heap.size, 0, none⟩ 1 1 [.string (bs dp ++ ⟨#[47]⟩ ++ bs dt)] (by rfl) (by rfl) (World.news_of_block (cs := #[.string (bs dp ++ ⟨#[47]⟩ ++ bs dt)]) (t := 9) (fr := (0, 0)) (heap_alloc_new W.drew _)) (by simp [Value.oneCell']) (by omega) (by unfold maxLen; omega) (by omega) (by have := HS0.out.hb.size; simp; omega) (W.heap.size + 1) (by simp) ?_; intro g5 cap5 w5 hown hgrow _ _; have HS5 : Hid (SS w 32 (cL s 2 (ka : Nat) (kb : Nat) (kc : Nat) (kdd : Nat) (kx : Nat) m (kp : Nat) (kt : Nat) (kk : Nat) es en ec ts tn tc r) w5 (.slice (some ⟨g5, 0, none⟩) (2 + 1) cap5) (2 + 1) ([s.data.toList, ks] ++ [dp ++ [47] ++ dt])) := Lib.hid ((HS1.out.alloc _).app (by decide) hown hgrow (by rw [ss_snoc, ← HPT.out])); clear hown hgrow
  refine hK.out _ _ ?_ (fun hH4 => ?_)
  · exact HS5.out.box
  clear hK K hH3
  try simp only [go_sem]
  refine wpAnyH_take (i := 11) (oi := _) (v := ?_) rfl (by kernel_rfl) (by kernel_rfl) (by kernel_rfl) (fun _ _ _ h => h) (Or.inl ⟨by rfl, ?_⟩) (by assumption) ?_
  rotate_left
  · intro w hSw; (try dsimp only at hSw); obtain ⟨u0, u1, u2, u3, u4, u5, u6, u7, u8, u9, ua, ub, uc, ud, uf⟩ := card14 hSw; first | (go_simp; done) | (go_simp; with_reducible rfl)
  try simp only [go_sem]
  refine wpAnyH_done (by kernel_rfl) ?_ _
  have hg := HG.out.below HS5.out.hb
  have h0 : w5.cell? ⟨0, 0, none⟩ = some (.string (bs (kcL 0))) := var_cell hg.kc 0
  have h1 : w5.cell? ⟨0, 1, none⟩ = some (.string (bs (kcL 1))) := var_cell hg.kc 1
  have h2 : w5.cell? ⟨0, 2, none⟩ = some (.string (bs (kcL 2))) := var_cell hg.kc 2
  have h3 : w5.cell? ⟨0, 3, none⟩ = some (.string (bs (kcL 3))) := var_cell hg.kc 3
  clear hg
  go_wp2_with fail
  clear h0 h1 h2 h3
  go_loopw [4, 32] (fun v i wr => ∃ q n : Nat, q ≤ 4 ∧ n ≤ 3 + q ∧ i = .int .i64 q ∧ Hid (SS w 32 (cL s 2 (ka : Nat) (kb : Nat) (kc : Nat) (kdd : Nat) (kx : Nat) m (kp : Nat) (kt : Nat) (kk : Nat) es en ec ts tn tc r) wr v n (([s.data.toList, ks] ++ [dp ++ [47] ++ dt]) ++ kwT kk q))) (fun _ i _ => 4 - (intOf i).toNat)
  case atStart => exact ⟨0, 3, Nat.zero_le _, by omega, rfl, Lib.hid (by rw [show kwT kk 0 = [] from rfl, List.append_nil]; exact HS5.out)⟩
  case round =>
    obtain ⟨q, n, hq, hnq, rfl, HT⟩ := hrel
    by_cases hlt : q < 4
    · have hq4 : q = 0 ∨ q = 1 ∨ q = 2 ∨ q = 3 := by omega
      clear hlt hq
      rcases hq4 with rfl | rfl | rfl | rfl
      · have hk : (bits .and .i64 (kk : Int) (IntKind.i64.wrap 1) == IntKind.i64.wrap 1) = kwHas kk 0 := (by have := hasK kk hkw 0 (by omega); rw [show IntKind.i64.wrap 1 = 1 by decide]; exact this)
        have ix : ∀ w, (Instr.index 74 (.agg #[.string (bs (kcL 0)), .string (bs (kcL 1)), .string (bs (kcL 2)), .string (bs (kcL 3))]) (.int .i64 0)).run Tryz.prog w = .ok (.string (bs (kcL 0))) w := ix_kw 0 (by omega)
        have HKS : Hid (kwT kk (0 + 1) = kwT kk 0 ++ if kwHas kk 0 then [kcL 0] else []) := Lib.hid (kwT_succ kk 0)
        have HS6 := Lib.hid HT.out.drew
        go_wp2_with fail
        refine wp_region_held_drew (S := (fun w' => has w' w.heap.size 32 (cL s 2 (ka : Nat) (kb : Nat) (kc : Nat) (kdd : Nat) (kx : Nat) m (kp : Nat) (kt : Nat) (kk : Nat) es en ec ts tn tc r))) (by kernel_rfl) ?_ (fun hH0 => ?_)
        · exact HS6.out.box
        refine wpAnyH_take (i := 0) (oi := _) (v := ?_) rfl (by kernel_rfl) (by kernel_rfl) (by kernel_rfl) (fun _ _ _ h => h) (Or.inl ⟨by rfl, ?_⟩) (by assumption) ?_
        rotate_left
        · intro w hSw; (try dsimp only at hSw); obtain ⟨u0, u1, u2, u3, u4, u5, u6, u7, u8, u9, ua, ub, uc, ud, uf⟩ := card14 hSw; first | (go_simp; done) | (go_simp; with_reducible rfl)
        try simp only [go_sem]
        refine wpAnyH_take (i := 1) (oi := _) (v := ?_) rfl (by kernel_rfl) (by kernel_rfl) (by kernel_rfl) (fun _ _ _ h => h) (Or.inl ⟨by rfl, ?_⟩) (by assumption) ?_
        rotate_left
        · intro w hSw; (try dsimp only at hSw); obtain ⟨u0, u1, u2, u3, u4, u5, u6, u7, u8, u9, ua, ub, uc, ud, uf⟩ := card14 hSw; first | (go_simp; done) | (go_simp; with_reducible rfl)
        try simp only [go_sem]
        refine wpAnyH_take (i := 2) (oi := _) (v := ?_) rfl (by kernel_rfl) (by kernel_rfl) (by kernel_rfl) (fun _ _ _ h => h) (Or.inl ⟨by rfl, ?_⟩) (by assumption) ?_
        rotate_left
        · intro w hSw; (try dsimp only at hSw); obtain ⟨u0, u1, u2, u3, u4, u5, u6, u7, u8, u9, ua, ub, uc, ud, uf⟩ := card14 hSw; first | (go_simp; done) | (go_simp; with_reducible rfl)
        try simp only [go_sem]
        refine wpAnyH_take (i := 3) (oi := _) (v := ?_) rfl (by kernel_rfl) (by kernel_rfl) (by kernel_rfl) (fun _ _ _ h => h) (Or.inl ⟨by rfl, ?_⟩) (by assumption) ?_
        rotate_left
        · intro w hSw; (try dsimp only at hSw); obtain ⟨u0, u1, u2, u3, u4, u5, u6, u7, u8, u9, ua, ub, uc, ud, uf⟩ := card14 hSw; first | (go_simp; done) | (go_simp; with_reducible rfl)
        try simp only [go_sem]
        refine wpAnyH_ready (rs := [4]) (by kernel_rfl) (by simp) ?_
        refine AllReadyH.cons (o := _) rfl (fun K hK => ?_) AllReadyH.nil
        go_simp; refine (Has_any _ _ _).mono ?_; rintro vv w3 ⟨rfl, rfl⟩
        refine hK.out _ _ ?_ (fun hH1 => ?_)
        · exact HS6.out.box
        clear hK K hH0
        try simp only [go_sem]
        refine wpAnyH_done (by kernel_rfl) ?_ _
        cases hb : kwHas kk 0
        all_goals rw [hb] at hk
        · have HR : Hid (kwT kk (0 + 1) = kwT kk 0) := Lib.hid (by rw [HKS.out, hb]; simp)
          go_wp2_with fail
          exact ⟨⟨1, n, by omega, by omega, by go_num, Lib.hid (by rw [show (1 : Nat) = 0 + 1 from rfl, HR.out]; exact HS6.out)⟩, by simp [intOf]⟩
        · have HR : Hid (kwT kk (0 + 1) = kwT kk 0 ++ [kcL 0]) := Lib.hid (by rw [HKS.out, hb]; simp)
          have HA := Lib.hid (HS6.out.alloc (.cells #[.string (bs (kcL 0))] 9))
          have z1 := HA.out.hb.size
          go_wp2_with (at_builtin; refine wpList_append_own _ rfl _ _ 63 rfl w.heap.size 9 i0 (.string ⟨#[]⟩) 1 16 Tryz.underlying63 hi hz0 hz1 hz2 rfl (by decide) _ n _ rfl HA.out.own ⟨wr.heap.size, 0, none⟩ 1 1 [.string (bs (kcL 0))] rfl rfl (fun j u hu => by rw [addr_add, Nat.zero_add]; exact ((new0 wr.drew 9 [.string (bs (kcL 0))]).cell j).trans hu) (by simp [Value.oneCell']) (by unfold maxLen; omega) (by omega) z1 ?_; intro v7 w7 hown hgrow _; have HS7 : Hid (SS w 32 (cL s 2 (ka : Nat) (kb : Nat) (kc : Nat) (kdd : Nat) (kx : Nat) m (kp : Nat) (kt : Nat) (kk : Nat) es en ec ts tn tc r) w7 v7 (n + 1) (([s.data.toList, ks] ++ [dp ++ [47] ++ dt]) ++ kwT kk (0 + 1))) := Lib.hid (HA.out.app (by decide) hown hgrow (by rw [HR.out, ← List.append_assoc, ss_snoc])); clear hown hgrow)
          exact ⟨⟨1, n + 1, by omega, by omega, by go_num, HS7⟩, by simp [intOf]⟩
      · have hk : (bits .and .i64 (kk : Int) (IntKind.i64.wrap 2) == IntKind.i64.wrap 2) = kwHas kk 1 := (by have := hasK kk hkw 1 (by omega); rw [show IntKind.i64.wrap 2 = 2 by decide]; exact this)
        have ix : ∀ w, (Instr.index 74 (.agg #[.string (bs (kcL 0)), .string (bs (kcL 1)), .string (bs (kcL 2)), .string (bs (kcL 3))]) (.int .i64 1)).run Tryz.prog w = .ok (.string (bs (kcL 1))) w := ix_kw 1 (by omega)
        have HKS : Hid (kwT kk (1 + 1) = kwT kk 1 ++ if kwHas kk 1 then [kcL 1] else []) := Lib.hid (kwT_succ kk 1)
        have HS6 := Lib.hid HT.out.drew
        go_wp2_with fail
        refine wp_region_held_drew (S := (fun w' => has w' w.heap.size 32 (cL s 2 (ka : Nat) (kb : Nat) (kc : Nat) (kdd : Nat) (kx : Nat) m (kp : Nat) (kt : Nat) (kk : Nat) es en ec ts tn tc r))) (by kernel_rfl) ?_ (fun hH0 => ?_)
        · exact HS6.out.box
        refine wpAnyH_take (i := 0) (oi := _) (v := ?_) rfl (by kernel_rfl) (by kernel_rfl) (by kernel_rfl) (fun _ _ _ h => h) (Or.inl ⟨by rfl, ?_⟩) (by assumption) ?_
        rotate_left
        · intro w hSw; (try dsimp only at hSw); obtain ⟨u0, u1, u2, u3, u4, u5, u6, u7, u8, u9, ua, ub, uc, ud, uf⟩ := card14 hSw; first | (go_simp; done) | (go_simp; with_reducible rfl)
        try simp only [go_sem]
        refine wpAnyH_take (i := 1) (oi := _) (v := ?_) rfl (by kernel_rfl) (by kernel_rfl) (by kernel_rfl) (fun _ _ _ h => h) (Or.inl ⟨by rfl, ?_⟩) (by assumption) ?_
        rotate_left
        · intro w hSw; (try dsimp only at hSw); obtain ⟨u0, u1, u2, u3, u4, u5, u6, u7, u8, u9, ua, ub, uc, ud, uf⟩ := card14 hSw; first | (go_simp; done) | (go_simp; with_reducible rfl)
        try simp only [go_sem]
        refine wpAnyH_take (i := 2) (oi := _) (v := ?_) rfl (by kernel_rfl) (by kernel_rfl) (by kernel_rfl) (fun _ _ _ h => h) (Or.inl ⟨by rfl, ?_⟩) (by assumption) ?_
        rotate_left
        · intro w hSw; (try dsimp only at hSw); obtain ⟨u0, u1, u2, u3, u4, u5, u6, u7, u8, u9, ua, ub, uc, ud, uf⟩ := card14 hSw; first | (go_simp; done) | (go_simp; with_reducible rfl)
        try simp only [go_sem]
        refine wpAnyH_take (i := 3) (oi := _) (v := ?_) rfl (by kernel_rfl) (by kernel_rfl) (by kernel_rfl) (fun _ _ _ h => h) (Or.inl ⟨by rfl, ?_⟩) (by assumption) ?_
        rotate_left
        · intro w hSw; (try dsimp only at hSw); obtain ⟨u0, u1, u2, u3, u4, u5, u6, u7, u8, u9, ua, ub, uc, ud, uf⟩ := card14 hSw; first | (go_simp; done) | (go_simp; with_reducible rfl)
        try simp only [go_sem]
        refine wpAnyH_ready (rs := [4]) (by kernel_rfl) (by simp) ?_
        refine AllReadyH.cons (o := _) rfl (fun K hK => ?_) AllReadyH.nil
        go_simp; refine (Has_any _ _ _).mono ?_; rintro vv w3 ⟨rfl, rfl⟩
        refine hK.out _ _ ?_ (fun hH1 => ?_)
        · exact HS6.out.box
        clear hK K hH0
        try simp only [go_sem]
        refine wpAnyH_done (by kernel_rfl) ?_ _
        cases hb : kwHas kk 1
        all_goals rw [hb] at hk
        · have HR : Hid (kwT kk (1 + 1) = kwT kk 1) := Lib.hid (by rw [HKS.out, hb]; simp)
          go_wp2_with fail
          exact ⟨⟨2, n, by omega, by omega, by go_num, Lib.hid (by rw [show (2 : Nat) = 1 + 1 from rfl, HR.out]; exact HS6.out)⟩, by simp [intOf]⟩
        · have HR : Hid (kwT kk (1 + 1) = kwT kk 1 ++ [kcL 1]) := Lib.hid (by rw [HKS.out, hb]; simp)
          have HA := Lib.hid (HS6.out.alloc (.cells #[.string (bs (kcL 1))] 9))
          have z1 := HA.out.hb.size
          go_wp2_with (at_builtin; refine wpList_append_own _ rfl _ _ 63 rfl w.heap.size 9 i0 (.string ⟨#[]⟩) 1 16 Tryz.underlying63 hi hz0 hz1 hz2 rfl (by decide) _ n _ rfl HA.out.own ⟨wr.heap.size, 0, none⟩ 1 1 [.string (bs (kcL 1))] rfl rfl (fun j u hu => by rw [addr_add, Nat.zero_add]; exact ((new0 wr.drew 9 [.string (bs (kcL 1))]).cell j).trans hu) (by simp [Value.oneCell']) (by unfold maxLen; omega) (by omega) z1 ?_; intro v7 w7 hown hgrow _; have HS7 : Hid (SS w 32 (cL s 2 (ka : Nat) (kb : Nat) (kc : Nat) (kdd : Nat) (kx : Nat) m (kp : Nat) (kt : Nat) (kk : Nat) es en ec ts tn tc r) w7 v7 (n + 1) (([s.data.toList, ks] ++ [dp ++ [47] ++ dt]) ++ kwT kk (1 + 1))) := Lib.hid (HA.out.app (by decide) hown hgrow (by rw [HR.out, ← List.append_assoc, ss_snoc])); clear hown hgrow)
          exact ⟨⟨2, n + 1, by omega, by omega, by go_num, HS7⟩, by simp [intOf]⟩
      · have hk : (bits .and .i64 (kk : Int) (IntKind.i64.wrap 4) == IntKind.i64.wrap 4) = kwHas kk 2 := (by have := hasK kk hkw 2 (by omega); rw [show IntKind.i64.wrap 4 = 4 by decide]; exact this)
        have ix : ∀ w, (Instr.index 74 (.agg #[.string (bs (kcL 0)), .string (bs (kcL 1)), .string (bs (kcL 2)), .string (bs (kcL 3))]) (.int .i64 2)).run Tryz.prog w = .ok (.string (bs (kcL 2))) w := ix_kw 2 (by omega)
        have HKS : Hid (kwT kk (2 + 1) = kwT kk 2 ++ if kwHas kk 2 then [kcL 2] else []) := Lib.hid (kwT_succ kk 2)
        have HS6 := Lib.hid HT.out.drew
        go_wp2_with fail
        refine wp_region_held_drew (S := (fun w' => has w' w.heap.size 32 (cL s 2 (ka : Nat) (kb : Nat) (kc : Nat) (kdd : Nat) (kx : Nat) m (kp : Nat) (kt : Nat) (kk : Nat) es en ec ts tn tc r))) (by kernel_rfl) ?_ (fun hH0 => ?_)
        · exact HS6.out.box
        refine wpAnyH_take (i := 0) (oi := _) (v := ?_) rfl (by kernel_rfl) (by kernel_rfl) (by kernel_rfl) (fun _ _ _ h => h) (Or.inl ⟨by rfl, ?_⟩) (by assumption) ?_
        rotate_left
        · intro w hSw; (try dsimp only at hSw); obtain ⟨u0, u1, u2, u3, u4, u5, u6, u7, u8, u9, ua, ub, uc, ud, uf⟩ := card14 hSw; first | (go_simp; done) | (go_simp; with_reducible rfl)
        try simp only [go_sem]
        refine wpAnyH_take (i := 1) (oi := _) (v := ?_) rfl (by kernel_rfl) (by kernel_rfl) (by kernel_rfl) (fun _ _ _ h => h) (Or.inl ⟨by rfl, ?_⟩) (by assumption) ?_
        rotate_left
        · intro w hSw; (try dsimp only at hSw); obtain ⟨u0, u1, u2, u3, u4, u5, u6, u7, u8, u9, ua, ub, uc, ud, uf⟩ := card14 hSw; first | (go_simp; done) | (go_simp; with_reducible rfl)
        try simp only [go_sem]
        refine wpAnyH_take (i := 2) (oi := _) (v := ?_) rfl (by kernel_rfl) (by kernel_rfl) (by kernel_rfl) (fun _ _ _ h => h) (Or.inl ⟨by rfl, ?_⟩) (by assumption) ?_
        rotate_left
        · intro w hSw; (try dsimp only at hSw); obtain ⟨u0, u1, u2, u3, u4, u5, u6, u7, u8, u9, ua, ub, uc, ud, uf⟩ := card14 hSw; first | (go_simp; done) | (go_simp; with_reducible rfl)
        try simp only [go_sem]
        refine wpAnyH_take (i := 3) (oi := _) (v := ?_) rfl (by kernel_rfl) (by kernel_rfl) (by kernel_rfl) (fun _ _ _ h => h) (Or.inl ⟨by rfl, ?_⟩) (by assumption) ?_
        rotate_left
        · intro w hSw; (try dsimp only at hSw); obtain ⟨u0, u1, u2, u3, u4, u5, u6, u7, u8, u9, ua, ub, uc, ud, uf⟩ := card14 hSw; first | (go_simp; done) | (go_simp; with_reducible rfl)
        try simp only [go_sem]
        refine wpAnyH_ready (rs := [4]) (by kernel_rfl) (by simp) ?_
        refine AllReadyH.cons (o := _) rfl (fun K hK => ?_) AllReadyH.nil
        go_simp; refine (Has_any _ _ _).mono ?_; rintro vv w3 ⟨rfl, rfl⟩
        refine hK.out _ _ ?_ (fun hH1 => ?_)
        · exact HS6.out.box
        clear hK K hH0
        try simp only [go_sem]
        refine wpAnyH_done (by kernel_rfl) ?_ _
        cases hb : kwHas kk 2
        all_goals rw [hb] at hk
        · have HR : Hid (kwT kk (2 + 1) = kwT kk 2) := Lib.hid (by rw [HKS.out, hb]; simp)
          go_wp2_with fail
          exact ⟨⟨3, n, by omega, by omega, by go_num, Lib.hid (by rw [show (3 : Nat) = 2 + 1 from rfl, HR.out]; exact HS6.out)⟩, by simp [intOf]⟩
        · have HR : Hid (kwT kk (2 + 1) = kwT kk 2 ++ [kcL 2]) := Lib.hid (by rw [HKS.out, hb]; simp)
          have HA := Lib.hid (HS6.out.alloc (.cells #[.string (bs (kcL 2))] 9))
          have z1 := HA.out.hb.size
          go_wp2_with (at_builtin; refine wpList_append_own _ rfl _ _ 63 rfl w.heap.size 9 i0 (.string ⟨#[]⟩) 1 16 Tryz.underlying63 hi hz0 hz1 hz2 rfl (by decide) _ n _ rfl HA.out.own ⟨wr.heap.size, 0, none⟩ 1 1 [.string (bs (kcL 2))] rfl rfl (fun j u hu => by rw [addr_add, Nat.zero_add]; exact ((new0 wr.drew 9 [.string (bs (kcL 2))]).cell j).trans hu) (by simp [Value.oneCell']) (by unfold maxLen; omega) (by omega) z1 ?_; intro v7 w7 hown hgrow _; have HS7 : Hid (SS w 32 (cL s 2 (ka : Nat) (kb : Nat) (kc : Nat) (kdd : Nat) (kx : Nat) m (kp : Nat) (kt : Nat) (kk : Nat) es en ec ts tn tc r) w7 v7 (n + 1) (([s.data.toList, ks] ++ [dp ++ [47] ++ dt]) ++ kwT kk (2 + 1))) := Lib.hid (HA.out.app (by decide) hown hgrow (by rw [HR.out, ← List.append_assoc, ss_snoc])); clear hown hgrow)
          exact ⟨⟨3, n + 1, by omega, by omega, by go_num, HS7⟩, by simp [intOf]⟩
      · have hk : (bits .and .i64 (kk : Int) (IntKind.i64.wrap 8) == IntKind.i64.wrap 8) = kwHas kk 3 := (by have := hasK kk hkw 3 (by omega); rw [show IntKind.i64.wrap 8 = 8 by decide]; exact this)
        have ix : ∀ w, (Instr.index 74 (.agg #[.string (bs (kcL 0)), .string (bs (kcL 1)), .string (bs (kcL 2)), .string (bs (kcL 3))]) (.int .i64 3)).run Tryz.prog w = .ok (.string (bs (kcL 3))) w := ix_kw 3 (by omega)
        have HKS : Hid (kwT kk (3 + 1) = kwT kk 3 ++ if kwHas kk 3 then [kcL 3] else []) := Lib.hid (kwT_succ kk 3)
        have HS6 := Lib.hid HT.out.drew
        go_wp2_with fail
        refine wp_region_held_drew (S := (fun w' => has w' w.heap.size 32 (cL s 2 (ka : Nat) (kb : Nat) (kc : Nat) (kdd : Nat) (kx : Nat) m (kp : Nat) (kt : Nat) (kk : Nat) es en ec ts tn tc r))) (by kernel_rfl) ?_ (fun hH0 => ?_)
        · exact HS6.out.box
        refine wpAnyH_take (i := 0) (oi := _) (v := ?_) rfl (by kernel_rfl) (by kernel_rfl) (by kernel_rfl) (fun _ _ _ h => h) (Or.inl ⟨by rfl, ?_⟩) (by assumption) ?_
        rotate_left
        · intro w hSw; (try dsimp only at hSw); obtain ⟨u0, u1, u2, u3, u4, u5, u6, u7, u8, u9, ua, ub, uc, ud, uf⟩ := card14 hSw; first | (go_simp; done) | (go_simp; with_reducible rfl)
        try simp only [go_sem]
        refine wpAnyH_take (i := 1) (oi := _) (v := ?_) rfl (by kernel_rfl) (by kernel_rfl) (by kernel_rfl) (fun _ _ _ h => h) (Or.inl ⟨by rfl, ?_⟩) (by assumption) ?_
        rotate_left
        · intro w hSw; (try dsimp only at hSw); obtain ⟨u0, u1, u2, u3, u4, u5, u6, u7, u8, u9, ua, ub, uc, ud, uf⟩ := card14 hSw; first | (go_simp; done) | (go_simp; with_reducible rfl)
        try simp only [go_sem]
        refine wpAnyH_take (i := 2) (oi := _) (v := ?_) rfl (by kernel_rfl) (by kernel_rfl) (by kernel_rfl) (fun _ _ _ h => h) (Or.inl ⟨by rfl, ?_⟩) (by assumption) ?_
        rotate_left
        · intro w hSw; (try dsimp only at hSw); obtain ⟨u0, u1, u2, u3, u4, u5, u6, u7, u8, u9, ua, ub, uc, ud, uf⟩ := card14 hSw; first | (go_simp; done) | (go_simp; with_reducible rfl)
        try simp only [go_sem]
        refine wpAnyH_take (i := 3) (oi := _) (v := ?_) rfl (by kernel_rfl) (by kernel_rfl) (by kernel_rfl) (fun _ _ _ h => h) (Or.inl ⟨by rfl, ?_⟩) (by assumption) ?_
        rotate_left
        · intro w hSw; (try dsimp only at hSw); obtain ⟨u0, u1, u2, u3, u4, u5, u6, u7, u8, u9, ua, ub, uc, ud, uf⟩ := card14 hSw; first | (go_simp; done) | (go_simp; with_reducible rfl)
        try simp only [go_sem]
        refine wpAnyH_ready (rs := [4]) (by kernel_rfl) (by simp) ?_
        refine AllReadyH.cons (o := _) rfl (fun K hK => ?_) AllReadyH.nil
        go_simp; refine (Has_any _ _ _).mono ?_; rintro vv w3 ⟨rfl, rfl⟩
        refine hK.out _ _ ?_ (fun hH1 => ?_)
        · exact HS6.out.box
        clear hK K hH0
        try simp only [go_sem]
        refine wpAnyH_done (by kernel_rfl) ?_ _
        cases hb : kwHas kk 3
        all_goals rw [hb] at hk
        · have HR : Hid (kwT kk (3 + 1) = kwT kk 3) := Lib.hid (by rw [HKS.out, hb]; simp)
          go_wp2_with fail
          exact ⟨⟨4, n, by omega, by omega, by go_num, Lib.hid (by rw [show (4 : Nat) = 3 + 1 from rfl, HR.out]; exact HS6.out)⟩, by simp [intOf]⟩
        · have HR : Hid (kwT kk (3 + 1) = kwT kk 3 ++ [kcL 3]) := Lib.hid (by rw [HKS.out, hb]; simp)
          have HA := Lib.hid (HS6.out.alloc (.cells #[.string (bs (kcL 3))] 9))
          have z1 := HA.out.hb.size
          go_wp2_with (at_builtin; refine wpList_append_own _ rfl _ _ 63 rfl w.heap.size 9 i0 (.string ⟨#[]⟩) 1 16 Tryz.underlying63 hi hz0 hz1 hz2 rfl (by decide) _ n _ rfl HA.out.own ⟨wr.heap.size, 0, none⟩ 1 1 [.string (bs (kcL 3))] rfl rfl (fun j u hu => by rw [addr_add, Nat.zero_add]; exact ((new0 wr.drew 9 [.string (bs (kcL 3))]).cell j).trans hu) (by simp [Value.oneCell']) (by unfold maxLen; omega) (by omega) z1 ?_; intro v7 w7 hown hgrow _; have HS7 : Hid (SS w 32 (cL s 2 (ka : Nat) (kb : Nat) (kc : Nat) (kdd : Nat) (kx : Nat) m (kp : Nat) (kt : Nat) (kk : Nat) es en ec ts tn tc r) w7 v7 (n + 1) (([s.data.toList, ks] ++ [dp ++ [47] ++ dt]) ++ kwT kk (3 + 1))) := Lib.hid (HA.out.app (by decide) hown hgrow (by rw [HR.out, ← List.append_assoc, ss_snoc])); clear hown hgrow)
          exact ⟨⟨4, n + 1, by omega, by omega, by go_num, HS7⟩, by simp [intOf]⟩
    · have hq4 : q = 4 := by omega
      subst hq4
      have HEX := effectTexts_any es en ec e wr (HH.out.e.below HT.out.hb (Nat.le_refl _)) (HG.out.below HT.out.hb) HEA.out
      have he4 : e.length ≤ 4 := by rw [HLE.out]; exact en4
      have hn7 : n ≤ 7 := by omega
      clear hq hlt hnq
      obtain ⟨-, -, -, -, -, -, -, -, -, -, -, ub, -, -, -⟩ := card14 HT.out.box
      go_wp2_with fail
      refine HEX.mono ?_; rintro vv w8 ⟨g8, cap8, rfl, hown8, hb8⟩
      have HT8 := Lib.hid (HT.out.below hb8)
      have HO8 := Lib.hid hown8
      clear hown8 hb8 ub
      have z8 := HT8.out.hb.size
      go_wp2_with (at_builtin; refine wpList_append_own _ rfl _ _ 63 rfl w.heap.size 9 i0 (.string ⟨#[]⟩) 1 16 Tryz.underlying63 hi hz0 hz1 hz2 rfl (by decide) _ n _ rfl HT8.out.own ⟨g8, 0, none⟩ e.length cap8 (ss ((e.map textE).map bs)) rfl (by rw [ss_len, List.length_map, List.length_map, Nat.mul_one]) (fun j u hu => by rw [addr_add, Nat.zero_add, HO8.out.cellAt j (by have := (List.getElem?_eq_some_iff.1 hu).1; rw [ss_len, List.length_map, List.length_map] at this; omega)]; exact hu) (ss_one _) (by unfold maxLen; omega) (by omega) z8 ?_; intro v9 w9 hown hgrow _; have HS9 : Hid (SS w 32 (cL s 2 (ka : Nat) (kb : Nat) (kc : Nat) (kdd : Nat) (kx : Nat) m (kp : Nat) (kt : Nat) (kk : Nat) es en ec ts tn tc r) w9 v9 (n + e.length) ((([s.data.toList, ks] ++ [dp ++ [47] ++ dt]) ++ kwT kk 4) ++ e.map textE)) := Lib.hid (HT8.out.app (by decide) hown hgrow (ss_cat _ _).symm); clear hown hgrow; obtain ⟨-, -, -, -, -, -, -, -, -, -, -, -, uc, -, -⟩ := card14 HS9.out.box)
      clear z8
      refine wp_loop_rounds 1 ?_
      rw [rounds_succ]
      have HL0 : Hid (l = []) := Lib.hid (List.eq_nil_of_length_eq_zero (HLN.out.trans H00.out))
      have hnp : 0 < n + e.length := by have h1 := HS9.out.len; simp only [List.length_append, List.length_cons] at h1; omega
      have HJ := JoinA [44, 32] ⟨#[44, 32]⟩ rfl HS9.out.own (by omega) (by omega) (by have := HLL.out; rw [HL0.out, List.map_nil, List.append_nil] at this; exact this)
      go_wp2_with fail
      refine HJ.mono ?_; rintro vv wz ⟨rfl, hbz⟩
      have HBZ := Lib.hid (HS9.out.hb.trans (hbz.mono HS9.out.hb.size))
      clear hbz
      go_wp2_with fail
      go_ret2
      exact ⟨by rw [HLT.out, HL0.out, List.map_nil, List.append_nil]; simp, HBZ.out⟩
end Go.Proofs.YtlhnnjllbcglcaaGreatDoor.caFn

/- The line of other cards. -/
namespace Go.Proofs.YtlhnnjllbcglcaaGreatDoor.caFn
open Go.ChangeShapes Go.WideShapes Go.ChangeAt Go.RowKit drMem efFn
set_option linter.unusedVariables false

set_option maxRecDepth 100000 in
set_option maxHeartbeats 16000000 in
theorem Line_1 (s : ByteArray) (kd m r : Int) (ka kb kc kdd kx kp kt kk : Nat) (es : Option Addr) (en ec : Nat) (ts : Option Addr) (tn tc : Nat) (e : List Ef) (l : List Tr) (w : World) (h : CdAt w es en e ts tn l) (htc : tn ≤ tc) (hG : G w) (hkd : kd ≠ 2) (h0 : tn = 0) (ho : okCd ⟨s.data.toList, kd, (ka : Nat), (kb : Nat), (kc : Nat), (kdd : Nat), (kx : Nat), m, (kp : Nat), (kt : Nat), (kk : Nat), e, l, r⟩ = true) :
    Calls Tryz.prog 21 #[cV s kd (ka : Nat) (kb : Nat) (kc : Nat) (kdd : Nat) (kx : Nat) m (kp : Nat) (kt : Nat) (kk : Nat) es en ec ts tn tc r] w (lnPost (lineT ⟨s.data.toList, kd, (ka : Nat), (kb : Nat), (kc : Nat), (kdd : Nat), (kx : Nat), m, (kp : Nat), (kt : Nat), (kk : Nat), e, l, r⟩) w) := by
  obtain ⟨i0, hi, hz0, hz1, hz2⟩ := info_parts infoS
  obtain ⟨hnm, _, hkind⟩ := okCd_parts ho
  obtain ⟨⟨nm0, nm1⟩, _, _, _, _, _, _, _, _, _, _, kw0, eA, tr0, tw0⟩ := okCd_bd ho
  dsimp only at nm0 nm1 kw0 eA tr0 tw0
  rw [list_len] at nm0 nm1
  have hcost : maFn.okC (ka : Nat) (kb : Nat) (kc : Nat) (kdd : Nat) (kx : Nat) = true := by
    rcases kind_cases hkind with ⟨_, q⟩ | ⟨_, q⟩ | ⟨_, q⟩
    · obtain ⟨_, ⟨g1, g2, g3, g4, g5⟩, _⟩ := srcB_bd q
      dsimp only at g1 g2 g3 g4 g5
      rw [g1, g2, g3, g4, g5]; rfl
    · exact (creB_bd q).1
    · exact (splB_bd q).1
  have hml : (kd : Int) = 1 → maFn.okN 3 m = true := by
    intro hk1
    rcases kind_cases hkind with ⟨_, q⟩ | ⟨q0, q⟩ | ⟨q0, q⟩
    · obtain ⟨g1, _⟩ := srcB_bd q
      exact (maFn.okN_iff 3 m).2 g1
    · (try dsimp only at q0); omega
    · (try dsimp only at q0); omega
  have hkw : kk < 16 := by
    rcases kind_cases hkind with ⟨_, q⟩ | ⟨_, q⟩ | ⟨_, q⟩
    · obtain ⟨_, _, _, _, g, _⟩ := srcB_bd q; dsimp only at g; omega
    · obtain ⟨_, _, _, _, g, _⟩ := creB_bd q; dsimp only at g; omega
    · obtain ⟨_, _, _, _, _, _, g, _⟩ := splB_bd q; dsimp only at g; omega
  have hw3 : ∀ t ∈ l, ((1 ≤ t.w ∧ t.w ≤ 3) ∧ allB t.e = true) ∧ 1 ≤ t.e.length ∧ t.e.length ≤ 2 := by
    rcases kind_cases hkind with ⟨_, q⟩ | ⟨_, q⟩ | ⟨_, q⟩
    · obtain ⟨_, _, _, _, _, _, g⟩ := srcB_bd q; dsimp only at g; rw [g]; simp
    · obtain ⟨_, _, _, _, _, _, g⟩ := creB_bd q
      exact fun t ht => by obtain ⟨b1, b2, b3, _⟩ := trB_bd ((trsB_bd g).2 t ht); exact ⟨⟨b1, b3⟩, b2⟩
    · obtain ⟨_, _, _, _, _, _, _, g⟩ := splB_bd q; dsimp only at g; rw [g]; simp
  have HLT : Hid (lineT ⟨s.data.toList, kd, (ka : Nat), (kb : Nat), (kc : Nat), (kdd : Nat), (kx : Nat), m, (kp : Nat), (kt : Nat), (kk : Nat), e, l, r⟩ = Lib.join (((([s.data.toList, kdS kd m (maFn.textL ka kb kc kdd kx)]) ++ kwT kk 4) ++ e.map textE) ++ l.map trT) [44, 32]) := Lib.hid (by
    have hpt : ptT ⟨s.data.toList, kd, (ka : Nat), (kb : Nat), (kc : Nat), (kdd : Nat), (kx : Nat), m, (kp : Nat), (kt : Nat), (kk : Nat), e, l, r⟩ = [] := if_neg hkd
    unfold lineT partsT
    rw [hpt]
    simp only [List.append_nil]
    rfl)
  have hcl : (maFn.textL ka kb kc kdd kx).length ≤ 82 := by have := costT_len (q := ⟨[], 0, ka, kb, kc, kdd, kx, 0, 0, 0, 0, [], [], 0⟩) hcost; simpa [costT] using this
  have hkl : (kdS kd m (maFn.textL ka kb kc kdd kx)).length ≤ 100 := by
    unfold kdS
    have := letT_len m
    (repeat' split) <;> simp only [List.length_append, List.length_cons, List.length_nil] <;> omega
  have hln := h.t.n
  have hle := h.e.n
  rw [hln] at tr0
  have en4 : en ≤ 4 := by have := (all_bd eA).1; omega
  have HLN := Lib.hid hln
  have HLE := Lib.hid hle
  have HW := Lib.hid hw3
  have HG := Lib.hid hG
  have HH := Lib.hid h
  have HEA := Lib.hid eA
  have HKL := Lib.hid hkl
  have B0 : Below w.heap.size w (w.alloc (.cells #[.string s, .int .i64 kd, .int .i64 (ka : Nat), .int .i64 (kb : Nat), .int .i64 (kc : Nat), .int .i64 (kdd : Nat), .int .i64 (kx : Nat), .int .i64 m, .int .i64 (kp : Nat), .int .i64 (kt : Nat), .int .i64 (kk : Nat), .slice es en ec, .slice ts tn tc, .int .i64 r] 32)) := (Below.refl _ _).alloc (Nat.le_refl _) _
  have HV := ValidV_any s kd (ka : Nat) (kb : Nat) (kc : Nat) (kdd : Nat) (kx : Nat) m (kp : Nat) (kt : Nat) (kk : Nat) es en ec ts tn tc r e l _ (h.below B0 (Nat.le_refl _)) htc
  rw [ho] at HV
  have HB0 := Lib.hid B0
  have HM0 := Lib.hid (new0 w 32 (cL s kd (ka : Nat) (kb : Nat) (kc : Nat) (kdd : Nat) (kx : Nat) m (kp : Nat) (kt : Nat) (kk : Nat) es en ec ts tn tc r))
  have HLLP : ((kdS kd m (maFn.textL ka kb kc kdd kx)).length ≤ 100) → (Lib.join (((([s.data.toList, kdS kd m (maFn.textL ka kb kc kdd kx)]) ++ kwT kk 4) ++ e.map textE) ++ l.map trT) [44, 32]).length ≤ 1000000 := fun hk => line_len _ (by simp) (fun x hx => by
    simp only [List.mem_cons, List.not_mem_nil, or_false] at hx
    rcases hx with rfl | rfl
    · rw [list_len]; omega
    · exact hk) kk e (by rw [hle]; omega) l (by rw [hln]; exact tr0) (fun t ht => (hw3 t ht).2.2)
  have HLL := Lib.hid (HLLP hkl)
  clear HLLP
  have HKT := fun W => kindText_any s kd m (kp : Nat) (kt : Nat) (kk : Nat) ka kb kc kdd kx es en ec ts tn tc r W hcost hml
  clear h B0 ho hw3 hln hle hG eA hkl hnm hkind hml hcost hcl tw0 kw0
  have e2 : (kd == 2) = false := by rw [beq_eq_false_iff_ne]; exact hkd
  clear hkd
  have hd0 : ¬ (0 : Int) < (tn : Int) := by omega
  have H00 := Lib.hid h0
  clear h0
  generalize hKS : kdS kd m (maFn.textL ka kb kc kdd kx) = ks at *
  clear hKS
  go_enter Tryz.func21, Tryz.ntmps21
  go_wp2_with fail
  refine HV.mono ?_; rintro v w1 ⟨rfl, hb⟩
  have HM1 := Lib.hid (HM0.out.below hb HM0.out.lt)
  have HB1 := Lib.hid (next HB0.out hb)
  clear hb
  go_wp2_with fail
  refine wp_region_held_drew (S := (fun w' => has w' w.heap.size 32 (cL s kd (ka : Nat) (kb : Nat) (kc : Nat) (kdd : Nat) (kx : Nat) m (kp : Nat) (kt : Nat) (kk : Nat) es en ec ts tn tc r))) (by kernel_rfl) ?_ (fun hH0 => ?_)
  · exact HM1.out
  refine wpAnyH_take (i := 0) (oi := _) (v := ?_) rfl (by kernel_rfl) (by kernel_rfl) (by kernel_rfl) (fun _ _ _ h => h) (Or.inl ⟨by rfl, ?_⟩) (by assumption) ?_
  rotate_left
  · intro w hSw; (try dsimp only at hSw); obtain ⟨u0, u1, u2, u3, u4, u5, u6, u7, u8, u9, ua, ub, uc, ud, uf⟩ := card14 hSw; first | (go_simp; done) | (go_simp; with_reducible rfl)
  try simp only [go_sem]
  refine wpAnyH_take (i := 1) (oi := _) (v := ?_) rfl (by kernel_rfl) (by kernel_rfl) (by kernel_rfl) (fun _ _ _ h => h) (Or.inl ⟨by rfl, ?_⟩) (by assumption) ?_
  rotate_left
  · intro w hSw; (try dsimp only at hSw); obtain ⟨u0, u1, u2, u3, u4, u5, u6, u7, u8, u9, ua, ub, uc, ud, uf⟩ := card14 hSw; first | (go_simp; done) | (go_simp; with_reducible rfl)
  try simp only [go_sem]
  refine wpAnyH_take (i := 2) (oi := _) (v := ?_) rfl (by kernel_rfl) (by kernel_rfl) (by kernel_rfl) (fun _ _ _ h => h) (Or.inl ⟨by rfl, ?_⟩) (by assumption) ?_
  rotate_left
  · intro w hSw; (try dsimp only at hSw); obtain ⟨u0, u1, u2, u3, u4, u5, u6, u7, u8, u9, ua, ub, uc, ud, uf⟩ := card14 hSw; first | (go_simp; done) | (go_simp; with_reducible rfl)
  try simp only [go_sem]
  refine wpAnyH_ready (rs := [3]) (by kernel_rfl) (by simp) ?_
  refine AllReadyH.cons (o := _) rfl (fun K hK => ?_) AllReadyH.nil
  go_simp; refine (HKT w1.drew).mono ?_; rintro vv w2 ⟨rfl, hb⟩; have HM2 := Lib.hid ((show has w1.drew w.heap.size 32 (cL s kd (ka : Nat) (kb : Nat) (kc : Nat) (kdd : Nat) (kx : Nat) m (kp : Nat) (kt : Nat) (kk : Nat) es en ec ts tn tc r) from HM1.out).below hb HM1.out.lt); have HB2 := Lib.hid (next HB1.out.drew hb); clear hb
  refine hK.out _ _ ?_ (fun hH1 => ?_)
  · exact HM2.out
  clear hK K hH0
  try simp only [go_sem]
  refine wpAnyH_ready (rs := [4]) (by kernel_rfl) (by simp) ?_
  refine AllReadyH.cons (o := _) rfl (fun K hK => ?_) AllReadyH.nil
  go_simp
  refine hK.out _ _ ?_ (fun hH2 => ?_)
  · exact HM2.out.alloc _
  clear hK K hH1
  try simp only [go_sem]
  refine wpAnyH_take (i := 5) (oi := _) (v := ?_) rfl (by kernel_rfl) (by kernel_rfl) (by kernel_rfl) (fun _ _ _ h => h) (Or.inl ⟨by rfl, ?_⟩) (by assumption) ?_
  rotate_left
  · intro w hSw; (try dsimp only at hSw); obtain ⟨u0, u1, u2, u3, u4, u5, u6, u7, u8, u9, ua, ub, uc, ud, uf⟩ := card14 hSw; first | (go_simp; done) | (go_simp; with_reducible rfl)
  try simp only [go_sem]
  refine wpAnyH_done (by kernel_rfl) ?_ _
  have HS0 : Hid (SS w 32 (cL s kd (ka : Nat) (kb : Nat) (kc : Nat) (kdd : Nat) (kx : Nat) m (kp : Nat) (kt : Nat) (kk : Nat) es en ec ts tn tc r) (w2.alloc (.cells #[.string s, .string (bs ks)] 9)) (.slice (some ⟨w2.heap.size, 0, none⟩) 2 2) 2 [s.data.toList, ks]) := Lib.hid ⟨World.ownsRow_lit (base := w.heap.size) (e := 9) (size := 1) w2 #[.string s, .string (bs ks)] 2 HB2.out.size (by unfold maxLen; omega) rfl, HB2.out.alloc HB2.out.size _, HM2.out.alloc _⟩
  have u1 : (w2.alloc (.cells #[.string s, .string (bs ks)] 9)).cell? ⟨w.heap.size, 1, none⟩ = some (.int .i64 kd) := HS0.out.box.cell 1
  have hg := HG.out.below HS0.out.hb
  have h0 : (w2.alloc (.cells #[.string s, .string (bs ks)] 9)).cell? ⟨0, 0, none⟩ = some (.string (bs (kcL 0))) := var_cell hg.kc 0
  have h1 : (w2.alloc (.cells #[.string s, .string (bs ks)] 9)).cell? ⟨0, 1, none⟩ = some (.string (bs (kcL 1))) := var_cell hg.kc 1
  have h2 : (w2.alloc (.cells #[.string s, .string (bs ks)] 9)).cell? ⟨0, 2, none⟩ = some (.string (bs (kcL 2))) := var_cell hg.kc 2
  have h3 : (w2.alloc (.cells #[.string s, .string (bs ks)] 9)).cell? ⟨0, 3, none⟩ = some (.string (bs (kcL 3))) := var_cell hg.kc 3
  clear hg
  go_wp2_with fail
  clear h0 h1 h2 h3
  obtain ⟨W, hW⟩ : ∃ W, w2.alloc (.cells #[.string s, .string (bs ks)] 9) = W := ⟨_, rfl⟩
  obtain ⟨v0, hv0⟩ : ∃ v0, Value.slice (some ⟨w2.heap.size, 0, none⟩) 2 2 = v0 := ⟨_, rfl⟩
  rw [hW, hv0] at HS0
  rw [hW, hv0]
  clear hW hv0 u1 HM2 HB2 HM1 HB1 HB0 HM0 HV
  have HS5 : Hid (SS w 32 (cL s kd (ka : Nat) (kb : Nat) (kc : Nat) (kdd : Nat) (kx : Nat) m (kp : Nat) (kt : Nat) (kk : Nat) es en ec ts tn tc r) W v0 2 [s.data.toList, ks]) := HS0
  obtain ⟨w5, hw5⟩ : ∃ w5, W = w5 := ⟨_, rfl⟩
  rw [hw5] at HS5 ⊢
  clear hw5
  go_loopw [4, 32] (fun v i wr => ∃ q n : Nat, q ≤ 4 ∧ n ≤ 3 + q ∧ i = .int .i64 q ∧ Hid (SS w 32 (cL s kd (ka : Nat) (kb : Nat) (kc : Nat) (kdd : Nat) (kx : Nat) m (kp : Nat) (kt : Nat) (kk : Nat) es en ec ts tn tc r) wr v n ([s.data.toList, ks] ++ kwT kk q))) (fun _ i _ => 4 - (intOf i).toNat)
  case atStart => exact ⟨0, 2, Nat.zero_le _, by omega, rfl, Lib.hid (by rw [show kwT kk 0 = [] from rfl, List.append_nil]; exact HS5.out)⟩
  case round =>
    obtain ⟨q, n, hq, hnq, rfl, HT⟩ := hrel
    by_cases hlt : q < 4
    · have hq4 : q = 0 ∨ q = 1 ∨ q = 2 ∨ q = 3 := by omega
      clear hlt hq
      rcases hq4 with rfl | rfl | rfl | rfl
      · have hk : (bits .and .i64 (kk : Int) (IntKind.i64.wrap 1) == IntKind.i64.wrap 1) = kwHas kk 0 := (by have := hasK kk hkw 0 (by omega); rw [show IntKind.i64.wrap 1 = 1 by decide]; exact this)
        have ix : ∀ w, (Instr.index 74 (.agg #[.string (bs (kcL 0)), .string (bs (kcL 1)), .string (bs (kcL 2)), .string (bs (kcL 3))]) (.int .i64 0)).run Tryz.prog w = .ok (.string (bs (kcL 0))) w := ix_kw 0 (by omega)
        have HKS : Hid (kwT kk (0 + 1) = kwT kk 0 ++ if kwHas kk 0 then [kcL 0] else []) := Lib.hid (kwT_succ kk 0)
        have HS6 := Lib.hid HT.out.drew
        go_wp2_with fail
        refine wp_region_held_drew (S := (fun w' => has w' w.heap.size 32 (cL s kd (ka : Nat) (kb : Nat) (kc : Nat) (kdd : Nat) (kx : Nat) m (kp : Nat) (kt : Nat) (kk : Nat) es en ec ts tn tc r))) (by kernel_rfl) ?_ (fun hH0 => ?_)
        · exact HS6.out.box
        refine wpAnyH_take (i := 0) (oi := _) (v := ?_) rfl (by kernel_rfl) (by kernel_rfl) (by kernel_rfl) (fun _ _ _ h => h) (Or.inl ⟨by rfl, ?_⟩) (by assumption) ?_
        rotate_left
        · intro w hSw; (try dsimp only at hSw); obtain ⟨u0, u1, u2, u3, u4, u5, u6, u7, u8, u9, ua, ub, uc, ud, uf⟩ := card14 hSw; first | (go_simp; done) | (go_simp; with_reducible rfl)
        try simp only [go_sem]
        refine wpAnyH_take (i := 1) (oi := _) (v := ?_) rfl (by kernel_rfl) (by kernel_rfl) (by kernel_rfl) (fun _ _ _ h => h) (Or.inl ⟨by rfl, ?_⟩) (by assumption) ?_
        rotate_left
        · intro w hSw; (try dsimp only at hSw); obtain ⟨u0, u1, u2, u3, u4, u5, u6, u7, u8, u9, ua, ub, uc, ud, uf⟩ := card14 hSw; first | (go_simp; done) | (go_simp; with_reducible rfl)
        try simp only [go_sem]
        refine wpAnyH_take (i := 2) (oi := _) (v := ?_) rfl (by kernel_rfl) (by kernel_rfl) (by kernel_rfl) (fun _ _ _ h => h) (Or.inl ⟨by rfl, ?_⟩) (by assumption) ?_
        rotate_left
        · intro w hSw; (try dsimp only at hSw); obtain ⟨u0, u1, u2, u3, u4, u5, u6, u7, u8, u9, ua, ub, uc, ud, uf⟩ := card14 hSw; first | (go_simp; done) | (go_simp; with_reducible rfl)
        try simp only [go_sem]
        refine wpAnyH_take (i := 3) (oi := _) (v := ?_) rfl (by kernel_rfl) (by kernel_rfl) (by kernel_rfl) (fun _ _ _ h => h) (Or.inl ⟨by rfl, ?_⟩) (by assumption) ?_
        rotate_left
        · intro w hSw; (try dsimp only at hSw); obtain ⟨u0, u1, u2, u3, u4, u5, u6, u7, u8, u9, ua, ub, uc, ud, uf⟩ := card14 hSw; first | (go_simp; done) | (go_simp; with_reducible rfl)
        try simp only [go_sem]
        refine wpAnyH_ready (rs := [4]) (by kernel_rfl) (by simp) ?_
        refine AllReadyH.cons (o := _) rfl (fun K hK => ?_) AllReadyH.nil
        go_simp; refine (Has_any _ _ _).mono ?_; rintro vv w3 ⟨rfl, rfl⟩
        refine hK.out _ _ ?_ (fun hH1 => ?_)
        · exact HS6.out.box
        clear hK K hH0
        try simp only [go_sem]
        refine wpAnyH_done (by kernel_rfl) ?_ _
        cases hb : kwHas kk 0
        all_goals rw [hb] at hk
        · have HR : Hid (kwT kk (0 + 1) = kwT kk 0) := Lib.hid (by rw [HKS.out, hb]; simp)
          go_wp2_with fail
          exact ⟨⟨1, n, by omega, by omega, by go_num, Lib.hid (by rw [show (1 : Nat) = 0 + 1 from rfl, HR.out]; exact HS6.out)⟩, by simp [intOf]⟩
        · have HR : Hid (kwT kk (0 + 1) = kwT kk 0 ++ [kcL 0]) := Lib.hid (by rw [HKS.out, hb]; simp)
          have HA := Lib.hid (HS6.out.alloc (.cells #[.string (bs (kcL 0))] 9))
          have z1 := HA.out.hb.size
          go_wp2_with (at_builtin; refine wpList_append_own _ rfl _ _ 63 rfl w.heap.size 9 i0 (.string ⟨#[]⟩) 1 16 Tryz.underlying63 hi hz0 hz1 hz2 rfl (by decide) _ n _ rfl HA.out.own ⟨wr.heap.size, 0, none⟩ 1 1 [.string (bs (kcL 0))] rfl rfl (fun j u hu => by rw [addr_add, Nat.zero_add]; exact ((new0 wr.drew 9 [.string (bs (kcL 0))]).cell j).trans hu) (by simp [Value.oneCell']) (by unfold maxLen; omega) (by omega) z1 ?_; intro v7 w7 hown hgrow _; have HS7 : Hid (SS w 32 (cL s kd (ka : Nat) (kb : Nat) (kc : Nat) (kdd : Nat) (kx : Nat) m (kp : Nat) (kt : Nat) (kk : Nat) es en ec ts tn tc r) w7 v7 (n + 1) ([s.data.toList, ks] ++ kwT kk (0 + 1))) := Lib.hid (HA.out.app (by decide) hown hgrow (by rw [HR.out, ← List.append_assoc, ss_snoc])); clear hown hgrow)
          exact ⟨⟨1, n + 1, by omega, by omega, by go_num, HS7⟩, by simp [intOf]⟩
      · have hk : (bits .and .i64 (kk : Int) (IntKind.i64.wrap 2) == IntKind.i64.wrap 2) = kwHas kk 1 := (by have := hasK kk hkw 1 (by omega); rw [show IntKind.i64.wrap 2 = 2 by decide]; exact this)
        have ix : ∀ w, (Instr.index 74 (.agg #[.string (bs (kcL 0)), .string (bs (kcL 1)), .string (bs (kcL 2)), .string (bs (kcL 3))]) (.int .i64 1)).run Tryz.prog w = .ok (.string (bs (kcL 1))) w := ix_kw 1 (by omega)
        have HKS : Hid (kwT kk (1 + 1) = kwT kk 1 ++ if kwHas kk 1 then [kcL 1] else []) := Lib.hid (kwT_succ kk 1)
        have HS6 := Lib.hid HT.out.drew
        go_wp2_with fail
        refine wp_region_held_drew (S := (fun w' => has w' w.heap.size 32 (cL s kd (ka : Nat) (kb : Nat) (kc : Nat) (kdd : Nat) (kx : Nat) m (kp : Nat) (kt : Nat) (kk : Nat) es en ec ts tn tc r))) (by kernel_rfl) ?_ (fun hH0 => ?_)
        · exact HS6.out.box
        refine wpAnyH_take (i := 0) (oi := _) (v := ?_) rfl (by kernel_rfl) (by kernel_rfl) (by kernel_rfl) (fun _ _ _ h => h) (Or.inl ⟨by rfl, ?_⟩) (by assumption) ?_
        rotate_left
        · intro w hSw; (try dsimp only at hSw); obtain ⟨u0, u1, u2, u3, u4, u5, u6, u7, u8, u9, ua, ub, uc, ud, uf⟩ := card14 hSw; first | (go_simp; done) | (go_simp; with_reducible rfl)
        try simp only [go_sem]
        refine wpAnyH_take (i := 1) (oi := _) (v := ?_) rfl (by kernel_rfl) (by kernel_rfl) (by kernel_rfl) (fun _ _ _ h => h) (Or.inl ⟨by rfl, ?_⟩) (by assumption) ?_
        rotate_left
        · intro w hSw; (try dsimp only at hSw); obtain ⟨u0, u1, u2, u3, u4, u5, u6, u7, u8, u9, ua, ub, uc, ud, uf⟩ := card14 hSw; first | (go_simp; done) | (go_simp; with_reducible rfl)
        try simp only [go_sem]
        refine wpAnyH_take (i := 2) (oi := _) (v := ?_) rfl (by kernel_rfl) (by kernel_rfl) (by kernel_rfl) (fun _ _ _ h => h) (Or.inl ⟨by rfl, ?_⟩) (by assumption) ?_
        rotate_left
        · intro w hSw; (try dsimp only at hSw); obtain ⟨u0, u1, u2, u3, u4, u5, u6, u7, u8, u9, ua, ub, uc, ud, uf⟩ := card14 hSw; first | (go_simp; done) | (go_simp; with_reducible rfl)
        try simp only [go_sem]
        refine wpAnyH_take (i := 3) (oi := _) (v := ?_) rfl (by kernel_rfl) (by kernel_rfl) (by kernel_rfl) (fun _ _ _ h => h) (Or.inl ⟨by rfl, ?_⟩) (by assumption) ?_
        rotate_left
        · intro w hSw; (try dsimp only at hSw); obtain ⟨u0, u1, u2, u3, u4, u5, u6, u7, u8, u9, ua, ub, uc, ud, uf⟩ := card14 hSw; first | (go_simp; done) | (go_simp; with_reducible rfl)
        try simp only [go_sem]
        refine wpAnyH_ready (rs := [4]) (by kernel_rfl) (by simp) ?_
        refine AllReadyH.cons (o := _) rfl (fun K hK => ?_) AllReadyH.nil
        go_simp; refine (Has_any _ _ _).mono ?_; rintro vv w3 ⟨rfl, rfl⟩
        refine hK.out _ _ ?_ (fun hH1 => ?_)
        · exact HS6.out.box
        clear hK K hH0
        try simp only [go_sem]
        refine wpAnyH_done (by kernel_rfl) ?_ _
        cases hb : kwHas kk 1
        all_goals rw [hb] at hk
        · have HR : Hid (kwT kk (1 + 1) = kwT kk 1) := Lib.hid (by rw [HKS.out, hb]; simp)
          go_wp2_with fail
          exact ⟨⟨2, n, by omega, by omega, by go_num, Lib.hid (by rw [show (2 : Nat) = 1 + 1 from rfl, HR.out]; exact HS6.out)⟩, by simp [intOf]⟩
        · have HR : Hid (kwT kk (1 + 1) = kwT kk 1 ++ [kcL 1]) := Lib.hid (by rw [HKS.out, hb]; simp)
          have HA := Lib.hid (HS6.out.alloc (.cells #[.string (bs (kcL 1))] 9))
          have z1 := HA.out.hb.size
          go_wp2_with (at_builtin; refine wpList_append_own _ rfl _ _ 63 rfl w.heap.size 9 i0 (.string ⟨#[]⟩) 1 16 Tryz.underlying63 hi hz0 hz1 hz2 rfl (by decide) _ n _ rfl HA.out.own ⟨wr.heap.size, 0, none⟩ 1 1 [.string (bs (kcL 1))] rfl rfl (fun j u hu => by rw [addr_add, Nat.zero_add]; exact ((new0 wr.drew 9 [.string (bs (kcL 1))]).cell j).trans hu) (by simp [Value.oneCell']) (by unfold maxLen; omega) (by omega) z1 ?_; intro v7 w7 hown hgrow _; have HS7 : Hid (SS w 32 (cL s kd (ka : Nat) (kb : Nat) (kc : Nat) (kdd : Nat) (kx : Nat) m (kp : Nat) (kt : Nat) (kk : Nat) es en ec ts tn tc r) w7 v7 (n + 1) ([s.data.toList, ks] ++ kwT kk (1 + 1))) := Lib.hid (HA.out.app (by decide) hown hgrow (by rw [HR.out, ← List.append_assoc, ss_snoc])); clear hown hgrow)
          exact ⟨⟨2, n + 1, by omega, by omega, by go_num, HS7⟩, by simp [intOf]⟩
      · have hk : (bits .and .i64 (kk : Int) (IntKind.i64.wrap 4) == IntKind.i64.wrap 4) = kwHas kk 2 := (by have := hasK kk hkw 2 (by omega); rw [show IntKind.i64.wrap 4 = 4 by decide]; exact this)
        have ix : ∀ w, (Instr.index 74 (.agg #[.string (bs (kcL 0)), .string (bs (kcL 1)), .string (bs (kcL 2)), .string (bs (kcL 3))]) (.int .i64 2)).run Tryz.prog w = .ok (.string (bs (kcL 2))) w := ix_kw 2 (by omega)
        have HKS : Hid (kwT kk (2 + 1) = kwT kk 2 ++ if kwHas kk 2 then [kcL 2] else []) := Lib.hid (kwT_succ kk 2)
        have HS6 := Lib.hid HT.out.drew
        go_wp2_with fail
        refine wp_region_held_drew (S := (fun w' => has w' w.heap.size 32 (cL s kd (ka : Nat) (kb : Nat) (kc : Nat) (kdd : Nat) (kx : Nat) m (kp : Nat) (kt : Nat) (kk : Nat) es en ec ts tn tc r))) (by kernel_rfl) ?_ (fun hH0 => ?_)
        · exact HS6.out.box
        refine wpAnyH_take (i := 0) (oi := _) (v := ?_) rfl (by kernel_rfl) (by kernel_rfl) (by kernel_rfl) (fun _ _ _ h => h) (Or.inl ⟨by rfl, ?_⟩) (by assumption) ?_
        rotate_left
        · intro w hSw; (try dsimp only at hSw); obtain ⟨u0, u1, u2, u3, u4, u5, u6, u7, u8, u9, ua, ub, uc, ud, uf⟩ := card14 hSw; first | (go_simp; done) | (go_simp; with_reducible rfl)
        try simp only [go_sem]
        refine wpAnyH_take (i := 1) (oi := _) (v := ?_) rfl (by kernel_rfl) (by kernel_rfl) (by kernel_rfl) (fun _ _ _ h => h) (Or.inl ⟨by rfl, ?_⟩) (by assumption) ?_
        rotate_left
        · intro w hSw; (try dsimp only at hSw); obtain ⟨u0, u1, u2, u3, u4, u5, u6, u7, u8, u9, ua, ub, uc, ud, uf⟩ := card14 hSw; first | (go_simp; done) | (go_simp; with_reducible rfl)
        try simp only [go_sem]
        refine wpAnyH_take (i := 2) (oi := _) (v := ?_) rfl (by kernel_rfl) (by kernel_rfl) (by kernel_rfl) (fun _ _ _ h => h) (Or.inl ⟨by rfl, ?_⟩) (by assumption) ?_
        rotate_left
        · intro w hSw; (try dsimp only at hSw); obtain ⟨u0, u1, u2, u3, u4, u5, u6, u7, u8, u9, ua, ub, uc, ud, uf⟩ := card14 hSw; first | (go_simp; done) | (go_simp; with_reducible rfl)
        try simp only [go_sem]
        refine wpAnyH_take (i := 3) (oi := _) (v := ?_) rfl (by kernel_rfl) (by kernel_rfl) (by kernel_rfl) (fun _ _ _ h => h) (Or.inl ⟨by rfl, ?_⟩) (by assumption) ?_
        rotate_left
        · intro w hSw; (try dsimp only at hSw); obtain ⟨u0, u1, u2, u3, u4, u5, u6, u7, u8, u9, ua, ub, uc, ud, uf⟩ := card14 hSw; first | (go_simp; done) | (go_simp; with_reducible rfl)
        try simp only [go_sem]
        refine wpAnyH_ready (rs := [4]) (by kernel_rfl) (by simp) ?_
        refine AllReadyH.cons (o := _) rfl (fun K hK => ?_) AllReadyH.nil
        go_simp; refine (Has_any _ _ _).mono ?_; rintro vv w3 ⟨rfl, rfl⟩
        refine hK.out _ _ ?_ (fun hH1 => ?_)
        · exact HS6.out.box
        clear hK K hH0
        try simp only [go_sem]
        refine wpAnyH_done (by kernel_rfl) ?_ _
        cases hb : kwHas kk 2
        all_goals rw [hb] at hk
        · have HR : Hid (kwT kk (2 + 1) = kwT kk 2) := Lib.hid (by rw [HKS.out, hb]; simp)
          go_wp2_with fail
          exact ⟨⟨3, n, by omega, by omega, by go_num, Lib.hid (by rw [show (3 : Nat) = 2 + 1 from rfl, HR.out]; exact HS6.out)⟩, by simp [intOf]⟩
        · have HR : Hid (kwT kk (2 + 1) = kwT kk 2 ++ [kcL 2]) := Lib.hid (by rw [HKS.out, hb]; simp)
          have HA := Lib.hid (HS6.out.alloc (.cells #[.string (bs (kcL 2))] 9))
          have z1 := HA.out.hb.size
          go_wp2_with (at_builtin; refine wpList_append_own _ rfl _ _ 63 rfl w.heap.size 9 i0 (.string ⟨#[]⟩) 1 16 Tryz.underlying63 hi hz0 hz1 hz2 rfl (by decide) _ n _ rfl HA.out.own ⟨wr.heap.size, 0, none⟩ 1 1 [.string (bs (kcL 2))] rfl rfl (fun j u hu => by rw [addr_add, Nat.zero_add]; exact ((new0 wr.drew 9 [.string (bs (kcL 2))]).cell j).trans hu) (by simp [Value.oneCell']) (by unfold maxLen; omega) (by omega) z1 ?_; intro v7 w7 hown hgrow _; have HS7 : Hid (SS w 32 (cL s kd (ka : Nat) (kb : Nat) (kc : Nat) (kdd : Nat) (kx : Nat) m (kp : Nat) (kt : Nat) (kk : Nat) es en ec ts tn tc r) w7 v7 (n + 1) ([s.data.toList, ks] ++ kwT kk (2 + 1))) := Lib.hid (HA.out.app (by decide) hown hgrow (by rw [HR.out, ← List.append_assoc, ss_snoc])); clear hown hgrow)
          exact ⟨⟨3, n + 1, by omega, by omega, by go_num, HS7⟩, by simp [intOf]⟩
      · have hk : (bits .and .i64 (kk : Int) (IntKind.i64.wrap 8) == IntKind.i64.wrap 8) = kwHas kk 3 := (by have := hasK kk hkw 3 (by omega); rw [show IntKind.i64.wrap 8 = 8 by decide]; exact this)
        have ix : ∀ w, (Instr.index 74 (.agg #[.string (bs (kcL 0)), .string (bs (kcL 1)), .string (bs (kcL 2)), .string (bs (kcL 3))]) (.int .i64 3)).run Tryz.prog w = .ok (.string (bs (kcL 3))) w := ix_kw 3 (by omega)
        have HKS : Hid (kwT kk (3 + 1) = kwT kk 3 ++ if kwHas kk 3 then [kcL 3] else []) := Lib.hid (kwT_succ kk 3)
        have HS6 := Lib.hid HT.out.drew
        go_wp2_with fail
        refine wp_region_held_drew (S := (fun w' => has w' w.heap.size 32 (cL s kd (ka : Nat) (kb : Nat) (kc : Nat) (kdd : Nat) (kx : Nat) m (kp : Nat) (kt : Nat) (kk : Nat) es en ec ts tn tc r))) (by kernel_rfl) ?_ (fun hH0 => ?_)
        · exact HS6.out.box
        refine wpAnyH_take (i := 0) (oi := _) (v := ?_) rfl (by kernel_rfl) (by kernel_rfl) (by kernel_rfl) (fun _ _ _ h => h) (Or.inl ⟨by rfl, ?_⟩) (by assumption) ?_
        rotate_left
        · intro w hSw; (try dsimp only at hSw); obtain ⟨u0, u1, u2, u3, u4, u5, u6, u7, u8, u9, ua, ub, uc, ud, uf⟩ := card14 hSw; first | (go_simp; done) | (go_simp; with_reducible rfl)
        try simp only [go_sem]
        refine wpAnyH_take (i := 1) (oi := _) (v := ?_) rfl (by kernel_rfl) (by kernel_rfl) (by kernel_rfl) (fun _ _ _ h => h) (Or.inl ⟨by rfl, ?_⟩) (by assumption) ?_
        rotate_left
        · intro w hSw; (try dsimp only at hSw); obtain ⟨u0, u1, u2, u3, u4, u5, u6, u7, u8, u9, ua, ub, uc, ud, uf⟩ := card14 hSw; first | (go_simp; done) | (go_simp; with_reducible rfl)
        try simp only [go_sem]
        refine wpAnyH_take (i := 2) (oi := _) (v := ?_) rfl (by kernel_rfl) (by kernel_rfl) (by kernel_rfl) (fun _ _ _ h => h) (Or.inl ⟨by rfl, ?_⟩) (by assumption) ?_
        rotate_left
        · intro w hSw; (try dsimp only at hSw); obtain ⟨u0, u1, u2, u3, u4, u5, u6, u7, u8, u9, ua, ub, uc, ud, uf⟩ := card14 hSw; first | (go_simp; done) | (go_simp; with_reducible rfl)
        try simp only [go_sem]
        refine wpAnyH_take (i := 3) (oi := _) (v := ?_) rfl (by kernel_rfl) (by kernel_rfl) (by kernel_rfl) (fun _ _ _ h => h) (Or.inl ⟨by rfl, ?_⟩) (by assumption) ?_
        rotate_left
        · intro w hSw; (try dsimp only at hSw); obtain ⟨u0, u1, u2, u3, u4, u5, u6, u7, u8, u9, ua, ub, uc, ud, uf⟩ := card14 hSw; first | (go_simp; done) | (go_simp; with_reducible rfl)
        try simp only [go_sem]
        refine wpAnyH_ready (rs := [4]) (by kernel_rfl) (by simp) ?_
        refine AllReadyH.cons (o := _) rfl (fun K hK => ?_) AllReadyH.nil
        go_simp; refine (Has_any _ _ _).mono ?_; rintro vv w3 ⟨rfl, rfl⟩
        refine hK.out _ _ ?_ (fun hH1 => ?_)
        · exact HS6.out.box
        clear hK K hH0
        try simp only [go_sem]
        refine wpAnyH_done (by kernel_rfl) ?_ _
        cases hb : kwHas kk 3
        all_goals rw [hb] at hk
        · have HR : Hid (kwT kk (3 + 1) = kwT kk 3) := Lib.hid (by rw [HKS.out, hb]; simp)
          go_wp2_with fail
          exact ⟨⟨4, n, by omega, by omega, by go_num, Lib.hid (by rw [show (4 : Nat) = 3 + 1 from rfl, HR.out]; exact HS6.out)⟩, by simp [intOf]⟩
        · have HR : Hid (kwT kk (3 + 1) = kwT kk 3 ++ [kcL 3]) := Lib.hid (by rw [HKS.out, hb]; simp)
          have HA := Lib.hid (HS6.out.alloc (.cells #[.string (bs (kcL 3))] 9))
          have z1 := HA.out.hb.size
          go_wp2_with (at_builtin; refine wpList_append_own _ rfl _ _ 63 rfl w.heap.size 9 i0 (.string ⟨#[]⟩) 1 16 Tryz.underlying63 hi hz0 hz1 hz2 rfl (by decide) _ n _ rfl HA.out.own ⟨wr.heap.size, 0, none⟩ 1 1 [.string (bs (kcL 3))] rfl rfl (fun j u hu => by rw [addr_add, Nat.zero_add]; exact ((new0 wr.drew 9 [.string (bs (kcL 3))]).cell j).trans hu) (by simp [Value.oneCell']) (by unfold maxLen; omega) (by omega) z1 ?_; intro v7 w7 hown hgrow _; have HS7 : Hid (SS w 32 (cL s kd (ka : Nat) (kb : Nat) (kc : Nat) (kdd : Nat) (kx : Nat) m (kp : Nat) (kt : Nat) (kk : Nat) es en ec ts tn tc r) w7 v7 (n + 1) ([s.data.toList, ks] ++ kwT kk (3 + 1))) := Lib.hid (HA.out.app (by decide) hown hgrow (by rw [HR.out, ← List.append_assoc, ss_snoc])); clear hown hgrow)
          exact ⟨⟨4, n + 1, by omega, by omega, by go_num, HS7⟩, by simp [intOf]⟩
    · have hq4 : q = 4 := by omega
      subst hq4
      have HEX := effectTexts_any es en ec e wr (HH.out.e.below HT.out.hb (Nat.le_refl _)) (HG.out.below HT.out.hb) HEA.out
      have he4 : e.length ≤ 4 := by rw [HLE.out]; exact en4
      have hn7 : n ≤ 7 := by omega
      clear hq hlt hnq
      obtain ⟨-, -, -, -, -, -, -, -, -, -, -, ub, -, -, -⟩ := card14 HT.out.box
      go_wp2_with fail
      refine HEX.mono ?_; rintro vv w8 ⟨g8, cap8, rfl, hown8, hb8⟩
      have HT8 := Lib.hid (HT.out.below hb8)
      have HO8 := Lib.hid hown8
      clear hown8 hb8 ub
      have z8 := HT8.out.hb.size
      go_wp2_with (at_builtin; refine wpList_append_own _ rfl _ _ 63 rfl w.heap.size 9 i0 (.string ⟨#[]⟩) 1 16 Tryz.underlying63 hi hz0 hz1 hz2 rfl (by decide) _ n _ rfl HT8.out.own ⟨g8, 0, none⟩ e.length cap8 (ss ((e.map textE).map bs)) rfl (by rw [ss_len, List.length_map, List.length_map, Nat.mul_one]) (fun j u hu => by rw [addr_add, Nat.zero_add, HO8.out.cellAt j (by have := (List.getElem?_eq_some_iff.1 hu).1; rw [ss_len, List.length_map, List.length_map] at this; omega)]; exact hu) (ss_one _) (by unfold maxLen; omega) (by omega) z8 ?_; intro v9 w9 hown hgrow _; have HS9 : Hid (SS w 32 (cL s kd (ka : Nat) (kb : Nat) (kc : Nat) (kdd : Nat) (kx : Nat) m (kp : Nat) (kt : Nat) (kk : Nat) es en ec ts tn tc r) w9 v9 (n + e.length) (([s.data.toList, ks] ++ kwT kk 4) ++ e.map textE)) := Lib.hid (HT8.out.app (by decide) hown hgrow (ss_cat _ _).symm); clear hown hgrow; obtain ⟨-, -, -, -, -, -, -, -, -, -, -, -, uc, -, -⟩ := card14 HS9.out.box)
      clear z8
      refine wp_loop_rounds 1 ?_
      rw [rounds_succ]
      have HL0 : Hid (l = []) := Lib.hid (List.eq_nil_of_length_eq_zero (HLN.out.trans H00.out))
      have hnp : 0 < n + e.length := by have h1 := HS9.out.len; simp only [List.length_append, List.length_cons] at h1; omega
      have HJ := JoinA [44, 32] ⟨#[44, 32]⟩ rfl HS9.out.own (by omega) (by omega) (by have := HLL.out; rw [HL0.out, List.map_nil, List.append_nil] at this; exact this)
      go_wp2_with fail
      refine HJ.mono ?_; rintro vv wz ⟨rfl, hbz⟩
      have HBZ := Lib.hid (HS9.out.hb.trans (hbz.mono HS9.out.hb.size))
      clear hbz
      go_wp2_with fail
      go_ret2
      exact ⟨by rw [HLT.out, HL0.out, List.map_nil, List.append_nil]; simp, HBZ.out⟩
end Go.Proofs.YtlhnnjllbcglcaaGreatDoor.caFn

/- The line of any card: what Line returns. -/
namespace Go.Proofs.YtlhnnjllbcglcaaGreatDoor.caFn
open Go.ChangeShapes Go.WideShapes Go.ChangeAt Go.RowKit drMem efFn
set_option linter.unusedVariables false

theorem lnZ_yes {q : Cd} (h : okCd q = true) : lnZ q = (lineT q, 0) := if_pos h
theorem lnZ_no {q : Cd} (h : okCd q = false) : lnZ q = ([], 2) := if_neg (by rw [h]; decide)
theorem LineV_any (s : ByteArray) (kd a b c d x m p t k : Int) (es : Option Addr) (en ec : Nat) (ts : Option Addr) (tn tc : Nat) (r : Int) (e : List Ef) (l : List Tr) (w : World) (h : CdAt w es en e ts tn l) (htc : tn ≤ tc) (hG : G w) :
    Calls Tryz.prog 21 #[cV s kd a b c d x m p t k es en ec ts tn tc r] w fun v w' => v = .returned (.tuple #[.string (bs (lnZ ⟨s.data.toList, kd, a, b, c, d, x, m, p, t, k, e, l, r⟩).1), .int .i64 (lnZ ⟨s.data.toList, kd, a, b, c, d, x, m, p, t, k, e, l, r⟩).2]) ∧ Below w.heap.size w w' := by
  cases ho : okCd ⟨s.data.toList, kd, a, b, c, d, x, m, p, t, k, e, l, r⟩
  · rw [lnZ_no ho]
    exact Line_no s kd a b c d x m p t k es en ec ts tn tc r e l w h htc ho
  · rw [lnZ_yes ho]
    have hb := okCd_bd ho
    obtain ⟨_, _, _, a0, b0, c0, d0, x0, _, p0, t0, k0, _, _, _⟩ := hb
    dsimp only at a0 b0 c0 d0 x0 p0 t0 k0
    obtain ⟨ka, rfl⟩ : ∃ ka : Nat, a = ka := ⟨a.toNat, by omega⟩
    obtain ⟨kb, rfl⟩ : ∃ kb : Nat, b = kb := ⟨b.toNat, by omega⟩
    obtain ⟨kc, rfl⟩ : ∃ kc : Nat, c = kc := ⟨c.toNat, by omega⟩
    obtain ⟨kdd, rfl⟩ : ∃ kdd : Nat, d = kdd := ⟨d.toNat, by omega⟩
    obtain ⟨kx, rfl⟩ : ∃ kx : Nat, x = kx := ⟨x.toNat, by omega⟩
    obtain ⟨kp, rfl⟩ : ∃ kp : Nat, p = kp := ⟨p.toNat, by omega⟩
    obtain ⟨kt, rfl⟩ : ∃ kt : Nat, t = kt := ⟨t.toNat, by omega⟩
    obtain ⟨kk, rfl⟩ : ∃ kk : Nat, k = kk := ⟨k.toNat, by omega⟩
    by_cases hkd : kd = 2
    · subst hkd
      rcases Nat.eq_zero_or_pos tn with h0 | h0
      · exact Line_2 s m r ka kb kc kdd kx kp kt kk es en ec ts tn tc e l w h htc hG h0 ho
      · obtain ⟨tb, toff, rfl, _, _⟩ := h.t.c h0
        exact Line_2t s m r ka kb kc kdd kx kp kt kk es en ec tb toff tn tc e l w h htc hG h0 ho
    · have hl : l = [] := by
        obtain ⟨_, _, hkind⟩ := okCd_parts ho
        rcases kind_cases hkind with ⟨_, q⟩ | ⟨q0, _⟩ | ⟨_, q⟩
        · obtain ⟨_, _, _, _, _, _, g⟩ := srcB_bd q; exact g
        · exact absurd q0 hkd
        · obtain ⟨_, _, _, _, _, _, _, g⟩ := splB_bd q; exact g
      have h0 : tn = 0 := by rw [← h.t.n, hl]; rfl
      exact Line_1 s kd m r ka kb kc kdd kx kp kt kk es en ec ts tn tc e l w h htc hG hkd h0 ho
end Go.Proofs.YtlhnnjllbcglcaaGreatDoor.caFn
