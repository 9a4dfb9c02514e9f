/- The line of a card, as data; lists of strings that are being filled. -/
import Derived.Test.YtkappnnoienhnaaDoorCaEnc
import Derived.Test.YtkappnnoienhnaaDoorCeTextE
import Derived.Test.YtkappnnoienhnaaDoorCaMaText
namespace Go.Proofs.YtkappnnoienhnaaDoor.caFn
open Go.ChangeShapes Go.WideShapes Go.ChangeAt Go.RowKit drMem efFn
set_option linter.unusedVariables false

theorem bs_app (a b : List UInt8) : bs a ++ bs b = bs (a ++ b) := ByteArray.mk_append_mk a b
def costT (q : Cd) : List UInt8 := maFn.textL q.a.toNat q.b.toNat q.c.toNat q.d.toNat q.x.toNat
def letT (k : Int) : List UInt8 := if k = 0 then [69] else if k = 1 then [84] else if k = 2 then [76] else [83]
theorem letT_eq (k : Int) : maFn.letB k = bs (letT k) := by unfold maFn.letB letT; (repeat' split) <;> rfl
def kdT (q : Cd) : List UInt8 :=
  if q.kd = 1 then [115, 111, 117, 114, 99, 101, 32, 111, 102, 32] ++ letT q.ml else
  (if q.kd = 2 then [99, 114, 101, 97, 116, 117, 114, 101, 32] else if q.kd = 3 then [115, 112, 101, 108, 108, 32] else [116, 114, 105, 99, 107, 32]) ++ costT q
def ptT (q : Cd) : List (List UInt8) := if q.kd = 2 then [Lib.decDigits q.pw.toNat ++ [47] ++ Lib.decDigits q.tg.toNat] else []
def kwT (k : Nat) (n : Nat) : List (List UInt8) := (List.range n).flatMap fun i => if kwHas k i then [kcL i] else []
def trT (t : Tr) : List UInt8 := whL t.w.toNat ++ [58, 32] ++ Lib.join (t.e.map textE) [32, 97, 110, 100, 32]
def partsT (q : Cd) : List (List UInt8) := [q.nm, kdT q] ++ ptT q ++ kwT q.kw.toNat 4 ++ q.ef.map textE ++ q.tr.map trT
def lineT (q : Cd) : List UInt8 := Lib.join (partsT q) [44, 32]
def lnZ (q : Cd) : List UInt8 × Int := if okCd q = true then (lineT q, 0) else ([], 2)

/- joined texts are not long -/
theorem joinT_len (sep : List UInt8) (K : Nat) : ∀ (r : List (List UInt8)), (∀ x ∈ r, x.length ≤ K) → (Lib.joinTail sep r).length ≤ (K + sep.length) * r.length
  | [], _ => by simp [Lib.joinTail]
  | a :: r, h => by
    have ih := joinT_len sep K r (fun x hx => h x (by simp [hx]))
    have ha := h a (by simp)
    simp only [Lib.joinTail, List.map_cons, List.flatten_cons, List.length_append, List.length_cons, Nat.mul_add, Nat.mul_one] at *
    omega
theorem joinA_len (sep : List UInt8) (K : Nat) (l : List (List UInt8)) (h : ∀ x ∈ l, x.length ≤ K) : (Lib.join l sep).length ≤ (K + sep.length) * l.length := by
  cases l with
  | nil => simp [Lib.join_nil]
  | cons a r =>
    rw [Lib.join_cons, List.length_append]
    have := joinT_len sep K r (fun x hx => h x (by simp [hx]))
    have := h a (by simp)
    simp only [List.length_cons, Nat.mul_add, Nat.mul_one]
    omega
theorem costT_len {q : Cd} (h : maFn.okC q.a q.b q.c q.d q.x = true) : (costT q).length ≤ 82 := by
  have g := (maFn.okC_iff _ _ _ _ _).1 h
  have h1 : (maFn.numL q.a.toNat q.b.toNat q.c.toNat q.d.toNat q.x.toNat).length ≤ 2 := by
    unfold maFn.numL
    split
    · exact maFn.dec_len _ (by omega)
    · simp
  unfold costT maFn.textL maFn.letL
  simp only [List.length_append, List.length_replicate]
  omega

/- a slice of strings that a call fills, beside a block that it keeps -/
structure SS (w : World) (tb : TypeId) (cs : List Value) (W : World) (v : Value) (n : Nat) (out : List (List UInt8)) : Prop where
  own : W.ownsRow w.heap.size 9 1 v n (ss (out.map bs))
  hb : Below w.heap.size w W
  box : has W w.heap.size tb cs
section
variable {w W W' : World} {v v' : Value} {n n' : Nat} {out out' : List (List UInt8)} {tb : TypeId} {cs xs : List Value}
theorem SS.alloc (h : SS w tb cs W v n out) (o : Obj) : SS w tb cs (W.alloc o) v n out := ⟨h.own.alloc _, h.hb.alloc h.hb.size _, h.box.alloc _⟩
theorem SS.below (h : SS w tb cs W v n out) (hb : Below W.heap.size W W') : SS w tb cs W' v n out := ⟨own_below h.own hb, h.hb.trans (hb.mono h.hb.size), h.box.below hb h.box.lt⟩
theorem SS.drew (h : SS w tb cs W v n out) : SS w tb cs W.drew v n out := ⟨h.own.drew, h.hb.drew, h.box⟩
theorem SS.app (h : SS w tb cs W v n out) (hne : tb ≠ 9) (hown : W'.ownsRow w.heap.size 9 1 v' n' xs) (hg : W.grownBy W' v.ownBlock) (hx : xs = ss (out'.map bs)) : SS w tb cs W' v' n' out' :=
  ⟨hx ▸ hown, below_own h.hb h.own hg h.hb.size, own_has' hg h.own h.box hne⟩
theorem ss_app (a b : List ByteArray) : ss (a ++ b) = ss a ++ ss b := by simp [ss]
theorem SS.len (h : SS w tb cs W v n out) : n = out.length := by
  have := h.own.1
  rw [ss_len, List.length_map, Nat.mul_one] at this
  exact this.symm
end
/- strings joined -/
theorem JoinA {B : Nat} {W : World} {v : Value} {n : Nat} {l : List (List UInt8)} (sep : List UInt8) (x : ByteArray) (hx : x = bs sep) (h : W.ownsRow B 9 1 v n (ss (l.map bs))) (hn : 0 < n) (hn2 : n ≤ 1000) (hlen : (Lib.join l sep).length ≤ 1000000) :
    Calls Tryd.prog 34 #[v, .string x] W fun e w' => e = .returned (.string (bs (Lib.join l sep))) ∧ Below W.heap.size W w' := by
  subst hx
  obtain ⟨g, cap, rfl, hbg, hgl⟩ := h.form hn
  have hl : (l.map bs).length = n := by have := h.1; rw [ss_len, Nat.mul_one] at this; exact this
  have hc : ∀ j y, (l.map bs)[j]? = some y → W.cell? ⟨g, 0 + j, none⟩ = some (.string y) := fun j y hy => by
    have hj := (List.getElem?_eq_some_iff.1 hy).1
    rw [Nat.zero_add, h.cellAt j (by omega)]
    show ((l.map bs).map Value.string)[j]? = _
    rw [List.getElem?_map, hy]; rfl
  have hm : (l.map bs).map (fun x => x.data.toList) = l := by rw [List.map_map]; exact List.map_id' l
  have hcap : n ≤ cap := by
    obtain ⟨sv, cv, h1, _, h3, _⟩ := own_form h
    cases h1
    exact h3
  have := Tryd.strings_Join g 0 cap (l.map bs) (bs sep) W hc hgl (by omega) (by rw [hl]; exact hcap) (by rw [hm]; exact Nat.le_trans hlen (by decide))
  rw [hl, hm] at this
  exact this
/- the texts of effects -/
def exPost (l : List Ef) (w : World) (e : Ending) (w' : World) : Prop := ∃ g cap, e = .returned (.slice (some ⟨g, 0, none⟩) l.length cap) ∧ w'.ownsRow w.heap.size 9 1 (.slice (some ⟨g, 0, none⟩) l.length cap) l.length (ss ((l.map textE).map bs)) ∧ Below w.heap.size w w'
set_option maxRecDepth 100000 in
set_option maxHeartbeats 4000000 in
theorem effectTexts_any (sp : Option Addr) (n cap : Nat) (l : List Ef) (w : World) (h : EfsAt w sp n l) (hG : G w) (ha : allB l = true) :
    Calls Tryd.prog 33 #[.slice sp n cap] w (exPost l w) := by
  obtain ⟨i0, hi, hz0, hz1, hz2⟩ := info_parts infoS
  have hn := h.n
  have h4 : n ≤ 4 := by rw [← hn]; unfold allB at ha; rw [Bool.and_eq_true] at ha; exact of_decide_eq_true ha.1
  have hok : ∀ e ∈ l, e.ok = true := by unfold allB at ha; rw [Bool.and_eq_true] at ha; exact List.all_eq_true.1 ha.2
  have HG := Lib.hid hG
  have HO : Hid ((w.alloc (.cells #[] 9)).ownsRow w.heap.size 9 1 (.slice (some ⟨w.heap.size, 0, none⟩) 0 0) 0 []) := Lib.hid (World.ownsRow_lit (base := w.heap.size) (e := 9) (size := 1) w #[] 0 (Nat.le_refl _) (by unfold maxLen; omega) rfl)
  have HB0 : Hid (Below w.heap.size w (w.alloc (.cells #[] 9))) := Lib.hid ((Below.refl _ _).alloc (Nat.le_refl _) _)
  have HN := Lib.hid hn
  have HOK := Lib.hid hok
  have HH := Lib.hid h
  have hm := h.m
  clear h ha hok hn hG
  rcases Nat.eq_zero_or_pos n with h0 | h0
  · have hd0 : ¬ (0 : Int) < (n : Int) := by omega
    have H0 := Lib.hid h0
    clear h0
    go_enter Tryd.func33, Tryd.ntmps33
    go_wp2
    refine wp_loop_rounds 1 ?_
    rw [rounds_succ]
    go_wp2
    go_ret
    have hl0 : l = [] := List.eq_nil_of_length_eq_zero (HN.out.trans H0.out)
    subst hl0
    exact ⟨w.heap.size, 0, rfl, HO.out, HB0.out⟩
  · obtain ⟨b, off, rfl, hbl, hc⟩ := HH.out.c h0
    have C : Hid (∀ k, k < n → EfAt w b (off + k * 5) (l.getD k default)) := Lib.hid fun k hk => hc k _ (get_some (by rw [HN.out]; exact hk))
    have HK : Hid (∀ k, k < n → (l.getD k default).ok = true) := Lib.hid fun k hk => HOK.out _ (by rw [List.getD_eq_getElem?_getD, List.getElem?_eq_getElem (by rw [HN.out]; exact hk)]; exact List.getElem_mem _)
    have HS : Hid (∀ k, k < n → ss (((l.take (k + 1)).map textE).map bs) = ss (((l.take k).map textE).map bs) ++ [.string (bs (textE (l.getD k default)))]) := Lib.hid fun k hk => by
      have hk' : k < l.length := by rw [HN.out]; exact hk
      rw [List.take_succ_eq_append_getElem hk', List.map_append, List.map_append, ss_app]
      simp [ss, List.getD_eq_getElem?_getD, hk']
    clear hc
    go_enter Tryd.func33, Tryd.ntmps33
    go_wp2
    go_loopw [3, 11] (fun v i wr => ∃ k : Nat, k ≤ n ∧ i = .int .i64 k ∧ Hid (wr.ownsRow w.heap.size 9 1 v k (ss (((l.take k).map textE).map bs)) ∧ Below w.heap.size w wr)) (fun _ i _ => n - (intOf i).toNat)
    case atStart => exact ⟨0, Nat.zero_le _, rfl, Lib.hid ⟨HO.out, HB0.out⟩⟩
    case round =>
      obtain ⟨k, hk, rfl, HT⟩ := hrel
      by_cases hlt : k < n
      · obtain ⟨c0, c1, c2, c3, c4⟩ := (C.out k hlt).below HT.out.2 hbl
        have HX := Lib.hid (HS.out k hlt)
        have hx := HK.out k hlt
        generalize l.getD k default = x at *
        obtain ⟨xc, xt, xn, xm, xk⟩ := x
        dsimp only at c0 c1 c2 c3 c4
        have B1 : Below w.heap.size w (wr.alloc (.cells #[.int .i64 xc, .int .i64 xt, .int .i64 xn, .int .i64 xm, .int .i64 xk] 41)) := HT.out.2.alloc HT.out.2.size _
        have HTX := Text_yes ⟨xc, xt, xn, xm, xk⟩ _ (HG.out.below B1) hx
        have HB1 := Lib.hid B1
        have HO1 := Lib.hid (HT.out.1.alloc (.cells #[.int .i64 xc, .int .i64 xt, .int .i64 xn, .int .i64 xm, .int .i64 xk] 41))
        clear B1 hx
        go_wp2_with fail
        refine HTX.mono ?_; rintro e w1 ⟨rfl, hb1⟩
        have HB2 := Lib.hid (HB1.out.trans (hb1.mono HB1.out.size))
        have HO2 := Lib.hid (own_below HO1.out hb1)
        clear hb1 c0 c1 c2 c3 c4
        have z1 := HB2.out.size
        go_wp2_with (at_builtin; refine wpList_append_own _ rfl _ _ 65 rfl w.heap.size 9 i0 (.string ⟨#[]⟩) 1 16 Tryd.underlying65 hi hz0 hz1 hz2 rfl (by decide) _ k _ rfl (HO2.out.alloc _) ⟨w1.heap.size, 0, none⟩ 1 1 [.string (bs (textE ⟨xc, xt, xn, xm, xk⟩))] rfl rfl (fun j u hu => by rw [addr_add, Nat.zero_add]; exact ((new0 w1 9 [.string (bs (textE ⟨xc, xt, xn, xm, xk⟩))]).cell j).trans hu) (by simp [Value.oneCell']) (by unfold maxLen; omega) (by omega) (by simp; omega) ?_; intro v5 w5 hown hgrow _; have HO5 := Lib.hid hown; have HB5 := Lib.hid (below_own (HB2.out.alloc HB2.out.size _) (HO2.out.alloc _) hgrow (by simp; omega)); clear hown hgrow)
        exact ⟨⟨k + 1, by omega, by go_num, Lib.hid ⟨by rw [HX.out]; exact HO5.out, HB5.out⟩⟩, by simp [intOf]; omega⟩
      · obtain rfl : k = n := by omega
        go_wp2
        go_ret
        have h1 := HT.out.1
        rw [List.take_of_length_le (by rw [HN.out]; exact Nat.le_refl _)] at h1
        obtain ⟨g, cap, rfl, _, _⟩ := h1.form h0
        unfold exPost
        rw [HN.out]
        exact ⟨g, cap, rfl, h1, HT.out.2⟩
end Go.Proofs.YtkappnnoienhnaaDoor.caFn
