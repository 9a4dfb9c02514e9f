/- Joined texts: CeHMath CeHBuf CaHMath CaHLine CaLawH -/
import Derived.Test.YtkappnnoienhnaaDoorCeRDec
import Derived.Laws.AppendOwnNone
import Derived.Test.YtkappnnoienhnaaDoorCaJK
import Derived.Test.YtkappnnoienhnaaDoorCaEnc
import Derived.Test.YtkappnnoienhnaaDoorCaJL
import Derived.BigRegion
import Derived.Deep.RegionHeld3
/- Encoding and decoding of effects undo each other. -/
namespace Go.Proofs.YtkappnnoienhnaaDoor.efFn
open Go.ChangeShapes Go.WideShapes Go.ChangeAt Go.RowKit drMem
set_option linter.unusedVariables false

theorem by_len (e : Ef) : e.by.length = 5 := rfl
theorem efB_get : ∀ (l : List Ef) (i j : Nat) (h : i < l.length), j < 5 → (efB l)[5 * i + j]? = (l[i].by)[j]?
  | a :: r, 0, j, _, hj => by
    show (a.by ++ efB r)[5 * 0 + j]? = a.by[j]?
    rw [Nat.mul_zero, Nat.zero_add, List.getElem?_append_left (by rw [by_len]; omega)]
  | a :: r, i + 1, j, h, hj => by
    show (a.by ++ efB r)[5 * (i + 1) + j]? = (r[i]'(by simpa using h)).by[j]?
    rw [List.getElem?_append_right (by rw [by_len]; omega), by_len, show 5 * (i + 1) + j - 5 = 5 * i + j by omega]
    exact efB_get r i j (by simpa using h) hj
theorem enc_at {l : List Ef} {lb : List UInt8} {i : Nat} (j : Nat) (h : i < l.length) (hj : j < 5) : (encB l ++ lb).getD (1 + 5 * i + j) 0 = (l[i].by).getD j 0 := by
  rw [List.getD_eq_getElem?_getD, List.getD_eq_getElem?_getD]
  show (((u8 l.length :: efB l) ++ lb)[1 + 5 * i + j]?).getD 0 = _
  rw [show 1 + 5 * i + j = (5 * i + j) + 1 by omega, List.cons_append, List.getElem?_cons_succ, List.getElem?_append_left (by rw [efB_len]; omega), efB_get l i j h hj]
theorem efAt_enc {l : List Ef} {lb : List UInt8} {i : Nat} (h : i < l.length) (hb : l[i].bd) : efAt (encB l ++ lb) i = l[i] := by
  have k0 := enc_at (lb := lb) 0 h (by omega)
  have k1 := enc_at (lb := lb) 1 h (by omega)
  have k2 := enc_at (lb := lb) 2 h (by omega)
  have k3 := enc_at (lb := lb) 3 h (by omega)
  have k4 := enc_at (lb := lb) 4 h (by omega)
  rw [Nat.add_zero] at k0
  unfold efAt byAt
  rw [k0, k1, k2, k3, k4]
  generalize l[i] = x at hb
  obtain ⟨c, t, n, m, k⟩ := x
  obtain ⟨b0, b1, b2, b3, b4, b5, b6, b7, b8, b9⟩ := hb
  dsimp only at b0 b1 b2 b3 b4 b5 b6 b7 b8 b9
  show (⟨((u8 c).toNat : Int), ((u8 t).toNat : Int), ((u8 n).toNat : Int), ((u8 m).toNat : Int), ((u8 k).toNat : Int)⟩ : Ef) = _
  rw [u8_of c (by omega) (by omega), u8_of t (by omega) (by omega), u8_of n (by omega) (by omega), u8_of m (by omega) (by omega), u8_of k (by omega) (by omega)]
theorem nB_enc {l : List Ef} {lb : List UInt8} (h : l.length ≤ 4) : nB (encB l ++ lb) = l.length := by
  have e : ((u8 l.length).toNat : Int) = l.length := u8_of _ (by omega) (by omega)
  show (u8 l.length).toNat = l.length
  omega
theorem dec_enc {l : List Ef} (lb : List UInt8) (h : allB l = true) : decR (encB l ++ lb) = (l, 1 + 5 * l.length, 0) := by
  obtain ⟨h4, hbd⟩ := all_bd h
  have hn := nB_enc (lb := lb) h4
  have hL : decL (encB l ++ lb) l.length = l := by
    apply List.ext_getElem (by rw [decL_len])
    intro i h1 h2
    rw [show (decL (encB l ++ lb) l.length)[i] = efAt (encB l ++ lb) i by simp [decL]]
    exact efAt_enc h2 (hbd _ (List.getElem_mem h2))
  have hlen : (encB l ++ lb).length = 1 + 5 * l.length + lb.length := by rw [List.length_append, encB_len]
  have hall : l.all Ef.ok = true := by unfold allB at h; rw [Bool.and_eq_true] at h; exact h.2
  rw [decR_4 (by omega) (by rw [hn]; omega) (by rw [hn]; omega) (by rw [hn, hL]; exact hall), hn, hL]
theorem u8_nat (x : UInt8) : u8 (x.toNat : Int) = x := by
  unfold u8
  rw [Int.toNat_natCast]
  exact UInt8.ofNat_toNat
theorem efB_dec (lb : List UInt8) (n : Nat) (h : 1 + 5 * n ≤ lb.length) : efB (decL lb n) = (lb.drop 1).take (5 * n) := by
  apply List.ext_getElem (by rw [efB_len, decL_len]; simp; omega)
  intro q h1 h2
  rw [efB_len, decL_len] at h1
  have e := efB_get (decL lb n) (q / 5) (q % 5) (by rw [decL_len]; omega) (by omega)
  rw [show 5 * (q / 5) + q % 5 = q by omega] at e
  have e2 : (decL lb n)[q / 5]'(by rw [decL_len]; omega) = efAt lb (q / 5) := by simp [decL]
  rw [e2] at e
  have hs : ((lb.drop 1).take (5 * n))[q] = lb[1 + q]'(by omega) := by simp only [List.getElem_take, List.getElem_drop]
  have hg : ∀ j (hj : j < lb.length), u8 (byAt lb j) = lb[j] := fun j hj => by
    unfold byAt
    rw [u8_nat]
    simp [List.getD_eq_getElem?_getD, hj]
  have hx : ((efAt lb (q / 5)).by)[q % 5]? = some (lb[1 + q]'(by omega)) := by
    obtain h5 | h5 | h5 | h5 | h5 : q % 5 = 0 ∨ q % 5 = 1 ∨ q % 5 = 2 ∨ q % 5 = 3 ∨ q % 5 = 4 := by omega
    · rw [h5]; show some (u8 (byAt lb (1 + 5 * (q / 5)))) = _; rw [hg _ (by omega)]; congr 2; omega
    · rw [h5]; show some (u8 (byAt lb (1 + 5 * (q / 5) + 1))) = _; rw [hg _ (by omega)]; congr 2; omega
    · rw [h5]; show some (u8 (byAt lb (1 + 5 * (q / 5) + 2))) = _; rw [hg _ (by omega)]; congr 2; omega
    · rw [h5]; show some (u8 (byAt lb (1 + 5 * (q / 5) + 3))) = _; rw [hg _ (by omega)]; congr 2; omega
    · rw [h5]; show some (u8 (byAt lb (1 + 5 * (q / 5) + 4))) = _; rw [hg _ (by omega)]; congr 2; omega
  rw [hs]
  rw [hx] at e
  exact (List.getElem?_eq_some_iff.1 e).2
theorem enc_dec {lb : List UInt8} (h : (decR lb).2.2 = 0) : ∃ n : Nat, n ≤ 4 ∧ (decR lb).2.1 = 1 + 5 * n ∧ 1 + 5 * n ≤ lb.length ∧ allB (decR lb).1 = true ∧ encB (decR lb).1 = lb.take (1 + 5 * n) := by
  by_cases h0 : lb.length = 0
  · rw [decR_0 h0] at h; cases h
  by_cases h1 : 4 < nB lb
  · rw [decR_1 (by omega) h1] at h; cases h
  by_cases h2 : lb.length < 1 + 5 * nB lb
  · rw [decR_2 (by omega) h1 h2] at h; cases h
  cases h3 : (decL lb (nB lb)).all Ef.ok
  · rw [decR_3 (by omega) h1 h2 h3] at h; cases h
  rw [decR_4 (by omega) h1 h2 h3]
  refine ⟨nB lb, by omega, rfl, by omega, ?_⟩
  have ha : allB (decL lb (nB lb)) = true := by unfold allB; rw [h3, decL_len, Bool.and_true]; exact decide_eq_true (by omega)
  refine ⟨ha, ?_⟩
  unfold encB
  rw [efB_dec lb _ (by omega), decL_len]
  obtain _ | ⟨x, r⟩ := lb
  · simp at h0
  · show u8 ((x.toNat : Nat) : Int) :: List.take (5 * x.toNat) r = List.take (1 + 5 * x.toNat) (x :: r)
    rw [u8_nat, Nat.add_comm, List.take_succ_cons]
end Go.Proofs.YtkappnnoienhnaaDoor.efFn

/- Appending to a list of the call's own, where the operation is guarded; a list's head. -/
namespace Go.Proofs.YtkappnnoienhnaaDoor.efFn
open Go.ChangeShapes Go.WideShapes Go.ChangeAt Go.RowKit drMem
set_option linter.unusedVariables false

theorem wpList_wanted {P : Program} {w : World} {ops : Array Oper} {rest : List Oper} {o : Oper} {a : Act} {Q : Exit → Act → World → Prop} (hw : Region.wanted o (yielded ops a.tmps) = true) (h : o.wp P a w (wpList P ops Q rest) Q) : wpList P ops Q (o :: rest) a w := by
  unfold wpList
  rw [if_pos hw]
  exact .inl h
theorem grown_same (w : World) (b : Option Nat) : w.grownBy w b := ⟨rfl, rfl, rfl, Nat.le_refl _, fun _ _ _ => rfl⟩
theorem wp_app {P : Program} {w : World} {o : Oper} {a : Act} {K : Act → World → Prop} {Q : Exit → Act → World → Prop} (s x : Operand) (t : TypeId)
    (ho : o.op = .call { callee := .builtin .append, args := #[s, x], argTypes := #[t, t] })
    (base : Nat) (e : TypeId) (i : TypeInfo) (z : Value) (bytes : Nat) (ht : P.underlying t = some (.slice e)) (hi : P.info? e = some i) (hz : i.zero = some z)
    (hsize : i.size = 1) (hby : i.bytes = bytes) (hzs : z.cells.size = 1) (v : Value) (n : Nat) (xs : List Value) (hs : a.eval s = v) (hown : w.ownsRow base e 1 v n xs)
    (sp : Option Addr) (m c : Nat) (news : List Value) (hx : a.eval x = .slice sp m c) (hn : sp = none → m = 0 ∧ c = 0) (hl : news.length = m) (hsrc : src w sp news) (h1 : ∀ u ∈ news, u.oneCell' = true)
    (h63 : n + m ≤ maxLen) (hbytes : (n + m) * bytes ≤ 140737488355328) (hbase : base ≤ w.heap.size)
    (h : ∀ v' w', w'.ownsRow base e 1 v' (n + m) (xs ++ news) → w.grownBy w' v.ownBlock → K (a.put o.dst v') w') : o.wp P a w K Q := by
  rcases sp with _ | ad
  · obtain ⟨rfl, rfl⟩ := hn rfl
    obtain rfl := List.eq_nil_of_length_eq_zero hl
    have hrun := run_append_owned_none (P := P) (w := w) base t o.type e i 1 ht hi v n xs hown
    unfold Oper.wp
    simp [execOp, ho, resolve, invoke, builtin, hs, hx, hrun, Result.andThen]
    exact h _ _ (by simpa using hown) (grown_same _ _)
  · refine wp_append_own w s x t ho base e i z 1 bytes ht hi hz hsize hby hzs (by decide) v n xs hs hown ad m c news hx (by omega) ?_ h1 h63 hbytes hbase ?_
    · intro j u hu
      have hj := (List.getElem?_eq_some_iff.1 hu).1
      obtain ⟨b, off, e, _, hc⟩ := hsrc (by omega)
      cases e
      rw [addr_add]; exact hc j u hu
    · intro v' w' h2 h3 _
      exact h v' w' h2 h3
theorem BsAt.take {w : World} {sp : Option Addr} {n : Nat} {l : List UInt8} (h : BsAt w sp n l) (k : Nat) (hk : k ≤ n) : BsAt w sp k (l.take k) := by
  have hn := h.n
  have hm := h.m
  refine ⟨by simp; omega, by omega, fun h0 => ?_⟩
  rw [bys_len] at h0
  obtain ⟨b, off, e, hl, hc⟩ := h.c (by rw [bys_len]; simp at h0; omega)
  refine ⟨b, off, e, hl, fun j u hu => hc j u ?_⟩
  have : bys (l.take k) = (bys l).take k := by simp [bys, List.map_take]
  rw [this, List.getElem?_take] at hu
  split at hu
  · exact hu
  · cases hu
theorem BsAt.of_src {w : World} {sp : Option Addr} {l : List UInt8} (h : src w sp (bys l)) (hm : l.length ≤ 1000) : BsAt w sp l.length l := ⟨rfl, by omega, h⟩
end Go.Proofs.YtkappnnoienhnaaDoor.efFn

/- Encode and Decode of cards undo each other; what is cut off is too short. -/
namespace Go.Proofs.YtkappnnoienhnaaDoor.caFn
open Go.ChangeShapes Go.WideShapes Go.ChangeAt Go.RowKit drMem efFn
set_option linter.unusedVariables false

/- one step: what it reads of bytes that begin well -/
theorem nb_ok {m x : Int} (r : List UInt8) (h0 : 0 ≤ x) (h1 : x < 256) (h : x ≤ m) : nb m (u8 x :: r, 0) = (x, (r, 0)) := by
  have e := u8_of x h0 h1
  unfold nb
  simp only [List.getD_cons_zero, List.length_cons, List.drop_succ_cons, List.drop_zero, e]
  rw [if_pos trivial, if_pos (by omega), if_neg (by omega)]
theorem tk_ok (v r : List UInt8) : tk v.length (v ++ r, 0) = (v, (r, 0)) := by
  unfold tk
  simp only [List.length_append]
  rw [if_pos trivial, if_pos (by omega), List.take_left' rfl, List.drop_left' rfl]
theorem efR_ok {e : List Ef} (r : List UInt8) (h : allB e = true) : efR (encB e ++ r, 0) = (e, (r, 0)) := by
  unfold efR
  simp only [dec_enc r h]
  rw [if_pos trivial, List.drop_left' (by rw [encB_len])]
  first | done | rfl
theorem trBy_cons (t : Tr) (l : List Tr) : trBy (t :: l) = u8 t.w :: (encB t.e ++ trBy l) := by simp [trBy]
theorem trBy_app (a b : List Tr) : trBy (a ++ b) = trBy a ++ trBy b := by simp [trBy]
theorem trS_ok (l : List Tr) (lb : List UInt8) (h : ∀ t ∈ l, (0 ≤ t.w ∧ t.w < 256) ∧ allB t.e = true) : ∀ k, k ≤ l.length → trS (trBy l ++ lb, 0) k = (trBy (l.drop k) ++ lb, 0) ∧ trL (trBy l ++ lb, 0) k = l.take k
  | 0, _ => ⟨by simp [trS], by simp [trL]⟩
  | k + 1, hk => by
    obtain ⟨h1, h2⟩ := trS_ok l lb h k (by omega)
    have hd : l.drop k = l[k] :: l.drop (k + 1) := List.drop_eq_getElem_cons (by omega)
    obtain ⟨⟨g1, g2⟩, g3⟩ := h l[k] (List.getElem_mem _)
    have e1 : nb 255 (trS (trBy l ++ lb, 0) k) = (l[k].w, (encB l[k].e ++ (trBy (l.drop (k + 1)) ++ lb), 0)) := by
      rw [h1, hd, trBy_cons, List.cons_append, List.append_assoc]
      exact nb_ok _ g1 g2 (by omega)
    have e2 := efR_ok (trBy (l.drop (k + 1)) ++ lb) g3
    constructor
    · simp only [trS, e1, e2]
    · simp only [trL, e1, e2, h2]
      rw [List.take_succ_eq_append_getElem (by omega)]
theorem cdB_form (q : Cd) (lb : List UInt8) : cdB q ++ lb = u8 q.kd :: u8 q.ra :: u8 q.nm.length :: (q.nm ++ (u8 q.a :: u8 q.b :: u8 q.c :: u8 q.d :: u8 q.x :: u8 q.ml :: u8 q.pw :: u8 q.tg :: u8 q.kw :: (encB q.ef ++ (u8 q.tr.length :: (trBy q.tr ++ lb))))) := by
  simp [cdB]
theorem RdC_enc {q : Cd} (lb : List UInt8) (h : q.bd) : RdC (cdB q ++ lb, 0) q (lb, 0) := by
  obtain ⟨h1, h2, h3, h4, h5, h6, h7, h8, h9, h10, h11, h12, h13, h14, h15⟩ := h
  obtain ⟨t1, t2⟩ := trS_ok q.tr lb h15 q.tr.length (Nat.le_refl _)
  rw [cdB_form]
  refine ⟨_, _, _, _, _, _, _, _, _, _, _, _, _, _, _, q.nm.length, q.tr.length, nb_ok _ h2.1 h2.2 (by omega), nb_ok _ h3.1 h3.2 (by omega), nb_ok _ (by omega) (by omega) (by omega), tk_ok _ _, nb_ok _ h4.1 h4.2 (by omega), nb_ok _ h5.1 h5.2 (by omega), nb_ok _ h6.1 h6.2 (by omega), nb_ok _ h7.1 h7.2 (by omega),
    nb_ok _ h8.1 h8.2 (by omega), nb_ok _ h9.1 h9.2 (by omega), nb_ok _ h10.1 h10.2 (by omega), nb_ok _ h11.1 h11.2 (by omega), nb_ok _ h12.1 h12.2 (by omega), efR_ok _ h13, nb_ok _ (by omega) (by omega) (by omega), ?_, ?_⟩
  · rw [t2, List.take_of_length_le (Nat.le_refl _)]
  · rw [t1, List.drop_of_length_le (Nat.le_refl _)]; simp [trBy]
theorem dec_card {q : Cd} (lb : List UInt8) (h : okCd q = true) : decC (cdB q ++ lb) = (q, ((cdB q).length : Int), 0) := by
  unfold decC
  rw [(RdC_enc lb (okCd_bd h)).run]
  unfold deV
  simp only [List.length_append, h]
  rw [if_neg (by simp), if_pos trivial]
  refine congrArg (fun z => (q, z, (0 : Int))) ?_
  omega

/- one step back -/
theorem nb_inv {m : Int} {s : Rd} (h : (nb m s).2.2 = 0) : s = (u8 (nb m s).1 :: (nb m s).2.1, 0) ∧ 0 ≤ (nb m s).1 ∧ (nb m s).1 ≤ m ∧ (nb m s).1 < 256 := by
  obtain ⟨l, e⟩ := s
  unfold nb at *
  by_cases h0 : e = 0
  · subst h0
    cases l with
    | nil => simp at h
    | cons x r =>
      have hx2 := x.toNat_lt
      simp only [List.getD_cons_zero, List.length_cons, List.drop_succ_cons, List.drop_zero, if_true] at *
      rw [if_pos (by omega)] at *
      by_cases hx : m < (x.toNat : Int)
      · rw [if_pos hx] at h; simp at h
      · rw [if_neg hx]; exact ⟨by rw [u8_nat], by dsimp only; omega, by dsimp only; omega, by dsimp only; omega⟩
  · simp only [if_neg h0] at h
    exact absurd h h0
theorem tk_inv {n : Nat} {s : Rd} (h : (tk n s).2.2 = 0) : s = ((tk n s).1 ++ (tk n s).2.1, 0) ∧ (tk n s).1.length = n := by
  obtain ⟨l, e⟩ := s
  unfold tk at *
  by_cases h0 : e = 0
  · subst h0
    by_cases hn : n ≤ l.length
    · simp only [if_pos hn, if_true] at *
      exact ⟨by rw [List.take_append_drop], by rw [List.length_take]; omega⟩
    · simp only [if_neg hn, if_true] at h
      cases h
  · simp only [if_neg h0] at h
    exact absurd h h0
theorem efR_inv {s : Rd} (h : (efR s).2.2 = 0) : s = (encB (efR s).1 ++ (efR s).2.1, 0) ∧ allB (efR s).1 = true := by
  obtain ⟨l, e⟩ := s
  unfold efR at *
  by_cases h0 : e = 0
  · subst h0
    simp only [if_true] at *
    have hd : (decR l).2.2 = 0 := by omega
    obtain ⟨n, h1, h2, h3, h4, h5⟩ := enc_dec hd
    rw [h5, h2, List.take_append_drop]
    exact ⟨rfl, h4⟩
  · simp only [if_neg h0] at h
    exact absurd h h0
theorem trS_inv {s : Rd} : ∀ k, (trS s k).2 = 0 → s = (trBy (trL s k) ++ (trS s k).1, 0)
  | 0, h => by
    obtain ⟨l, e⟩ := s
    simp only [trS, trL, trBy, List.flatMap_nil, List.nil_append] at *
    rw [h]
  | k + 1, h => by
    have h1 := (efR_inv (s := (nb 255 (trS s k)).2) h).1
    have h2 := nb_inv (m := 255) (s := trS s k) (congrArg Prod.snd h1)
    have h3 := trS_inv k (congrArg Prod.snd h2.1)
    have h4 : (trS s k).1 = u8 (nb 255 (trS s k)).1 :: (nb 255 (trS s k)).2.1 := congrArg Prod.fst h2.1
    have h5 : (nb 255 (trS s k)).2.1 = encB (efR (nb 255 (trS s k)).2).1 ++ (efR (nb 255 (trS s k)).2).2.1 := congrArg Prod.fst h1
    rw [h5] at h4
    rw [h4] at h3
    refine h3.trans ?_
    simp only [trS, trL]
    rw [trBy_app, trBy_cons]
    simp only [trBy, List.flatMap_nil, List.append_nil, List.append_assoc, List.cons_append]
theorem cdR_inv {b : List UInt8} (h : (cdR (b, 0)).2.2 = 0) : b = cdB (cdR (b, 0)).1 ++ (cdR (b, 0)).2.1 := by
  unfold cdR at h ⊢
  dsimp only at h ⊢
  generalize e1 : nb 255 (b, 0) = p1 at h ⊢
  generalize e2 : nb 255 p1.2 = p2 at h ⊢
  generalize e3 : nb 32 p2.2 = p3 at h ⊢
  generalize e4 : tk p3.1.toNat p3.2 = p4 at h ⊢
  generalize e5 : nb 255 p4.2 = p5 at h ⊢
  generalize e6 : nb 255 p5.2 = p6 at h ⊢
  generalize e7 : nb 255 p6.2 = p7 at h ⊢
  generalize e8 : nb 255 p7.2 = p8 at h ⊢
  generalize e9 : nb 255 p8.2 = p9 at h ⊢
  generalize e10 : nb 255 p9.2 = p10 at h ⊢
  generalize e11 : nb 255 p10.2 = p11 at h ⊢
  generalize e12 : nb 255 p11.2 = p12 at h ⊢
  generalize e13 : nb 255 p12.2 = p13 at h ⊢
  generalize e14 : efR p13.2 = p14 at h ⊢
  generalize e15 : nb 2 p14.2 = p15 at h ⊢
  have t := trS_inv p15.1.toNat h
  have f15 := nb_inv (m := 2) (s := p14.2) (by rw [e15]; exact congrArg Prod.snd t)
  rw [e15] at f15
  have g15 := congrArg Prod.fst f15.1
  have f14 := efR_inv (s := p13.2) (by rw [e14]; exact congrArg Prod.snd f15.1)
  rw [e14] at f14
  have g14 := congrArg Prod.fst f14.1
  have f13 := nb_inv (m := 255) (s := p12.2) (by rw [e13]; exact congrArg Prod.snd f14.1)
  rw [e13] at f13
  have g13 := congrArg Prod.fst f13.1
  have f12 := nb_inv (m := 255) (s := p11.2) (by rw [e12]; exact congrArg Prod.snd f13.1)
  rw [e12] at f12
  have g12 := congrArg Prod.fst f12.1
  have f11 := nb_inv (m := 255) (s := p10.2) (by rw [e11]; exact congrArg Prod.snd f12.1)
  rw [e11] at f11
  have g11 := congrArg Prod.fst f11.1
  have f10 := nb_inv (m := 255) (s := p9.2) (by rw [e10]; exact congrArg Prod.snd f11.1)
  rw [e10] at f10
  have g10 := congrArg Prod.fst f10.1
  have f9 := nb_inv (m := 255) (s := p8.2) (by rw [e9]; exact congrArg Prod.snd f10.1)
  rw [e9] at f9
  have g9 := congrArg Prod.fst f9.1
  have f8 := nb_inv (m := 255) (s := p7.2) (by rw [e8]; exact congrArg Prod.snd f9.1)
  rw [e8] at f8
  have g8 := congrArg Prod.fst f8.1
  have f7 := nb_inv (m := 255) (s := p6.2) (by rw [e7]; exact congrArg Prod.snd f8.1)
  rw [e7] at f7
  have g7 := congrArg Prod.fst f7.1
  have f6 := nb_inv (m := 255) (s := p5.2) (by rw [e6]; exact congrArg Prod.snd f7.1)
  rw [e6] at f6
  have g6 := congrArg Prod.fst f6.1
  have f5 := nb_inv (m := 255) (s := p4.2) (by rw [e5]; exact congrArg Prod.snd f6.1)
  rw [e5] at f5
  have g5 := congrArg Prod.fst f5.1
  have f4 := tk_inv (n := p3.1.toNat) (s := p3.2) (by rw [e4]; exact congrArg Prod.snd f5.1)
  rw [e4] at f4
  have g4 := congrArg Prod.fst f4.1
  have f3 := nb_inv (m := 32) (s := p2.2) (by rw [e3]; exact congrArg Prod.snd f4.1)
  rw [e3] at f3
  have g3 := congrArg Prod.fst f3.1
  have f2 := nb_inv (m := 255) (s := p1.2) (by rw [e2]; exact congrArg Prod.snd f3.1)
  rw [e2] at f2
  have g2 := congrArg Prod.fst f2.1
  have f1 := nb_inv (m := 255) (s := (b, 0)) (by rw [e1]; exact congrArg Prod.snd f2.1)
  rw [e1] at f1
  have g1 := congrArg Prod.fst f1.1
  have gt := congrArg Prod.fst t
  dsimp only at g1 g2 g3 g4 g5 g6 g7 g8 g9 g10 g11 g12 g13 g14 g15 gt
  have k3 : u8 (p4.1.length : Int) = u8 p3.1 := by rw [f4.2, Int.toNat_of_nonneg f3.2.1]
  have k15 : u8 ((trL p15.2 p15.1.toNat).length : Int) = u8 p15.1 := by rw [trL_len, Int.toNat_of_nonneg f15.2.1]
  rw [cdB_form]
  dsimp only
  rw [k3, k15, ← gt, ← g15, ← g14, ← g13, ← g12, ← g11, ← g10, ← g9, ← g8, ← g7, ← g6, ← g5, ← g4, ← g3, ← g2, ← g1]
theorem card_dec {b : List UInt8} {y : Cd} {n : Int} (h : decC b = (y, n, 0)) : okCd y = true ∧ ∃ r, b = cdB y ++ r ∧ n = ((cdB y).length : Int) := by
  unfold decC deV at h
  split at h
  · next h1 => exact absurd (congrArg (fun z => z.2.2) h) h1
  · next h1 =>
    split at h
    · next h2 =>
      have h3 := cdR_inv (b := b) (by omega)
      generalize cdR (b, 0) = z at *
      obtain rfl : z.1 = y := congrArg Prod.fst h
      have h4 : (b.length : Int) - z.2.1.length = n := congrArg (fun z => z.2.1) h
      refine ⟨h2, _, h3, ?_⟩
      have h5 := congrArg List.length h3
      rw [List.length_append] at h5
      omega
    · have := congrArg (fun z => z.2.2) h
      simp at this

/- bytes that are cut off: an error, or the same -/
def Eo (l : List UInt8) (s : Rd) (t : List UInt8) : Prop := s.2 = 4 ∨ (s.2 = 0 ∧ s.1 ++ t = l)
theorem nb_E {m v : Int} {l r t : List UInt8} {s : Rd} (h : nb m (l, 0) = (v, (r, 0))) (e : Eo l s t) : Eo r (nb m s).2 t ∧ ((nb m s).2.2 = 0 → (nb m s).1 = v) := by
  obtain ⟨p, e0⟩ := s
  rcases e with e | ⟨e, hp⟩
  · obtain rfl : e0 = 4 := e
    exact ⟨.inl rfl, fun h => by simp [nb] at h⟩
  · obtain rfl : e0 = 0 := e
    have hi := nb_inv (m := m) (s := (l, 0)) (by rw [h])
    rw [h] at hi
    obtain ⟨h1, h2, h3, h4⟩ := hi
    dsimp only at h1 h2 h3 h4 hp
    have hl : l = u8 v :: r := congrArg Prod.fst h1
    cases p with
    | nil => exact ⟨.inl rfl, fun h => by simp [nb] at h⟩
    | cons x p' =>
      rw [hl, List.cons_append] at hp
      obtain ⟨rfl, hp2⟩ := List.cons.inj hp
      rw [nb_ok p' h2 h4 h3]
      exact ⟨.inr ⟨rfl, hp2⟩, fun _ => rfl⟩
theorem tk_E {n n' : Nat} {v l r t : List UInt8} {s : Rd} (h : tk n (l, 0) = (v, (r, 0))) (e : Eo l s t) (hn : s.2 = 0 → n' = n) : Eo r (tk n' s).2 t ∧ ((tk n' s).2.2 = 0 → (tk n' s).1 = v) := by
  obtain ⟨p, e0⟩ := s
  rcases e with e | ⟨e, hp⟩
  · obtain rfl : e0 = 4 := e
    exact ⟨.inl rfl, fun h => by simp [tk] at h⟩
  · obtain rfl : e0 = 0 := e
    obtain rfl := hn rfl
    have hi := tk_inv (n := n') (s := (l, 0)) (by rw [h])
    rw [h] at hi
    obtain ⟨h1, h2⟩ := hi
    have hl : l = v ++ r := congrArg Prod.fst h1
    dsimp only at hp h2
    rw [hl] at hp
    by_cases hc : n' ≤ p.length
    · obtain ⟨p', rfl⟩ : ∃ p', p = v ++ p' := by
        refine ⟨p.drop n', ?_⟩
        have h5 := congrArg (List.take n') hp
        rw [List.take_append_of_le_length hc, List.take_left' h2] at h5
        rw [← h5, List.take_append_drop]
      rw [List.append_assoc] at hp
      rw [← h2, tk_ok]
      exact ⟨.inr ⟨rfl, List.append_cancel_left hp⟩, fun _ => rfl⟩
    · have : tk n' (p, 0) = ([], (p, 4)) := by unfold tk; simp only [if_true]; rw [if_neg hc]
      rw [this]
      exact ⟨.inl rfl, fun h => by simp at h⟩
theorem efR_E {v : List Ef} {l r t : List UInt8} {s : Rd} (h : efR (l, 0) = (v, (r, 0))) (e : Eo l s t) : Eo r (efR s).2 t ∧ ((efR s).2.2 = 0 → (efR s).1 = v) := by
  obtain ⟨p, e0⟩ := s
  rcases e with e | ⟨e, hp⟩
  · obtain rfl : e0 = 4 := e
    exact ⟨.inl rfl, fun h => by simp [efR] at h⟩
  · obtain rfl : e0 = 0 := e
    have hi := efR_inv (s := (l, 0)) (by rw [h])
    rw [h] at hi
    obtain ⟨h1, h2⟩ := hi
    have hl : l = encB v ++ r := congrArg Prod.fst h1
    dsimp only at hp h2
    rw [hl] at hp
    by_cases hc : 1 + 5 * v.length ≤ p.length
    · obtain ⟨p', rfl⟩ : ∃ p', p = encB v ++ p' := by
        refine ⟨p.drop (1 + 5 * v.length), ?_⟩
        have h5 := congrArg (List.take (1 + 5 * v.length)) hp
        rw [List.take_append_of_le_length hc, List.take_left' (by rw [encB_len])] at h5
        rw [← h5, List.take_append_drop]
      rw [List.append_assoc] at hp
      rw [efR_ok p' h2]
      exact ⟨.inr ⟨rfl, List.append_cancel_left hp⟩, fun _ => rfl⟩
    · have h4 := (all_bd h2).1
      have hd : decR p = ([], 0, 4) := by
        cases p with
        | nil => exact decR_0 rfl
        | cons x p' =>
          have hx : x = u8 v.length := (List.cons.inj hp).1
          have hn : nB (x :: p') = v.length := by
            have e : ((u8 v.length).toNat : Int) = v.length := u8_of _ (by omega) (by omega)
            subst hx
            show (u8 v.length).toNat = v.length
            omega
          exact decR_2 (by simp) (by omega) (by rw [hn]; omega)
      have : efR (p, 0) = ([], (p, 4)) := by unfold efR; simp only [if_true, hd, List.drop_zero]; rfl
      rw [this]
      exact ⟨.inl rfl, fun h => by simp at h⟩
theorem trS_4 {s : Rd} (h : s.2 = 4) : ∀ k, (trS s k).2 = 4
  | 0 => h
  | k + 1 => by
    have ih := trS_4 h k
    simp only [trS]
    generalize trS s k = u at *
    obtain ⟨l, e⟩ := u
    dsimp only at ih
    subst ih
    simp [nb, efR]
theorem trS_E {tr : List Tr} {s : Rd} {t : List UInt8} (hb : ∀ t ∈ tr, (0 ≤ t.w ∧ t.w < 256) ∧ allB t.e = true) (e : Eo (trBy tr) s t) : ∀ k, k ≤ tr.length → Eo (trBy (tr.drop k)) (trS s k) t
  | 0, _ => by simpa [trS] using e
  | k + 1, hk => by
    have ih := trS_E hb e k (by omega)
    have hd : tr.drop k = tr[k] :: tr.drop (k + 1) := List.drop_eq_getElem_cons (by omega)
    obtain ⟨⟨g1, g2⟩, g3⟩ := hb tr[k] (List.getElem_mem _)
    rw [hd, trBy_cons] at ih
    have h1 := nb_E (nb_ok (m := 255) _ g1 g2 (by omega)) ih
    exact (efR_E (efR_ok _ g3) h1.1).1
theorem cut_short {q : Cd} {p t : List UInt8} (h : okCd q = true) (hp : p ++ t = cdB q) (ht : t ≠ []) : decC p = (zeroCd, 0, 4) := by
  obtain ⟨h1, h2, h3, h4, h5, h6, h7, h8, h9, h10, h11, h12, h13, h14, h15⟩ := okCd_bd h
  have E0 : Eo (cdB q) (p, 0) t := .inr ⟨rfl, hp⟩
  rw [← List.append_nil (cdB q), cdB_form, List.append_nil] at E0
  have E1 := nb_E (nb_ok (m := 255) _ h2.1 h2.2 (by omega)) E0
  have E2 := nb_E (nb_ok (m := 255) _ h3.1 h3.2 (by omega)) E1.1
  have E3 := nb_E (nb_ok (m := 32) _ (by omega) (by omega) (by omega)) E2.1
  have E4 := tk_E (n' := (nb 32 (nb 255 (nb 255 (p, 0)).2).2).1.toNat) (tk_ok q.nm _) E3.1 (fun h0 => by rw [E3.2 h0]; simp)
  have E5 := nb_E (nb_ok (m := 255) _ h4.1 h4.2 (by omega)) E4.1
  have E6 := nb_E (nb_ok (m := 255) _ h5.1 h5.2 (by omega)) E5.1
  have E7 := nb_E (nb_ok (m := 255) _ h6.1 h6.2 (by omega)) E6.1
  have E8 := nb_E (nb_ok (m := 255) _ h7.1 h7.2 (by omega)) E7.1
  have E9 := nb_E (nb_ok (m := 255) _ h8.1 h8.2 (by omega)) E8.1
  have E10 := nb_E (nb_ok (m := 255) _ h9.1 h9.2 (by omega)) E9.1
  have E11 := nb_E (nb_ok (m := 255) _ h10.1 h10.2 (by omega)) E10.1
  have E12 := nb_E (nb_ok (m := 255) _ h11.1 h11.2 (by omega)) E11.1
  have E13 := nb_E (nb_ok (m := 255) _ h12.1 h12.2 (by omega)) E12.1
  have E14 := efR_E (efR_ok _ h13) E13.1
  have E15 := nb_E (nb_ok (m := 2) _ (by omega) (by omega) (by omega)) E14.1
  have hF : (cdR (p, 0)).2.2 = 4 := by
    unfold cdR
    dsimp only
    generalize nb 2 _ = z at E15
    obtain ⟨E, hv⟩ := E15
    rcases E with E | E
    · exact trS_4 E _
    · have hv' : z.1.toNat = q.tr.length := by rw [hv E.1]; simp
      have := trS_E h15 (.inr E) q.tr.length (Nat.le_refl _)
      rw [hv']
      rcases this with this | ⟨_, this⟩
      · exact this
      · rw [List.drop_of_length_le (Nat.le_refl _)] at this
        have h0 := congrArg List.length this
        simp only [List.length_append, trBy, List.flatMap_nil, List.length_nil] at h0
        exact absurd (List.eq_nil_of_length_eq_zero (by omega)) ht
  unfold decC deV
  rw [hF, if_pos (by decide)]
theorem trBy_len (l : List Tr) (hl : ∀ t ∈ l, t.e.length ≤ 4) : (trBy l).length ≤ 22 * l.length := by
  induction l with
  | nil => simp [trBy]
  | cons a r ih =>
    have h1 := hl a (by simp)
    have h2 := ih (fun t ht => hl t (by simp [ht]))
    rw [trBy_cons]
    simp only [List.length_cons, List.length_append, encB_len]
    omega
theorem cdB_len {q : Cd} (h : okCd q = true) : 13 ≤ (cdB q).length ∧ (cdB q).length ≤ 110 := by
  obtain ⟨h1, h2, h3, h4, h5, h6, h7, h8, h9, h10, h11, h12, h13, h14, h15⟩ := okCd_bd h
  have e4 := (all_bd h13).1
  have ht := trBy_len q.tr (fun t ht => (all_bd (h15 t ht).2).1)
  unfold cdB
  simp only [List.length_append, List.length_cons, List.length_nil, encB_len]
  omega
end Go.Proofs.YtkappnnoienhnaaDoor.caFn

/- The line of a card has no line feed and is not empty. -/
namespace Go.Proofs.YtkappnnoienhnaaDoor.caFn
open Go.ChangeShapes Go.WideShapes Go.ChangeAt Go.RowKit drMem efFn
set_option linter.unusedVariables false

def nfB (l : List UInt8) : Bool := l.all (· != 10)
theorem nf_app (a b : List UInt8) : nfB (a ++ b) = (nfB a && nfB b) := List.all_append
theorem nf_tail (sep : List UInt8) (hs : nfB sep = true) : ∀ (r : List (List UInt8)), (∀ x ∈ r, nfB x = true) → nfB (Lib.joinTail sep r) = true
  | [], _ => rfl
  | a :: r, h => by
    have ih := nf_tail sep hs r (fun x hx => h x (by simp [hx]))
    have ha := h a (by simp)
    unfold Lib.joinTail at *
    rw [List.map_cons, List.flatten_cons, nf_app, nf_app, hs, ha, ih]; rfl
theorem nf_join (sep : List UInt8) (hs : nfB sep = true) (l : List (List UInt8)) (h : ∀ x ∈ l, nfB x = true) : nfB (Lib.join l sep) = true := by
  cases l with
  | nil => rw [Lib.join_nil]; rfl
  | cons a r =>
    rw [Lib.join_cons, nf_app, h a (by simp), nf_tail sep hs r (fun x hx => h x (by simp [hx]))]; rfl
theorem nf_tab : ∀ n : Nat, n < 100 → nfB (tab n) = true := by decide
theorem nf_dec : ∀ n : Nat, n < 21 → nfB (Lib.decDigits n) = true := by decide +kernel
theorem nf_nm (c : Int) : nfB (nmL c) = true := by
  by_cases h : 1 ≤ c ∧ c ≤ 12
  · rcases codesR c h.1 h.2 with rfl | rfl | rfl | rfl | rfl | rfl | rfl | rfl | rfl | rfl | rfl | rfl <;> rfl
  · unfold nmL
    rw [if_neg (by omega), if_neg (by omega), if_neg (by omega), if_neg (by omega), if_neg (by omega), if_neg (by omega), if_neg (by omega), if_neg (by omega), if_neg (by omega), if_neg (by omega), if_neg (by omega), if_neg (by omega)]
    rfl
theorem nf_kw (t : Int) : nfB (kwL t) = true := by unfold kwL; (repeat' split) <;> rfl
theorem nf_let (r : Nat) : nfB (letW r) = true := by unfold letW; (repeat' split) <;> rfl
theorem nf_lt (k : Int) : nfB (letT k) = true := by unfold letT; (repeat' split) <;> rfl
theorem nf_kc (k : Nat) : nfB (kcL k) = true := by unfold kcL; (repeat' split) <;> rfl
theorem nf_wh (k : Nat) : nfB (whL k) = true := by unfold whL; (repeat' split) <;> rfl
theorem nf_rep (k : UInt8) (n : Nat) (h : k ≠ 10) : nfB (List.replicate n k) = true := by
  unfold nfB
  rw [List.all_eq_true]
  intro x hx
  have := List.eq_of_mem_replicate hx
  subst this
  simpa using h
theorem nf_text (e : Ef) (h : e.ok = true) : nfB (textE e) = true := by
  obtain ⟨h1, _⟩ := okE_parts h
  obtain ⟨b0, b1, b2, b3, b4, b5⟩ := okN_bd h1
  refine nf_join [32] rfl _ fun x hx => ?_
  simp only [wordsE, List.mem_cons, List.mem_append] at hx
  rcases hx with rfl | hx | hx
  · exact nf_nm _
  · have ht : ∀ z : Int, z ≤ 99 → nfB (tab z.toNat) = true := fun z hz => nf_tab _ (by omega)
    unfold numW at hx
    split at hx
    · simp only [List.mem_cons, List.not_mem_nil, or_false] at hx; subst hx; exact ht _ b1
    · split at hx
      · simp only [List.mem_cons, List.not_mem_nil, or_false] at hx
        rcases hx with rfl | rfl
        · exact ht _ b1
        · exact ht _ (by omega)
      · split at hx
        · simp only [List.mem_cons, List.not_mem_nil, or_false] at hx
          rcases hx with rfl | rfl
          · exact ht _ b1
          · exact nf_let _
        · cases hx
  · unfold tgW at hx
    split at hx
    · cases hx
    · simp only [List.mem_cons, List.not_mem_nil, or_false] at hx; subst hx; exact nf_kw _
theorem all_ok {l : List Ef} (h : allB l = true) : ∀ e ∈ l, e.ok = true := by
  unfold allB at h; rw [Bool.and_eq_true] at h; exact List.all_eq_true.1 h.2
theorem nf_cost {q : Cd} (h : maFn.okC q.a q.b q.c q.d q.x = true) : nfB (costT q) = true := by
  have g := (maFn.okC_iff _ _ _ _ _).1 h
  unfold costT maFn.textL maFn.letL maFn.numL
  rw [nf_app, nf_app, nf_app, nf_app, nf_rep _ _ (by decide), nf_rep _ _ (by decide), nf_rep _ _ (by decide), nf_rep _ _ (by decide)]
  split
  · rw [nf_dec _ (by omega)]; rfl
  · rfl
theorem nf_name {l : List UInt8} (h : nameB l = true) : nfB l = true := by
  unfold nameB at h
  simp only [Bool.and_eq_true] at h
  unfold nfB
  rw [List.all_eq_true]
  intro x hx
  have := List.all_eq_true.1 h.2.2.2.2 x hx
  simp only [Bool.and_eq_true, decide_eq_true_eq] at this
  simp only [bne_iff_ne, ne_eq]
  rintro rfl
  exact absurd this.1 (by decide)
theorem line_ok {q : Cd} (h : okCd q = true) : nfB (lineT q) = true ∧ 1 ≤ (lineT q).length := by
  obtain ⟨hn, hr, hk⟩ := okCd_parts h
  have hl := nameB_len hn
  have hc : maFn.okC q.a q.b q.c q.d q.x = true := by
    rcases kind_cases hk with ⟨k, hs⟩ | ⟨k, hs⟩ | ⟨k, hs⟩
    · obtain ⟨_, ⟨g2, g3, g4, g5, g6⟩, _⟩ := srcB_bd hs
      rw [g2, g3, g4, g5, g6]; rfl
    · exact (creB_bd hs).1
    · exact (splB_bd hs).1
  have hp : q.kd = 2 → q.pw ≤ 20 ∧ q.tg ≤ 20 := fun k2 => by
    rcases kind_cases hk with ⟨k, hs⟩ | ⟨k, hs⟩ | ⟨k, hs⟩
    · omega
    · obtain ⟨_, _, h3, h4, _⟩ := creB_bd hs; omega
    · omega
  have hb := okCd_bd h
  constructor
  · refine nf_join [44, 32] rfl _ fun x hx => ?_
    unfold partsT at hx
    simp only [List.mem_append, List.mem_cons, List.not_mem_nil, or_false] at hx
    rcases hx with ((((rfl | rfl) | hx) | hx) | hx) | hx
    · exact nf_name hn
    · unfold kdT
      split
      · rw [nf_app, nf_lt]; rfl
      · rw [nf_app, nf_cost hc]; (repeat' split) <;> rfl
    · unfold ptT at hx
      split at hx
      · simp only [List.mem_cons, List.not_mem_nil, or_false] at hx
        subst hx
        have := hp (by assumption)
        rw [nf_app, nf_app, nf_dec _ (by omega), nf_dec _ (by omega)]; rfl
      · cases hx
    · unfold kwT at hx
      obtain ⟨i, _, hi⟩ := List.mem_flatMap.1 hx
      split at hi
      · simp only [List.mem_cons, List.not_mem_nil, or_false] at hi; subst hi; exact nf_kc _
      · cases hi
    · obtain ⟨e, he, rfl⟩ := List.mem_map.1 hx
      exact nf_text e (all_ok hb.ef e he)
    · obtain ⟨t, ht, rfl⟩ := List.mem_map.1 hx
      unfold trT
      rw [nf_app, nf_app, nf_wh, nf_join _ rfl _ (fun x hx => by
        obtain ⟨e, he, rfl⟩ := List.mem_map.1 hx
        exact nf_text e (all_ok (hb.tw t ht).2 e he))]
      rfl
  · unfold lineT partsT
    simp only [List.cons_append]
    rw [Lib.join_cons, List.length_append]
    omega
theorem lineT_size {q : Cd} (h : okCd q = true) : (bs (lineT q)).size ≤ 1000000 := by
  obtain ⟨hn, hr, hk⟩ := okCd_parts h
  have hl := nameB_len hn
  have hb := okCd_bd h
  have hc : maFn.okC q.a q.b q.c q.d q.x = true := by
    rcases kind_cases hk with ⟨k, hs⟩ | ⟨k, hs⟩ | ⟨k, hs⟩
    · obtain ⟨_, ⟨g2, g3, g4, g5, g6⟩, _⟩ := srcB_bd hs
      rw [g2, g3, g4, g5, g6]; rfl
    · exact (creB_bd hs).1
    · exact (splB_bd hs).1
  have ht : ∀ t ∈ q.tr, t.e.length ≤ 2 := by
    rcases kind_cases hk with ⟨k, hs⟩ | ⟨k, hs⟩ | ⟨k, hs⟩
    · obtain ⟨_, _, _, _, _, _, g⟩ := srcB_bd hs
      rw [g]; simp
    · obtain ⟨_, _, _, _, _, _, g⟩ := creB_bd hs
      exact fun t ht => (trB_bd ((trsB_bd g).2 t ht)).2.1.2
    · obtain ⟨_, _, _, _, _, _, _, g⟩ := splB_bd hs
      rw [g]; simp
  have hp : q.kd = 2 → q.pw ≤ 20 ∧ q.tg ≤ 20 := fun k2 => by
    rcases kind_cases hk with ⟨k, hs⟩ | ⟨k, hs⟩ | ⟨k, hs⟩
    · omega
    · obtain ⟨_, _, h3, h4, _⟩ := creB_bd hs; omega
    · omega
  rw [bs_size]
  unfold lineT partsT
  refine line_len ([q.nm, kdT q] ++ ptT q) ?_ ?_ _ _ (all_bd hb.ef).1 _ hb.tr ht
  · unfold ptT; split <;> simp
  · intro x hx
    simp only [List.mem_append, List.mem_cons, List.not_mem_nil, or_false] at hx
    rcases hx with (rfl | rfl) | hx
    · omega
    · have := costT_len hc
      unfold kdT
      split
      · have := letT_len q.ml
        simp only [List.length_append, List.length_cons, List.length_nil]; omega
      · rw [List.length_append]
        have : (if q.kd = 2 then [99, 114, 101, 97, 116, 117, 114, 101, 32] else if q.kd = 3 then [115, 112, 101, 108, 108, 32] else [116, 114, 105, 99, 107, 32] : List UInt8).length ≤ 9 := by (repeat' split) <;> simp
        omega
    · unfold ptT at hx
      split at hx
      · simp only [List.mem_cons, List.not_mem_nil, or_false] at hx
        subst hx
        have := hp (by assumption)
        have := maFn.dec_len q.pw.toNat (by omega)
        have := maFn.dec_len q.tg.toNat (by omega)
        simp only [List.length_append, List.length_cons, List.length_nil]; omega
      · cases hx
theorem nf_get {l : List UInt8} (h : nfB l = true) (k : Nat) (hk : k < l.length) : ((l.getD k 0).toNat : Int) ≠ 10 := by
  unfold nfB at h
  have := List.all_eq_true.1 h (l[k]) (List.getElem_mem hk)
  have e : l.getD k 0 = l[k] := by simp [List.getD_eq_getElem?_getD, hk]
  rw [e]
  simp only [bne_iff_ne, ne_eq] at this
  intro h2
  exact this (UInt8.toNat_inj.1 (by show l[k].toNat = 10; omega))
end Go.Proofs.YtkappnnoienhnaaDoor.caFn

/- The law CardHolds. -/
namespace Go.Proofs.YtkappnnoienhnaaDoor.caFn
open Go.ChangeShapes Go.WideShapes Go.ChangeAt Go.RowKit drMem efFn
set_option linter.unusedVariables false

theorem step_app {P : Program} {w : World} {ops : Array Oper} {o : Oper} {a : Act} {K : Act → World → Prop} {Q : Exit → Act → World → Prop} {E : Prop} (hw : Region.wanted o (yielded ops a.tmps) = true) (s x : Operand) (t : TypeId)
    (ho : o.op = .call { callee := .builtin .append, args := #[s, x], argTypes := #[t, t] })
    (base : Nat) (e : TypeId) (i : TypeInfo) (z : Value) (bytes : Nat) (ht : P.underlying t = some (.slice e)) (hi : P.info? e = some i) (hz : i.zero = some z)
    (hsize : i.size = 1) (hby : i.bytes = bytes) (hzs : z.cells.size = 1) (v : Value) (n : Nat) (xs : List Value) (hs : a.eval s = v) (hown : w.ownsRow base e 1 v n xs)
    (sp : Option Addr) (m c : Nat) (news : List Value) (hx : a.eval x = .slice sp m c) (hn : sp = none → m = 0 ∧ c = 0) (hl : news.length = m) (hsrc : src w sp news) (h1 : ∀ u ∈ news, u.oneCell' = true)
    (h63 : n + m ≤ maxLen) (hbytes : (n + m) * bytes ≤ 140737488355328) (hbase : base ≤ w.heap.size)
    (h : ∀ v' w', w'.ownsRow base e 1 v' (n + m) (xs ++ news) → w.grownBy w' v.ownBlock → K (a.put o.dst v') w') :
    if Region.wanted o (yielded ops a.tmps) = true then Oper.wp P o a w K Q else E := by
  rw [if_pos hw]
  exact wp_app s x t ho base e i z bytes ht hi hz hsize hby hzs v n xs hs hown sp m c news hx hn hl hsrc h1 h63 hbytes hbase h
theorem nf_at {l : List UInt8} (h : nfB l = true) (k : Nat) (hk : k < (bs l).size) : (((bs l)[k].toNat : Int) == 10) = false := by
  have hk' : k < l.length := by rwa [bs_size] at hk
  have := nf_get h k hk'
  rw [List.getD_eq_getElem?_getD, List.getElem?_eq_getElem hk'] at this
  rw [beq_eq_false_iff_ne]
  exact this

set_option maxRecDepth 100000 in
set_option maxHeartbeats 16000000 in
theorem Holds_long (q : Cd) (es : Option Addr) (en ec : Nat) (ts : Option Addr) (tn tc : Nat) (sq : Option Addr) (nq cq : Nat) (lb : List UInt8) (w : World) (hG : G w) (hp : CdAt w es en q.ef ts tn q.tr) (hpc : tn ≤ tc) (hQ : BsAt w sq nq lb) (hcap : nq ≤ cq) (hnil : sq = none → nq = 0 ∧ cq = 0) (hl : ¬ nq ≤ 300) :
    Calls Tryd.prog 5 #[cdV q es en ec ts tn tc, .slice sq nq cq] w (lawPost w) := by
  have HG := Lib.hid hG
  have HP := Lib.hid hp
  have HQ := Lib.hid hQ
  have HCAP := Lib.hid hcap
  have HNIL := Lib.hid hnil
  have HTN := Lib.hid hpc
  have HA := Lib.hid (new0 w 34 (cL (bs q.nm) q.kd q.a q.b q.c q.d q.x q.ml q.pw q.tg q.kw es en ec ts tn tc q.ra))
  have HB := Lib.hid (show Below w.heap.size w (w.alloc (.cells #[.string (bs q.nm), .int .i64 q.kd, .int .i64 q.a, .int .i64 q.b, .int .i64 q.c, .int .i64 q.d, .int .i64 q.x, .int .i64 q.ml, .int .i64 q.pw, .int .i64 q.tg, .int .i64 q.kw, .slice es en ec, .slice ts tn tc, .int .i64 q.ra] 34)) from (Below.refl _ w).alloc (Nat.le_refl _) _)
  have hm1 := hp.e.m
  have hqn := hQ.n
  have hqm := hQ.m
  clear hG hp hQ hcap hnil hpc
  obtain ⟨u0, u1, u2, u3, u4, u5, u6, u7, u8, u9, u10, u11, u12, u13, u14⟩ := card14 HA.out
  go_enter Tryd.func5, Tryd.ntmps5
  go_wp2_with fail
  refine (light_any (bs q.nm) q.kd q.a q.b q.c q.d q.x q.ml q.pw q.tg q.kw es en ec ts tn tc q.ra q.tr _ (HP.out.t.below HB.out (Nat.le_refl _)) (by omega)).mono ?_; rintro v w1 ⟨b1, rfl, _, hb⟩
  have HA := Lib.hid (HA.out.below hb HA.out.lt)
  have HB := Lib.hid (next HB.out hb)
  clear hb
  clear u0 u1 u2 u3 u4 u5 u6 u7 u8 u9 u10 u11 u12 u13 u14
  obtain ⟨u0, u1, u2, u3, u4, u5, u6, u7, u8, u9, u10, u11, u12, u13, u14⟩ := card14 HA.out
  cases b1
  · go_wp2_with fail
    refine (known_any _ (HG.out.below HB.out)).mono ?_; rintro e wk ⟨rfl, hbk⟩
    have HB := Lib.hid (next HB.out hbk)
    clear hbk
    go_wp2_with fail
    go_ret
    exact ⟨rfl, HB.out⟩
  have h300 : (300 : Int) < (nq : Int) := by omega
  clear hl
  go_wp2_with fail
  refine (known_any _ (HG.out.below HB.out)).mono ?_; rintro e wk ⟨rfl, hbk⟩
  have HB := Lib.hid (next HB.out hbk)
  clear hbk
  go_wp2_with fail
  go_ret
  exact ⟨rfl, HB.out⟩
set_option maxRecDepth 100000 in
set_option maxHeartbeats 16000000 in
theorem Holds_no (q : Cd) (es : Option Addr) (en ec : Nat) (ts : Option Addr) (tn tc : Nat) (sq : Option Addr) (nq cq : Nat) (lb : List UInt8) (w : World) (hG : G w) (hp : CdAt w es en q.ef ts tn q.tr) (hpc : tn ≤ tc) (hQ : BsAt w sq nq lb) (hcap : nq ≤ cq) (hnil : sq = none → nq = 0 ∧ cq = 0) (hl : nq ≤ 300) (ho : okCd q = false) :
    Calls Tryd.prog 5 #[cdV q es en ec ts tn tc, .slice sq nq cq] w (lawPost w) := by
  have HG := Lib.hid hG
  have HP := Lib.hid hp
  have HQ := Lib.hid hQ
  have HCAP := Lib.hid hcap
  have HNIL := Lib.hid hnil
  have HTN := Lib.hid hpc
  have HA := Lib.hid (new0 w 34 (cL (bs q.nm) q.kd q.a q.b q.c q.d q.x q.ml q.pw q.tg q.kw es en ec ts tn tc q.ra))
  have HB := Lib.hid (show Below w.heap.size w (w.alloc (.cells #[.string (bs q.nm), .int .i64 q.kd, .int .i64 q.a, .int .i64 q.b, .int .i64 q.c, .int .i64 q.d, .int .i64 q.x, .int .i64 q.ml, .int .i64 q.pw, .int .i64 q.tg, .int .i64 q.kw, .slice es en ec, .slice ts tn tc, .int .i64 q.ra] 34)) from (Below.refl _ w).alloc (Nat.le_refl _) _)
  have hm1 := hp.e.m
  have hqn := hQ.n
  have hqm := hQ.m
  clear hG hp hQ hcap hnil hpc
  obtain ⟨u0, u1, u2, u3, u4, u5, u6, u7, u8, u9, u10, u11, u12, u13, u14⟩ := card14 HA.out
  go_enter Tryd.func5, Tryd.ntmps5
  go_wp2_with fail
  refine (light_any (bs q.nm) q.kd q.a q.b q.c q.d q.x q.ml q.pw q.tg q.kw es en ec ts tn tc q.ra q.tr _ (HP.out.t.below HB.out (Nat.le_refl _)) (by omega)).mono ?_; rintro v w1 ⟨b1, rfl, _, hb⟩
  have HA := Lib.hid (HA.out.below hb HA.out.lt)
  have HB := Lib.hid (next HB.out hb)
  clear hb
  clear u0 u1 u2 u3 u4 u5 u6 u7 u8 u9 u10 u11 u12 u13 u14
  obtain ⟨u0, u1, u2, u3, u4, u5, u6, u7, u8, u9, u10, u11, u12, u13, u14⟩ := card14 HA.out
  cases b1
  · go_wp2_with fail
    refine (known_any _ (HG.out.below HB.out)).mono ?_; rintro e wk ⟨rfl, hbk⟩
    have HB := Lib.hid (next HB.out hbk)
    clear hbk
    go_wp2_with fail
    go_ret
    exact ⟨rfl, HB.out⟩
  have h300 : ¬ (300 : Int) < (nq : Int) := by omega
  go_wp2_with fail
  refine (EncodeV_any (bs q.nm) q.kd q.a q.b q.c q.d q.x q.ml q.pw q.tg q.kw es en ec ts tn tc q.ra q.ef q.tr w1 (HP.out.below HB.out (Nat.le_refl _)) HTN.out).mono ?_; rintro v w2 ⟨sp, n, cap, rfl, hx, hnc, hb⟩
  rw [show cdZ ⟨(bs q.nm).data.toList, q.kd, q.a, q.b, q.c, q.d, q.x, q.ml, q.pw, q.tg, q.kw, q.ef, q.tr, q.ra⟩ = cdZ q from rfl] at hx ⊢
  have HA := Lib.hid (HA.out.below hb HA.out.lt)
  have HB := Lib.hid (next HB.out hb)
  clear hb
  clear u0 u1 u2 u3 u4 u5 u6 u7 u8 u9 u10 u11 u12 u13 u14
  obtain ⟨u0, u1, u2, u3, u4, u5, u6, u7, u8, u9, u10, u11, u12, u13, u14⟩ := card14 HA.out
  rw [cdZ_no ho] at hx ⊢
  dsimp only at hx ⊢
  have hn0 : n = 0 := hx.n.symm
  have h200 : ¬ (200 : Int) < (n : Int) := by omega
  have hff : (false != false) = false := rfl
  clear hx hn0
  go_wp2_with fail
  have HV := ValidV_any (bs q.nm) q.kd q.a q.b q.c q.d q.x q.ml q.pw q.tg q.kw es en ec ts tn tc q.ra q.ef q.tr w2 (HP.out.below HB.out (Nat.le_refl _)) HTN.out
  rw [show okCd ⟨(bs q.nm).data.toList, q.kd, q.a, q.b, q.c, q.d, q.x, q.ml, q.pw, q.tg, q.kw, q.ef, q.tr, q.ra⟩ = okCd q from rfl, ho] at HV
  refine HV.mono ?_; rintro v w3 ⟨rfl, hb⟩
  have HA := Lib.hid (HA.out.below hb HA.out.lt)
  have HB := Lib.hid (next HB.out hb)
  clear hb HV ho
  go_wp2_with fail
  have HD := DecodeC_any sq nq cq lb _ (HQ.out.below HB.out (Nat.le_refl _)) HCAP.out
  refine HD.mono ?_; rintro v wd ⟨q1, s1, es1, en1, ec1, ts1, tn1, tc1, hrd, rfl, hcd, htc1, hbd⟩
  have hz : deV lb q1 s1 = decC lb := by unfold decC; rw [hrd.run]
  rw [hz] at hcd ⊢
  clear hz hrd HD
  obtain ⟨⟨y, yn, ye⟩, hdz⟩ : ∃ z, decC lb = z := ⟨_, rfl⟩
  rw [hdz] at hcd ⊢
  dsimp only at hcd ⊢
  have HCD := Lib.hid hcd
  have HB := Lib.hid (next HB.out hbd)
  clear hcd hbd
  have HTC := Lib.hid htc1
  have HDZ := Lib.hid hdz
  clear htc1 hdz
  cases hye : (ye == 0)
  · go_wp2_with fail
    refine wp_region_held_drew (S := (fun _ => True)) (by kernel_rfl) ?_ (fun hH0 => ?_)
    · exact trivial
    refine wpAnyH_take (i := 0) (oi := _) (v := ?_) rfl (by kernel_rfl) (by kernel_rfl) (by kernel_rfl) (fun _ _ _ h => h) (Or.inl ⟨by rfl, ?_⟩) (by assumption) ?_
    rotate_left
    · intro w hSw; (try dsimp only at hSw); first | (go_simp; done) | (go_simp; with_reducible rfl)
    try simp only [go_sem, Act.put, List.getElem_toArray, List.getElem_cons_zero, List.setIfInBounds_toArray, List.set_cons_succ, List.set_cons_zero]
    refine wpAnyH_take (i := 1) (oi := _) (v := ?_) rfl (by kernel_rfl) (by kernel_rfl) (by kernel_rfl) (fun _ _ _ h => h) (Or.inl ⟨by rfl, ?_⟩) (by assumption) ?_
    rotate_left
    · intro w hSw; (try dsimp only at hSw); first | (go_simp; done) | (go_simp; with_reducible rfl)
    try simp only [go_sem, Act.put, List.getElem_toArray, List.getElem_cons_succ, List.getElem_cons_zero, List.setIfInBounds_toArray, List.set_cons_succ, List.set_cons_zero]
    refine wpAnyH_take (i := 2) (oi := _) (v := ?_) rfl (by kernel_rfl) (by kernel_rfl) (by kernel_rfl) (fun _ _ _ h => h) (Or.inl ⟨by rfl, ?_⟩) (by assumption) ?_
    rotate_left
    · intro w hSw; (try dsimp only at hSw); first | (go_simp; done) | (go_simp; with_reducible rfl)
    try simp only [go_sem, Act.put, List.getElem_toArray, List.getElem_cons_succ, List.getElem_cons_zero, List.setIfInBounds_toArray, List.set_cons_succ, List.set_cons_zero]
    refine wpAnyH_take (i := 3) (oi := _) (v := undef) rfl (by kernel_rfl) (by kernel_rfl) (by kernel_rfl) (fun _ _ _ h => h) (Or.inr ⟨by kernel_rfl, rfl⟩) (by assumption) ?_
    try simp only [go_sem, Act.put, List.getElem_toArray, List.getElem_cons_succ, List.getElem_cons_zero, List.setIfInBounds_toArray, List.set_cons_succ, List.set_cons_zero]
    refine wpAnyH_take (i := 4) (oi := _) (v := undef) rfl (by kernel_rfl) (by kernel_rfl) (by kernel_rfl) (fun _ _ _ h => h) (Or.inr ⟨by kernel_rfl, rfl⟩) (by assumption) ?_
    try simp only [go_sem, Act.put, List.getElem_toArray, List.getElem_cons_succ, List.getElem_cons_zero, List.setIfInBounds_toArray, List.set_cons_succ, List.set_cons_zero]
    refine wpAnyH_take (i := 5) (oi := _) (v := undef) rfl (by kernel_rfl) (by kernel_rfl) (by kernel_rfl) (fun _ _ _ h => h) (Or.inr ⟨by kernel_rfl, rfl⟩) (by assumption) ?_
    try simp only [go_sem, Act.put, List.getElem_toArray, List.getElem_cons_succ, List.getElem_cons_zero, List.setIfInBounds_toArray, List.set_cons_succ, List.set_cons_zero]
    refine wpAnyH_take (i := 6) (oi := _) (v := undef) rfl (by kernel_rfl) (by kernel_rfl) (by kernel_rfl) (fun _ _ _ h => h) (Or.inr ⟨by kernel_rfl, rfl⟩) (by assumption) ?_
    try simp only [go_sem, Act.put, List.getElem_toArray, List.getElem_cons_succ, List.getElem_cons_zero, List.setIfInBounds_toArray, List.set_cons_succ, List.set_cons_zero]
    refine wpAnyH_take (i := 7) (oi := _) (v := undef) rfl (by kernel_rfl) (by kernel_rfl) (by kernel_rfl) (fun _ _ _ h => h) (Or.inr ⟨by kernel_rfl, rfl⟩) (by assumption) ?_
    try simp only [go_sem, Act.put, List.getElem_toArray, List.getElem_cons_succ, List.getElem_cons_zero, List.setIfInBounds_toArray, List.set_cons_succ, List.set_cons_zero]
    refine wpAnyH_take (i := 8) (oi := _) (v := undef) rfl (by kernel_rfl) (by kernel_rfl) (by kernel_rfl) (fun _ _ _ h => h) (Or.inr ⟨by kernel_rfl, rfl⟩) (by assumption) ?_
    try simp only [go_sem, Act.put, List.getElem_toArray, List.getElem_cons_succ, List.getElem_cons_zero, List.setIfInBounds_toArray, List.set_cons_succ, List.set_cons_zero]
    refine wpAnyH_take (i := 9) (oi := _) (v := undef) rfl (by kernel_rfl) (by kernel_rfl) (by kernel_rfl) (fun _ _ _ h => h) (Or.inr ⟨by kernel_rfl, rfl⟩) (by assumption) ?_
    try simp only [go_sem, Act.put, List.getElem_toArray, List.getElem_cons_succ, List.getElem_cons_zero, List.setIfInBounds_toArray, List.set_cons_succ, List.set_cons_zero]
    refine wpAnyH_take (i := 10) (oi := _) (v := undef) rfl (by kernel_rfl) (by kernel_rfl) (by kernel_rfl) (fun _ _ _ h => h) (Or.inr ⟨by kernel_rfl, rfl⟩) (by assumption) ?_
    try simp only [go_sem, Act.put, List.getElem_toArray, List.getElem_cons_succ, List.getElem_cons_zero, List.setIfInBounds_toArray, List.set_cons_succ, List.set_cons_zero]
    refine wpAnyH_take (i := 11) (oi := _) (v := undef) rfl (by kernel_rfl) (by kernel_rfl) (by kernel_rfl) (fun _ _ _ h => h) (Or.inr ⟨by kernel_rfl, rfl⟩) (by assumption) ?_
    try simp only [go_sem, Act.put, List.getElem_toArray, List.getElem_cons_succ, List.getElem_cons_zero, List.setIfInBounds_toArray, List.set_cons_succ, List.set_cons_zero]
    refine wpAnyH_take (i := 12) (oi := _) (v := undef) rfl (by kernel_rfl) (by kernel_rfl) (by kernel_rfl) (fun _ _ _ h => h) (Or.inr ⟨by kernel_rfl, rfl⟩) (by assumption) ?_
    try simp only [go_sem, Act.put, List.getElem_toArray, List.getElem_cons_succ, List.getElem_cons_zero, List.setIfInBounds_toArray, List.set_cons_succ, List.set_cons_zero]
    refine wpAnyH_take (i := 13) (oi := _) (v := undef) rfl (by kernel_rfl) (by kernel_rfl) (by kernel_rfl) (fun _ _ _ h => h) (Or.inr ⟨by kernel_rfl, rfl⟩) (by assumption) ?_
    try simp only [go_sem, Act.put, List.getElem_toArray, List.getElem_cons_succ, List.getElem_cons_zero, List.setIfInBounds_toArray, List.set_cons_succ, List.set_cons_zero]
    refine wpAnyH_take (i := 14) (oi := _) (v := undef) rfl (by kernel_rfl) (by kernel_rfl) (by kernel_rfl) (fun _ _ _ h => h) (Or.inr ⟨by kernel_rfl, rfl⟩) (by assumption) ?_
    try simp only [go_sem, Act.put, List.getElem_toArray, List.getElem_cons_succ, List.getElem_cons_zero, List.setIfInBounds_toArray, List.set_cons_succ, List.set_cons_zero]
    refine wpAnyH_take (i := 15) (oi := _) (v := ?_) rfl (by kernel_rfl) (by kernel_rfl) (by kernel_rfl) (fun _ _ _ h => h) (Or.inl ⟨by rfl, ?_⟩) (by assumption) ?_
    rotate_left
    · intro w hSw; (try dsimp only at hSw); first | (go_simp; done) | (go_simp; with_reducible rfl)
    try simp only [go_sem, Act.put, List.getElem_toArray, List.getElem_cons_succ, List.getElem_cons_zero, List.setIfInBounds_toArray, List.set_cons_succ, List.set_cons_zero]
    refine wpAnyH_done (by kernel_rfl) ?_ _
    go_wp2_with fail
    have HB := Lib.hid ((HB.out.alloc HB.out.size (.cells #[.string (bs y.nm), .int .i64 y.kd, .int .i64 y.a, .int .i64 y.b, .int .i64 y.c, .int .i64 y.d, .int .i64 y.x, .int .i64 y.ml, .int .i64 y.pw, .int .i64 y.tg, .int .i64 y.kw, .slice es1 en1 ec1, .slice ts1 tn1 tc1, .int .i64 y.ra] 34)).drew)
    refine (known_any _ (HG.out.below HB.out)).mono ?_; rintro e wk ⟨rfl, hbk⟩
    have HB := Lib.hid (next HB.out hbk)
    clear hbk
    go_wp2_with fail
    go_ret
    exact ⟨rfl, HB.out⟩
  · obtain rfl : ye = 0 := by simpa using hye
    clear hye
    obtain ⟨hoy, rr, hlb, hyn⟩ := card_dec HDZ.out
    obtain ⟨P, hP⟩ : ∃ P, (cdB y).length = P := ⟨_, rfl⟩
    rw [hP] at hyn
    subst hyn
    have hPn : P ≤ nq := by
      have h5 := congrArg List.length hlb
      rw [List.length_append, HQ.out.n, hP] at h5
      omega
    have hPc : P ≤ cq := Nat.le_trans hPn HCAP.out
    have hPi : ¬ (nq : Int) < (P : Int) := by omega
    have hPd : decide (nq < P) = false := decide_eq_false (by omega)
    have hsl := sl_h sq nq cq P hPc
    have htk : lb.take P = cdB y := by rw [hlb, ← hP, List.take_left' rfl]
    have HYd := Lib.hid (show has (wd.alloc (.cells #[.string (bs y.nm), .int .i64 y.kd, .int .i64 y.a, .int .i64 y.b, .int .i64 y.c, .int .i64 y.d, .int .i64 y.x, .int .i64 y.ml, .int .i64 y.pw, .int .i64 y.tg, .int .i64 y.kw, .slice es1 en1 ec1, .slice ts1 tn1 tc1, .int .i64 y.ra] 34)).drew wd.heap.size 34 (cL (bs y.nm) y.kd y.a y.b y.c y.d y.x y.ml y.pw y.tg y.kw es1 en1 ec1 ts1 tn1 tc1 y.ra) from new0 wd 34 (cL (bs y.nm) y.kd y.a y.b y.c y.d y.x y.ml y.pw y.tg y.kw es1 en1 ec1 ts1 tn1 tc1 y.ra))
    have HBd := Lib.hid (show Below wd.heap.size wd (wd.alloc (.cells #[.string (bs y.nm), .int .i64 y.kd, .int .i64 y.a, .int .i64 y.b, .int .i64 y.c, .int .i64 y.d, .int .i64 y.x, .int .i64 y.ml, .int .i64 y.pw, .int .i64 y.tg, .int .i64 y.kw, .slice es1 en1 ec1, .slice ts1 tn1 tc1, .int .i64 y.ra] 34)).drew from ((Below.refl _ wd).alloc (Nat.le_refl _) _).drew)
    have HEN : ∀ W, Below wd.heap.size wd W → Calls Tryd.prog 17 #[cdV y es1 en1 ec1 ts1 tn1 tc1, .slice (slA sq 0 cq) P cq, .int .i64 0] W fun v w' => v = .returned (.bool true) ∧ Below W.heap.size W w' := fun W hW => by
      have h7 := encodes_any (bs y.nm) y.kd y.a y.b y.c y.d y.x y.ml y.pw y.tg y.kw es1 en1 ec1 ts1 tn1 tc1 y.ra y.ef y.tr (slA sq 0 cq) P cq (lb.take P) 0 W (HCD.out.below hW (Nat.le_refl _)) HTC.out (BsAt.front (HQ.out.below (HB.out.trans (hW.mono HB.out.size)) (Nat.le_refl _)) HCAP.out P hPn)
      have h8 : cdZ y = (lb.take P, 0) := by rw [cdZ_yes hoy, htk]
      rw [show (true : Bool) = decide (cdZ y = (lb.take P, 0)) from (decide_eq_true h8).symm]
      exact h7
    clear hoy hlb hP htk hPn
    go_wp2_with fail
    refine wp_region_held_drew (S := (fun w' => has w' wd.heap.size 34 (cL (bs y.nm) y.kd y.a y.b y.c y.d y.x y.ml y.pw y.tg y.kw es1 en1 ec1 ts1 tn1 tc1 y.ra))) (by kernel_rfl) ?_ (fun hH0 => ?_)
    · exact HYd.out
    refine wpAnyH_take (i := 0) (oi := _) (v := ?_) rfl (by kernel_rfl) (by kernel_rfl) (by kernel_rfl) (fun _ _ _ h => h) (Or.inl ⟨by rfl, ?_⟩) (by assumption) ?_
    rotate_left
    · intro w hSw; (try dsimp only at hSw); obtain ⟨x0, x1, x2, x3, x4, x5, x6, x7, x8, x9, x10, x11, x12, x13, x14⟩ := card14 hSw; first | (go_simp; done) | (go_simp; with_reducible rfl)
    try simp only [go_sem, Act.put, List.getElem_toArray, List.getElem_cons_zero, List.setIfInBounds_toArray, List.set_cons_succ, List.set_cons_zero]
    refine wpAnyH_take (i := 1) (oi := _) (v := ?_) rfl (by kernel_rfl) (by kernel_rfl) (by kernel_rfl) (fun _ _ _ h => h) (Or.inl ⟨by rfl, ?_⟩) (by assumption) ?_
    rotate_left
    · intro w hSw; (try dsimp only at hSw); obtain ⟨x0, x1, x2, x3, x4, x5, x6, x7, x8, x9, x10, x11, x12, x13, x14⟩ := card14 hSw; first | (go_simp; done) | (go_simp; with_reducible rfl)
    try simp only [go_sem, Act.put, List.getElem_toArray, List.getElem_cons_succ, List.getElem_cons_zero, List.setIfInBounds_toArray, List.set_cons_succ, List.set_cons_zero]
    refine wpAnyH_take (i := 2) (oi := _) (v := ?_) rfl (by kernel_rfl) (by kernel_rfl) (by kernel_rfl) (fun _ _ _ h => h) (Or.inl ⟨by rfl, ?_⟩) (by assumption) ?_
    rotate_left
    · intro w hSw; (try dsimp only at hSw); obtain ⟨x0, x1, x2, x3, x4, x5, x6, x7, x8, x9, x10, x11, x12, x13, x14⟩ := card14 hSw; first | (go_simp; done) | (go_simp; with_reducible rfl)
    try simp only [go_sem, Act.put, List.getElem_toArray, List.getElem_cons_succ, List.getElem_cons_zero, List.setIfInBounds_toArray, List.set_cons_succ, List.set_cons_zero]
    refine wpAnyH_take (i := 3) (oi := _) (v := ?_) rfl (by kernel_rfl) (by kernel_rfl) (by kernel_rfl) (fun _ _ _ h => h) (Or.inl ⟨by rfl, ?_⟩) (by assumption) ?_
    rotate_left
    · intro w hSw; (try dsimp only at hSw); obtain ⟨x0, x1, x2, x3, x4, x5, x6, x7, x8, x9, x10, x11, x12, x13, x14⟩ := card14 hSw; first | (go_simp; done) | (go_simp; with_reducible rfl)
    try simp only [go_sem, Act.put, List.getElem_toArray, List.getElem_cons_succ, List.getElem_cons_zero, List.setIfInBounds_toArray, List.set_cons_succ, List.set_cons_zero]
    refine wpAnyH_take (i := 4) (oi := _) (v := ?_) rfl (by kernel_rfl) (by kernel_rfl) (by kernel_rfl) (fun _ _ _ h => h) (Or.inl ⟨by rfl, ?_⟩) (by assumption) ?_
    rotate_left
    · intro w hSw; (try dsimp only at hSw); obtain ⟨x0, x1, x2, x3, x4, x5, x6, x7, x8, x9, x10, x11, x12, x13, x14⟩ := card14 hSw; first | (go_simp; done) | (go_simp; with_reducible rfl)
    try simp only [go_sem, Act.put, List.getElem_toArray, List.getElem_cons_succ, List.getElem_cons_zero, List.setIfInBounds_toArray, List.set_cons_succ, List.set_cons_zero]
    refine wpAnyH_take (i := 5) (oi := _) (v := ?_) rfl (by kernel_rfl) (by kernel_rfl) (by kernel_rfl) (fun _ _ _ h => h) (Or.inl ⟨by rfl, ?_⟩) (by assumption) ?_
    rotate_left
    · intro w hSw; (try dsimp only at hSw); obtain ⟨x0, x1, x2, x3, x4, x5, x6, x7, x8, x9, x10, x11, x12, x13, x14⟩ := card14 hSw; first | (go_simp; done) | (go_simp; with_reducible rfl)
    try simp only [go_sem, Act.put, List.getElem_toArray, List.getElem_cons_succ, List.getElem_cons_zero, List.setIfInBounds_toArray, List.set_cons_succ, List.set_cons_zero]
    refine wpAnyH_take (i := 6) (oi := _) (v := .bool false) rfl (by kernel_rfl) (by kernel_rfl) (by kernel_rfl) (fun _ _ _ h => h) (Or.inl ⟨by rfl, ?_⟩) (by assumption) ?_
    · intro w hSw; (try dsimp only at hSw); obtain ⟨x0, x1, x2, x3, x4, x5, x6, x7, x8, x9, x10, x11, x12, x13, x14⟩ := card14 hSw; go_simp; first | done | omega | (simp; omega) | (simp; done)
    try simp only [go_sem, Act.put, List.getElem_toArray, List.getElem_cons_succ, List.getElem_cons_zero, List.setIfInBounds_toArray, List.set_cons_succ, List.set_cons_zero]
    refine wpAnyH_take (i := 7) (oi := _) (v := ?_) rfl (by kernel_rfl) (by kernel_rfl) (by kernel_rfl) (fun _ _ _ h => h) (Or.inl ⟨by rfl, ?_⟩) (by assumption) ?_
    rotate_left
    · intro w hSw; (try dsimp only at hSw); obtain ⟨x0, x1, x2, x3, x4, x5, x6, x7, x8, x9, x10, x11, x12, x13, x14⟩ := card14 hSw; first | (go_simp; done) | (go_simp; with_reducible rfl)
    try simp only [go_sem, Act.put, List.getElem_toArray, List.getElem_cons_succ, List.getElem_cons_zero, List.setIfInBounds_toArray, List.set_cons_succ, List.set_cons_zero]
    refine wpAnyH_take (i := 8) (oi := _) (v := ?_) rfl (by kernel_rfl) (by kernel_rfl) (by kernel_rfl) (fun _ _ _ h => h) (Or.inl ⟨by rfl, ?_⟩) (by assumption) ?_
    rotate_left
    · intro w hSw; (try dsimp only at hSw); obtain ⟨x0, x1, x2, x3, x4, x5, x6, x7, x8, x9, x10, x11, x12, x13, x14⟩ := card14 hSw; first | (go_simp; done) | (go_simp; with_reducible rfl)
    try simp only [go_sem, Act.put, List.getElem_toArray, List.getElem_cons_succ, List.getElem_cons_zero, List.setIfInBounds_toArray, List.set_cons_succ, List.set_cons_zero]
    refine wpAnyH_take (i := 9) (oi := _) (v := ?_) rfl (by kernel_rfl) (by kernel_rfl) (by kernel_rfl) (fun _ _ _ h => h) (Or.inl ⟨by rfl, ?_⟩) (by assumption) ?_
    rotate_left
    · intro w hSw; (try dsimp only at hSw); obtain ⟨x0, x1, x2, x3, x4, x5, x6, x7, x8, x9, x10, x11, x12, x13, x14⟩ := card14 hSw; first | (go_simp; done) | (go_simp; with_reducible rfl)
    try simp only [go_sem, Act.put, List.getElem_toArray, List.getElem_cons_succ, List.getElem_cons_zero, List.setIfInBounds_toArray, List.set_cons_succ, List.set_cons_zero]
    refine wpAnyH_take (i := 10) (oi := _) (v := ?_) rfl (by kernel_rfl) (by kernel_rfl) (by kernel_rfl) (fun _ _ _ h => h) (Or.inl ⟨by rfl, ?_⟩) (by assumption) ?_
    rotate_left
    · intro w hSw; (try dsimp only at hSw); obtain ⟨x0, x1, x2, x3, x4, x5, x6, x7, x8, x9, x10, x11, x12, x13, x14⟩ := card14 hSw; first | (go_simp; done) | (go_simp; with_reducible rfl)
    try simp only [go_sem, Act.put, List.getElem_toArray, List.getElem_cons_succ, List.getElem_cons_zero, List.setIfInBounds_toArray, List.set_cons_succ, List.set_cons_zero]
    refine wpAnyH_take (i := 11) (oi := _) (v := ?_) rfl (by kernel_rfl) (by kernel_rfl) (by kernel_rfl) (fun _ _ _ h => h) (Or.inl ⟨by rfl, ?_⟩) (by assumption) ?_
    rotate_left
    · intro w hSw; (try dsimp only at hSw); obtain ⟨x0, x1, x2, x3, x4, x5, x6, x7, x8, x9, x10, x11, x12, x13, x14⟩ := card14 hSw; first | (go_simp; done) | (go_simp; with_reducible rfl)
    try simp only [go_sem, Act.put, List.getElem_toArray, List.getElem_cons_succ, List.getElem_cons_zero, List.setIfInBounds_toArray, List.set_cons_succ, List.set_cons_zero]
    refine wpAnyH_ready (rs := [12]) (by kernel_rfl) (by simp) ?_
    refine AllReadyH.cons (o := _) rfl (fun K hK => ?_) AllReadyH.nil
    go_simp; refine (HEN _ HBd.out).mono ?_; rintro e we ⟨rfl, hbe⟩; have HYe := Lib.hid (HYd.out.below hbe HYd.out.lt); have HB := Lib.hid (HB.out.trans ((HBd.out.trans (hbe.mono HBd.out.size)).mono HB.out.size)); clear hbe
    refine hK.out _ _ ?_ (fun hH1 => ?_)
    · exact HYe.out
    clear hK K hH0
    try simp only [go_sem, Act.put, List.getElem_toArray, List.getElem_cons_succ, List.getElem_cons_zero, List.setIfInBounds_toArray, List.set_cons_succ, List.set_cons_zero]
    refine wpAnyH_take (i := 13) (oi := _) (v := ?_) rfl (by kernel_rfl) (by kernel_rfl) (by kernel_rfl) (fun _ _ _ h => h) (Or.inl ⟨by rfl, ?_⟩) (by assumption) ?_
    rotate_left
    · intro w hSw; (try dsimp only at hSw); obtain ⟨x0, x1, x2, x3, x4, x5, x6, x7, x8, x9, x10, x11, x12, x13, x14⟩ := card14 hSw; first | (go_simp; done) | (go_simp; with_reducible rfl)
    try simp only [go_sem, Act.put, List.getElem_toArray, List.getElem_cons_succ, List.getElem_cons_zero, List.setIfInBounds_toArray, List.set_cons_succ, List.set_cons_zero]
    refine wpAnyH_take (i := 14) (oi := _) (v := ?_) rfl (by kernel_rfl) (by kernel_rfl) (by kernel_rfl) (fun _ _ _ h => h) (Or.inl ⟨by rfl, ?_⟩) (by assumption) ?_
    rotate_left
    · intro w hSw; (try dsimp only at hSw); obtain ⟨x0, x1, x2, x3, x4, x5, x6, x7, x8, x9, x10, x11, x12, x13, x14⟩ := card14 hSw; first | (go_simp; done) | (go_simp; with_reducible rfl)
    try simp only [go_sem, Act.put, List.getElem_toArray, List.getElem_cons_succ, List.getElem_cons_zero, List.setIfInBounds_toArray, List.set_cons_succ, List.set_cons_zero]
    refine wpAnyH_take (i := 15) (oi := _) (v := ?_) rfl (by kernel_rfl) (by kernel_rfl) (by kernel_rfl) (fun _ _ _ h => h) (Or.inl ⟨by rfl, ?_⟩) (by assumption) ?_
    rotate_left
    · intro w hSw; (try dsimp only at hSw); obtain ⟨x0, x1, x2, x3, x4, x5, x6, x7, x8, x9, x10, x11, x12, x13, x14⟩ := card14 hSw; first | (go_simp; done) | (go_simp; with_reducible rfl)
    try simp only [go_sem, Act.put, List.getElem_toArray, List.getElem_cons_succ, List.getElem_cons_zero, List.setIfInBounds_toArray, List.set_cons_succ, List.set_cons_zero]
    refine wpAnyH_done (by kernel_rfl) ?_ _
    go_wp2_with fail
    refine (known_any _ (HG.out.below HB.out)).mono ?_; rintro e wk ⟨rfl, hbk⟩
    have HB := Lib.hid (next HB.out hbk)
    clear hbk
    go_wp2_with fail
    go_ret
    exact ⟨rfl, HB.out⟩
set_option maxRecDepth 100000 in
set_option maxHeartbeats 16000000 in
theorem Holds_yes (q : Cd) (es : Option Addr) (en ec : Nat) (ts : Option Addr) (tn tc : Nat) (sq : Option Addr) (nq cq : Nat) (lb : List UInt8) (w : World) (hG : G w) (hp : CdAt w es en q.ef ts tn q.tr) (hpc : tn ≤ tc) (hQ : BsAt w sq nq lb) (hcap : nq ≤ cq) (hnil : sq = none → nq = 0 ∧ cq = 0) (hl : nq ≤ 300) (ho : okCd q = true) :
    Calls Tryd.prog 5 #[cdV q es en ec ts tn tc, .slice sq nq cq] w (lawPost w) := by
  have HG := Lib.hid hG
  have HP := Lib.hid hp
  have HQ := Lib.hid hQ
  have HCAP := Lib.hid hcap
  have HNIL := Lib.hid hnil
  have HTN := Lib.hid hpc
  have HA := Lib.hid (new0 w 34 (cL (bs q.nm) q.kd q.a q.b q.c q.d q.x q.ml q.pw q.tg q.kw es en ec ts tn tc q.ra))
  have HB := Lib.hid (show Below w.heap.size w (w.alloc (.cells #[.string (bs q.nm), .int .i64 q.kd, .int .i64 q.a, .int .i64 q.b, .int .i64 q.c, .int .i64 q.d, .int .i64 q.x, .int .i64 q.ml, .int .i64 q.pw, .int .i64 q.tg, .int .i64 q.kw, .slice es en ec, .slice ts tn tc, .int .i64 q.ra] 34)) from (Below.refl _ w).alloc (Nat.le_refl _) _)
  have hm1 := hp.e.m
  have hqn := hQ.n
  have hqm := hQ.m
  clear hG hp hQ hcap hnil hpc
  obtain ⟨i0, hi, hz0, hz1, hz2⟩ := info_parts infoB
  have HI := Lib.hid hi
  clear hi
  obtain ⟨u0, u1, u2, u3, u4, u5, u6, u7, u8, u9, u10, u11, u12, u13, u14⟩ := card14 HA.out
  go_enter Tryd.func5, Tryd.ntmps5
  go_wp2_with fail
  refine (light_any (bs q.nm) q.kd q.a q.b q.c q.d q.x q.ml q.pw q.tg q.kw es en ec ts tn tc q.ra q.tr _ (HP.out.t.below HB.out (Nat.le_refl _)) (by omega)).mono ?_; rintro v w1 ⟨b1, rfl, _, hb⟩
  have HA := Lib.hid (HA.out.below hb HA.out.lt)
  have HB := Lib.hid (next HB.out hb)
  clear hb
  clear u0 u1 u2 u3 u4 u5 u6 u7 u8 u9 u10 u11 u12 u13 u14
  obtain ⟨u0, u1, u2, u3, u4, u5, u6, u7, u8, u9, u10, u11, u12, u13, u14⟩ := card14 HA.out
  cases b1
  · go_wp2_with fail
    refine (known_any _ (HG.out.below HB.out)).mono ?_; rintro e wk ⟨rfl, hbk⟩
    have HB := Lib.hid (next HB.out hbk)
    clear hbk
    go_wp2_with fail
    go_ret
    exact ⟨rfl, HB.out⟩
  have h300 : ¬ (300 : Int) < (nq : Int) := by omega
  go_wp2_with fail
  refine (EncodeV_any (bs q.nm) q.kd q.a q.b q.c q.d q.x q.ml q.pw q.tg q.kw es en ec ts tn tc q.ra q.ef q.tr w1 (HP.out.below HB.out (Nat.le_refl _)) HTN.out).mono ?_; rintro v w2 ⟨sp, n, cap, rfl, hx, hnc, hb⟩
  rw [show cdZ ⟨(bs q.nm).data.toList, q.kd, q.a, q.b, q.c, q.d, q.x, q.ml, q.pw, q.tg, q.kw, q.ef, q.tr, q.ra⟩ = cdZ q from rfl] at hx ⊢
  have HA := Lib.hid (HA.out.below hb HA.out.lt)
  have HB := Lib.hid (next HB.out hb)
  clear hb
  clear u0 u1 u2 u3 u4 u5 u6 u7 u8 u9 u10 u11 u12 u13 u14
  obtain ⟨u0, u1, u2, u3, u4, u5, u6, u7, u8, u9, u10, u11, u12, u13, u14⟩ := card14 HA.out
  rw [cdZ_yes ho] at hx ⊢
  dsimp only at hx ⊢
  obtain ⟨h13, h110⟩ := cdB_len ho
  have hxn : (cdB q).length = n := hx.n
  rw [hxn] at h13 h110
  have h200 : ¬ (200 : Int) < (n : Int) := by omega
  have htt : (true != true) = false := rfl
  have HX := Lib.hid hx
  have HXN := Lib.hid hxn
  have HNC := Lib.hid hnc
  clear hx hxn hnc
  go_wp2_with fail
  have HV := ValidV_any (bs q.nm) q.kd q.a q.b q.c q.d q.x q.ml q.pw q.tg q.kw es en ec ts tn tc q.ra q.ef q.tr w2 (HP.out.below HB.out (Nat.le_refl _)) HTN.out
  rw [show okCd ⟨(bs q.nm).data.toList, q.kd, q.a, q.b, q.c, q.d, q.x, q.ml, q.pw, q.tg, q.kw, q.ef, q.tr, q.ra⟩ = okCd q from rfl, ho] at HV
  refine HV.mono ?_; rintro v w3 ⟨rfl, hb⟩
  have HA := Lib.hid (HA.out.below hb HA.out.lt)
  have HB := Lib.hid (next HB.out hb)
  obtain ⟨xb, xo, hsp, hxl, hxc⟩ := HX.out.c (by rw [bys_len, HXN.out]; omega)
  subst hsp
  have HX3 := Lib.hid (HX.out.below hb (Nat.le_refl _))
  have HXC : Hid (src w3.drew (some ⟨xb, xo, none⟩) (bys (cdB q))) := Lib.hid (HX3.out.c.below ((Below.refl _ w3).drew) (Nat.le_refl _))
  have HQN := Lib.hid hqn
  clear hb HV hxl hxc HX hqn
  have HDC : ∀ (sv : Option Addr) (cv : Nat) W, Below w3.heap.size w3 W → BsAt W sv (n + nq) (cdB q ++ lb) → n + nq ≤ cv → Calls Tryd.prog 14 #[.slice sv (n + nq) cv, cdV q es en ec ts tn tc, .int .i64 (n : Nat), .int .i64 0] W fun v w' => v = .returned (.bool true) ∧ Below W.heap.size W w' := fun sv cv W hW hs hc => by
    have h7 := decodes_any q es en ec ts tn tc sv (n + nq) cv (cdB q ++ lb) n 0 W (HP.out.below (HB.out.trans (hW.mono HB.out.size)) (Nat.le_refl _)) hs hc
    have h8 := dec_card lb ho
    rw [HXN.out] at h8
    rw [show (true : Bool) = decide (decC (cdB q ++ lb) = (q, (n : Int), 0)) from (decide_eq_true h8).symm]
    exact h7
  have HAd := Lib.hid (show has w3.drew w.heap.size 34 (cL (bs q.nm) q.kd q.a q.b q.c q.d q.x q.ml q.pw q.tg q.kw es en ec ts tn tc q.ra) from HA.out)
  clear u0 u1 u2 u3 u4 u5 u6 u7 u8 u9 u10 u11 u12 u13 u14
  go_wp2_with fail
  refine wp_region_held_drew (S := (fun w' => has w' w.heap.size 34 (cL (bs q.nm) q.kd q.a q.b q.c q.d q.x q.ml q.pw q.tg q.kw es en ec ts tn tc q.ra))) (by kernel_rfl) ?_ (fun hH0 => ?_)
  · exact HAd.out
  refine wpAnyH_take (i := 0) (oi := _) (v := ?_) rfl (by kernel_rfl) (by kernel_rfl) (by kernel_rfl) (fun _ _ _ h => h) (Or.inl ⟨by rfl, ?_⟩) (by assumption) ?_
  rotate_left
  · intro w hSw; (try dsimp only at hSw); obtain ⟨x0, x1, x2, x3, x4, x5, x6, x7, x8, x9, x10, x11, x12, x13, x14⟩ := card14 hSw; first | (go_simp; done) | (go_simp; with_reducible rfl)
  try simp only [go_sem, Act.put, List.getElem_toArray, List.getElem_cons_zero, List.setIfInBounds_toArray, List.set_cons_succ, List.set_cons_zero]
  refine wpAnyH_take (i := 2) (oi := _) (v := ?_) rfl (by kernel_rfl) (by kernel_rfl) (by kernel_rfl) (fun _ _ _ h => h) (Or.inl ⟨by rfl, ?_⟩) (by assumption) ?_
  rotate_left
  · intro w hSw; (try dsimp only at hSw); obtain ⟨x0, x1, x2, x3, x4, x5, x6, x7, x8, x9, x10, x11, x12, x13, x14⟩ := card14 hSw; first | (go_simp; done) | (go_simp; with_reducible rfl)
  try simp only [go_sem, Act.put, List.getElem_toArray, List.getElem_cons_succ, List.getElem_cons_zero, List.setIfInBounds_toArray, List.set_cons_succ, List.set_cons_zero]
  refine wpAnyH_take (i := 4) (oi := _) (v := ?_) rfl (by kernel_rfl) (by kernel_rfl) (by kernel_rfl) (fun _ _ _ h => h) (Or.inl ⟨by rfl, ?_⟩) (by assumption) ?_
  rotate_left
  · intro w hSw; (try dsimp only at hSw); obtain ⟨x0, x1, x2, x3, x4, x5, x6, x7, x8, x9, x10, x11, x12, x13, x14⟩ := card14 hSw; first | (go_simp; done) | (go_simp; with_reducible rfl)
  try simp only [go_sem, Act.put, List.getElem_toArray, List.getElem_cons_succ, List.getElem_cons_zero, List.setIfInBounds_toArray, List.set_cons_succ, List.set_cons_zero]
  refine wpAnyH_take (i := 5) (oi := _) (v := ?_) rfl (by kernel_rfl) (by kernel_rfl) (by kernel_rfl) (fun _ _ _ h => h) (Or.inl ⟨by rfl, ?_⟩) (by assumption) ?_
  rotate_left
  · intro w hSw; (try dsimp only at hSw); obtain ⟨x0, x1, x2, x3, x4, x5, x6, x7, x8, x9, x10, x11, x12, x13, x14⟩ := card14 hSw; first | (go_simp; done) | (go_simp; with_reducible rfl)
  try simp only [go_sem, Act.put, List.getElem_toArray, List.getElem_cons_succ, List.getElem_cons_zero, List.setIfInBounds_toArray, List.set_cons_succ, List.set_cons_zero]
  refine wpAnyH_take (i := 6) (oi := _) (v := ?_) rfl (by kernel_rfl) (by kernel_rfl) (by kernel_rfl) (fun _ _ _ h => h) (Or.inl ⟨by rfl, ?_⟩) (by assumption) ?_
  rotate_left
  · intro w hSw; (try dsimp only at hSw); obtain ⟨x0, x1, x2, x3, x4, x5, x6, x7, x8, x9, x10, x11, x12, x13, x14⟩ := card14 hSw; first | (go_simp; done) | (go_simp; with_reducible rfl)
  try simp only [go_sem, Act.put, List.getElem_toArray, List.getElem_cons_succ, List.getElem_cons_zero, List.setIfInBounds_toArray, List.set_cons_succ, List.set_cons_zero]
  refine wpAnyH_ready (rs := [1]) (by kernel_rfl) (by simp) ?_
  refine AllReadyH.cons (o := _) rfl (fun K hK => ?_) AllReadyH.nil
  refine step_app (by rfl) _ _ 45 (by rfl) w3.heap.size 5 i0 (.int .u8 0) 1 Tryd.underlying45 HI.out hz0 hz1 hz2 rfl (.slice none 0 0) 0 [] (by rfl) (World.ownsRow_nil _ _ _ _) (some ⟨xb, xo, none⟩) n cap (bys (cdB q)) (by rfl) (by intro h; cases h) (by rw [bys_len]; exact HXN.out) HXC.out (bys_one _) (by unfold maxLen; omega) (by omega) (Nat.le_refl _) ?_; intro v4 w4 hown hgrow; have B4 := Lib.hid (below_own (show Below w3.heap.size w3 w3.drew from (Below.refl _ _).drew) (World.ownsRow_nil _ _ 5 1) hgrow (Nat.le_refl _)); have O4 : Hid (w4.ownsRow w3.heap.size 5 1 v4 n (bys (cdB q))) := Lib.hid (by simpa using hown); have HA4 := Lib.hid (HA.out.below B4.out HA.out.lt); clear hown hgrow
  refine hK.out _ _ ?_ (fun hH1 => ?_)
  · exact HA4.out
  clear hK K hH0
  try simp only [go_sem, Act.put, List.getElem_toArray, List.getElem_cons_succ, List.getElem_cons_zero, List.setIfInBounds_toArray, List.set_cons_succ, List.set_cons_zero]
  refine wpAnyH_ready (rs := [3]) (by kernel_rfl) (by simp) ?_
  refine AllReadyH.cons (o := _) rfl (fun K hK => ?_) AllReadyH.nil
  refine step_app (by rfl) _ _ 45 (by rfl) w3.heap.size 5 i0 (.int .u8 0) 1 Tryd.underlying45 HI.out hz0 hz1 hz2 rfl v4 n (bys (cdB q)) (by rfl) O4.out sq nq cq (bys lb) (by rfl) HNIL.out (by rw [bys_len]; exact HQN.out) (HQ.out.below (HB.out.trans (B4.out.mono HB.out.size)) (Nat.le_refl _)).c (bys_one _) (by unfold maxLen; omega) (by omega) B4.out.size ?_; intro v5 w5 hown hgrow; have B5 := Lib.hid (below_own B4.out O4.out hgrow B4.out.size); have HA5 := Lib.hid (HA.out.below B5.out HA.out.lt); obtain ⟨sv, cv, rfl, hsv, hcv, _⟩ := own_form hown; have HSV := Lib.hid hsv; have HCV := Lib.hid hcv; clear hown hgrow hsv hcv
  refine hK.out _ _ ?_ (fun hH2 => ?_)
  · exact HA5.out
  clear hK K hH1
  try simp only [go_sem, Act.put, List.getElem_toArray, List.getElem_cons_succ, List.getElem_cons_zero, List.setIfInBounds_toArray, List.set_cons_succ, List.set_cons_zero]
  refine wpAnyH_ready (rs := [7]) (by kernel_rfl) (by simp) ?_
  refine AllReadyH.cons (o := _) rfl (fun K hK => ?_) AllReadyH.nil
  go_simp; refine (HDC sv cv _ B5.out (by have h7 := BsAt.of_src (l := cdB q ++ lb) (by rw [bys_app]; exact HSV.out) (by rw [List.length_append, HXN.out, HQN.out]; omega); rw [List.length_append, HXN.out, HQN.out] at h7; exact h7) HCV.out).mono ?_; rintro e w6 ⟨rfl, hb⟩; have B6 := Lib.hid (B5.out.trans (hb.mono B5.out.size)); have HA6 := Lib.hid (HA.out.below B6.out HA.out.lt); clear hb
  refine hK.out _ _ ?_ (fun hH3 => ?_)
  · exact HA6.out
  clear hK K hH2
  try simp only [go_sem, Act.put, List.getElem_toArray, List.getElem_cons_succ, List.getElem_cons_zero, List.setIfInBounds_toArray, List.set_cons_succ, List.set_cons_zero]
  refine wpAnyH_take (i := 8) (oi := _) (v := ?_) rfl (by kernel_rfl) (by kernel_rfl) (by kernel_rfl) (fun _ _ _ h => h) (Or.inl ⟨by rfl, ?_⟩) (by assumption) ?_
  rotate_left
  · intro w hSw; (try dsimp only at hSw); obtain ⟨x0, x1, x2, x3, x4, x5, x6, x7, x8, x9, x10, x11, x12, x13, x14⟩ := card14 hSw; first | (go_simp; done) | (go_simp; with_reducible rfl)
  try simp only [go_sem, Act.put, List.getElem_toArray, List.getElem_cons_succ, List.getElem_cons_zero, List.setIfInBounds_toArray, List.set_cons_succ, List.set_cons_zero]
  refine wpAnyH_done (by kernel_rfl) ?_ _
  clear HA4 HA5 HAd B4 B5 O4 HSV HCV HDC
  go_wp2_with fail
  go_loopw [7] (fun i wr => ∃ k : Nat, k ≤ n ∧ i = .int .i64 k ∧ Hid (Below w3.heap.size w3 wr)) (fun i _ => n - (intOf i).toNat)
  case atStart => exact ⟨0, Nat.zero_le _, rfl, B6⟩
  case round =>
    clear B6
    obtain ⟨k, hk, rfl, B7⟩ := hrel
    by_cases hlt : k < n
    · have hkc : k ≤ cap := by have := HNC.out; omega
      have hsl := sl_h (some ⟨xb, xo, none⟩) n cap k hkc
      have h7 := decodes_any zeroCd none 0 0 none 0 0 (slA (some ⟨xb, xo, none⟩) 0 cap) k cap ((cdB q).take k) 0 4 wr ⟨EfsAt.nil _ _, TrsAt.nil _ _⟩ (BsAt.front (HX3.out.below B7.out (Nat.le_refl _)) HNC.out k (by omega)) hkc
      have h8 : decC ((cdB q).take k) = (zeroCd, 0, 4) := cut_short (t := (cdB q).drop k) ho (List.take_append_drop _ _) (by intro h; have := congrArg List.length h; rw [List.length_drop, HXN.out] at this; simp at this; omega)
      rw [h8, decide_eq_true rfl] at h7
      clear h8
      go_wp2_with fail
      refine h7.mono ?_; rintro v w8 ⟨rfl, hb⟩
      have B8 := Lib.hid (B7.out.trans (hb.mono B7.out.size))
      clear hb
      go_wp2_with fail
      exact ⟨⟨k + 1, by omega, by go_num, B8⟩, by simp [intOf]; omega⟩
    · obtain rfl : n = k := by omega
      have HA7 := Lib.hid (HA.out.below B7.out HA.out.lt)
      have HB7 := Lib.hid (HB.out.trans (B7.out.mono HB.out.size))
      obtain ⟨u0, u1, u2, u3, u4, u5, u6, u7, u8, u9, u10, u11, u12, u13, u14⟩ := card14 HA7.out
      have HL := LineV_any (bs q.nm) q.kd q.a q.b q.c q.d q.x q.ml q.pw q.tg q.kw es en ec ts tn tc q.ra q.ef q.tr wr (HP.out.below HB7.out (Nat.le_refl _)) HTN.out (HG.out.below HB7.out)
      rw [show lnZ ⟨(bs q.nm).data.toList, q.kd, q.a, q.b, q.c, q.d, q.x, q.ml, q.pw, q.tg, q.kw, q.ef, q.tr, q.ra⟩ = (lineT q, 0) from if_pos ho] at HL
      obtain ⟨hnf, hl1⟩ := line_ok ho
      have hs1 : 0 < (bs (lineT q)).size := by rw [bs_size]; omega
      have hs2 : Hid (∀ k (h : k < (bs (lineT q)).size), (((bs (lineT q))[k].toNat : Int) == 10) = false) := Lib.hid fun k h => nf_at hnf k h
      have hs3 : (bs (lineT q)).size ≤ 1000000 := lineT_size ho
      clear hnf hl1
      dsimp only at HL
      generalize bs (lineT q) = ls at *
      have hs4 : ((ls.size : Int) == 0) = false := by rw [beq_eq_false_iff_ne]; omega
      go_wp2_with fail
      refine HL.mono ?_; rintro v w9 ⟨rfl, hb⟩
      have HB := Lib.hid (next HB7.out hb)
      clear hb HL u0 u1 u2 u3 u4 u5 u6 u7 u8 u9 u10 u11 u12 u13 u14 HB7 HA7
      go_wp2_with fail
      go_loopw [10] (fun i wr => ∃ k : Nat, k ≤ ls.size ∧ i = .int .i64 k ∧ wr = w9) (fun i _ => ls.size - (intOf i).toNat)
      case atStart => exact ⟨0, Nat.zero_le _, rfl, rfl⟩
      case round =>
        obtain ⟨k, hk, rfl, rfl⟩ := hrel
        by_cases hlt : k < ls.size
        · have hx := hs2.out k hlt
          go_wp2_with fail
          exact ⟨⟨k + 1, by omega, by go_num, by first | rfl | trivial⟩, by simp [intOf]; omega⟩
        · obtain rfl : k = ls.size := by omega
          go_wp2_with fail
          have HD := DecodeC_any sq nq cq lb _ (HQ.out.below HB.out (Nat.le_refl _)) HCAP.out
          refine HD.mono ?_; rintro v wd ⟨q1, s1, es1, en1, ec1, ts1, tn1, tc1, hrd, rfl, hcd, htc1, hbd⟩
          have hz : deV lb q1 s1 = decC lb := by unfold decC; rw [hrd.run]
          rw [hz] at hcd ⊢
          clear hz hrd HD
          obtain ⟨⟨y, yn, ye⟩, hdz⟩ : ∃ z, decC lb = z := ⟨_, rfl⟩
          rw [hdz] at hcd ⊢
          dsimp only at hcd ⊢
          have HCD := Lib.hid hcd
          have HB := Lib.hid (next HB.out hbd)
          clear hcd hbd
          have HTC := Lib.hid htc1
          have HDZ := Lib.hid hdz
          clear htc1 hdz
          cases hye : (ye == 0)
          · go_wp2_with fail
            refine wp_region_held_drew (S := (fun _ => True)) (by kernel_rfl) ?_ (fun hH0 => ?_)
            · exact trivial
            refine wpAnyH_take (i := 0) (oi := _) (v := ?_) rfl (by kernel_rfl) (by kernel_rfl) (by kernel_rfl) (fun _ _ _ h => h) (Or.inl ⟨by rfl, ?_⟩) (by assumption) ?_
            rotate_left
            · intro w hSw; (try dsimp only at hSw); first | (go_simp; done) | (go_simp; with_reducible rfl)
            try simp only [go_sem, Act.put, List.getElem_toArray, List.getElem_cons_zero, List.setIfInBounds_toArray, List.set_cons_succ, List.set_cons_zero]
            refine wpAnyH_take (i := 1) (oi := _) (v := ?_) rfl (by kernel_rfl) (by kernel_rfl) (by kernel_rfl) (fun _ _ _ h => h) (Or.inl ⟨by rfl, ?_⟩) (by assumption) ?_
            rotate_left
            · intro w hSw; (try dsimp only at hSw); first | (go_simp; done) | (go_simp; with_reducible rfl)
            try simp only [go_sem, Act.put, List.getElem_toArray, List.getElem_cons_succ, List.getElem_cons_zero, List.setIfInBounds_toArray, List.set_cons_succ, List.set_cons_zero]
            refine wpAnyH_take (i := 2) (oi := _) (v := ?_) rfl (by kernel_rfl) (by kernel_rfl) (by kernel_rfl) (fun _ _ _ h => h) (Or.inl ⟨by rfl, ?_⟩) (by assumption) ?_
            rotate_left
            · intro w hSw; (try dsimp only at hSw); first | (go_simp; done) | (go_simp; with_reducible rfl)
            try simp only [go_sem, Act.put, List.getElem_toArray, List.getElem_cons_succ, List.getElem_cons_zero, List.setIfInBounds_toArray, List.set_cons_succ, List.set_cons_zero]
            refine wpAnyH_take (i := 3) (oi := _) (v := undef) rfl (by kernel_rfl) (by kernel_rfl) (by kernel_rfl) (fun _ _ _ h => h) (Or.inr ⟨by kernel_rfl, rfl⟩) (by assumption) ?_
            try simp only [go_sem, Act.put, List.getElem_toArray, List.getElem_cons_succ, List.getElem_cons_zero, List.setIfInBounds_toArray, List.set_cons_succ, List.set_cons_zero]
            refine wpAnyH_take (i := 4) (oi := _) (v := undef) rfl (by kernel_rfl) (by kernel_rfl) (by kernel_rfl) (fun _ _ _ h => h) (Or.inr ⟨by kernel_rfl, rfl⟩) (by assumption) ?_
            try simp only [go_sem, Act.put, List.getElem_toArray, List.getElem_cons_succ, List.getElem_cons_zero, List.setIfInBounds_toArray, List.set_cons_succ, List.set_cons_zero]
            refine wpAnyH_take (i := 5) (oi := _) (v := undef) rfl (by kernel_rfl) (by kernel_rfl) (by kernel_rfl) (fun _ _ _ h => h) (Or.inr ⟨by kernel_rfl, rfl⟩) (by assumption) ?_
            try simp only [go_sem, Act.put, List.getElem_toArray, List.getElem_cons_succ, List.getElem_cons_zero, List.setIfInBounds_toArray, List.set_cons_succ, List.set_cons_zero]
            refine wpAnyH_take (i := 6) (oi := _) (v := undef) rfl (by kernel_rfl) (by kernel_rfl) (by kernel_rfl) (fun _ _ _ h => h) (Or.inr ⟨by kernel_rfl, rfl⟩) (by assumption) ?_
            try simp only [go_sem, Act.put, List.getElem_toArray, List.getElem_cons_succ, List.getElem_cons_zero, List.setIfInBounds_toArray, List.set_cons_succ, List.set_cons_zero]
            refine wpAnyH_take (i := 7) (oi := _) (v := undef) rfl (by kernel_rfl) (by kernel_rfl) (by kernel_rfl) (fun _ _ _ h => h) (Or.inr ⟨by kernel_rfl, rfl⟩) (by assumption) ?_
            try simp only [go_sem, Act.put, List.getElem_toArray, List.getElem_cons_succ, List.getElem_cons_zero, List.setIfInBounds_toArray, List.set_cons_succ, List.set_cons_zero]
            refine wpAnyH_take (i := 8) (oi := _) (v := undef) rfl (by kernel_rfl) (by kernel_rfl) (by kernel_rfl) (fun _ _ _ h => h) (Or.inr ⟨by kernel_rfl, rfl⟩) (by assumption) ?_
            try simp only [go_sem, Act.put, List.getElem_toArray, List.getElem_cons_succ, List.getElem_cons_zero, List.setIfInBounds_toArray, List.set_cons_succ, List.set_cons_zero]
            refine wpAnyH_take (i := 9) (oi := _) (v := undef) rfl (by kernel_rfl) (by kernel_rfl) (by kernel_rfl) (fun _ _ _ h => h) (Or.inr ⟨by kernel_rfl, rfl⟩) (by assumption) ?_
            try simp only [go_sem, Act.put, List.getElem_toArray, List.getElem_cons_succ, List.getElem_cons_zero, List.setIfInBounds_toArray, List.set_cons_succ, List.set_cons_zero]
            refine wpAnyH_take (i := 10) (oi := _) (v := undef) rfl (by kernel_rfl) (by kernel_rfl) (by kernel_rfl) (fun _ _ _ h => h) (Or.inr ⟨by kernel_rfl, rfl⟩) (by assumption) ?_
            try simp only [go_sem, Act.put, List.getElem_toArray, List.getElem_cons_succ, List.getElem_cons_zero, List.setIfInBounds_toArray, List.set_cons_succ, List.set_cons_zero]
            refine wpAnyH_take (i := 11) (oi := _) (v := undef) rfl (by kernel_rfl) (by kernel_rfl) (by kernel_rfl) (fun _ _ _ h => h) (Or.inr ⟨by kernel_rfl, rfl⟩) (by assumption) ?_
            try simp only [go_sem, Act.put, List.getElem_toArray, List.getElem_cons_succ, List.getElem_cons_zero, List.setIfInBounds_toArray, List.set_cons_succ, List.set_cons_zero]
            refine wpAnyH_take (i := 12) (oi := _) (v := undef) rfl (by kernel_rfl) (by kernel_rfl) (by kernel_rfl) (fun _ _ _ h => h) (Or.inr ⟨by kernel_rfl, rfl⟩) (by assumption) ?_
            try simp only [go_sem, Act.put, List.getElem_toArray, List.getElem_cons_succ, List.getElem_cons_zero, List.setIfInBounds_toArray, List.set_cons_succ, List.set_cons_zero]
            refine wpAnyH_take (i := 13) (oi := _) (v := undef) rfl (by kernel_rfl) (by kernel_rfl) (by kernel_rfl) (fun _ _ _ h => h) (Or.inr ⟨by kernel_rfl, rfl⟩) (by assumption) ?_
            try simp only [go_sem, Act.put, List.getElem_toArray, List.getElem_cons_succ, List.getElem_cons_zero, List.setIfInBounds_toArray, List.set_cons_succ, List.set_cons_zero]
            refine wpAnyH_take (i := 14) (oi := _) (v := undef) rfl (by kernel_rfl) (by kernel_rfl) (by kernel_rfl) (fun _ _ _ h => h) (Or.inr ⟨by kernel_rfl, rfl⟩) (by assumption) ?_
            try simp only [go_sem, Act.put, List.getElem_toArray, List.getElem_cons_succ, List.getElem_cons_zero, List.setIfInBounds_toArray, List.set_cons_succ, List.set_cons_zero]
            refine wpAnyH_take (i := 15) (oi := _) (v := ?_) rfl (by kernel_rfl) (by kernel_rfl) (by kernel_rfl) (fun _ _ _ h => h) (Or.inl ⟨by rfl, ?_⟩) (by assumption) ?_
            rotate_left
            · intro w hSw; (try dsimp only at hSw); first | (go_simp; done) | (go_simp; with_reducible rfl)
            try simp only [go_sem, Act.put, List.getElem_toArray, List.getElem_cons_succ, List.getElem_cons_zero, List.setIfInBounds_toArray, List.set_cons_succ, List.set_cons_zero]
            refine wpAnyH_done (by kernel_rfl) ?_ _
            go_wp2_with fail
            have HB := Lib.hid ((HB.out.alloc HB.out.size (.cells #[.string (bs y.nm), .int .i64 y.kd, .int .i64 y.a, .int .i64 y.b, .int .i64 y.c, .int .i64 y.d, .int .i64 y.x, .int .i64 y.ml, .int .i64 y.pw, .int .i64 y.tg, .int .i64 y.kw, .slice es1 en1 ec1, .slice ts1 tn1 tc1, .int .i64 y.ra] 34)).drew)
            refine (known_any _ (HG.out.below HB.out)).mono ?_; rintro e wk ⟨rfl, hbk⟩
            have HB := Lib.hid (next HB.out hbk)
            clear hbk
            go_wp2_with fail
            go_ret
            exact ⟨rfl, HB.out⟩
          · obtain rfl : ye = 0 := by simpa using hye
            clear hye
            obtain ⟨hoy, rr, hlb, hyn⟩ := card_dec HDZ.out
            obtain ⟨P, hP⟩ : ∃ P, (cdB y).length = P := ⟨_, rfl⟩
            rw [hP] at hyn
            subst hyn
            have hPn : P ≤ nq := by
              have h5 := congrArg List.length hlb
              rw [List.length_append, HQ.out.n, hP] at h5
              omega
            have hPc : P ≤ cq := Nat.le_trans hPn HCAP.out
            have hPi : ¬ (nq : Int) < (P : Int) := by omega
            have hPd : decide (nq < P) = false := decide_eq_false (by omega)
            have hsl := sl_h sq nq cq P hPc
            have htk : lb.take P = cdB y := by rw [hlb, ← hP, List.take_left' rfl]
            have HYd := Lib.hid (show has (wd.alloc (.cells #[.string (bs y.nm), .int .i64 y.kd, .int .i64 y.a, .int .i64 y.b, .int .i64 y.c, .int .i64 y.d, .int .i64 y.x, .int .i64 y.ml, .int .i64 y.pw, .int .i64 y.tg, .int .i64 y.kw, .slice es1 en1 ec1, .slice ts1 tn1 tc1, .int .i64 y.ra] 34)).drew wd.heap.size 34 (cL (bs y.nm) y.kd y.a y.b y.c y.d y.x y.ml y.pw y.tg y.kw es1 en1 ec1 ts1 tn1 tc1 y.ra) from new0 wd 34 (cL (bs y.nm) y.kd y.a y.b y.c y.d y.x y.ml y.pw y.tg y.kw es1 en1 ec1 ts1 tn1 tc1 y.ra))
            have HBd := Lib.hid (show Below wd.heap.size wd (wd.alloc (.cells #[.string (bs y.nm), .int .i64 y.kd, .int .i64 y.a, .int .i64 y.b, .int .i64 y.c, .int .i64 y.d, .int .i64 y.x, .int .i64 y.ml, .int .i64 y.pw, .int .i64 y.tg, .int .i64 y.kw, .slice es1 en1 ec1, .slice ts1 tn1 tc1, .int .i64 y.ra] 34)).drew from ((Below.refl _ wd).alloc (Nat.le_refl _) _).drew)
            have HEN : ∀ W, Below wd.heap.size wd W → Calls Tryd.prog 17 #[cdV y es1 en1 ec1 ts1 tn1 tc1, .slice (slA sq 0 cq) P cq, .int .i64 0] W fun v w' => v = .returned (.bool true) ∧ Below W.heap.size W w' := fun W hW => by
              have h7 := encodes_any (bs y.nm) y.kd y.a y.b y.c y.d y.x y.ml y.pw y.tg y.kw es1 en1 ec1 ts1 tn1 tc1 y.ra y.ef y.tr (slA sq 0 cq) P cq (lb.take P) 0 W (HCD.out.below hW (Nat.le_refl _)) HTC.out (BsAt.front (HQ.out.below (HB.out.trans (hW.mono HB.out.size)) (Nat.le_refl _)) HCAP.out P hPn)
              have h8 : cdZ y = (lb.take P, 0) := by rw [cdZ_yes hoy, htk]
              rw [show (true : Bool) = decide (cdZ y = (lb.take P, 0)) from (decide_eq_true h8).symm]
              exact h7
            clear hoy hlb hP htk hPn
            go_wp2_with fail
            refine wp_region_held_drew (S := (fun w' => has w' wd.heap.size 34 (cL (bs y.nm) y.kd y.a y.b y.c y.d y.x y.ml y.pw y.tg y.kw es1 en1 ec1 ts1 tn1 tc1 y.ra))) (by kernel_rfl) ?_ (fun hH0 => ?_)
            · exact HYd.out
            refine wpAnyH_take (i := 0) (oi := _) (v := ?_) rfl (by kernel_rfl) (by kernel_rfl) (by kernel_rfl) (fun _ _ _ h => h) (Or.inl ⟨by rfl, ?_⟩) (by assumption) ?_
            rotate_left
            · intro w hSw; (try dsimp only at hSw); obtain ⟨x0, x1, x2, x3, x4, x5, x6, x7, x8, x9, x10, x11, x12, x13, x14⟩ := card14 hSw; first | (go_simp; done) | (go_simp; with_reducible rfl)
            try simp only [go_sem, Act.put, List.getElem_toArray, List.getElem_cons_zero, List.setIfInBounds_toArray, List.set_cons_succ, List.set_cons_zero]
            refine wpAnyH_take (i := 1) (oi := _) (v := ?_) rfl (by kernel_rfl) (by kernel_rfl) (by kernel_rfl) (fun _ _ _ h => h) (Or.inl ⟨by rfl, ?_⟩) (by assumption) ?_
            rotate_left
            · intro w hSw; (try dsimp only at hSw); obtain ⟨x0, x1, x2, x3, x4, x5, x6, x7, x8, x9, x10, x11, x12, x13, x14⟩ := card14 hSw; first | (go_simp; done) | (go_simp; with_reducible rfl)
            try simp only [go_sem, Act.put, List.getElem_toArray, List.getElem_cons_succ, List.getElem_cons_zero, List.setIfInBounds_toArray, List.set_cons_succ, List.set_cons_zero]
            refine wpAnyH_take (i := 2) (oi := _) (v := ?_) rfl (by kernel_rfl) (by kernel_rfl) (by kernel_rfl) (fun _ _ _ h => h) (Or.inl ⟨by rfl, ?_⟩) (by assumption) ?_
            rotate_left
            · intro w hSw; (try dsimp only at hSw); obtain ⟨x0, x1, x2, x3, x4, x5, x6, x7, x8, x9, x10, x11, x12, x13, x14⟩ := card14 hSw; first | (go_simp; done) | (go_simp; with_reducible rfl)
            try simp only [go_sem, Act.put, List.getElem_toArray, List.getElem_cons_succ, List.getElem_cons_zero, List.setIfInBounds_toArray, List.set_cons_succ, List.set_cons_zero]
            refine wpAnyH_take (i := 3) (oi := _) (v := ?_) rfl (by kernel_rfl) (by kernel_rfl) (by kernel_rfl) (fun _ _ _ h => h) (Or.inl ⟨by rfl, ?_⟩) (by assumption) ?_
            rotate_left
            · intro w hSw; (try dsimp only at hSw); obtain ⟨x0, x1, x2, x3, x4, x5, x6, x7, x8, x9, x10, x11, x12, x13, x14⟩ := card14 hSw; first | (go_simp; done) | (go_simp; with_reducible rfl)
            try simp only [go_sem, Act.put, List.getElem_toArray, List.getElem_cons_succ, List.getElem_cons_zero, List.setIfInBounds_toArray, List.set_cons_succ, List.set_cons_zero]
            refine wpAnyH_take (i := 4) (oi := _) (v := ?_) rfl (by kernel_rfl) (by kernel_rfl) (by kernel_rfl) (fun _ _ _ h => h) (Or.inl ⟨by rfl, ?_⟩) (by assumption) ?_
            rotate_left
            · intro w hSw; (try dsimp only at hSw); obtain ⟨x0, x1, x2, x3, x4, x5, x6, x7, x8, x9, x10, x11, x12, x13, x14⟩ := card14 hSw; first | (go_simp; done) | (go_simp; with_reducible rfl)
            try simp only [go_sem, Act.put, List.getElem_toArray, List.getElem_cons_succ, List.getElem_cons_zero, List.setIfInBounds_toArray, List.set_cons_succ, List.set_cons_zero]
            refine wpAnyH_take (i := 5) (oi := _) (v := ?_) rfl (by kernel_rfl) (by kernel_rfl) (by kernel_rfl) (fun _ _ _ h => h) (Or.inl ⟨by rfl, ?_⟩) (by assumption) ?_
            rotate_left
            · intro w hSw; (try dsimp only at hSw); obtain ⟨x0, x1, x2, x3, x4, x5, x6, x7, x8, x9, x10, x11, x12, x13, x14⟩ := card14 hSw; first | (go_simp; done) | (go_simp; with_reducible rfl)
            try simp only [go_sem, Act.put, List.getElem_toArray, List.getElem_cons_succ, List.getElem_cons_zero, List.setIfInBounds_toArray, List.set_cons_succ, List.set_cons_zero]
            refine wpAnyH_take (i := 6) (oi := _) (v := .bool false) rfl (by kernel_rfl) (by kernel_rfl) (by kernel_rfl) (fun _ _ _ h => h) (Or.inl ⟨by rfl, ?_⟩) (by assumption) ?_
            · intro w hSw; (try dsimp only at hSw); obtain ⟨x0, x1, x2, x3, x4, x5, x6, x7, x8, x9, x10, x11, x12, x13, x14⟩ := card14 hSw; go_simp; first | done | omega | (simp; omega) | (simp; done)
            try simp only [go_sem, Act.put, List.getElem_toArray, List.getElem_cons_succ, List.getElem_cons_zero, List.setIfInBounds_toArray, List.set_cons_succ, List.set_cons_zero]
            refine wpAnyH_take (i := 7) (oi := _) (v := ?_) rfl (by kernel_rfl) (by kernel_rfl) (by kernel_rfl) (fun _ _ _ h => h) (Or.inl ⟨by rfl, ?_⟩) (by assumption) ?_
            rotate_left
            · intro w hSw; (try dsimp only at hSw); obtain ⟨x0, x1, x2, x3, x4, x5, x6, x7, x8, x9, x10, x11, x12, x13, x14⟩ := card14 hSw; first | (go_simp; done) | (go_simp; with_reducible rfl)
            try simp only [go_sem, Act.put, List.getElem_toArray, List.getElem_cons_succ, List.getElem_cons_zero, List.setIfInBounds_toArray, List.set_cons_succ, List.set_cons_zero]
            refine wpAnyH_take (i := 8) (oi := _) (v := ?_) rfl (by kernel_rfl) (by kernel_rfl) (by kernel_rfl) (fun _ _ _ h => h) (Or.inl ⟨by rfl, ?_⟩) (by assumption) ?_
            rotate_left
            · intro w hSw; (try dsimp only at hSw); obtain ⟨x0, x1, x2, x3, x4, x5, x6, x7, x8, x9, x10, x11, x12, x13, x14⟩ := card14 hSw; first | (go_simp; done) | (go_simp; with_reducible rfl)
            try simp only [go_sem, Act.put, List.getElem_toArray, List.getElem_cons_succ, List.getElem_cons_zero, List.setIfInBounds_toArray, List.set_cons_succ, List.set_cons_zero]
            refine wpAnyH_take (i := 9) (oi := _) (v := ?_) rfl (by kernel_rfl) (by kernel_rfl) (by kernel_rfl) (fun _ _ _ h => h) (Or.inl ⟨by rfl, ?_⟩) (by assumption) ?_
            rotate_left
            · intro w hSw; (try dsimp only at hSw); obtain ⟨x0, x1, x2, x3, x4, x5, x6, x7, x8, x9, x10, x11, x12, x13, x14⟩ := card14 hSw; first | (go_simp; done) | (go_simp; with_reducible rfl)
            try simp only [go_sem, Act.put, List.getElem_toArray, List.getElem_cons_succ, List.getElem_cons_zero, List.setIfInBounds_toArray, List.set_cons_succ, List.set_cons_zero]
            refine wpAnyH_take (i := 10) (oi := _) (v := ?_) rfl (by kernel_rfl) (by kernel_rfl) (by kernel_rfl) (fun _ _ _ h => h) (Or.inl ⟨by rfl, ?_⟩) (by assumption) ?_
            rotate_left
            · intro w hSw; (try dsimp only at hSw); obtain ⟨x0, x1, x2, x3, x4, x5, x6, x7, x8, x9, x10, x11, x12, x13, x14⟩ := card14 hSw; first | (go_simp; done) | (go_simp; with_reducible rfl)
            try simp only [go_sem, Act.put, List.getElem_toArray, List.getElem_cons_succ, List.getElem_cons_zero, List.setIfInBounds_toArray, List.set_cons_succ, List.set_cons_zero]
            refine wpAnyH_take (i := 11) (oi := _) (v := ?_) rfl (by kernel_rfl) (by kernel_rfl) (by kernel_rfl) (fun _ _ _ h => h) (Or.inl ⟨by rfl, ?_⟩) (by assumption) ?_
            rotate_left
            · intro w hSw; (try dsimp only at hSw); obtain ⟨x0, x1, x2, x3, x4, x5, x6, x7, x8, x9, x10, x11, x12, x13, x14⟩ := card14 hSw; first | (go_simp; done) | (go_simp; with_reducible rfl)
            try simp only [go_sem, Act.put, List.getElem_toArray, List.getElem_cons_succ, List.getElem_cons_zero, List.setIfInBounds_toArray, List.set_cons_succ, List.set_cons_zero]
            refine wpAnyH_ready (rs := [12]) (by kernel_rfl) (by simp) ?_
            refine AllReadyH.cons (o := _) rfl (fun K hK => ?_) AllReadyH.nil
            go_simp; refine (HEN _ HBd.out).mono ?_; rintro e we ⟨rfl, hbe⟩; have HYe := Lib.hid (HYd.out.below hbe HYd.out.lt); have HB := Lib.hid (HB.out.trans ((HBd.out.trans (hbe.mono HBd.out.size)).mono HB.out.size)); clear hbe
            refine hK.out _ _ ?_ (fun hH1 => ?_)
            · exact HYe.out
            clear hK K hH0
            try simp only [go_sem, Act.put, List.getElem_toArray, List.getElem_cons_succ, List.getElem_cons_zero, List.setIfInBounds_toArray, List.set_cons_succ, List.set_cons_zero]
            refine wpAnyH_take (i := 13) (oi := _) (v := ?_) rfl (by kernel_rfl) (by kernel_rfl) (by kernel_rfl) (fun _ _ _ h => h) (Or.inl ⟨by rfl, ?_⟩) (by assumption) ?_
            rotate_left
            · intro w hSw; (try dsimp only at hSw); obtain ⟨x0, x1, x2, x3, x4, x5, x6, x7, x8, x9, x10, x11, x12, x13, x14⟩ := card14 hSw; first | (go_simp; done) | (go_simp; with_reducible rfl)
            try simp only [go_sem, Act.put, List.getElem_toArray, List.getElem_cons_succ, List.getElem_cons_zero, List.setIfInBounds_toArray, List.set_cons_succ, List.set_cons_zero]
            refine wpAnyH_take (i := 14) (oi := _) (v := ?_) rfl (by kernel_rfl) (by kernel_rfl) (by kernel_rfl) (fun _ _ _ h => h) (Or.inl ⟨by rfl, ?_⟩) (by assumption) ?_
            rotate_left
            · intro w hSw; (try dsimp only at hSw); obtain ⟨x0, x1, x2, x3, x4, x5, x6, x7, x8, x9, x10, x11, x12, x13, x14⟩ := card14 hSw; first | (go_simp; done) | (go_simp; with_reducible rfl)
            try simp only [go_sem, Act.put, List.getElem_toArray, List.getElem_cons_succ, List.getElem_cons_zero, List.setIfInBounds_toArray, List.set_cons_succ, List.set_cons_zero]
            refine wpAnyH_take (i := 15) (oi := _) (v := ?_) rfl (by kernel_rfl) (by kernel_rfl) (by kernel_rfl) (fun _ _ _ h => h) (Or.inl ⟨by rfl, ?_⟩) (by assumption) ?_
            rotate_left
            · intro w hSw; (try dsimp only at hSw); obtain ⟨x0, x1, x2, x3, x4, x5, x6, x7, x8, x9, x10, x11, x12, x13, x14⟩ := card14 hSw; first | (go_simp; done) | (go_simp; with_reducible rfl)
            try simp only [go_sem, Act.put, List.getElem_toArray, List.getElem_cons_succ, List.getElem_cons_zero, List.setIfInBounds_toArray, List.set_cons_succ, List.set_cons_zero]
            refine wpAnyH_done (by kernel_rfl) ?_ _
            go_wp2_with fail
            refine (known_any _ (HG.out.below HB.out)).mono ?_; rintro e wk ⟨rfl, hbk⟩
            have HB := Lib.hid (next HB.out hbk)
            clear hbk
            go_wp2_with fail
            go_ret
            exact ⟨rfl, HB.out⟩

set_option maxRecDepth 100000 in
set_option maxHeartbeats 16000000 in
theorem Holds_law (q : Cd) (es : Option Addr) (en ec : Nat) (ts : Option Addr) (tn tc : Nat) (sq : Option Addr) (nq cq : Nat) (lb : List UInt8) (w : World) (hG : G w) (hp : CdAt w es en q.ef ts tn q.tr) (hpc : tn ≤ tc) (hQ : BsAt w sq nq lb) (hcap : nq ≤ cq) (hnil : sq = none → nq = 0 ∧ cq = 0) :
    Calls Tryd.prog 5 #[cdV q es en ec ts tn tc, .slice sq nq cq] w (lawPost w) := by
  by_cases hl : nq ≤ 300
  · cases ho : okCd q
    · exact Holds_no q es en ec ts tn tc sq nq cq lb w hG hp hpc hQ hcap hnil hl ho
    · exact Holds_yes q es en ec ts tn tc sq nq cq lb w hG hp hpc hQ hcap hnil hl ho
  · exact Holds_long q es en ec ts tn tc sq nq cq lb w hG hp hpc hQ hcap hnil hl
end Go.Proofs.YtkappnnoienhnaaDoor.caFn
