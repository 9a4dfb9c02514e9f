/- Appending to a list of the call's own, where the operation is guarded; a list's head; a text's length. -/
import Derived.Test.YtfdolapiikgebaaDoorEfHMath
import Derived.Laws.AppendOwnNone
namespace Go.Proofs.YtfdolapiikgebaaDoor.efFn
open Go.ChangeShapes Go.WideShapes Go.ChangeAt Go.RowKit drMem
set_option linter.unusedVariables false

theorem wpList_wanted {P : Program} {w : World} {ops : Array Oper} {rest : List Oper} {o : Oper} {a : Act} {Q : Exit → Act → World → Prop} (hw : Region.wanted o (yielded ops a.tmps) = true) (h : o.wp P a w (wpList P ops Q rest) Q) : wpList P ops Q (o :: rest) a w := by
  unfold wpList
  rw [if_pos hw]
  exact .inl h
theorem grown_same (w : World) (b : Option Nat) : w.grownBy w b := ⟨rfl, rfl, rfl, Nat.le_refl _, fun _ _ _ => rfl⟩
theorem wp_app {P : Program} {w : World} {o : Oper} {a : Act} {K : Act → World → Prop} {Q : Exit → Act → World → Prop} (s x : Operand) (t : TypeId)
    (ho : o.op = .call { callee := .builtin .append, args := #[s, x], argTypes := #[t, t] })
    (base : Nat) (e : TypeId) (i : TypeInfo) (z : Value) (bytes : Nat) (ht : P.underlying t = some (.slice e)) (hi : P.info? e = some i) (hz : i.zero = some z)
    (hsize : i.size = 1) (hby : i.bytes = bytes) (hzs : z.cells.size = 1) (v : Value) (n : Nat) (xs : List Value) (hs : a.eval s = v) (hown : w.ownsRow base e 1 v n xs)
    (sp : Option Addr) (m c : Nat) (news : List Value) (hx : a.eval x = .slice sp m c) (hn : sp = none → m = 0 ∧ c = 0) (hl : news.length = m) (hsrc : src w sp news) (h1 : ∀ u ∈ news, u.oneCell' = true)
    (h63 : n + m ≤ maxLen) (hbytes : (n + m) * bytes ≤ 140737488355328) (hbase : base ≤ w.heap.size)
    (h : ∀ v' w', w'.ownsRow base e 1 v' (n + m) (xs ++ news) → w.grownBy w' v.ownBlock → K (a.put o.dst v') w') : o.wp P a w K Q := by
  rcases sp with _ | ad
  · obtain ⟨rfl, rfl⟩ := hn rfl
    obtain rfl := List.eq_nil_of_length_eq_zero hl
    have hrun := run_append_owned_none (P := P) (w := w) base t o.type e i 1 ht hi v n xs hown
    unfold Oper.wp
    simp [execOp, ho, resolve, invoke, builtin, hs, hx, hrun, Result.andThen]
    exact h _ _ (by simpa using hown) (grown_same _ _)
  · refine wp_append_own w s x t ho base e i z 1 bytes ht hi hz hsize hby hzs (by decide) v n xs hs hown ad m c news hx (by omega) ?_ h1 h63 hbytes hbase ?_
    · intro j u hu
      have hj := (List.getElem?_eq_some_iff.1 hu).1
      obtain ⟨b, off, e, _, hc⟩ := hsrc (by omega)
      cases e
      rw [addr_add]; exact hc j u hu
    · intro v' w' h2 h3 _
      exact h v' w' h2 h3
theorem wpList_app {P : Program} {w : World} {ops : Array Oper} {rest : List Oper} {o : Oper} {a : Act} {Q : Exit → Act → World → Prop} (hw : Region.wanted o (yielded ops a.tmps) = true) (s x : Operand) (t : TypeId)
    (ho : o.op = .call { callee := .builtin .append, args := #[s, x], argTypes := #[t, t] })
    (base : Nat) (e : TypeId) (i : TypeInfo) (z : Value) (bytes : Nat) (ht : P.underlying t = some (.slice e)) (hi : P.info? e = some i) (hz : i.zero = some z)
    (hsize : i.size = 1) (hby : i.bytes = bytes) (hzs : z.cells.size = 1) (v : Value) (n : Nat) (xs : List Value) (hs : a.eval s = v) (hown : w.ownsRow base e 1 v n xs)
    (sp : Option Addr) (m c : Nat) (news : List Value) (hx : a.eval x = .slice sp m c) (hn : sp = none → m = 0 ∧ c = 0) (hl : news.length = m) (hsrc : src w sp news) (h1 : ∀ u ∈ news, u.oneCell' = true)
    (h63 : n + m ≤ maxLen) (hbytes : (n + m) * bytes ≤ 140737488355328) (hbase : base ≤ w.heap.size)
    (h : ∀ v' w', w'.ownsRow base e 1 v' (n + m) (xs ++ news) → w.grownBy w' v.ownBlock → wpList P ops Q rest (a.put o.dst v') w') : wpList P ops Q (o :: rest) a w :=
  wpList_wanted hw (wp_app (K := wpList P ops Q rest) s x t ho base e i z bytes ht hi hz hsize hby hzs v n xs hs hown sp m c news hx hn hl hsrc h1 h63 hbytes hbase h)
theorem BsAt.take {w : World} {sp : Option Addr} {n : Nat} {l : List UInt8} (h : BsAt w sp n l) (k : Nat) (hk : k ≤ n) : BsAt w sp k (l.take k) := by
  have hn := h.n
  have hm := h.m
  refine ⟨by simp; omega, by omega, fun h0 => ?_⟩
  rw [bys_len] at h0
  obtain ⟨b, off, e, hl, hc⟩ := h.c (by rw [bys_len]; simp at h0; omega)
  refine ⟨b, off, e, hl, fun j u hu => hc j u ?_⟩
  have : bys (l.take k) = (bys l).take k := by simp [bys, List.map_take]
  rw [this, List.getElem?_take] at hu
  split at hu
  · exact hu
  · cases hu
theorem BsAt.of_src {w : World} {sp : Option Addr} {l : List UInt8} (h : src w sp (bys l)) (hm : l.length ≤ 1000) : BsAt w sp l.length l := ⟨rfl, by omega, h⟩
theorem words_len8 (e : Ef) : ∀ x ∈ wordsE e, x.length ≤ 8 := by
  intro x hx
  unfold wordsE at hx
  rw [List.mem_cons, List.mem_append] at hx
  rcases hx with rfl | hx | hx
  · exact nm_len _
  · unfold numW at hx
    split at hx
    · simp only [List.mem_cons, List.not_mem_nil, or_false] at hx; subst hx; exact tab_len8 _
    · split at hx
      · simp only [List.mem_cons, List.not_mem_nil, or_false] at hx; rcases hx with rfl | rfl <;> exact tab_len8 _
      · split at hx
        · simp only [List.mem_cons, List.not_mem_nil, or_false] at hx; rcases hx with rfl | rfl
          · exact tab_len8 _
          · exact let_len _
        · cases hx
  · unfold tgW at hx
    split at hx
    · cases hx
    · simp only [List.mem_cons, List.not_mem_nil, or_false] at hx; subst hx; exact kw_len _
theorem words_len (e : Ef) : (wordsE e).length ≤ 4 := by
  unfold wordsE numW tgW
  (repeat' split) <;> simp
theorem textE_len (e : Ef) : (textE e).length ≤ 900 := by
  have h8 := words_len8 e
  have h4 := words_len e
  unfold textE
  generalize wordsE e = l at *
  cases l with
  | nil => simp [Lib.join_nil]
  | cons a r =>
    rw [Lib.join_cons, List.length_append]
    have := tail_len r (fun x hx => h8 x (by simp [hx]))
    have := h8 a (by simp)
    simp only [List.length_cons] at h4
    omega
end Go.Proofs.YtfdolapiikgebaaDoor.efFn
