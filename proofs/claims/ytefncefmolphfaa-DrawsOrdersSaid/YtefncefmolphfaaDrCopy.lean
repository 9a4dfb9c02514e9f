/- 'append(nil, xs...)' with xs nil or not: the row is the call's own. -/
import Derived.Test.YtefncefmolphfaaDrOpen
import Derived.Test.YtefncefmolphfaaDrSame
import Derived.Laws.AppendOwnNone
namespace Go.Proofs.Ytefncefmolphfaa.drFn
open Go.ChangeShapes Go.WideShapes Go.ChangeAt Go.RowKit drMem
set_option linter.unusedVariables false

theorem wpList_copy {P : Program} {w : World} {ops : Array Oper} {rest : List Oper} {o : Oper} {a : Act} {Q : Exit → Act → World → Prop} (hgd : o.guard = none) (s x : Operand) (t : TypeId)
    (ho : o.op = .call { callee := .builtin .append, args := #[s, x], argTypes := #[t, t] })
    (base : Nat) (e : TypeId) (i : TypeInfo) (z : Value) (bytes : Nat) (ht : P.underlying t = some (.slice e)) (hi : P.info? e = some i) (hz : i.zero = some z)
    (hsize : i.size = 1) (hby : i.bytes = bytes) (hzs : z.cells.size = 1) (hs : a.eval s = .slice none 0 0)
    (sp : Option Addr) (m c : Nat) (news : List Value) (hx : a.eval x = .slice sp m c) (hn : sp = none → m = 0 ∧ c = 0) (hl : news.length = m) (hsrc : src w sp news) (h1 : ∀ u ∈ news, u.oneCell' = true)
    (h63 : m ≤ maxLen) (hbytes : m * bytes ≤ 140737488355328) (hbase : base ≤ w.heap.size)
    (h : ∀ v' w', w'.ownsRow base e 1 v' m news → w.grownBy w' none → wpList P ops Q rest (a.put o.dst v') w') : wpList P ops Q (o :: rest) a w := by
  rcases sp with _ | ad
  · obtain ⟨rfl, rfl⟩ := hn rfl
    obtain rfl := List.eq_nil_of_length_eq_zero hl
    exact wpList_append_own_none hgd s x t ho base e i 1 ht hi _ 0 [] hs (World.ownsRow_nil _ _ _ _) hx (h _ _ (World.ownsRow_nil _ _ _ _) (grown_of_below (Below.refl _ _) _))
  · refine wpList_append_own _ hgd s x t ho base e i z 1 bytes ht hi hz hsize hby hzs (by decide) _ 0 [] hs (World.ownsRow_nil _ _ _ _) ad m c news hx (by omega) ?_ h1 (by omega) (by simpa using hbytes) hbase ?_
    · intro j u hu
      have hj := (List.getElem?_eq_some_iff.1 hu).1
      obtain ⟨b, off, e, _, hc⟩ := hsrc (by omega)
      cases e
      rw [addr_add]; exact hc j u hu
    · intro v' w' h2 h3 _
      exact h v' w' (by simpa using h2) h3
/- an own row, as a slice whose cells are known -/
theorem own_form {w : World} {base n : Nat} {t : TypeId} {v : Value} {xs : List Value} (h : w.ownsRow base t 1 v n xs) :
    ∃ sv cv, v = .slice sv n cv ∧ src w sv xs ∧ (sv = none → n = 0 ∧ cv = 0) ∧ ∀ a, sv = some a → base ≤ a.block := by
  have hl := h.1
  rcases h.2 with ⟨h2, h3⟩ | ⟨g, cap, cur, h2, hbg, _⟩
  · refine ⟨none, 0, by rw [h2, h3], ?_, fun _ => ⟨h3, rfl⟩, by simp⟩
    intro h4; omega
  · refine ⟨some ⟨g, 0, none⟩, cap, h2, ?_, by simp, by rintro a ⟨⟩; exact hbg⟩
    intro h4
    subst h2
    refine ⟨g, 0, rfl, h.lt g rfl |>.2, ?_⟩
    intro j u hu
    have hj := (List.getElem?_eq_some_iff.1 hu).1
    rw [Nat.zero_add, h.cellAt j (by omega)]; exact hu
end Go.Proofs.Ytefncefmolphfaa.drFn
