/- The bytes of a card, as data; a slice of bytes that is being filled. -/
import Derived.Test.YtlhnnjllbcglcaaGreatDoorCaValidB
import Derived.Test.YtlhnnjllbcglcaaGreatDoorCeRDec
import Derived.Lib.AppendStr
namespace Go.Proofs.YtlhnnjllbcglcaaGreatDoor.caFn
open Go.ChangeShapes Go.WideShapes Go.ChangeAt Go.RowKit drMem efFn
set_option linter.unusedVariables false

/- what a valid card's parts are -/
structure Cd.bd (q : Cd) : Prop where
  nm : 1 ≤ q.nm.length ∧ q.nm.length ≤ 32
  kd : 0 ≤ q.kd ∧ q.kd < 256
  ra : 0 ≤ q.ra ∧ q.ra < 256
  a : 0 ≤ q.a ∧ q.a < 256
  b : 0 ≤ q.b ∧ q.b < 256
  c : 0 ≤ q.c ∧ q.c < 256
  d : 0 ≤ q.d ∧ q.d < 256
  x : 0 ≤ q.x ∧ q.x < 256
  ml : 0 ≤ q.ml ∧ q.ml < 256
  pw : 0 ≤ q.pw ∧ q.pw < 256
  tg : 0 ≤ q.tg ∧ q.tg < 256
  kw : 0 ≤ q.kw ∧ q.kw < 256
  ef : allB q.ef = true
  tr : q.tr.length ≤ 2
  tw : ∀ t ∈ q.tr, (0 ≤ t.w ∧ t.w < 256) ∧ allB t.e = true
theorem trsB_bd {l : List Tr} (h : trsB l = true) : l.length ≤ 2 ∧ ∀ t ∈ l, trB t = true := by
  unfold trsB at h
  rw [Bool.and_eq_true] at h
  refine ⟨of_decide_eq_true h.1, fun t ht => ?_⟩
  obtain ⟨i, hi, rfl⟩ := List.getElem_of_mem ht
  have h2 := List.all_eq_true.1 h.2 i (List.mem_range.2 hi)
  rw [Bool.and_eq_true] at h2
  have e : l.getD i default = l[i] := by simp [List.getD_eq_getElem?_getD, hi]
  rw [e] at h2
  exact h2.1
theorem trB_bd {t : Tr} (h : trB t = true) : (1 ≤ t.w ∧ t.w ≤ 3) ∧ (1 ≤ t.e.length ∧ t.e.length ≤ 2) ∧ allB t.e = true ∧ tgN t.e = 0 := by
  unfold trB at h
  simp only [Bool.and_eq_true, decide_eq_true_eq] at h
  exact ⟨⟨h.1, h.2.1⟩, ⟨h.2.2.1, h.2.2.2.1⟩, h.2.2.2.2.1, h.2.2.2.2.2⟩
theorem allB_nil : allB [] = true := rfl
theorem srcB_bd {q : Cd} (h : srcB q = true) : (0 ≤ q.ml ∧ q.ml ≤ 3) ∧ (q.a = 0 ∧ q.b = 0 ∧ q.c = 0 ∧ q.d = 0 ∧ q.x = 0) ∧ q.pw = 0 ∧ q.tg = 0 ∧ q.kw = 0 ∧ q.ef = [] ∧ q.tr = [] := by
  unfold srcB zeroC at h
  simp only [Bool.and_eq_true, decide_eq_true_eq, beq_iff_eq, maFn.eq5_iff, maFn.okN_iff] at h
  obtain ⟨h1, ⟨⟨h2, h3, h4, h5⟩, h6⟩, h7, h8, h9, ha, hb⟩ := h
  exact ⟨h1, ⟨h2, h3, h4, h5, h6⟩, h7, h8, h9, ha, hb⟩
theorem creB_bd {q : Cd} (h : creB q = true) : maFn.okC q.a q.b q.c q.d q.x = true ∧ q.ml = 0 ∧ (0 ≤ q.pw ∧ q.pw ≤ 20) ∧ (1 ≤ q.tg ∧ q.tg ≤ 20) ∧ (0 ≤ q.kw ∧ q.kw ≤ 15) ∧ allB q.ef = true ∧ trsB q.tr = true := by
  unfold creB at h
  simp only [Bool.and_eq_true, decide_eq_true_eq, beq_iff_eq] at h
  obtain ⟨h1, h2, h3, h4, h5, h6, h7, h8, h9⟩ := h
  exact ⟨h1, h2, ⟨h3, h4⟩, ⟨h5, h6⟩, h7, h8, h9⟩
theorem splB_bd {q : Cd} (h : splB q = true) : maFn.okC q.a q.b q.c q.d q.x = true ∧ 0 < q.ef.length ∧ allB q.ef = true ∧ q.ml = 0 ∧ q.pw = 0 ∧ q.tg = 0 ∧ q.kw = 0 ∧ q.tr = [] := by
  unfold splB at h
  simp only [Bool.and_eq_true, decide_eq_true_eq, beq_iff_eq] at h
  obtain ⟨h1, h2, h3, _, h4, h5, h6, h7, h8⟩ := h
  exact ⟨h1, h2, h3, h4, h5, h6, h7, h8⟩
theorem kind_cases {q : Cd} (h : kindB q = true) : (q.kd = 1 ∧ srcB q = true) ∨ (q.kd = 2 ∧ creB q = true) ∨ ((q.kd = 3 ∨ q.kd = 4) ∧ splB q = true) := by
  unfold kindB at h
  split at h
  · exact .inl ⟨‹_›, h⟩
  · split at h
    · exact .inr (.inl ⟨‹_›, h⟩)
    · split at h
      · exact .inr (.inr ⟨‹_›, h⟩)
      · cases h
theorem okCd_parts {q : Cd} (h : okCd q = true) : nameB q.nm = true ∧ (1 ≤ q.ra ∧ q.ra ≤ 4) ∧ kindB q = true := by
  unfold okCd at h
  simp only [Bool.and_eq_true, decide_eq_true_eq] at h
  exact ⟨h.1, ⟨h.2.1, h.2.2.1⟩, h.2.2.2⟩
theorem nameB_len {l : List UInt8} (h : nameB l = true) : 1 ≤ l.length ∧ l.length ≤ 32 := by
  unfold nameB at h
  simp only [Bool.and_eq_true, decide_eq_true_eq] at h
  exact ⟨h.1, h.2.1⟩
theorem okCd_bd {q : Cd} (h : okCd q = true) : q.bd := by
  obtain ⟨hn, hr, hk⟩ := okCd_parts h
  have hl := nameB_len hn
  rcases kind_cases hk with ⟨k, hs⟩ | ⟨k, hs⟩ | ⟨k, hs⟩
  · obtain ⟨g1, ⟨g2, g3, g4, g5, g6⟩, g7, g8, g9, ga, gb⟩ := srcB_bd hs
    exact ⟨hl, by omega, by omega, by omega, by omega, by omega, by omega, by omega, by omega, by omega, by omega, by omega, by rw [ga]; rfl, by rw [gb]; simp, by rw [gb]; simp⟩
  · obtain ⟨g1, g2, g3, g4, g5, g6, g7⟩ := creB_bd hs
    have g := (maFn.okC_iff _ _ _ _ _).1 g1
    obtain ⟨t1, t2⟩ := trsB_bd g7
    exact ⟨hl, by omega, by omega, by omega, by omega, by omega, by omega, by omega, by omega, by omega, by omega, by omega, g6, t1, fun t ht => by
      obtain ⟨b1, _, b3, _⟩ := trB_bd (t2 t ht)
      exact ⟨by omega, b3⟩⟩
  · obtain ⟨g1, g2, g3, g4, g5, g6, g7, g8⟩ := splB_bd hs
    have g := (maFn.okC_iff _ _ _ _ _).1 g1
    exact ⟨hl, by omega, by omega, by omega, by omega, by omega, by omega, by omega, by omega, by omega, by omega, by omega, g3, by rw [g8]; simp, by rw [g8]; simp⟩

/- the bytes of triggers, of a card -/
def trBy (l : List Tr) : List UInt8 := l.flatMap fun t => u8 t.w :: encB t.e
def cdB (q : Cd) : List UInt8 :=
  ((((((([u8 q.kd, u8 q.ra, u8 q.nm.length] ++ q.nm) ++ [u8 q.a]) ++ [u8 q.b]) ++ [u8 q.c]) ++ [u8 q.d]) ++ [u8 q.x, u8 q.ml, u8 q.pw, u8 q.tg, u8 q.kw]) ++ encB q.ef) ++ [u8 q.tr.length] ++ trBy q.tr
theorem trBy_succ {l : List Tr} {k : Nat} (h : k < l.length) : trBy (l.take (k + 1)) = trBy (l.take k) ++ [u8 (l.getD k default).w] ++ encB (l.getD k default).e := by
  have e : l.getD k default = l[k] := by simp [List.getD_eq_getElem?_getD, h]
  rw [e, List.take_succ_eq_append_getElem h]
  simp only [trBy, List.flatMap_append, List.flatMap_cons, List.flatMap_nil, List.append_nil, List.append_assoc, List.cons_append, List.nil_append]

/- a slice of bytes that a call fills, beside a block that it keeps -/
structure ES (w : World) (tb : TypeId) (cs : List Value) (W : World) (v : Value) (n : Nat) (out : List UInt8) : Prop where
  own : W.ownsRow w.heap.size 5 1 v n (bys out)
  hb : Below w.heap.size w W
  box : has W w.heap.size tb cs
variable {w W W' : World} {v v' : Value} {xs : List Value} {n n' : Nat} {out out' : List UInt8} {tb : TypeId} {cs : List Value}
theorem ES.alloc (h : ES w tb cs W v n out) (o : Obj) : ES w tb cs (W.alloc o) v n out := ⟨h.own.alloc _, h.hb.alloc h.hb.size _, h.box.alloc _⟩
theorem ES.below (h : ES w tb cs W v n out) (hb : Below W.heap.size W W') : ES w tb cs W' v n out := ⟨own_below h.own hb, h.hb.trans (hb.mono h.hb.size), h.box.below hb h.box.lt⟩
theorem own_has' {w w' : World} {g B n : Nat} {t t' : TypeId} {size : Nat} {v : Value} {xs cs : List Value} (hg : w.grownBy w' v.ownBlock) (ho : w.ownsRow B t' size v n xs) (hm : has w g t cs) (hne : t ≠ t') : has w' g t cs := by
  refine (hg.block g hm.lt ?_).trans hm
  rcases ho.2 with ⟨h1, _⟩ | ⟨gq, cq, uq, h1, _, h3, _⟩
  · rw [h1]; simp [Value.ownBlock]
  · rw [h1]
    simp only [Value.ownBlock]
    intro e
    cases e
    rw [show w.heap[g]? = _ from hm] at h3
    cases h3
    exact hne rfl
theorem ES.app (h : ES w tb cs W v n out) (hne : tb ≠ 5) (hown : W'.ownsRow w.heap.size 5 1 v' n' xs) (hg : W.grownBy W' v.ownBlock) (hx : xs = bys out') : ES w tb cs W' v' n' out' :=
  ⟨hx ▸ hown, below_own h.hb h.own hg h.hb.size, own_has' hg h.own h.box hne⟩
theorem ES.form (h : ES w tb cs W v n out) (hm : n ≤ 1000) : ∃ sp c, v = .slice sp n c ∧ BsAt W sp n out ∧ n ≤ c := by
  obtain ⟨sv, cv, h1, h2, h3, _⟩ := own_form h.own
  have hl := h.own.1
  rw [bys_len, Nat.mul_one] at hl
  exact ⟨sv, cv, h1, ⟨hl, by omega, h2⟩, h3⟩
end Go.Proofs.YtlhnnjllbcglcaaGreatDoor.caFn
