/- A drawn region: whatever order is picked. -/
import Derived.Test.YtmmnjphmiijbcaaSxM
namespace Go.Proofs.Ytmmnjphmiijbcaa.sx
set_option linter.unusedVariables false
open Go.RowKit (Below)
variable {P : Program} {ops : Array Oper}

theorem freshV_congr {T T' : TV} {o : Oper} (h : ∀ x ∈ o.op.operands.toList, ev T x = ev T' x) : freshV P T o = freshV P T' o := by
  obtain ⟨dst, op, type, pos, after, guard⟩ := o
  cases op <;> simp only [freshV] <;> simp only [Op.operands] at h
  case box e x => rw [h x (by simp)]
  case buildSlice t len parts =>
    have : parts.toList.map (fun p => (p.1, ev T p.2)) = parts.toList.map (fun p => (p.1, ev T' p.2)) := List.map_congr_left fun p hp => by
      rw [h p.2 (by simp; exact ⟨p.1, by simpa using hp⟩)]
    rw [this]
  case makeMap t r => cases r <;> rfl
theorem ev_put {T : TV} {d : Option Tmp} {v : Value} {o : Oper} (h : ∀ e, d = some e → e ∉ o.looksAt ops) : ∀ x ∈ o.op.operands.toList, ev (put T d v) x = ev T x := by
  intro x hx
  cases d with
  | none => rfl
  | some d =>
    cases x with
    | tmp t =>
      have hne : t ≠ d := by
        rintro rfl
        refine h t rfl ?_
        unfold Oper.looksAt
        exact List.mem_append_left _ (List.mem_filterMap.2 ⟨.tmp t, hx, rfl⟩)
      simp [ev, put, Tr.get_set, hne]
    | _ => rfl
theorem wantedV_put {T : TV} {d : Option Tmp} {v : Value} {o : Oper} (h : ∀ e, d = some e → e ∉ o.looksAt ops) : wantedV ops (put T d v) o = wantedV ops T o := by
  cases d with
  | none => rfl
  | some d =>
    unfold wantedV
    cases hg : o.guard with
    | none => rfl
    | some g =>
      obtain ⟨j, want⟩ := g
      simp only
      cases hd : (ops[j]?).bind (·.dst) with
      | none => rfl
      | some t =>
        have hne : t ≠ d := by
          rintro rfl
          exact h t rfl (by simp [Oper.looksAt, hg, hd])
        simp [put, Tr.get_set, hne]
theorem stepV_form {call : CallV} {nt : Nat} {o : Oper} {T T' : TV} {H H' : HV} {n n' : Nat} (h : stepV P call ops nt o T H n = some (T', H', n')) : okD nt o.dst = true ∧ ∃ v, T' = put T o.dst v := by
  unfold stepV at h
  cases hd : okD nt o.dst with
  | false => simp [hd] at h
  | true =>
    refine ⟨rfl, ?_⟩
    simp only [hd, cond_eq_ite] at h
    repeat' split at h
    all_goals first
      | (simp at h; done)
      | (simp only [Option.some.injEq, Prod.mk.injEq] at h; exact ⟨_, h.1.symm⟩)

/- an operation that makes a block, and that the model may have carried out ahead of us -/
structure Early where
  i : Nat
  v : Value
  g : Option Nat

structure AR (ops : Array Oper) (E : List Early) (a aR : Act) : Prop where
  size : aR.tmps.size = a.tmps.size
  out : ∀ d, (∀ e ∈ E, ∀ o, ops[e.i]? = some o → o.dst ≠ some d) → aR.tmps[d]? = a.tmps[d]?
  inn : ∀ e ∈ E, ∀ o, ops[e.i]? = some o → ∀ d, o.dst = some d → d < aR.tmps.size → aR.tmps[d]? = some e.v
  defers : aR.defers = a.defers

/- an operation that looks at nothing that is ahead -/
def Off (ops : Array Oper) (E : List Early) (o : Oper) : Prop := ∀ e ∈ E, ∀ x, ops[e.i]? = some x → (∀ d, x.dst = some d → d ∉ o.looksAt ops) ∧ (∀ d, x.dst = some d → o.dst ≠ some d)
theorem AR.eval {E : List Early} {a aR : Act} (h : AR ops E a aR) {o : Oper} (hoff : Off ops E o) : ∀ x ∈ o.op.operands.toList, aR.eval x = a.eval x := by
  intro x hx
  cases x with
  | tmp t =>
    have hl : t ∈ o.looksAt ops := by
      unfold Oper.looksAt
      exact List.mem_append_left _ (List.mem_filterMap.2 ⟨.tmp t, hx, rfl⟩)
    have := h.out t fun e he x hx hd => (hoff e he x hx).1 t hd hl
    simp only [Act.eval, Array.getD_eq_getD_getElem?, this]
  | _ => rfl
theorem AR.exec {E : List Early} {a aR : Act} (h : AR ops E a aR) {o : Oper} (hoff : Off ops E o) (ho : opOK o = true) : execOp aR.eval o = execOp a.eval o := by
  simp only [opOK, Bool.and_eq_true] at ho
  exact execOp_congr o (fun cs b e => by rw [e] at ho; simp at ho) fun x hx => h.eval hoff x (by simpa using hx)
theorem AR.wanted {E : List Early} {a aR : Act} (h : AR ops E a aR) {o : Oper} (hoff : Off ops E o) : Region.wanted o (yielded ops aR.tmps) = Region.wanted o (yielded ops a.tmps) := by
  unfold Region.wanted
  cases hg : o.guard with
  | none => rfl
  | some g =>
    obtain ⟨j, want⟩ := g
    simp only [yielded]
    cases hd : (ops[j]?).bind (·.dst) with
    | none => rfl
    | some t =>
      have hl : t ∈ o.looksAt ops := by simp [Oper.looksAt, hg, hd]
      have := h.out t fun e he x hx hdd => (hoff e he x hx).1 t hdd hl
      simp only [Option.bind_some, this]
theorem AR.put {E : List Early} {a aR : Act} (h : AR ops E a aR) {o : Oper} (hoff : Off ops E o) (v : Value) : AR ops E (a.put o.dst v) (aR.put o.dst v) := by
  cases hd : o.dst with
  | none => exact h
  | some d =>
    refine ⟨by simp [Act.put, h.size], fun t ht => ?_, fun e he x hx t hxt htl => ?_, h.defers⟩
    · simp only [Act.put]
      by_cases htd : d = t
      · subst htd
        simp only [Array.getElem?_setIfInBounds, if_true]
        rw [h.size]
      · rw [Array.getElem?_setIfInBounds_ne htd, Array.getElem?_setIfInBounds_ne htd]
        exact h.out t ht
    · have hne : d ≠ t := by
        rintro rfl
        exact (hoff e he x hx).2 d hxt hd
      simp only [Act.put, Array.size_setIfInBounds] at htl ⊢
      rw [Array.getElem?_setIfInBounds_ne hne]
      exact h.inn e he x hx t hxt htl

def EarlyOK (P : Program) (ops : Array Oper) (nt : Nat) (B : Nat) (σ : Sg) (T : TV) (H : HV) (w : World) (listed : Array Bool) (e : Early) : Prop :=
  e.i ∈ Region.ready .any ops listed ∧ isA P ops e.i = true ∧ ∃ o, ops[e.i]? = some o ∧ okD nt o.dst = true ∧
    ((wantedV ops T o = false ∧ e.v = undef ∧ e.g = none) ∨
     (wantedV ops T o = true ∧ ∃ f x g, freshV P T o = some (f, x) ∧ e.g = some g ∧ e.v = f.val g ∧ w.heap[g]? = some (objOf σ x) ∧ B ≤ g ∧ ∀ k o', H.get k = some o' → σ.b k ≠ g))

theorem heap_lt {w : World} {g : Nat} {o : Obj} (h : w.heap[g]? = some o) : g < w.heap.size := (Array.getElem?_eq_some_iff.1 h).1

/- an operation is carried out: what is ahead stays so -/
theorem EarlyOK.step {nt B : Nat} {σ σ' : Sg} {T : TV} {H H' : HV} {n n' : Nat} {w w' : World} {listed : Array Bool} {e : Early} {j : Nat} {oj : Oper} {v : Value} (hs : listed.size = ops.size)
    (h : EarlyOK P ops nt B σ T H w listed e) (hT : fitsT n T) (hj : ops[j]? = some oj) (hne : e.i ≠ j) (hap : Ap ops e.i j) (hS : Step σ H n w σ' H' n' w') :
    EarlyOK P ops nt B σ' (sx.put T oj.dst v) H' w' (listed.setIfInBounds j true) e := by
  obtain ⟨h1, h2, o, ho, hd, h3⟩ := h
  have hoff := (hap o oj ho hj).2.2
  refine ⟨ready_mono h1 hne, h2, o, ho, hd, ?_⟩
  rw [wantedV_put hoff]
  rcases h3 with h3 | ⟨h3, f, x, g, hf, hg, hv, hh, hB, hl⟩
  · exact .inl h3
  · have hfit : fitsO n x := (fresh_sound (σ := σ) hT hf).2.1
    have hlt := heap_lt hh
    refine .inr ⟨h3, f, x, g, ?_, hg, hv, ?_, hB, fun k o' hk => ?_⟩
    · rw [← hf]; exact freshV_congr fun y hy => ev_put hoff y hy
    · rw [hS.keep g hlt fun k o' hk _ => hl k o' hk, hh, objOf_agree hS.agree hfit]
    · rcases hS.img k o' hk with ⟨i, o'', hi, _, he⟩ | hge
      · rw [← he]; exact hl i o'' hi
      · omega
/- another one gets ahead -/
theorem EarlyOK.alloc {nt B : Nat} {σ : Sg} {T : TV} {H : HV} {w : World} {listed : Array Bool} {e : Early} (h : EarlyOK P ops nt B σ T H w listed e) (o : Obj) : EarlyOK P ops nt B σ T H (w.alloc o) listed e := by
  obtain ⟨h1, h2, q, ho, hd, h3⟩ := h
  refine ⟨h1, h2, q, ho, hd, ?_⟩
  rcases h3 with h3 | ⟨h3, f, x, g, hf, hg, hv, hh, hB, hl⟩
  · exact .inl h3
  · exact .inr ⟨h3, f, x, g, hf, hg, hv, by rw [heap_alloc_old w o g (heap_lt hh)]; exact hh, hB, hl⟩

theorem isA_kind {i : Nat} {o : Oper} (h : isA P ops i = true) (ho : ops[i]? = some o) : kind P o.op = .fresh := by
  unfold isA at h
  rw [ho] at h
  simp only at h
  split at h
  · assumption
  · cases h

/- what will be carried out later can be carried out now -/
theorem pre_fresh {call : CallV} {nt : Nat} {T' : TV} {H' : HV} {n' : Nat} : ∀ (l : List Nat) {listed : Array Bool} (hs : listed.size = ops.size) {pf : Nat} {T : TV} {H : HV} {n : Nat} {R : Reads} (hp : plan P ops pf listed = some l) (hr : regV P call ops nt l R T H n = some (T', H', n'))
    {i : Nat} (hi : i ∈ Region.ready .any ops listed) (ha : isA P ops i = true), ∃ o, ops[i]? = some o ∧ okD nt o.dst = true ∧ (wantedV ops T o = false ∨ ∃ f x, freshV P T o = some (f, x))
  | [], listed, hs, pf, T, H, n, R, hp, hr, i, hi, ha => by rw [plan_nil hp] at hi; cases hi
  | j :: l, listed, hs, pf, T, H, n, R, hp, hr, i, hi, ha => by
    obtain ⟨⟨pf', hp'⟩, hjr, hap, hh⟩ := plan_cons hs hp
    simp only [regV] at hr
    split at hr <;> first | (simp at hr; done) | skip
    rename_i oj hoj
    split at hr <;> first | (simp at hr; done) | skip
    rename_i T1 H1 n1 hst
    by_cases hij : i = j
    · subst hij
      have hk := isA_kind ha hoj
      obtain ⟨hd, _⟩ := stepV_form hst
      refine ⟨oj, hoj, hd, ?_⟩
      unfold stepV at hst
      simp only [hd, cond_true, hk] at hst
      cases hw : wantedV ops T oj with
      | false => exact .inl rfl
      | true =>
        simp only [hw, cond_true] at hst
        split at hst <;> first | (simp at hst; done) | skip
        rename_i f x hf
        exact .inr ⟨f, x, hf⟩
    · obtain ⟨_, v, rfl⟩ := stepV_form hst
      have hi' : i ∈ Region.ready .any ops (listed.setIfInBounds j true) := ready_mono hi hij
      have hs' : (listed.setIfInBounds j true).size = ops.size := by simpa using hs
      have hrec : ∃ R', regV P call ops nt l R' (put T oj.dst v) H1 n1 = some (T', H', n') := by
        simp only [cond_eq_ite] at hr
        repeat' split at hr
        all_goals first | exact ⟨_, hr⟩ | (simp at hr; done)
      obtain ⟨R', hr'⟩ := hrec
      obtain ⟨o, ho, hd, h3⟩ := pre_fresh l hs' hp' hr' hi' ha
      have hoff := (hap i hi ha hij o oj ho hoj).2.2
      refine ⟨o, ho, hd, ?_⟩
      rw [wantedV_put hoff] at h3
      rcases h3 with h3 | ⟨f, x, hf⟩
      · exact .inl h3
      · exact .inr ⟨f, x, by rw [← hf]; exact (freshV_congr fun y hy => ev_put hoff y hy).symm⟩

def SR (σ : Sg) (R : Reads) (w : World) : Prop := ∀ p ∈ R, cellsAt σ p.1 p.2.1 p.2.2 w
theorem wpAnyH_mono {Q : Exit → Act → World → Prop} {S S' : World → Prop} (h : ∀ w, S' w → S w) : ∀ (fuel : Nat) (listed : Array Bool) (a : Act) (w : World), wpAnyH P .any ops Q S' fuel listed a w → wpAnyH P .any ops Q S fuel listed a w
  | 0, _, _, _, hh => hh
  | fuel + 1, listed, a, w, hh => ⟨hh.1, fun i hi => wpOp_mono (fun a' w' h' => ⟨h _ h'.1, wpAnyH_mono h fuel _ a' w' h'.2⟩) (hh.2 i hi)⟩
mutual
theorem veq_eq : ∀ a b : Value, veq a b = true → a = b
  | .bool a, b, h => by cases b <;> simp_all [veq]
  | .int k a, b, h => by cases b <;> simp_all [veq]
  | .string a, b, h => by cases b <;> simp [veq] at h; rw [bytes_eq h]
  | .pointer none, b, h => by
    cases b with
    | pointer b => cases b <;> simp_all [veq]
    | _ => simp [veq] at h
  | .pointer (some ⟨k, off, s⟩), b, h => by
    cases b with
    | pointer b => cases b with
      | none => simp [veq] at h
      | some b => obtain ⟨k', off', s'⟩ := b; simp [veq] at h; simp [h]
    | _ => simp [veq] at h
  | .slice none m c, b, h => by
    cases b with
    | slice b n d => cases b <;> simp_all [veq]
    | _ => simp [veq] at h
  | .slice (some ⟨k, off, s⟩) m c, b, h => by
    cases b with
    | slice b n d => cases b with
      | none => simp [veq] at h
      | some b => obtain ⟨k', off', s'⟩ := b; simp [veq] at h; simp [h]
    | _ => simp [veq] at h
  | .map none, b, h => by
    cases b with
    | map b => cases b <;> simp_all [veq]
    | _ => simp [veq] at h
  | .map (some r), b, h => by
    cases b with
    | map b => cases b <;> simp_all [veq]
    | _ => simp [veq] at h
  | .nilFunc, b, h => by cases b <;> simp_all [veq]
  | .nilIface, b, h => by cases b <;> simp_all [veq]
  | .iface t v, b, h => by
    cases b with
    | iface u w => simp only [veq, Bool.and_eq_true, beq_iff_eq] at h; rw [h.1, veq_eq v w h.2]
    | _ => simp [veq] at h
  | .agg x, b, h => by
    cases b with
    | agg y => simp only [veq] at h; rw [veqA_eq x y h]
    | _ => simp [veq] at h
  | .float _ _, b, h | .complex _ _ _, b, h | .chan _, b, h | .func _ _ _, b, h | .tuple _, b, h => by simp [veq] at h
theorem veqA_eq : ∀ a b : Array Value, veqA a b = true → a = b
  | ⟨x⟩, ⟨y⟩, h => by simp only [veqA] at h; rw [veqL_eq x y h]
theorem veqL_eq : ∀ a b : List Value, veqL a b = true → a = b
  | [], [], _ => rfl
  | [], _ :: _, h => by simp [veqL] at h
  | _ :: _, [], h => by simp [veqL] at h
  | a :: x, b :: y, h => by
    simp only [veqL, Bool.and_eq_true] at h
    rw [veq_eq a b h.1, veqL_eq x y h.2]
end
theorem sameR_spec {H : HV} : ∀ {R : Reads}, sameR H R = true → ∀ p ∈ R, ∃ cs t lo ow, H.get p.1 = some (.cells cs t lo ow) ∧ (cs.drop p.2.1).take p.2.2.length = p.2.2
  | [], h, p, hp => by cases hp
  | (k, off, l) :: r, h, p, hp => by
    simp only [sameR, Bool.and_eq_true] at h
    rcases List.mem_cons.1 hp with rfl | hp
    · obtain ⟨h1, _⟩ := h
      split at h1 <;> first | (simp at h1; done) | skip
      rename_i cs t lo ow hg
      exact ⟨cs, t, lo, ow, hg, veqL_eq _ _ h1⟩
    · exact sameR_spec h.2 p hp
theorem cells_of_same {σ : Sg} {k off : Nat} {l cs : List Value} {t : TypeId} {lo ow : Bool} {w : World} (ho : objAt P σ k (.cells cs t lo ow) w) (h : (cs.drop off).take l.length = l) : cellsAt σ k off l w := by
  intro j u hj
  refine obj_cells ho _ _ ?_
  rw [← h, List.getElem?_take] at hj
  split at hj
  · simpa using hj
  · cases hj
theorem cellsAt_agree {n : Nat} {σ τ : Sg} {k off : Nat} {l : List Value} {w : World} (ha : Agree n σ τ) (hk : okN n k = true) (hl : ∀ u ∈ l, fits n u = true) (h : cellsAt τ k off l w) : cellsAt σ k off l w := by
  intro j u hj
  have := h j u hj
  rw [(ha k hk).1, ren_agree ha u (hl u (List.mem_of_getElem? hj))] at this
  exact this
end Go.Proofs.Ytmmnjphmiijbcaa.sx
