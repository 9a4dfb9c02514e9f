/- A list the other way round; append at a plain operation. -/
import Derived.Test.YtklohgecgjlgeaaZoNil
import Derived.Deep.LoopGhost
import Derived.Deep.Light
import Derived.Laws.AppendOwnNone
namespace Go.Proofs.Ytklohgecgjlgeaa.zoFn
open Go.ChangeShapes Go.WideShapes Go.ChangeAt Go.RowKit drMem
set_option linter.unusedVariables false
variable {F G : Nat → Prop} {w w' W W' : World} {b gl mb : Nat} {L M : List (List Int)}

theorem wpList_app {ops : Array Oper} {rest : List Oper} {o : Oper} {a : Act} {Q : Exit → Act → World → Prop} (hgd : o.guard = none) (s x : Operand)
    (ho : o.op = .call { callee := .builtin .append, args := #[s, x], argTypes := #[35, 35] })
    (v : Value) (l : List Int) (hs : a.eval s = v) (h : rowAt w v l) (ad : Addr) (m c : Nat) (ns : List Int) (hx : a.eval x = .slice (some ad) m c) (hl : ns.length = m) (hnews : ∀ j u, (is ns)[j]? = some u → w.cell? (ad.add j) = some u) (hb : l.length + m ≤ 65536)
    (hK : ∀ v' w', rowAt w' v' (l ++ ns) → w.grownBy w' v.ownBlock → (∀ g, v'.ownBlock = some g → v.ownBlock = some g ∨ w.heap.size ≤ g) → wpList Try.prog ops Q rest (a.put o.dst v') w') : wpList Try.prog ops Q (o :: rest) a w :=
  wpList_plain hgd fun _ hK' => wp_app s x ho v l hs h ad m c ns hx hl hnews hb fun v' w' h1 h2 h3 => hK' _ _ (hK v' w' h1 h2 h3)
theorem wpList_app_nil {ops : Array Oper} {rest : List Oper} {o : Oper} {a : Act} {Q : Exit → Act → World → Prop} (hgd : o.guard = none) (s x : Operand)
    (ho : o.op = .call { callee := .builtin .append, args := #[s, x], argTypes := #[35, 35] })
    (q : Nat) (y : Int) (hs : a.eval s = .slice (some ⟨q, 0, none⟩) 1 1) (h : has w q 3 [.int .i64 y]) (hx : a.eval x = .slice none 0 0)
    (hK : wpList Try.prog ops Q rest (a.put o.dst (.slice (some ⟨q, 0, none⟩) 1 1)) w) : wpList Try.prog ops Q (o :: rest) a w := by
  obtain ⟨i0, hi, hz0, hz1, hz2⟩ := info_parts infoI
  exact wpList_append_own_none hgd s x 35 ho 0 3 i0 1 Try.underlying35 hi _ 1 [.int .i64 y] hs ⟨rfl, .inr ⟨q, 1, #[.int .i64 y], rfl, Nat.zero_le _, h, Nat.le_refl _, by unfold maxLen; omega, rfl, rfl⟩⟩ hx hK
/- a new row of the call's own, and what it leaves -/
def newRow (l : List Int) (W : World) (e : Ending) (W' : World) : Prop := ∃ v, e = .returned v ∧ rowAt W' v l ∧ (∀ g, v.ownBlock = some g → W.heap.size ≤ g) ∧ Below W.heap.size W W'
structure BK (w : World) (v : Value) (l : List Int) (W : World) : Prop where
  r : rowAt W v l
  o : ∀ g, v.ownBlock = some g → w.heap.size ≤ g
  f : Below w.heap.size w W
theorem BK.app {v v' : Value} {l ns : List Int} {o : Obj} (h : BK w v l W) (hr : rowAt W' v' (l ++ ns)) (hg : (W.alloc o).grownBy W' v.ownBlock) (hv : ∀ g, v'.ownBlock = some g → v.ownBlock = some g ∨ (W.alloc o).heap.size ≤ g) : BK w v' (l ++ ns) W' := by
  have h1 := h.f.alloc h.f.size o
  have hs := h1.size
  refine ⟨hr, fun g e => ?_, h1.grown hg h1.size (fun k hk => h.o k hk)⟩
  rcases hv g e with h2 | h2
  · exact h.o g h2
  · omega
set_option maxHeartbeats 1000000 in
theorem back_any {v : Value} {l : List Int} (r : rowAt w v l) (hl : l.length ≤ 4096) : Calls Try.prog 19 #[v] w (newRow l.reverse w) := by
  obtain ⟨sp, c, rfl, hs, _⟩ := r.form
  obtain ⟨n, hn⟩ : ∃ n, l.length = n := ⟨_, rfl⟩
  have HS := Lib.hid hs
  have HN := Lib.hid hn
  rw [hn] at hl ⊢
  clear hs hn r
  have B0 : Hid (BK w (.slice none 0 0) ((l.drop n).reverse) w) := Lib.hid ⟨by rw [List.drop_of_length_le (by rw [HN.out]; exact Nat.le_refl _)]; exact rowAt.nil _, fun g e => (by cases e), Below.refl _ _⟩
  have e0 : IntKind.i64.wrap ((n : Int) - 1) = (n : Int) - 1 := IntWalk.i64_in _ (by omega)
  go_enter Try.func19, Try.ntmps19
  go_wp2
  go_loopg [3, 4] n (fun gh u i wx => ∃ k : Nat, k ≤ n ∧ k = gh ∧ i = .int .i64 ((k : Int) - 1) ∧ Hid (BK w u ((l.drop k).reverse) wx))
  case atStart => exact ⟨n, Nat.le_refl _, rfl, rfl, B0⟩
  case round =>
    obtain ⟨k, hk, rfl, rfl, hb⟩ := hrel
    clear B0 e0
    rcases Nat.eq_zero_or_pos k with h0 | h0
    · subst h0
      have HB := hb
      go_wp2
      go_ret
      exact ⟨_, rfl, by have := HB.out.r; rw [List.drop_zero] at this; exact this, HB.out.o, HB.out.f⟩
    · obtain ⟨j, rfl⟩ : ∃ j, k = j + 1 := ⟨k - 1, by omega⟩
      obtain ⟨g, off, rfl, hg, hc⟩ := HS.out (by rw [is_len, HN.out]; omega)
      have x0 := (hb.out.f.cell (p := ⟨g, off + j, none⟩) hg).trans (hc j _ (is_get l j (by rw [HN.out]; omega)))
      have e1 : ((((j + 1 : Nat) : Int)) - 1) = (j : Int) := by omega
      have e2 : IntKind.i64.wrap ((j : Int) - 1) = (j : Int) - 1 := IntWalk.i64_in _ (by omega)
      have e3 : (l.drop (j + 1)).reverse ++ [l.getD j 0] = (l.drop j).reverse := by
        rw [List.drop_eq_getElem_cons (i := j) (by rw [HN.out]; omega), List.reverse_cons, List.getD_eq_getElem?_getD, List.getElem?_eq_getElem (by rw [HN.out]; omega)]; rfl
      have hj : j < n := by omega
      rw [e1]
      have E3 := Lib.hid e3
      have HB := hb
      clear hc e3 hb e1 h0
      generalize l.getD j 0 = x at *
      go_wp2_with (at_builtin; refine wpList_app rfl _ _ rfl _ _ rfl (HB.out.r.alloc _) ⟨wr.heap.size, 0, none⟩ 1 1 [x] rfl rfl (cell_one_new _ _ _) (by rw [List.length_reverse, List.length_drop, HN.out]; omega) ?_; intro v' w2 hr2 hg2 hv2; have NX := Lib.hid (HB.out.app hr2 hg2 hv2); clear hr2 hg2 hv2)
      go_roundg j
      case measure => go_light; omega
      case rel => go_light; exact ⟨j, by omega, rfl, rfl, by rw [← E3.out]; exact NX⟩
end Go.Proofs.Ytklohgecgjlgeaa.zoFn
