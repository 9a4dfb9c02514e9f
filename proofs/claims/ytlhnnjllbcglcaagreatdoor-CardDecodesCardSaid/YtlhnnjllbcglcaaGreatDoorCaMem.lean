/- Cards and lists of triggers in memory. -/
import Derived.Test.YtlhnnjllbcglcaaGreatDoorEfAll
import Derived.Test.YtlhnnjllbcglcaaGreatDoorCaMaEq
namespace Go.Proofs.YtlhnnjllbcglcaaGreatDoor.caFn
open Go.ChangeShapes Go.WideShapes Go.ChangeAt Go.RowKit drMem efFn
set_option linter.unusedVariables false

/- a trigger as data, a card as data -/
structure Tr where
  w : Int
  e : List Ef
deriving DecidableEq
instance : Inhabited Tr := ⟨⟨0, []⟩⟩
structure Cd where
  nm : List UInt8
  kd : Int
  a : Int
  b : Int
  c : Int
  d : Int
  x : Int
  ml : Int
  pw : Int
  tg : Int
  kw : Int
  ef : List Ef
  tr : List Tr
  ra : Int
deriving DecidableEq
/- a card as a value, as cells -/
abbrev cV (nm : ByteArray) (kd a b c d x mk pw tg kw : Int) (es : Option Addr) (en ec : Nat) (ts : Option Addr) (tn tc : Nat) (ra : Int) : Value :=
  .agg #[.string nm, .int .i64 kd, .int .i64 a, .int .i64 b, .int .i64 c, .int .i64 d, .int .i64 x, .int .i64 mk, .int .i64 pw, .int .i64 tg, .int .i64 kw, .slice es en ec, .slice ts tn tc, .int .i64 ra]
abbrev cL (nm : ByteArray) (kd a b c d x mk pw tg kw : Int) (es : Option Addr) (en ec : Nat) (ts : Option Addr) (tn tc : Nat) (ra : Int) : List Value :=
  [.string nm, .int .i64 kd, .int .i64 a, .int .i64 b, .int .i64 c, .int .i64 d, .int .i64 x, .int .i64 mk, .int .i64 pw, .int .i64 tg, .int .i64 kw, .slice es en ec, .slice ts tn tc, .int .i64 ra]
abbrev tV (k : Int) (s : Option Addr) (n c : Nat) : Value := .agg #[.int .i64 k, .slice s n c]
abbrev tL (k : Int) (s : Option Addr) (n c : Nat) : List Value := [.int .i64 k, .slice s n c]
/- the trigger at a place of a block: its effects lie below B -/
structure TrAt (w : World) (b o : Nat) (t : Tr) (s : Option Addr) (n c : Nat) : Prop where
  c0 : w.cell? ⟨b, o, none⟩ = some (.int .i64 t.w)
  c1 : w.cell? ⟨b, o + 1, none⟩ = some (.slice s n c)
  e : EfsAt w s n t.e
structure TrsAt (w : World) (sp : Option Addr) (len : Nat) (l : List Tr) : Prop where
  n : l.length = len
  m : len ≤ 9223372036854775807
  c : 0 < len → ∃ b off, sp = some ⟨b, off, none⟩ ∧ b < w.heap.size ∧ ∀ i t, l[i]? = some t → ∃ s n c, TrAt w b (off + i * 2) t s n c
  v : ∀ t ∈ l, i64ok t.w
section
variable {w w' : World} {b o : Nat} {t : Tr} {s sp : Option Addr} {n c len : Nat} {l : List Tr}
theorem TrAt.below {B : Nat} (h : TrAt w b o t s n c) (hb : Below B w w') (hg : b < B) (hs : w.heap.size ≤ B) : TrAt w' b o t s n c :=
  ⟨(hb.cell (p := ⟨b, _, none⟩) hg).trans h.c0, (hb.cell (p := ⟨b, _, none⟩) hg).trans h.c1, h.e.below hb hs⟩
theorem TrsAt.below {B : Nat} (h : TrsAt w sp len l) (hb : Below B w w') (hs : w.heap.size ≤ B) : TrsAt w' sp len l :=
  ⟨h.n, h.m, fun h0 => by
    obtain ⟨b, off, e, hl, hc⟩ := h.c h0
    exact ⟨b, off, e, by have := hb.size; omega, fun i x hx => by
      obtain ⟨s, n, c, hk⟩ := hc i x hx
      exact ⟨s, n, c, hk.below hb (by omega) hs⟩⟩, h.v⟩
theorem TrsAt.nil (w : World) (sp : Option Addr) : TrsAt w sp 0 [] := ⟨rfl, by omega, fun h => absurd h (by omega), by simp⟩
theorem getT {l : List Tr} {k : Nat} (h : k < l.length) : l[k]? = some (l.getD k default) := by
  simp [List.getD_eq_getElem?_getD, h]
end
/- a card in memory: what its two slices hold -/
structure CdAt (w : World) (es : Option Addr) (en : Nat) (ef : List Ef) (ts : Option Addr) (tn : Nat) (tr : List Tr) : Prop where
  e : EfsAt w es en ef
  t : TrsAt w ts tn tr
theorem CdAt.below {w w' : World} {es ts : Option Addr} {en tn : Nat} {ef : List Ef} {tr : List Tr} {B : Nat} (h : CdAt w es en ef ts tn tr) (hb : Below B w w') (hs : w.heap.size ≤ B) : CdAt w' es en ef ts tn tr := ⟨h.e.below hb hs, h.t.below hb hs⟩

/- a name that is allowed -/
def nameB (l : List UInt8) : Bool := decide (1 ≤ l.length) && (decide (l.length ≤ 32) && (!(l.getD 0 0 == 32) && (!(l.getD (l.length - 1) 0 == 32) && l.all fun b => decide (32 ≤ b.toNat) && decide (b.toNat ≤ 126))))
/- an effect that is one on the creature that has it -/
def onB (e : Ef) : Bool := (e.c == 8 || e.c == 9) && e.t == 0
def trB (t : Tr) : Bool := decide (1 ≤ t.w) && (decide (t.w ≤ 3) && (decide (1 ≤ t.e.length) && (decide (t.e.length ≤ 2) && (allB t.e && decide (tgN t.e = 0)))))
/- triggers: few enough, valid, and none of the same occasion as an earlier one -/
def trsOk (l : List Tr) (k : Nat) : Bool := (List.range k).all fun i => trB (l.getD i default) && !(l.take i).any fun u => u.w == (l.getD i default).w
def trsB (l : List Tr) : Bool := decide (l.length ≤ 2) && trsOk l l.length
theorem trsOk_succ (l : List Tr) (k : Nat) : trsOk l (k + 1) = (trsOk l k && (trB (l.getD k default) && !(l.take k).any fun u => u.w == (l.getD k default).w)) := by
  simp [trsOk, List.range_succ, List.all_append]
theorem trsOk_no (l : List Tr) (k n : Nat) (h : k < n) (h2 : (trB (l.getD k default) && !(l.take k).any fun u => u.w == (l.getD k default).w) = false) : trsOk l n = false := by
  unfold trsOk
  rw [List.all_eq_false]
  exact ⟨k, List.mem_range.2 h, by rw [h2]; simp⟩
def zeroC (a b c d x : Int) : Bool := maFn.eq5 a b c d x 0 0 0 0 0
def srcB (q : Cd) : Bool := maFn.okN 3 q.ml && (zeroC q.a q.b q.c q.d q.x && (q.pw == 0 && (q.tg == 0 && (q.kw == 0 && (decide (q.ef = []) && decide (q.tr = []))))))
def creB (q : Cd) : Bool := maFn.okC q.a q.b q.c q.d q.x && (q.ml == 0 && (decide (0 ≤ q.pw) && (decide (q.pw ≤ 20) && (decide (1 ≤ q.tg) && (decide (q.tg ≤ 20) && (decide (0 ≤ q.kw ∧ q.kw ≤ 15) && (allB q.ef && trsB q.tr)))))))
def splB (q : Cd) : Bool := maFn.okC q.a q.b q.c q.d q.x && (decide (0 < q.ef.length) && (allB q.ef && (!q.ef.any onB && (q.ml == 0 && (q.pw == 0 && (q.tg == 0 && (q.kw == 0 && decide (q.tr = []))))))))
def kindB (q : Cd) : Bool := if q.kd = 1 then srcB q else if q.kd = 2 then creB q else if q.kd = 3 ∨ q.kd = 4 then splB q else false
def okCd (q : Cd) : Bool := nameB q.nm && (decide (1 ≤ q.ra) && (decide (q.ra ≤ 4) && kindB q))
/- two cards are equal -/
def eqCd (p q : Cd) : Bool := decide (p.nm = q.nm) && (p.kd == q.kd && (p.ra == q.ra && (maFn.eq5 p.a p.b p.c p.d p.x q.a q.b q.c q.d q.x && (p.ml == q.ml && (p.pw == q.pw && (p.tg == q.tg && (p.kw == q.kw && (decide (p.ef = q.ef) && decide (p.tr = q.tr)))))))))
theorem eqCd_iff (p q : Cd) : eqCd p q = true ↔ p = q := by
  obtain ⟨⟩ := p
  obtain ⟨⟩ := q
  simp only [eqCd, Bool.and_eq_true, decide_eq_true_eq, beq_iff_eq, maFn.eq5_iff, Cd.mk.injEq]
  constructor
  · rintro ⟨h1, h2, h3, ⟨⟨h4, h5, h6, h7⟩, h8⟩, h9, ha, hb, hc, hd, he⟩
    exact ⟨h1, h2, h4, h5, h6, h7, h8, h9, ha, hb, hc, hd, he, h3⟩
  · rintro ⟨h1, h2, h4, h5, h6, h7, h8, h9, ha, hb, hc, hd, he, h3⟩
    exact ⟨h1, h2, h3, ⟨⟨h4, h5, h6, h7⟩, h8⟩, h9, ha, hb, hc, hd, he⟩
end Go.Proofs.YtlhnnjllbcglcaaGreatDoor.caFn
