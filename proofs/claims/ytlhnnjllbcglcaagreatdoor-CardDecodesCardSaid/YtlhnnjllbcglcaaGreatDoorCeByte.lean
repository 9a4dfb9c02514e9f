/- Bytes in memory, and the bytes of lists of effects. -/
import Derived.Test.YtlhnnjllbcglcaaGreatDoorEfAll
import Derived.Laws.IdiomStrings
import Derived.Lib.BufferRead
namespace Go.Proofs.YtlhnnjllbcglcaaGreatDoor.efFn
open Go.ChangeShapes Go.WideShapes Go.ChangeAt Go.RowKit drMem
set_option linter.unusedVariables false

def bys (l : List UInt8) : List Value := l.map fun b => .int .u8 (b.toNat : Int)
theorem bys_len (l : List UInt8) : (bys l).length = l.length := by simp [bys]
theorem bys_get (l : List UInt8) (j : Nat) (h : j < l.length) : (bys l)[j]? = some (.int .u8 (l[j].toNat : Int)) := by simp [bys, h]
theorem bys_one (l : List UInt8) : ∀ u ∈ bys l, u.oneCell' = true := by intro u hu; obtain ⟨x, _, rfl⟩ := List.mem_map.1 hu; rfl
theorem bys_app (a b : List UInt8) : bys (a ++ b) = bys a ++ bys b := by simp [bys]
structure BsAt (w : World) (sp : Option Addr) (len : Nat) (l : List UInt8) : Prop where
  n : l.length = len
  m : len ≤ 9223372036854775807
  c : src w sp (bys l)
section
variable {w w' : World} {sp : Option Addr} {len : Nat} {l : List UInt8}
theorem BsAt.below {B : Nat} (h : BsAt w sp len l) (hb : Below B w w') (hs : w.heap.size ≤ B) : BsAt w' sp len l := ⟨h.n, h.m, h.c.below hb hs⟩
theorem BsAt.nil (w : World) (sp : Option Addr) : BsAt w sp 0 [] := ⟨rfl, by omega, src.nil _ _⟩
theorem BsAt.str (h : BsAt w sp len l) (cap : Nat) : (convert 38 9 (.slice sp len cap)).run Tryz.prog w = .ok (.string (bs l)) w := by
  obtain ⟨hn, _, hc⟩ := h
  subst hn
  rcases Nat.eq_zero_or_pos l.length with h0 | h0
  · obtain rfl := List.eq_nil_of_length_eq_zero h0
    cases sp with
    | none => exact Lib.run_convert_nil_bytes w _ _ _ _ Tryz.underlying38 Tryz.underlying5 Tryz.underlying9
    | some a => exact run_convert_bytes_back w _ _ _ a cap [] Tryz.underlying38 Tryz.underlying5 Tryz.underlying9 (fun j hj => by simp at hj)
  · obtain ⟨b, off, rfl, _, hk⟩ := hc (by rw [bys_len]; exact h0)
    refine run_convert_bytes_back w _ _ _ _ cap l Tryz.underlying38 Tryz.underlying5 Tryz.underlying9 (fun j hj => ?_)
    rw [addr_add]
    exact hk j _ (bys_get l j hj)
end
section
variable {H : Type} {enc : TypeId × Value → H} {w : World}
theorem cB : Tryz.prog.cellsOf 5 = 1 := by kernel_rfl
theorem src_of_cells {a : Addr} {xs : List Value} (h : ∀ j, j < xs.length → w.cell? (a.add j) = xs[j]?) : src w (some a) xs := fun h0 => by
  obtain ⟨b, off, spot⟩ := a
  have h1 := h 0 h0
  rw [List.getElem?_eq_getElem h0] at h1
  have hspot : spot = none := by simpa [Addr.add] using World.cell?_spot h1
  subst hspot
  refine ⟨b, off, rfl, ?_, fun j u hu => ?_⟩
  · rw [addr_add] at h1; exact World.block_lt_of_cell? _ _ h1
  · have hj := (List.getElem?_eq_some_iff.1 hu).1
    rw [← addr_add, h j hj]; exact hu
theorem u8_int (x : Int) (h0 : 0 ≤ x) (h1 : x < 256) : ((UInt8.ofNat x.toNat).toNat : Int) = x := by
  simp; omega
theorem open_bs {fuel : Nat} {v : Value} {x : DataW H × List MemPlace} (h : DataW.trod enc Tryz.prog w 0 (fun _ => true) true fuel 38 [v] = some x) :
    ∃ (sp : Option Addr) (len cap : Nat) (l : List UInt8), v = .slice sp len cap ∧ BsAt w sp len l ∧ len ≤ cap := by
  rcases open_ints Tryz.underlying38 Tryz.underlying5 cB h with ⟨hv, _⟩ | ⟨a, len, cap, zs, hv, _, hl, hm, hz, _, hc, hw⟩
  · cases hv
    exact ⟨none, 0, 0, [], rfl, BsAt.nil _ _, Nat.le_refl _⟩
  · cases hv
    have hz' : zs.length = cap := by simpa using hz
    have hwf : ∀ n ∈ zs, 0 ≤ n ∧ n < 256 := fun n hn => by have := bounds_u8 (hw n hn); omega
    refine ⟨some a, len, cap, (zs.take len).map fun n => UInt8.ofNat n.toNat, rfl, ⟨by simp [hz', hl], by unfold maxLen at hm; omega, src_of_cells fun j hj => ?_⟩, hl⟩
    have hj' : j < len := by simp [bys] at hj; omega
    have hjz : j < zs.length := by omega
    rw [hc j hjz, bys_get _ j (by simp; omega)]
    have h0 := hwf _ (List.getElem_mem hjz)
    have h1 := u8_int _ h0.1 h0.2
    simp only [List.getElem_map, List.getElem_take, h1]
    simp [List.getD_eq_getElem?_getD, hjz]
end

/- the bytes of an effect, and of a list of them -/
def u8 (x : Int) : UInt8 := UInt8.ofNat x.toNat
theorem u8_of (x : Int) (h0 : 0 ≤ x) (h1 : x < 256) : ((u8 x).toNat : Int) = x := u8_int x h0 h1
def Ef.by (e : Ef) : List UInt8 := [u8 e.c, u8 e.t, u8 e.n, u8 e.m, u8 e.k]
def efB (l : List Ef) : List UInt8 := l.flatMap Ef.by
def encB (l : List Ef) : List UInt8 := u8 l.length :: efB l
theorem efB_len (l : List Ef) : (efB l).length = 5 * l.length := by
  induction l with
  | nil => rfl
  | cons a r ih => simp only [efB, List.flatMap_cons, List.length_append, List.length_cons] at *; simp [Ef.by] at *; omega
/- what a valid effect is made of -/
structure Ef.bd (e : Ef) : Prop where
  c0 : 1 ≤ e.c
  c1 : e.c ≤ 12
  t0 : 0 ≤ e.t
  t1 : e.t ≤ 6
  n0 : 0 ≤ e.n
  n1 : e.n ≤ 99
  m0 : 0 ≤ e.m
  m1 : e.m ≤ 9
  k0 : 0 ≤ e.k
  k1 : e.k ≤ 3
theorem okN_bd {c n m k : Int} (h : okN c n m k = true) : 0 ≤ n ∧ n ≤ 99 ∧ 0 ≤ m ∧ m ≤ 9 ∧ 0 ≤ k ∧ k ≤ 3 := by
  unfold okN at h
  repeat' split at h
  all_goals (have := of_decide_eq_true h; omega)
end Go.Proofs.YtlhnnjllbcglcaaGreatDoor.efFn
