/- What New and Set leave; the law's helpers where and top. -/
import Derived.Test.YtklohgecgjlgeaaZoOps
import Derived.Test.YtklohgecgjlgeaaZoSort
import Derived.Test.YtklohgecgjlgeaaIdSame
import Derived.Deep.OwnRows
namespace Go.Proofs.Ytklohgecgjlgeaa.zoFn
open Go.ChangeShapes Go.WideShapes Go.ChangeAt Go.RowKit drMem
set_option linter.unusedVariables false
variable {F G : Nat → Prop} {w w' W W' : World} {b gl mb : Nat} {L : List (List Int)}

theorem infoS : (Try.prog.info? 35).map (fun i => (i.zero, i.size, i.bytes)) = some (some (.slice none 0 0), 1, 24) := by kernel_rfl
theorem made_list (z : Value) (n : Nat) : madeCells #[z] n = (List.replicate n z).toArray := by
  apply Array.ext
  · simp [size_madeCells]
  · intro i h1 h2; simp [madeCells, Nat.mod_one]
theorem rep_getD (n i : Nat) : (List.replicate n d0).getD i d0 = d0 := by
  rw [List.getD_eq_getElem?_getD, List.getElem?_replicate]
  split <;> rfl
/- zones of the call's own -/
structure SZ (w : World) (b gl mb : Nat) (L : List (List Int)) (W : World) : Prop where
  z : ZS (fun k => k < w.heap.size) W b gl mb L
  f : Below w.heap.size w W
theorem SZ.below (h : SZ w b gl mb L W) (hb : Below W.heap.size W W') : SZ w b gl mb L W' := ⟨h.z.below' hb, h.f.trans (hb.mono h.f.size)⟩
theorem SZ.step {M : List (List Int)} (h : SZ w b gl mb L W) (hz : ZS (fun k => k < w.heap.size) W' b gl mb M) (hk : KeepF (fun k => k < w.heap.size) W W') : SZ w b gl mb M W' := ⟨hz, h.f.trans (hk.below fun k hk => hk)⟩
theorem SZ.drewN (h : SZ w b gl mb L W) (n : Nat) : SZ w b gl mb L (W.drewN n) := h.below ⟨rfl, rfl, rfl, Nat.le_refl _, fun _ _ => rfl⟩
def newPost (w : World) (n : Nat) (W : World) (e : Ending) (W' : World) : Prop :=
  ∃ b gl mb, e = .returned (.tuple #[.pointer (some ⟨b, 0, none⟩), .int .i64 0]) ∧ SZ w b gl mb (List.replicate n []) W'
set_option maxHeartbeats 1000000 in
theorem New_any (n : Nat) (h1 : 1 ≤ n) (h2 : n ≤ 32) (w W : World) (hw : Below w.heap.size w W) : Calls Try.prog 7 #[.int .i64 (n : Int)] W (newPost w n W) := by
  have hmk := fun V => run_make_row' (P := Try.prog) 40 35 (.slice none 0 0) 24 Try.underlying40 infoS rfl .i64 .i64 n (by omega) (by omega) V
  have hmm := @run_makeMap Try.prog
  have dA : decide ((n : Int) < 1) = false := by simp; omega
  have dB : decide (32 < (n : Int)) = false := by simp; omega
  go_enter Try.func7, Try.ntmps7
  go_wp2
  go_ret2
  rw [made_list]
  obtain ⟨A, hA⟩ : ∃ A, W.alloc (.cells (List.replicate n (Value.slice none 0 0)).toArray 35) = A := ⟨_, rfl⟩
  have a1 : has A W.heap.size 35 (List.replicate n d0) := by rw [← hA]; exact has.new W _ _
  have aB : Below W.heap.size W A := by rw [← hA]; exact (Below.refl _ _).alloc (Nat.le_refl _) _
  have asz : A.heap.size = W.heap.size + 1 := by rw [← hA]; simp
  have hm := World.ownsMap_made (H := Unit) A Try.prog 3 (plainElem Try.prog 3)
  obtain ⟨M, hM⟩ : ∃ M, A.alloc (.map #[] 0) = M := ⟨_, rfl⟩
  rw [hM] at hm
  have mB : Below A.heap.size A M := by rw [← hM]; exact (Below.refl _ _).alloc (Nat.le_refl _) _
  have ms : M.heap.size = A.heap.size + 1 := by rw [← hM]; simp
  have hwb : w.heap.size ≤ W.heap.size := hw.size
  refine ⟨A.heap.size + 1, W.heap.size, A.heap.size, ?_, ?_⟩
  · simp [asz]
  · simp only [hA, hM]
    have zB : ∀ o, Below M.heap.size M (M.alloc o) := fun o => (Below.refl _ _).alloc (Nat.le_refl _) _
    obtain ⟨o, ho⟩ : ∃ o, o = Obj.cells #[Value.slice (some ⟨W.heap.size, 0, none⟩) n n, Value.map (some A.heap.size)] 43 := ⟨_, rfl⟩
    have z1 : has (M.alloc o) (A.heap.size + 1) 43 [.slice (some ⟨W.heap.size, 0, none⟩) n n, .map (some A.heap.size)] := by rw [← ms, ho]; exact has.new M _ _
    have l1 : has (M.alloc o) W.heap.size 35 (List.replicate n d0) := (a1.below mB a1.lt).below (zB o) (by rw [ms]; omega)
    have m1 := tight (hm.alloc o)
    have hsz : (M.alloc o).heap.size = W.heap.size + 3 := by simp [ms, asz]
    have hf : Below w.heap.size w (M.alloc o) := ((hw.trans (aB.mono hwb)).trans (mB.mono (by omega))).trans ((zB o).mono (by omega))
    have H : SZ w (A.heap.size + 1) W.heap.size A.heap.size (List.replicate n []) (M.alloc o) := by
      refine ⟨⟨Good.rep n h1 h2, List.replicate n d0, .map [], ⟨by rw [List.length_replicate]; exact z1, l1, by simp, fun i hi => ?_, fun i j g hi hj e1 e2 => ?_, fun i g hi e => ?_, fun h => ?_, fun h => ?_, fun h => ?_, fun k hk => ?_, m1⟩, Home.rep n⟩, hf⟩
      · rw [rep_getD, row_rep]; exact rowAt.nil _
      · rw [rep_getD] at e1; cases e1
      · rw [rep_getD] at e; cases e
      · have h' : A.heap.size + 1 < w.heap.size := h; omega
      · have h' : W.heap.size < w.heap.size := h; omega
      · have h' : A.heap.size < w.heap.size := h; omega
      · have h' : k < w.heap.size := hk; omega
    rw [ho] at H
    simpa [asz] using H
theorem New_no (n : Int) (h : n < 1 ∨ 32 < n) (w : World) : Calls Try.prog 7 #[.int .i64 n] w fun e w' => e = .returned (.tuple #[.pointer none, .int .i64 2]) ∧ w = w' := by
  by_cases h1 : n < 1
  · have dA : decide (n < 1) = true := by simpa using h1
    clear h h1
    go_enter Try.func7, Try.ntmps7
    go_wp2
    go_ret2
    exact ⟨rfl, rfl⟩
  · have dA : decide (n < 1) = false := by simpa using h1
    have dB : decide (32 < n) = true := by simp; omega
    clear h h1
    go_enter Try.func7, Try.ntmps7
    go_wp2
    go_ret2
    exact ⟨rfl, rfl⟩
theorem sortI_mem {a c : List Int} (h : sortI a = sortI c) (y : Int) : y ∈ c ↔ y ∈ a := by
  have h1 : (sortI a).Perm a := List.mergeSort_perm _ _
  have h2 : (sortI c).Perm c := List.mergeSort_perm _ _
  rw [← h1.mem_iff, ← h2.mem_iff, h]
theorem sortI_nodup {a c : List Int} (h : sortI a = sortI c) (hn : a.Nodup) : c.Nodup := by
  have h1 : (sortI a).Perm a := List.mergeSort_perm _ _
  have h2 : (sortI c).Perm c := List.mergeSort_perm _ _
  exact h2.nodup_iff.1 (h ▸ h1.nodup_iff.2 hn)
def setL (L : List (List Int)) (i : Nat) (l : List Int) : List (List Int) := if sameI (row L i) l = true then L.set i l else L
def setE (L : List (List Int)) (i : Nat) (l : List Int) : Int := if sameI (row L i) l = true then 0 else 10
set_option maxHeartbeats 4000000 in
theorem Set_any (h : ZS F w b gl mb L) {i : Nat} (hi : i < L.length) {v : Value} {l : List Int} (r : rowAt w v l) (h0 : 0 < (row L i).length) (hl : l.length ≤ 4096) :
    Calls Try.prog 20 #[.pointer (some ⟨b, 0, none⟩), .int .i64 (i : Int), v] w (opPost F w b gl mb (setE L i l) (setL L i l)) := by
  have h1 := h.good.n1
  have n0 : L.length ≠ 0 := by omega
  have HZ := Lib.hid (zero_any h.nm)
  rw [decide_eq_false n0] at HZ
  have HN := Lib.hid (isZone_any h.nm (i : Int))
  have hok : okZ L.length (i : Int) = true := by unfold okZ; simp; exact hi
  rw [hok] at HN
  have c0 := h.c0
  obtain ⟨u, hu, hr⟩ := h.row hi
  have HS := Lib.hid (sameIDs_any hr r h0 (h.good.len i) hl)
  have hL := h.good.n2
  have H := Lib.hid h
  have HR := Lib.hid r
  obtain ⟨su, cu, hus, _, _⟩ := hr.form
  obtain ⟨sv, cv, rfl, _, _⟩ := r.form
  subst hus
  unfold setE setL
  clear h h1 n0 hok r hr
  cases hs : sameI (row L i) l
  · rw [hs] at HS
    simp only [Bool.false_eq_true, if_false]
    generalize (row L i).length = n at *
    clear h0 hs
    go_enter Try.func20, Try.ntmps20
    go_wp2_with (first | (go_at_call 29; refine HZ.out.mono ?_; rintro e w' ⟨rfl, rfl⟩) | (go_at_call 31; refine HN.out.mono ?_; rintro e w' ⟨rfl, rfl⟩) | (go_at_call 36; refine HS.out.mono ?_; rintro e w1 ⟨rfl, hb⟩; have B := Lib.hid hb; clear hb))
    go_ret
    exact ⟨rfl, H.out.below' B.out, KeepF.of_below B.out H.out.ft⟩
  · rw [hs] at HS
    simp only [if_true]
    have hsort : sortI (row L i) = sortI l := by
      simp only [sameI, Bool.and_eq_true, decide_eq_true_eq, beq_iff_eq] at hs
      exact hs.2
    have HSO := Lib.hid hsort
    have hlen : (row L i).length = l.length := by
      simp only [sameI, Bool.and_eq_true, decide_eq_true_eq, beq_iff_eq] at hs
      exact hs.1
    have HLE := Lib.hid hlen
    clear hs hsort hlen h0
    have hblt := H.out.z.lt
    generalize (row L i).length = n at hu HS
    go_enter Try.func20, Try.ntmps20
    go_wp2_with (first | (go_at_call 29; refine HZ.out.mono ?_; rintro e w' ⟨rfl, rfl⟩) | (go_at_call 31; refine HN.out.mono ?_; rintro e w' ⟨rfl, rfl⟩) | (go_at_call 36; refine HS.out.mono ?_; rintro e w1 ⟨rfl, hb⟩; have B := Lib.hid hb; clear hb))
    have hb1 : Below w.heap.size w w1.drew := ⟨B.out.os, B.out.tape, B.out.output, B.out.size, B.out.block⟩
    have c2 : w1.cell? ⟨b, 0, none⟩ = some (.slice (some ⟨gl, 0, none⟩) L.length L.length) := (B.out.cell (p := ⟨b, 0, none⟩) hblt).trans c0
    have HK := Lib.hid (KeepF.of_below hb1 H.out.ft)
    have HRW : Hid (rowAt w1.drew (.slice sv l.length cv) l) := Lib.hid (HR.out.keep fun g e => B.out.block g (HR.out.lt e))
    obtain ⟨hg, vs, D, hm, hh⟩ := H.out.below' hb1
    have HC := Lib.hid (Clone_any HRW.out hl)
    have HM := Lib.hid hm
    have HG := Lib.hid hg
    have HH := Lib.hid hh
    have hblt2 := hm.z.lt
    have n3 : gl ≠ b := Ne.symm (hm.z.ne hm.l (by decide))
    clear hm hg hh hb1 hu c0
    go_region_held3 (fun w' => w'.cell? ⟨b, 0, none⟩ = some (.slice (some ⟨gl, 0, none⟩) L.length L.length)) (first | assumption | go_keep) (first | (go_at_call 35; refine HC.out.mono ?_; rintro e w3 ⟨v', rfl, ho, hb3⟩; have c3 := (hb3.cell (p := ⟨b, 0, none⟩) hblt2).trans c2; obtain ⟨hr3, hown3, _⟩ := rowAt.own ho; obtain ⟨sp', n', c', rfl⟩ := hr3.shape; obtain ⟨x0, x1, x2, x3⟩ := HM.out.after hi rfl (grown_of_below hb3 _); have R3 := Lib.hid hr3; have O3 := Lib.hid hown3; have B3 := Lib.hid hb3; clear hr3 hown3 hb3 ho))
    have hp := HM.out.put hi (v := .slice sp' n' c') (l := l) (grown_of_below B3.out _) R3.out (fun g e => .inr (O3.out g e))
    go_wp2
    go_ret
    refine ⟨rfl, ⟨HG.out.set hi (sortI_nodup HSO.out (HG.out.nd i)) fun y hy => ?_, _, _, hp.1, HH.out.perm hi (sortI_mem HSO.out) HLE.out.symm⟩, HK.out.trans hp.2⟩
    have hy2 := (sortI_mem HSO.out y).1 hy
    exact ⟨HG.out.rng i y hy2, fun j hj h2 => hj (HG.out.dj j i y h2 hy2)⟩
end Go.Proofs.Ytklohgecgjlgeaa.zoFn
