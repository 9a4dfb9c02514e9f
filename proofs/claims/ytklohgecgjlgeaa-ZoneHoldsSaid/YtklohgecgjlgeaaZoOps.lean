/- What Put, Under, Move, Remove leave. -/
import Derived.Test.YtklohgecgjlgeaaZoIns
import Derived.Test.YtklohgecgjlgeaaZoOut
namespace Go.Proofs.Ytklohgecgjlgeaa.zoFn
open Go.ChangeShapes Go.WideShapes Go.ChangeAt Go.RowKit drMem
set_option linter.unusedVariables false
variable {F G : Nat → Prop} {w w' : World} {b gl mb : Nat} {L : List (List Int)}

theorem entE_ok {n : Nat} {L : List (List Int)} {x z : Int} (he : entE n L x z = 0) : n ≠ 0 ∧ okID x = true ∧ okZ n z = true ∧ inL L x = false := by
  unfold entE at he
  split at he
  · cases he
  · next h0 =>
    split at he
    · cases he
    · next h1 =>
      split at he
      · cases he
      · next h2 =>
        refine ⟨h0, ?_, ?_, by simpa using h2⟩
        · cases e : okID x
          · exact absurd (.inl e) h1
          · rfl
        · cases e : okZ n z
          · exact absurd (.inr e) h1
          · rfl
def movE (n : Nat) (L : List (List Int)) (x z : Int) : Int := if n = 0 then 1 else if okID x = false ∨ okZ n z = false then 2 else if inL L x = false then 9 else 0
theorem movE_ok {n : Nat} {L : List (List Int)} {x z : Int} (he : movE n L x z = 0) : n ≠ 0 ∧ okID x = true ∧ okZ n z = true ∧ inL L x = true := by
  unfold movE at he
  split at he
  · cases he
  · next h0 =>
    split at he
    · cases he
    · next h1 =>
      split at he
      · cases he
      · next h2 =>
        refine ⟨h0, ?_, ?_, by simpa using h2⟩
        · cases e : okID x
          · exact absurd (.inl e) h1
          · rfl
        · cases e : okZ n z
          · exact absurd (.inr e) h1
          · rfl
def putL (L : List (List Int)) (x z : Int) : List (List Int) := if entE L.length L x z = 0 then topL L x z.toNat else L
def undL (L : List (List Int)) (x z : Int) : List (List Int) := if entE L.length L x z = 0 then botL L x z.toNat else L
def movL (L : List (List Int)) (x z : Int) : List (List Int) := if movE L.length L x z = 0 then topL (outL L x) x z.toNat else L
def remL (L : List (List Int)) (x : Int) : List (List Int) := if leaE L.length L x = 0 then outL L x else L
/- what a call leaves -/
def opPost (F : Nat → Prop) (w : World) (b gl mb : Nat) (er : Int) (M : List (List Int)) (e : Ending) (w' : World) : Prop := e = .returned (.int .i64 er) ∧ ZS F w' b gl mb M ∧ KeepF F w w'
def i64ok (x : Int) : Prop := -9223372036854775808 ≤ x ∧ x ≤ 9223372036854775807
set_option maxHeartbeats 1000000 in
theorem Put_any (h : ZS F w b gl mb L) (x z : Int) (hx : i64ok x) : Calls Try.prog 9 #[.pointer (some ⟨b, 0, none⟩), .int .i64 x, .int .i64 z] w (opPost F w b gl mb (entE L.length L x z) (putL L x z)) := by
  have HE := Lib.hid (mayEnter_any h x z hx)
  unfold putL
  by_cases he : entE L.length L x z = 0
  · obtain ⟨_, h1, h2, h3⟩ := entE_ok he
    obtain ⟨i, rfl, hi⟩ := okZ_b h2
    have e : (i : Int).toNat = i := by omega
    have HP := Lib.hid (putOnTop_any h hi (okID_b h1) h3)
    rw [if_pos he, e]
    rw [he] at HE ⊢
    clear h h1 h2 h3 he e hx
    go_enter Try.func9, Try.ntmps9
    go_wp2_with (first | (go_at_call 26; refine HE.out.mono ?_; rintro e w' ⟨rfl, rfl⟩) | (go_at_call 27; refine HP.out.mono ?_; rintro e w' ⟨rfl, hz, hk⟩; have Z := Lib.hid hz; have K := Lib.hid hk; clear hz hk))
    go_ret
    exact ⟨rfl, Z.out, K.out⟩
  · rw [if_neg he]
    have H := Lib.hid h
    have d0 : (entE L.length L x z != 0) = true := by simpa using he
    generalize entE L.length L x z = er at *
    clear h he hx
    go_enter Try.func9, Try.ntmps9
    go_wp2_with (go_at_call 26; refine HE.out.mono ?_; rintro e w' ⟨rfl, rfl⟩)
    go_ret
    exact ⟨rfl, H.out, KeepF.refl _ _⟩
set_option maxHeartbeats 1000000 in
theorem Remove_any (h : ZS F w b gl mb L) (x : Int) (hx : i64ok x) : Calls Try.prog 14 #[.pointer (some ⟨b, 0, none⟩), .int .i64 x] w (opPost F w b gl mb (leaE L.length L x) (remL L x)) := by
  have HE := Lib.hid (mayLeave_any h x hx)
  unfold remL
  by_cases he : leaE L.length L x = 0
  · obtain ⟨_, h1, h3⟩ := leaE_in he
    have HP := Lib.hid (takeOut_any h h3)
    rw [if_pos he]
    rw [he] at HE ⊢
    clear h h1 h3 he hx
    go_enter Try.func14, Try.ntmps14
    go_wp2_with (first | (go_at_call 34; refine HE.out.mono ?_; rintro e w' ⟨rfl, rfl⟩) | (go_at_call 33; refine HP.out.mono ?_; rintro e w' ⟨rfl, hz, hk⟩; have Z := Lib.hid hz; have K := Lib.hid hk; clear hz hk))
    go_ret
    exact ⟨rfl, Z.out, K.out⟩
  · rw [if_neg he]
    have H := Lib.hid h
    have d0 : (leaE L.length L x != 0) = true := by simpa using he
    generalize leaE L.length L x = er at *
    clear h he hx
    go_enter Try.func14, Try.ntmps14
    go_wp2_with (go_at_call 34; refine HE.out.mono ?_; rintro e w' ⟨rfl, rfl⟩)
    go_ret
    exact ⟨rfl, H.out, KeepF.refl _ _⟩
set_option maxHeartbeats 2000000 in
theorem Move_any (h : ZS F w b gl mb L) (x z : Int) (hx : i64ok x) : Calls Try.prog 11 #[.pointer (some ⟨b, 0, none⟩), .int .i64 x, .int .i64 z] w (opPost F w b gl mb (movE L.length L x z) (movL L x z)) := by
  have h1 := h.good.n1
  have n0 : L.length ≠ 0 := by omega
  have HZ := Lib.hid (zero_any h.nm)
  rw [decide_eq_false n0] at HZ
  have HI := Lib.hid (isID_any x w)
  have HN := Lib.hid (isZone_any h.nm z)
  have HH := Lib.hid (has_any h x hx)
  have e : movE L.length L x z = if okID x = false ∨ okZ L.length z = false then 2 else if inL L x = false then 9 else 0 := by unfold movE; rw [if_neg n0]
  have H := Lib.hid h
  unfold movL
  rw [e]
  clear h h1 n0 hx e
  cases hi : okID x
  · rw [hi] at HI
    simp only [true_or, if_true]
    clear hi
    go_enter Try.func11, Try.ntmps11
    go_wp2_with (first | (go_at_call 29; refine HZ.out.mono ?_; rintro e w' ⟨rfl, rfl⟩) | (go_at_call 30; refine HI.out.mono ?_; rintro e w' ⟨rfl, rfl⟩))
    go_ret
    exact ⟨rfl, H.out, KeepF.refl _ _⟩
  · rw [hi] at HI
    have hid := okID_b hi
    clear hi
    cases hz : okZ L.length z
    · rw [hz] at HN
      simp only [or_true, if_true]
      clear hz
      go_enter Try.func11, Try.ntmps11
      go_wp2_with (first | (go_at_call 29; refine HZ.out.mono ?_; rintro e w' ⟨rfl, rfl⟩) | (go_at_call 30; refine HI.out.mono ?_; rintro e w' ⟨rfl, rfl⟩) | (go_at_call 31; refine HN.out.mono ?_; rintro e w' ⟨rfl, rfl⟩))
      go_ret
      exact ⟨rfl, H.out, KeepF.refl _ _⟩
    · rw [hz] at HN
      obtain ⟨i, rfl, hi⟩ := okZ_b hz
      clear hz
      cases hin : inL L x
      · rw [hin] at HH
        clear hin
        simp only [Bool.true_eq_false, or_self, if_false, if_true]
        go_enter Try.func11, Try.ntmps11
        go_wp2_with (first | (go_at_call 29; refine HZ.out.mono ?_; rintro e w' ⟨rfl, rfl⟩) | (go_at_call 30; refine HI.out.mono ?_; rintro e w' ⟨rfl, rfl⟩) | (go_at_call 31; refine HN.out.mono ?_; rintro e w' ⟨rfl, rfl⟩) | (go_at_call 32; refine HH.out.mono ?_; rintro e w' ⟨rfl, rfl⟩))
        go_ret
        exact ⟨rfl, H.out, KeepF.refl _ _⟩
      · rw [hin] at HH
        have HT := Lib.hid (takeOut_any H.out hin)
        have hno := outL_in H.out.good hin
        have e : (i : Int).toNat = i := by omega
        have e2 : i < (outL L x).length := by rw [outL_len]; exact hi
        simp only [Bool.true_eq_false, or_self, if_false, e, if_true]
        have HNO := Lib.hid hno
        clear hin hno e
        go_enter Try.func11, Try.ntmps11
        go_wp2_with (first | (go_at_call 29; refine HZ.out.mono ?_; rintro e w' ⟨rfl, rfl⟩) | (go_at_call 30; refine HI.out.mono ?_; rintro e w' ⟨rfl, rfl⟩) | (go_at_call 31; refine HN.out.mono ?_; rintro e w' ⟨rfl, rfl⟩) | (go_at_call 32; refine HH.out.mono ?_; rintro e w' ⟨rfl, rfl⟩) | (go_at_call 33; refine HT.out.mono ?_; rintro e w1 ⟨rfl, hz, hk⟩; have HP := Lib.hid (putOnTop_any hz e2 hid HNO.out); have K1 := Lib.hid hk; clear hz hk) | (go_at_call 27; refine HP.out.mono ?_; rintro e w2 ⟨rfl, hz, hk⟩; have Z := Lib.hid hz; have K := Lib.hid hk; clear hz hk))
        go_ret
        exact ⟨rfl, Z.out, K1.out.trans K.out⟩
set_option maxHeartbeats 4000000 in
theorem Under_ok (h : ZS F w b gl mb L) {i : Nat} (hi : i < L.length) {x : Int} (hx : 1 ≤ x ∧ x ≤ 4096) (hin : inL L x = false) (HE : Hid (Calls Try.prog 26 #[.pointer (some ⟨b, 0, none⟩), .int .i64 x, .int .i64 (i : Int)] w fun e w' => e = .returned (.int .i64 0) ∧ w = w')) :
    Calls Try.prog 10 #[.pointer (some ⟨b, 0, none⟩), .int .i64 x, .int .i64 (i : Int)] w (opPost F w b gl mb 0 (botL L x i)) := by
  obtain ⟨hg, vs, D, hm, hh⟩ := h
  have hlen := hg.len i
  have c0 := hm.z.cell 0
  have c1 := hm.z.cell 1
  have v0 := hm.at hi
  have r0 := hm.r i hi
  have f0 := hm.l.free i
  have hL := hg.n2
  simp only [List.getElem?_cons_zero, List.getElem?_cons_succ] at c0 c1
  have HM := Lib.hid hm
  have HR := Lib.hid r0
  have HG := Lib.hid hg
  have HH := Lib.hid hh
  have hglt := hm.l.lt
  have hblt := hm.z.lt
  clear hm r0 hg hh
  obtain ⟨v, hv⟩ : ∃ v, vs.getD i d0 = v := ⟨_, rfl⟩
  rw [hv] at v0 HR
  have HV := Lib.hid hv
  clear hv
  have hB : Below w.heap.size w (w.alloc (.cells #[.int .i64 x] 3)).drew := by
    have hb := (Below.refl _ w).alloc (Nat.le_refl _) (.cells #[.int .i64 x] 3)
    exact ⟨hb.os, hb.tape, hb.output, hb.size, hb.block⟩
  have HW := Lib.hid (HM.out.below' hB)
  have HKB := Lib.hid (KeepF.of_below hB HM.out.ft)
  have HQ : Hid (has (w.alloc (.cells #[.int .i64 x] 3)).drew w.heap.size 3 [.int .i64 x]) := Lib.hid (has.new w 3 [.int .i64 x])
  have HRW : Hid (rowAt (w.alloc (.cells #[.int .i64 x] 3)).drew v (row L i)) := Lib.hid (HR.out.keep fun g e => Below.heap_alloc w _ g (HR.out.lt e))
  have hne : v.ownBlock ≠ some w.heap.size := fun e => Nat.lt_irrefl _ (HR.out.lt e)
  have HI := Lib.hid (Insert_any HRW.out HQ.out hne hlen)
  obtain ⟨sp, m0, cc, hvs⟩ := HR.out.shape
  subst hvs
  clear hB
  go_enter Try.func10, Try.ntmps10
  go_wp2_with (go_at_call 26; refine HE.out.mono ?_; rintro e w' ⟨rfl, rfl⟩)
  have n1 := World.new_ne w _ v0
  have n2 := World.new_ne w _ c0
  have n3 : gl ≠ b := Ne.symm (HM.out.z.ne HM.out.l (by decide))
  refine wp_region_held_drew (S := (fun w' => w'.cell? ⟨b, 0, none⟩ = some (.slice (some ⟨gl, 0, none⟩) L.length L.length))) (by kernel_rfl) ?_ (fun hH0 => ?_)
  · (first | assumption | go_keep)
  refine wpAnyH_take (i := 0) (oi := _) (v := ?_) rfl (by kernel_rfl) (by kernel_rfl) (by kernel_rfl) (fun _ _ _ h => h) (Or.inl ⟨by rfl, ?_⟩) (by assumption) ?_
  rotate_left
  · intro w hSw; (try dsimp only at hSw); first | (go_simp; done) | (go_simp; with_reducible rfl)
  try simp only [go_sem]
  refine wpAnyH_take (i := 1) (oi := _) (v := ?_) rfl (by kernel_rfl) (by kernel_rfl) (by kernel_rfl) (fun _ _ _ h => h) (Or.inl ⟨by rfl, ?_⟩) (by assumption) ?_
  rotate_left
  · intro w hSw; (try dsimp only at hSw); first | (go_simp; done) | (go_simp; with_reducible rfl)
  try simp only [go_sem]
  refine wpAnyH_take (i := 2) (oi := _) (v := ?_) rfl (by kernel_rfl) (by kernel_rfl) (by kernel_rfl) (fun _ _ _ h => h) (Or.inl ⟨by rfl, ?_⟩) (by assumption) ?_
  rotate_left
  · intro w hSw; (try dsimp only at hSw); first | (go_simp; done) | (go_simp; with_reducible rfl)
  try simp only [go_sem]
  refine wpAnyH_take (i := 3) (oi := _) (v := ?_) rfl (by kernel_rfl) (by kernel_rfl) (by kernel_rfl) (fun _ _ _ h => h) (Or.inl ⟨by rfl, ?_⟩) (by assumption) ?_
  rotate_left
  · intro w hSw; (try dsimp only at hSw); first | (go_simp; done) | (go_simp; with_reducible rfl)
  try simp only [go_sem]
  refine wpAnyH_take (i := 4) (oi := _) (v := ?_) rfl (by kernel_rfl) (by kernel_rfl) (by kernel_rfl) (fun _ _ _ h => h) (Or.inl ⟨by rfl, ?_⟩) (by assumption) ?_
  rotate_left
  · intro w hSw; (try dsimp only at hSw); first | (go_simp; done) | (go_simp; with_reducible rfl)
  try simp only [go_sem]
  refine wpAnyH_take (i := 5) (oi := _) (v := ?_) rfl (by kernel_rfl) (by kernel_rfl) (by kernel_rfl) (fun _ _ _ h => h) (Or.inl ⟨by rfl, ?_⟩) (by assumption) ?_
  rotate_left
  · intro w hSw; (try dsimp only at hSw); first | (go_simp; done) | (go_simp; with_reducible rfl)
  try simp only [go_sem]
  refine wpAnyH_take (i := 6) (oi := _) (v := ?_) rfl (by kernel_rfl) (by kernel_rfl) (by kernel_rfl) (fun _ _ _ h => h) (Or.inl ⟨by rfl, ?_⟩) (by assumption) ?_
  rotate_left
  · intro w hSw; (try dsimp only at hSw); first | (go_simp; done) | (go_simp; with_reducible rfl)
  try simp only [go_sem]
  refine wpAnyH_take (i := 7) (oi := _) (v := ?_) rfl (by kernel_rfl) (by kernel_rfl) (by kernel_rfl) (fun _ _ _ h => h) (Or.inl ⟨by rfl, ?_⟩) (by assumption) ?_
  rotate_left
  · intro w hSw; (try dsimp only at hSw); first | (go_simp; done) | (go_simp; with_reducible rfl)
  try simp only [go_sem]
  refine wpAnyH_take (i := 8) (oi := _) (v := ?_) rfl (by kernel_rfl) (by kernel_rfl) (by kernel_rfl) (fun _ _ _ h => h) (Or.inl ⟨by rfl, ?_⟩) (by assumption) ?_
  rotate_left
  · intro w hSw; (try dsimp only at hSw); first | (go_simp; done) | (go_simp; with_reducible rfl)
  try simp only [go_sem]
  refine wpAnyH_take (i := 9) (oi := _) (v := ?_) rfl (by kernel_rfl) (by kernel_rfl) (by kernel_rfl) (fun _ _ _ h => h) (Or.inl ⟨by rfl, ?_⟩) (by assumption) ?_
  rotate_left
  · intro w hSw; (try dsimp only at hSw); first | (go_simp; done) | (go_simp; with_reducible rfl)
  try simp only [go_sem]
  refine wpAnyH_take (i := 10) (oi := _) (v := ?_) rfl (by kernel_rfl) (by kernel_rfl) (by kernel_rfl) (fun _ _ _ h => h) (Or.inl ⟨by rfl, ?_⟩) (by assumption) ?_
  rotate_left
  · intro w hSw; (try dsimp only at hSw); first | (go_simp; done) | (go_simp; with_reducible rfl)
  try simp only [go_sem]
  refine wpAnyH_take (i := 12) (oi := _) (v := ?_) rfl (by kernel_rfl) (by kernel_rfl) (by kernel_rfl) (fun _ _ _ h => h) (Or.inl ⟨by rfl, ?_⟩) (by assumption) ?_
  rotate_left
  · intro w hSw; (try dsimp only at hSw); first | (go_simp; done) | (go_simp; with_reducible rfl)
  try simp only [go_sem]
  refine wpAnyH_ready (rs := [11, 13]) (by kernel_rfl) (by simp) ?_
  refine AllReadyH.cons (o := _) rfl (fun K hK => ?_) (AllReadyH.cons (o := _) rfl (fun K hK => ?_) AllReadyH.nil)
  · go_simp
    refine hK.out _ _ ?_ (fun hH1 => ?_)
    · (first | assumption | go_keep)
    clear hK K hH0
    try simp only [go_sem]
    refine wpAnyH_ready (rs := [13]) (by kernel_rfl) (by simp) ?_
    refine AllReadyH.cons (o := _) rfl (fun K hK => ?_) AllReadyH.nil
    go_simp
    refine hK.out _ _ ?_ (fun hH2 => ?_)
    · (first | assumption | go_keep)
    clear hK K hH1
    try simp only [go_sem]
    refine wpAnyH_ready (rs := [14]) (by kernel_rfl) (by simp) ?_
    refine AllReadyH.cons (o := _) rfl (fun K hK => ?_) AllReadyH.nil
    go_simp; refine HI.out.mono ?_; rintro e w1 ⟨v', rfl, hr1, hg1, hb1⟩; obtain ⟨sp', n', c', rfl⟩ := hr1.shape; obtain ⟨x0, x1, x2, x3⟩ := HW.out.after hi HV.out hg1; have R1 := Lib.hid hr1; have G1 := Lib.hid hg1; have B1 := Lib.hid hb1; clear hr1 hg1 hb1; try simp only [go_sem]
    refine hK.out _ _ ?_ (fun hH3 => ?_)
    · (first | assumption | go_keep)
    clear hK K hH2
    try simp only [go_sem]
    refine wpAnyH_take (i := 15) (oi := _) (v := ?_) rfl (by kernel_rfl) (by kernel_rfl) (by kernel_rfl) (fun _ _ _ h => h) (Or.inl ⟨by rfl, ?_⟩) (by assumption) ?_
    rotate_left
    · intro w hSw; (try dsimp only at hSw); first | (go_simp; done) | (go_simp; with_reducible rfl)
    try simp only [go_sem]
    refine wpAnyH_ready (rs := [16]) (by kernel_rfl) (by simp) ?_
    refine AllReadyH.cons (o := _) rfl (fun K hK => ?_) AllReadyH.nil
    go_simp
    refine hK.out _ _ ?_ (fun hH4 => ?_)
    · (first | assumption | go_keep)
    clear hK K hH3
    try simp only [go_sem]
    refine wpAnyH_done (by kernel_rfl) ?_ _
    have hp := HW.out.put hi (v := .slice sp' n' c') (l := x :: row L i) (by rw [HV.out]; exact G1.out) R1.out (by rw [HV.out]; exact fun g e => B1.out g e)
    have c2 := hp.1.z.cell 1
    simp only [List.getElem?_cons_zero, List.getElem?_cons_succ] at c2
    have M1 := hp.1.m
    have HP := Lib.hid hp.1
    have HK := Lib.hid (HKB.out.trans hp.2)
    have hk := keyOfI (x := x) (by omega)
    have hsz : Maps.size D < maxLen := by have h1 := HH.out.n; have h2 := HG.out.tot; unfold maxLen; omega
    have hval : plainElem (H := Unit) Try.prog 3 (.int .i64 (i : Int)) = some (.lit (.int .i64 (i : Int)), []) := plainElem_int Try.underlying3 (WalkArith.wf_i64 (by omega))
    clear hp x0 x1 x2 x3 c0 c1 v0 f0 n1 n2 hlen hne
    generalize Maps.size D = sz at M1 hsz
    go_wp2_with (first | (at_mapUpdate; refine wpList_mapUpdate_own _ rfl _ _ _ 41 rfl 3 3 keyI Try.underlying41 _ mb sz D rfl M1 hsz _ _ _ rfl rfl hk _ [] hval ?_; intro w30 hown1 hgrow1; have O3 := Lib.hid hown1; have G3 := Lib.hid hgrow1; clear hown1 hgrow1))
    go_ret
    have hq := HP.out.mapped G3.out O3.out
    exact ⟨rfl, ⟨HG.out.bot hi hx hin, _, _, hq.1, HH.out.bot hi hin⟩, HK.out.trans hq.2⟩
  · go_simp
    refine hK.out _ _ ?_ (fun hH1 => ?_)
    · (first | assumption | go_keep)
    clear hK K hH0
    try simp only [go_sem]
    refine wpAnyH_ready (rs := [11]) (by kernel_rfl) (by simp) ?_
    refine AllReadyH.cons (o := _) rfl (fun K hK => ?_) AllReadyH.nil
    go_simp
    refine hK.out _ _ ?_ (fun hH2 => ?_)
    · (first | assumption | go_keep)
    clear hK K hH1
    try simp only [go_sem]
    refine wpAnyH_ready (rs := [14]) (by kernel_rfl) (by simp) ?_
    refine AllReadyH.cons (o := _) rfl (fun K hK => ?_) AllReadyH.nil
    go_simp; refine HI.out.mono ?_; rintro e w1 ⟨v', rfl, hr1, hg1, hb1⟩; obtain ⟨sp', n', c', rfl⟩ := hr1.shape; obtain ⟨x0, x1, x2, x3⟩ := HW.out.after hi HV.out hg1; have R1 := Lib.hid hr1; have G1 := Lib.hid hg1; have B1 := Lib.hid hb1; clear hr1 hg1 hb1; try simp only [go_sem]
    refine hK.out _ _ ?_ (fun hH3 => ?_)
    · (first | assumption | go_keep)
    clear hK K hH2
    try simp only [go_sem]
    refine wpAnyH_take (i := 15) (oi := _) (v := ?_) rfl (by kernel_rfl) (by kernel_rfl) (by kernel_rfl) (fun _ _ _ h => h) (Or.inl ⟨by rfl, ?_⟩) (by assumption) ?_
    rotate_left
    · intro w hSw; (try dsimp only at hSw); first | (go_simp; done) | (go_simp; with_reducible rfl)
    try simp only [go_sem]
    refine wpAnyH_ready (rs := [16]) (by kernel_rfl) (by simp) ?_
    refine AllReadyH.cons (o := _) rfl (fun K hK => ?_) AllReadyH.nil
    go_simp
    refine hK.out _ _ ?_ (fun hH4 => ?_)
    · (first | assumption | go_keep)
    clear hK K hH3
    try simp only [go_sem]
    refine wpAnyH_done (by kernel_rfl) ?_ _
    have hp := HW.out.put hi (v := .slice sp' n' c') (l := x :: row L i) (by rw [HV.out]; exact G1.out) R1.out (by rw [HV.out]; exact fun g e => B1.out g e)
    have c2 := hp.1.z.cell 1
    simp only [List.getElem?_cons_zero, List.getElem?_cons_succ] at c2
    have M1 := hp.1.m
    have HP := Lib.hid hp.1
    have HK := Lib.hid (HKB.out.trans hp.2)
    have hk := keyOfI (x := x) (by omega)
    have hsz : Maps.size D < maxLen := by have h1 := HH.out.n; have h2 := HG.out.tot; unfold maxLen; omega
    have hval : plainElem (H := Unit) Try.prog 3 (.int .i64 (i : Int)) = some (.lit (.int .i64 (i : Int)), []) := plainElem_int Try.underlying3 (WalkArith.wf_i64 (by omega))
    clear hp x0 x1 x2 x3 c0 c1 v0 f0 n1 n2 hlen hne
    generalize Maps.size D = sz at M1 hsz
    go_wp2_with (first | (at_mapUpdate; refine wpList_mapUpdate_own _ rfl _ _ _ 41 rfl 3 3 keyI Try.underlying41 _ mb sz D rfl M1 hsz _ _ _ rfl rfl hk _ [] hval ?_; intro w30 hown1 hgrow1; have O3 := Lib.hid hown1; have G3 := Lib.hid hgrow1; clear hown1 hgrow1))
    go_ret
    have hq := HP.out.mapped G3.out O3.out
    exact ⟨rfl, ⟨HG.out.bot hi hx hin, _, _, hq.1, HH.out.bot hi hin⟩, HK.out.trans hq.2⟩
set_option maxHeartbeats 1000000 in
theorem Under_any (h : ZS F w b gl mb L) (x z : Int) (hx : i64ok x) : Calls Try.prog 10 #[.pointer (some ⟨b, 0, none⟩), .int .i64 x, .int .i64 z] w (opPost F w b gl mb (entE L.length L x z) (undL L x z)) := by
  have HE := Lib.hid (mayEnter_any h x z hx)
  unfold undL
  by_cases he : entE L.length L x z = 0
  · obtain ⟨_, h1, h2, h3⟩ := entE_ok he
    obtain ⟨i, rfl, hi⟩ := okZ_b h2
    have e : (i : Int).toNat = i := by omega
    rw [if_pos he, e]
    rw [he] at HE ⊢
    exact Under_ok h hi (okID_b h1) h3 HE
  · rw [if_neg he]
    have H := Lib.hid h
    have d0 : (entE L.length L x z != 0) = true := by simpa using he
    generalize entE L.length L x z = er at *
    clear h he hx
    go_enter Try.func10, Try.ntmps10
    go_wp2_with (go_at_call 26; refine HE.out.mono ?_; rintro e w' ⟨rfl, rfl⟩)
    go_ret
    exact ⟨rfl, H.out, KeepF.refl _ _⟩
end Go.Proofs.Ytklohgecgjlgeaa.zoFn
