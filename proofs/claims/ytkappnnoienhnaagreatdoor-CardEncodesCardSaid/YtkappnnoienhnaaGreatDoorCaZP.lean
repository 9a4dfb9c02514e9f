/- Joined texts: CaHLine CaREnc CaRLm CaRLa CaRLb CaRLc CaRLd CaRLine -/
import Derived.Test.YtkappnnoienhnaaGreatDoorCaZL
import Derived.Test.YtkappnnoienhnaaGreatDoorCaZY
import Derived.Test.YtkappnnoienhnaaGreatDoorCaZT
import Derived.Test.YtkappnnoienhnaaGreatDoorCaZX
import Derived.Test.YtkappnnoienhnaaGreatDoorCaZK
import Derived.Deep.CutBlock
import Derived.Deep.DeepCutAuto
import Derived.BigRegion
import Derived.Deep.RegionHeld3
/- The line of a card has no line feed and is not empty. -/
namespace Go.Proofs.YtkappnnoienhnaaGreatDoor.caFn
open Go.ChangeShapes Go.WideShapes Go.ChangeAt Go.RowKit drMem efFn
set_option linter.unusedVariables false

def nfB (l : List UInt8) : Bool := l.all (· != 10)
theorem nf_app (a b : List UInt8) : nfB (a ++ b) = (nfB a && nfB b) := List.all_append
theorem nf_tail (sep : List UInt8) (hs : nfB sep = true) : ∀ (r : List (List UInt8)), (∀ x ∈ r, nfB x = true) → nfB (Lib.joinTail sep r) = true
  | [], _ => rfl
  | a :: r, h => by
    have ih := nf_tail sep hs r (fun x hx => h x (by simp [hx]))
    have ha := h a (by simp)
    unfold Lib.joinTail at *
    rw [List.map_cons, List.flatten_cons, nf_app, nf_app, hs, ha, ih]; rfl
theorem nf_join (sep : List UInt8) (hs : nfB sep = true) (l : List (List UInt8)) (h : ∀ x ∈ l, nfB x = true) : nfB (Lib.join l sep) = true := by
  cases l with
  | nil => rw [Lib.join_nil]; rfl
  | cons a r =>
    rw [Lib.join_cons, nf_app, h a (by simp), nf_tail sep hs r (fun x hx => h x (by simp [hx]))]; rfl
theorem nf_tab : ∀ n : Nat, n < 100 → nfB (tab n) = true := by decide
theorem nf_dec : ∀ n : Nat, n < 21 → nfB (Lib.decDigits n) = true := by decide +kernel
theorem nf_nm (c : Int) : nfB (nmL c) = true := by
  by_cases h : 1 ≤ c ∧ c ≤ 12
  · rcases codesR c h.1 h.2 with rfl | rfl | rfl | rfl | rfl | rfl | rfl | rfl | rfl | rfl | rfl | rfl <;> rfl
  · unfold nmL
    rw [if_neg (by omega), if_neg (by omega), if_neg (by omega), if_neg (by omega), if_neg (by omega), if_neg (by omega), if_neg (by omega), if_neg (by omega), if_neg (by omega), if_neg (by omega), if_neg (by omega), if_neg (by omega)]
    rfl
theorem nf_kw (t : Int) : nfB (kwL t) = true := by unfold kwL; (repeat' split) <;> rfl
theorem nf_let (r : Nat) : nfB (letW r) = true := by unfold letW; (repeat' split) <;> rfl
theorem nf_lt (k : Int) : nfB (letT k) = true := by unfold letT; (repeat' split) <;> rfl
theorem nf_kc (k : Nat) : nfB (kcL k) = true := by unfold kcL; (repeat' split) <;> rfl
theorem nf_wh (k : Nat) : nfB (whL k) = true := by unfold whL; (repeat' split) <;> rfl
theorem nf_rep (k : UInt8) (n : Nat) (h : k ≠ 10) : nfB (List.replicate n k) = true := by
  unfold nfB
  rw [List.all_eq_true]
  intro x hx
  have := List.eq_of_mem_replicate hx
  subst this
  simpa using h
theorem nf_text (e : Ef) (h : e.ok = true) : nfB (textE e) = true := by
  obtain ⟨h1, _⟩ := okE_parts h
  obtain ⟨b0, b1, b2, b3, b4, b5⟩ := okN_bd h1
  refine nf_join [32] rfl _ fun x hx => ?_
  simp only [wordsE, List.mem_cons, List.mem_append] at hx
  rcases hx with rfl | hx | hx
  · exact nf_nm _
  · have ht : ∀ z : Int, z ≤ 99 → nfB (tab z.toNat) = true := fun z hz => nf_tab _ (by omega)
    unfold numW at hx
    split at hx
    · simp only [List.mem_cons, List.not_mem_nil, or_false] at hx; subst hx; exact ht _ b1
    · split at hx
      · simp only [List.mem_cons, List.not_mem_nil, or_false] at hx
        rcases hx with rfl | rfl
        · exact ht _ b1
        · exact ht _ (by omega)
      · split at hx
        · simp only [List.mem_cons, List.not_mem_nil, or_false] at hx
          rcases hx with rfl | rfl
          · exact ht _ b1
          · exact nf_let _
        · cases hx
  · unfold tgW at hx
    split at hx
    · cases hx
    · simp only [List.mem_cons, List.not_mem_nil, or_false] at hx; subst hx; exact nf_kw _
theorem all_ok {l : List Ef} (h : allB l = true) : ∀ e ∈ l, e.ok = true := by
  unfold allB at h; rw [Bool.and_eq_true] at h; exact List.all_eq_true.1 h.2
theorem nf_cost {q : Cd} (h : maFn.okC q.a q.b q.c q.d q.x = true) : nfB (costT q) = true := by
  have g := (maFn.okC_iff _ _ _ _ _).1 h
  unfold costT maFn.textL maFn.letL maFn.numL
  rw [nf_app, nf_app, nf_app, nf_app, nf_rep _ _ (by decide), nf_rep _ _ (by decide), nf_rep _ _ (by decide), nf_rep _ _ (by decide)]
  split
  · rw [nf_dec _ (by omega)]; rfl
  · rfl
theorem nf_name {l : List UInt8} (h : nameB l = true) : nfB l = true := by
  unfold nameB at h
  simp only [Bool.and_eq_true] at h
  unfold nfB
  rw [List.all_eq_true]
  intro x hx
  have := List.all_eq_true.1 h.2.2.2.2 x hx
  simp only [Bool.and_eq_true, decide_eq_true_eq] at this
  simp only [bne_iff_ne, ne_eq]
  rintro rfl
  exact absurd this.1 (by decide)
theorem line_ok {q : Cd} (h : okCd q = true) : nfB (lineT q) = true ∧ 1 ≤ (lineT q).length := by
  obtain ⟨hn, hr, hk⟩ := okCd_parts h
  have hl := nameB_len hn
  have hc : maFn.okC q.a q.b q.c q.d q.x = true := by
    rcases kind_cases hk with ⟨k, hs⟩ | ⟨k, hs⟩ | ⟨k, hs⟩
    · obtain ⟨_, ⟨g2, g3, g4, g5, g6⟩, _⟩ := srcB_bd hs
      rw [g2, g3, g4, g5, g6]; rfl
    · exact (creB_bd hs).1
    · exact (splB_bd hs).1
  have hp : q.kd = 2 → q.pw ≤ 20 ∧ q.tg ≤ 20 := fun k2 => by
    rcases kind_cases hk with ⟨k, hs⟩ | ⟨k, hs⟩ | ⟨k, hs⟩
    · omega
    · obtain ⟨_, _, h3, h4, _⟩ := creB_bd hs; omega
    · omega
  have hb := okCd_bd h
  constructor
  · refine nf_join [44, 32] rfl _ fun x hx => ?_
    unfold partsT at hx
    simp only [List.mem_append, List.mem_cons, List.not_mem_nil, or_false] at hx
    rcases hx with ((((rfl | rfl) | hx) | hx) | hx) | hx
    · exact nf_name hn
    · unfold kdT
      split
      · rw [nf_app, nf_lt]; rfl
      · rw [nf_app, nf_cost hc]; (repeat' split) <;> rfl
    · unfold ptT at hx
      split at hx
      · simp only [List.mem_cons, List.not_mem_nil, or_false] at hx
        subst hx
        have := hp (by assumption)
        rw [nf_app, nf_app, nf_dec _ (by omega), nf_dec _ (by omega)]; rfl
      · cases hx
    · unfold kwT at hx
      obtain ⟨i, _, hi⟩ := List.mem_flatMap.1 hx
      split at hi
      · simp only [List.mem_cons, List.not_mem_nil, or_false] at hi; subst hi; exact nf_kc _
      · cases hi
    · obtain ⟨e, he, rfl⟩ := List.mem_map.1 hx
      exact nf_text e (all_ok hb.ef e he)
    · obtain ⟨t, ht, rfl⟩ := List.mem_map.1 hx
      unfold trT
      rw [nf_app, nf_app, nf_wh, nf_join _ rfl _ (fun x hx => by
        obtain ⟨e, he, rfl⟩ := List.mem_map.1 hx
        exact nf_text e (all_ok (hb.tw t ht).2 e he))]
      rfl
  · unfold lineT partsT
    simp only [List.cons_append]
    rw [Lib.join_cons, List.length_append]
    omega
theorem lineT_size {q : Cd} (h : okCd q = true) : (bs (lineT q)).size ≤ 1000000 := by
  obtain ⟨hn, hr, hk⟩ := okCd_parts h
  have hl := nameB_len hn
  have hb := okCd_bd h
  have hc : maFn.okC q.a q.b q.c q.d q.x = true := by
    rcases kind_cases hk with ⟨k, hs⟩ | ⟨k, hs⟩ | ⟨k, hs⟩
    · obtain ⟨_, ⟨g2, g3, g4, g5, g6⟩, _⟩ := srcB_bd hs
      rw [g2, g3, g4, g5, g6]; rfl
    · exact (creB_bd hs).1
    · exact (splB_bd hs).1
  have ht : ∀ t ∈ q.tr, t.e.length ≤ 2 := by
    rcases kind_cases hk with ⟨k, hs⟩ | ⟨k, hs⟩ | ⟨k, hs⟩
    · obtain ⟨_, _, _, _, _, _, g⟩ := srcB_bd hs
      rw [g]; simp
    · obtain ⟨_, _, _, _, _, _, g⟩ := creB_bd hs
      exact fun t ht => (trB_bd ((trsB_bd g).2 t ht)).2.1.2
    · obtain ⟨_, _, _, _, _, _, _, g⟩ := splB_bd hs
      rw [g]; simp
  have hp : q.kd = 2 → q.pw ≤ 20 ∧ q.tg ≤ 20 := fun k2 => by
    rcases kind_cases hk with ⟨k, hs⟩ | ⟨k, hs⟩ | ⟨k, hs⟩
    · omega
    · obtain ⟨_, _, h3, h4, _⟩ := creB_bd hs; omega
    · omega
  rw [bs_size]
  unfold lineT partsT
  refine line_len ([q.nm, kdT q] ++ ptT q) ?_ ?_ _ _ (all_bd hb.ef).1 _ hb.tr ht
  · unfold ptT; split <;> simp
  · intro x hx
    simp only [List.mem_append, List.mem_cons, List.not_mem_nil, or_false] at hx
    rcases hx with (rfl | rfl) | hx
    · omega
    · have := costT_len hc
      unfold kdT
      split
      · have := letT_len q.ml
        simp only [List.length_append, List.length_cons, List.length_nil]; omega
      · rw [List.length_append]
        have : (if q.kd = 2 then [99, 114, 101, 97, 116, 117, 114, 101, 32] else if q.kd = 3 then [115, 112, 101, 108, 108, 32] else [116, 114, 105, 99, 107, 32] : List UInt8).length ≤ 9 := by (repeat' split) <;> simp
        omega
    · unfold ptT at hx
      split at hx
      · simp only [List.mem_cons, List.not_mem_nil, or_false] at hx
        subst hx
        have := hp (by assumption)
        have := maFn.dec_len q.pw.toNat (by omega)
        have := maFn.dec_len q.tg.toNat (by omega)
        simp only [List.length_append, List.length_cons, List.length_nil]; omega
      · cases hx
theorem nf_get {l : List UInt8} (h : nfB l = true) (k : Nat) (hk : k < l.length) : ((l.getD k 0).toNat : Int) ≠ 10 := by
  unfold nfB at h
  have := List.all_eq_true.1 h (l[k]) (List.getElem_mem hk)
  have e : l.getD k 0 = l[k] := by simp [List.getD_eq_getElem?_getD, hk]
  rw [e]
  simp only [bne_iff_ne, ne_eq] at this
  intro h2
  exact this (UInt8.toNat_inj.1 (by show l[k].toNat = 10; omega))
end Go.Proofs.YtkappnnoienhnaaGreatDoor.caFn

/- The bytes of a card, by the reference. -/
namespace Go.Proofs.YtkappnnoienhnaaGreatDoor.caFn
open Go.ChangeShapes Go.WideShapes Go.ChangeAt Go.RowKit drMem efFn
set_option linter.unusedVariables false

theorem reffB_any (sp : Option Addr) (n cap : Nat) (l : List Ef) (w : World) (h : EfsAt w sp n l) (ha : allB l = true) :
    Calls Tryz.prog 22 #[.slice sp n cap] w (byPost (encB l) w) := by
  refine (rEncode_yes sp n cap l w h ha).mono ?_
  rintro v w1 ⟨sp', n', cap', rfl, hB, hb1⟩
  obtain ⟨b, off, rfl, hl, hc⟩ := hB.c (by rw [bys_len, encB_len]; omega)
  exact ⟨b, off, n', cap', rfl, hB.n, hl, hc, hb1⟩
set_option maxRecDepth 100000 in
set_option maxHeartbeats 16000000 in
theorem rEncodeC_any (s : ByteArray) (kd a b c d x m p t k : Int) (es : Option Addr) (en ec : Nat) (ts : Option Addr) (tn tc : Nat) (r : Int) (e : List Ef) (l : List Tr) (w : World) (h : CdAt w es en e ts tn l) (ho : okCd ⟨s.data.toList, kd, a, b, c, d, x, m, p, t, k, e, l, r⟩ = true) :
    Calls Tryz.prog 10 #[cV s kd a b c d x m p t k es en ec ts tn tc r] w (rencPost (cdB ⟨s.data.toList, kd, a, b, c, d, x, m, p, t, k, e, l, r⟩) w) := by
  obtain ⟨i0, hi, hz0, hz1, hz2⟩ := info_parts infoB
  obtain ⟨⟨nm0, nm1⟩, kd0, ra0, a0, b0, c0, d0, x0, m0, p0, t0, k0, eA, tr0, tw0⟩ := okCd_bd ho
  dsimp only at nm0 nm1 kd0 ra0 a0 b0 c0 d0 x0 m0 p0 t0 k0 eA tr0 tw0
  rw [list_len] at nm0 nm1
  have hln := h.t.n
  have hle := h.e.n
  rw [hln] at tr0
  have en4 : en ≤ 4 := by have := (all_bd eA).1; omega
  have HW := Lib.hid tw0
  have HLN := Lib.hid hln
  have HLE := Lib.hid hle
  have HD := Lib.hid (show cdB ⟨s.data.toList, kd, a, b, c, d, x, m, p, t, k, e, l, r⟩ = ((([u8 kd, u8 r, u8 s.size] ++ s.data.toList) ++ [u8 a, u8 b, u8 c, u8 d, u8 x, u8 m, u8 p, u8 t, u8 k]) ++ encB e) ++ [u8 tn] ++ trBy l by unfold cdB; rw [list_len, hln]; simp only [List.append_assoc, List.cons_append, List.nil_append])
  have HH := Lib.hid h
  have HB0 := Lib.hid (show Below w.heap.size w (w.alloc (.cells #[.string s, .int .i64 kd, .int .i64 a, .int .i64 b, .int .i64 c, .int .i64 d, .int .i64 x, .int .i64 m, .int .i64 p, .int .i64 t, .int .i64 k, .slice es en ec, .slice ts tn tc, .int .i64 r] 32)) from (Below.refl _ _).alloc (Nat.le_refl _) _)
  have HM0 := Lib.hid (new0 w 32 (cL s kd a b c d x m p t k es en ec ts tn tc r))
  have HGE : Hid (0 < tn → ∃ tb toff, ts = some ⟨tb, toff, none⟩ ∧ tb < w.heap.size ∧ ∀ q, q < tn → ∃ s n c, TrAt w tb (toff + q * 2) (l.getD q default) s n c) := Lib.hid fun h0 => by
    obtain ⟨tb, toff, he, hb, hc⟩ := HH.out.t.c h0
    exact ⟨tb, toff, he, hb, fun q hq => hc q _ (getT (by rw [HLN.out]; exact hq))⟩
  clear h ho tw0 hln hle
  have v_kd : IntKind.u8.wrap kd = kd := by rw [IntKind.wrap_u8]; omega
  have g_kd := Lib.hid (u8_of kd kd0.1 kd0.2)
  have v_r : IntKind.u8.wrap r = r := by rw [IntKind.wrap_u8]; omega
  have g_r := Lib.hid (u8_of r ra0.1 ra0.2)
  have v_a : IntKind.u8.wrap a = a := by rw [IntKind.wrap_u8]; omega
  have g_a := Lib.hid (u8_of a a0.1 a0.2)
  have v_b : IntKind.u8.wrap b = b := by rw [IntKind.wrap_u8]; omega
  have g_b := Lib.hid (u8_of b b0.1 b0.2)
  have v_c : IntKind.u8.wrap c = c := by rw [IntKind.wrap_u8]; omega
  have g_c := Lib.hid (u8_of c c0.1 c0.2)
  have v_d : IntKind.u8.wrap d = d := by rw [IntKind.wrap_u8]; omega
  have g_d := Lib.hid (u8_of d d0.1 d0.2)
  have v_x : IntKind.u8.wrap x = x := by rw [IntKind.wrap_u8]; omega
  have g_x := Lib.hid (u8_of x x0.1 x0.2)
  have v_m : IntKind.u8.wrap m = m := by rw [IntKind.wrap_u8]; omega
  have g_m := Lib.hid (u8_of m m0.1 m0.2)
  have v_p : IntKind.u8.wrap p = p := by rw [IntKind.wrap_u8]; omega
  have g_p := Lib.hid (u8_of p p0.1 p0.2)
  have v_t : IntKind.u8.wrap t = t := by rw [IntKind.wrap_u8]; omega
  have g_t := Lib.hid (u8_of t t0.1 t0.2)
  have v_k : IntKind.u8.wrap k = k := by rw [IntKind.wrap_u8]; omega
  have g_k := Lib.hid (u8_of k k0.1 k0.2)
  have v_s : IntKind.u8.wrap (s.size : Int) = s.size := by rw [IntKind.wrap_u8]; omega
  have v_n : IntKind.u8.wrap (tn : Int) = tn := by rw [IntKind.wrap_u8]; omega
  have g_s := Lib.hid (u8_of (s.size : Int) (by omega) (by omega))
  have g_n := Lib.hid (u8_of (tn : Int) (by omega) (by omega))
  have HS0 : Hid (ES w 32 (cL s kd a b c d x m p t k es en ec ts tn tc r) ((w.alloc (.cells #[.string s, .int .i64 kd, .int .i64 a, .int .i64 b, .int .i64 c, .int .i64 d, .int .i64 x, .int .i64 m, .int .i64 p, .int .i64 t, .int .i64 k, .slice es en ec, .slice ts tn tc, .int .i64 r] 32)).alloc (.cells #[.int .u8 kd, .int .u8 r, .int .u8 (s.size : Int)] 5)) (.slice (some ⟨w.heap.size + 1, 0, none⟩) 3 3) 3 [u8 kd, u8 r, u8 s.size]) := Lib.hid ⟨by
    have h1 := World.ownsRow_lit (base := w.heap.size) (e := 5) (size := 1) (w.alloc (.cells #[.string s, .int .i64 kd, .int .i64 a, .int .i64 b, .int .i64 c, .int .i64 d, .int .i64 x, .int .i64 m, .int .i64 p, .int .i64 t, .int .i64 k, .slice es en ec, .slice ts tn tc, .int .i64 r] 32)) #[.int .u8 kd, .int .u8 r, .int .u8 (s.size : Int)] 3 HB0.out.size (by unfold maxLen; omega) rfl
    simpa [bys, g_kd.out, g_r.out, g_s.out] using h1, HB0.out.alloc HB0.out.size _, HM0.out.alloc _⟩
  obtain ⟨cx0, cx1, -, -, -, -, -, -, -, -, -, -, -, cx13, -⟩ := card14 HM0.out
  go_enter Tryz.func10, Tryz.ntmps10
  go_wp2_with fail
  clear cx0 cx1 cx13
  go_loopw [3, 4] (fun v i wr => ∃ k9 : Nat, k9 ≤ s.size ∧ i = .int .i64 k9 ∧ Hid (ES w 32 (cL s kd a b c d x m p t k es en ec ts tn tc r) wr v (3 + k9) ([u8 kd, u8 r, u8 s.size] ++ s.data.toList.take k9))) (fun _ i _ => s.size - (intOf i).toNat)
  case atStart => exact ⟨0, Nat.zero_le _, rfl, Lib.hid (by rw [List.take_zero, List.append_nil]; exact HS0.out)⟩
  case round =>
    clear HS0
    obtain ⟨k9, hk9, rfl, HT⟩ := hrel
    by_cases hlt : k9 < s.size
    · have cx0 := HT.out.box.cell 0
      have HA := Lib.hid (HT.out.alloc (.cells #[.int .u8 (s[k9].toNat : Int)] 5))
      have z1 := HA.out.hb.size
      have HTK : Hid (s.data.toList.take (k9 + 1) = s.data.toList.take k9 ++ [s[k9]]) := Lib.hid (by
        have hk : k9 < s.data.toList.length := by rw [list_len]; exact hlt
        rw [List.take_succ_eq_append_getElem hk]
        simp [ByteArray.getElem_eq_getElem_data])
      go_wp2_with (at_builtin; refine wpList_append_own _ rfl _ _ 38 rfl w.heap.size 5 i0 (.int .u8 0) 1 1 Tryz.underlying38 hi hz0 hz1 hz2 rfl (by decide) _ (3 + k9) _ rfl HA.out.own ⟨wr.heap.size, 0, none⟩ 1 1 [.int .u8 (s[k9].toNat : Int)] rfl rfl (fun j u hu => by rw [addr_add, Nat.zero_add]; exact ((new0 wr 5 [.int .u8 (s[k9].toNat : Int)]).cell j).trans hu) (by simp [Value.oneCell']) (by unfold maxLen; omega) (by omega) z1 ?_; intro v1 w1 hown hgrow _; have HS1 : Hid (ES w 32 (cL s kd a b c d x m p t k es en ec ts tn tc r) w1 v1 (3 + (k9 + 1)) ([u8 kd, u8 r, u8 s.size] ++ s.data.toList.take (k9 + 1))) := Lib.hid (HA.out.app (by decide) hown hgrow (by rw [HTK.out, ← List.append_assoc, bys_app _ [s[k9]]]; rfl)); clear hown hgrow)
      exact ⟨⟨k9 + 1, by omega, by go_num, HS1⟩, by simp [intOf]; omega⟩
    · obtain rfl : k9 = s.size := by omega
      have HTA : Hid (s.data.toList.take s.size = s.data.toList) := Lib.hid (List.take_of_length_le (by rw [list_len]; exact Nat.le_refl _))
      have HT1 : Hid (ES w 32 (cL s kd a b c d x m p t k es en ec ts tn tc r) wr u3 (3 + s.size) ([u8 kd, u8 r, u8 s.size] ++ s.data.toList)) := Lib.hid (by have := HT.out; rw [HTA.out] at this; exact this)
      have HA1 := Lib.hid (HT1.out.alloc (.cells #[.int .u8 a, .int .u8 b, .int .u8 c, .int .u8 d, .int .u8 x, .int .u8 m, .int .u8 p, .int .u8 t, .int .u8 k] 5))
      have z1 := HA1.out.hb.size
      obtain ⟨cx0, -, cx2, cx3, cx4, cx5, cx6, cx7, cx8, cx9, cx10, -, -, -, -⟩ := card14 HT1.out.box
      clear HT HTA
      go_wp2_with (at_builtin; refine wpList_append_own _ rfl _ _ 38 rfl w.heap.size 5 i0 (.int .u8 0) 1 1 Tryz.underlying38 hi hz0 hz1 hz2 rfl (by decide) _ (3 + s.size) _ rfl HA1.out.own ⟨wr.heap.size, 0, none⟩ 9 9 [.int .u8 a, .int .u8 b, .int .u8 c, .int .u8 d, .int .u8 x, .int .u8 m, .int .u8 p, .int .u8 t, .int .u8 k] rfl rfl (fun j u hu => by rw [addr_add, Nat.zero_add]; exact ((new0 wr 5 [.int .u8 a, .int .u8 b, .int .u8 c, .int .u8 d, .int .u8 x, .int .u8 m, .int .u8 p, .int .u8 t, .int .u8 k]).cell j).trans hu) (by simp [Value.oneCell']) (by unfold maxLen; omega) (by omega) z1 ?_; intro v5 w5 hown hgrow _; have HS2 : Hid (ES w 32 (cL s kd a b c d x m p t k es en ec ts tn tc r) w5 v5 (3 + s.size + 9) (([u8 kd, u8 r, u8 s.size] ++ s.data.toList) ++ [u8 a, u8 b, u8 c, u8 d, u8 x, u8 m, u8 p, u8 t, u8 k])) := Lib.hid (HA1.out.app (by decide) hown hgrow (by rw [show ([.int .u8 a, .int .u8 b, .int .u8 c, .int .u8 d, .int .u8 x, .int .u8 m, .int .u8 p, .int .u8 t, .int .u8 k] : List Value) = bys [u8 a, u8 b, u8 c, u8 d, u8 x, u8 m, u8 p, u8 t, u8 k] by simp only [bys, List.map_cons, List.map_nil, g_a.out, g_b.out, g_c.out, g_d.out, g_x.out, g_m.out, g_p.out, g_t.out, g_k.out], ← bys_app])); obtain ⟨-, -, -, -, -, -, -, -, -, -, -, cx11, -, -, -⟩ := card14 HS2.out.box; clear hown hgrow)
      clear cx0 cx2 cx3 cx4 cx5 cx6 cx7 cx8 cx9 cx10 HT1 HA1
      have HEB := reffB_any es en ec e w5 (HH.out.e.below HS2.out.hb (Nat.le_refl _)) eA
      refine HEB.mono ?_; rintro v w8 ⟨b9, o9, n9, c9, rfl, hl9, hb9, hc9, hbb⟩
      have HS7 := Lib.hid (HS2.out.below hbb)
      rw [encB_len, HLE.out] at hl9
      have HC9 := Lib.hid hc9
      clear hbb hc9 cx11 HEB
      have z7 := HS7.out.hb.size
      go_wp2_with (first | (at_builtin; refine wpList_append_own _ rfl _ _ 38 rfl w.heap.size 5 i0 (.int .u8 0) 1 1 Tryz.underlying38 hi hz0 hz1 hz2 rfl (by decide) _ (3 + s.size + 9) _ rfl HS7.out.own ⟨b9, o9, none⟩ n9 c9 (bys (encB e)) rfl (by rw [bys_len, encB_len, HLE.out, hl9, Nat.mul_one]) (fun j u hu => by rw [addr_add]; exact HC9.out j u hu) (bys_one _) (by unfold maxLen; omega) (by omega) z7 ?_; intro v9 w9 hown hgrow _; have HS8 : Hid (ES w 32 (cL s kd a b c d x m p t k es en ec ts tn tc r) w9 v9 (3 + s.size + 9 + n9) ((([u8 kd, u8 r, u8 s.size] ++ s.data.toList) ++ [u8 a, u8 b, u8 c, u8 d, u8 x, u8 m, u8 p, u8 t, u8 k]) ++ encB e)) := Lib.hid (HS7.out.app (by decide) hown hgrow (bys_app _ _).symm); obtain ⟨-, -, -, -, -, -, -, -, -, -, -, -, cx12, -, -⟩ := card14 HS8.out.box; have HA8 := Lib.hid (HS8.out.alloc (.cells #[.int .u8 (tn : Int)] 5)); have z8 := HA8.out.hb.size; clear hown hgrow) | (at_builtin; refine wpList_append_own _ rfl _ _ 38 rfl w.heap.size 5 i0 (.int .u8 0) 1 1 Tryz.underlying38 hi hz0 hz1 hz2 rfl (by decide) _ (3 + s.size + 9 + n9) _ rfl HA8.out.own ⟨w9.heap.size, 0, none⟩ 1 1 [.int .u8 (tn : Int)] rfl rfl (fun j u hu => by rw [addr_add, Nat.zero_add]; exact ((new0 w9 5 [.int .u8 (tn : Int)]).cell j).trans hu) (by simp [Value.oneCell']) (by unfold maxLen; omega) (by omega) z8 ?_; intro va wa hown hgrow _; have HS9 : Hid (ES w 32 (cL s kd a b c d x m p t k es en ec ts tn tc r) wa va (3 + s.size + 9 + n9 + 1) (((([u8 kd, u8 r, u8 s.size] ++ s.data.toList) ++ [u8 a, u8 b, u8 c, u8 d, u8 x, u8 m, u8 p, u8 t, u8 k]) ++ encB e) ++ [u8 tn])) := Lib.hid (HA8.out.app (by decide) hown hgrow (by rw [show ([.int .u8 (tn : Int)] : List Value) = bys [u8 tn] by simp only [bys, List.map_cons, List.map_nil, g_n.out], ← bys_app])); clear hown hgrow))
      obtain ⟨N, hN⟩ : ∃ N, N = 3 + s.size + 9 + n9 + 1 := ⟨_, rfl⟩
      have hNb : N ≤ 70 := by omega
      have HSN := HS9
      rw [← hN] at HSN
      clear hN HS9 HS7 HS2 HC9 cx12
      have HX : Hid (∀ k, k < tn → trBy (l.take (k + 1)) = trBy (l.take k) ++ [u8 (l.getD k default).w] ++ encB (l.getD k default).e) := Lib.hid fun k hk => trBy_succ (by rw [HLN.out]; exact hk)
      have HY : Hid (∀ k, k < tn → (0 ≤ (l.getD k default).w ∧ (l.getD k default).w < 256) ∧ allB (l.getD k default).e = true) := Lib.hid fun k hk => HW.out _ (by rw [List.getD_eq_getElem?_getD, List.getElem?_eq_getElem (by rw [HLN.out]; exact hk)]; exact List.getElem_mem _)
      generalize hpre : (((([u8 kd, u8 r, u8 s.size] ++ s.data.toList) ++ [u8 a, u8 b, u8 c, u8 d, u8 x, u8 m, u8 p, u8 t, u8 k]) ++ encB e) ++ [u8 tn]) = pre at *
      have HP := Lib.hid hpre
      clear hpre
      go_loopw [3, 5] (fun v i wr => ∃ k9 M : Nat, k9 ≤ tn ∧ M ≤ 70 + 22 * k9 ∧ i = .int .i64 k9 ∧ Hid (ES w 32 (cL s kd a b c d x m p t k es en ec ts tn tc r) wr v M (pre ++ trBy (l.take k9)))) (fun _ i _ => tn - (intOf i).toNat)
      case atStart => exact ⟨0, N, Nat.zero_le _, by omega, rfl, Lib.hid (by rw [List.take_zero, show trBy [] = [] from rfl, List.append_nil]; exact HSN.out)⟩
      case round =>
        obtain ⟨k', M, hk, hM, rfl, HT⟩ := hrel
        by_cases hlt : k' < tn
        · obtain ⟨tb, toff, hts, htb, hc⟩ := HGE.out (by omega)
          obtain ⟨s', n', c', hat⟩ := hc k' hlt
          obtain ⟨c0, c1, ce⟩ := hat.below HT.out.hb htb (Nat.le_refl _)
          have cx12 : wr.cell? ⟨w.heap.size, 12, none⟩ = some (.slice (some ⟨tb, toff, none⟩) tn tc) := by rw [← hts]; exact HT.out.box.cell 12
          have HX' := Lib.hid (HX.out k' hlt)
          obtain ⟨⟨w0, w1⟩, hA⟩ := HY.out k' hlt
          have HTS := Lib.hid hts
          have CT1 : Hid (∀ W, Below w.heap.size w W → W.cell? ⟨tb, toff + k' * 2 + 1, none⟩ = some (.slice s' n' c')) := Lib.hid fun W hW => (hW.cell (p := ⟨tb, _, none⟩) htb).trans hat.c1
          clear hts hc
          generalize l.getD k' default = y at *
          obtain ⟨yw, ye⟩ := y
          dsimp only at c0 c1 ce HX' w0 w1 hA
          have hn5 := ce.n
          have hy4 : n' ≤ 4 := by have := (all_bd hA).1; omega
          have HN5 := Lib.hid hn5
          have v_w : IntKind.u8.wrap yw = yw := by rw [IntKind.wrap_u8]; omega
          have g_w := Lib.hid (u8_of yw w0 w1)
          have HA1 := Lib.hid (HT.out.alloc (.cells #[.int .u8 yw] 5))
          have z1 := HA1.out.hb.size
          have CW : Hid (∀ W, Below w.heap.size w W → EfsAt W s' n' ye) := Lib.hid fun W hW => hat.e.below hW (Nat.le_refl _)
          have zr := HT.out.hb.size
          clear ce hn5 hat
          go_wp2_with (at_builtin; refine wpList_append_own _ rfl _ _ 38 rfl w.heap.size 5 i0 (.int .u8 0) 1 1 Tryz.underlying38 hi hz0 hz1 hz2 rfl (by decide) _ (M) _ rfl HA1.out.own ⟨wr.heap.size, 0, none⟩ 1 1 [.int .u8 yw] rfl rfl (fun j u hu => by rw [addr_add, Nat.zero_add]; exact ((new0 wr 5 [.int .u8 yw]).cell j).trans hu) (by simp [Value.oneCell']) (by unfold maxLen; omega) (by omega) z1 ?_; intro v5 w5 hown hgrow _; have HT5 : Hid (ES w 32 (cL s kd a b c d x m p t k es en ec ts tn tc r) w5 v5 (M + 1) (pre ++ trBy (l.take k') ++ [efFn.u8 yw])) := Lib.hid (HA1.out.app (by decide) hown hgrow (by rw [show ([.int .u8 yw] : List Value) = bys [efFn.u8 yw] by simp only [bys, List.map_cons, List.map_nil, g_w.out], ← bys_app])); have CE5 : Hid (EfsAt w5 s' n' ye) := Lib.hid (CW.out w5 HT5.out.hb); have x1 := CT1.out w5 HT5.out.hb; have cx12' : w5.cell? ⟨w.heap.size, 12, none⟩ = some (.slice (some ⟨tb, toff, none⟩) tn tc) := (by rw [← HTS.out]; exact HT5.out.box.cell 12); clear hown hgrow)
          have HEB := reffB_any s' n' c' ye w5 CE5.out hA
          clear cx12 c0 c1
          refine HEB.mono ?_; rintro v w6 ⟨b9, o9, n9, c9, rfl, hl9, hb9, hc9, hbb⟩
          have HT6 := Lib.hid (HT5.out.below hbb)
          rw [encB_len, HN5.out] at hl9
          have HC9 := Lib.hid hc9
          clear hbb hc9 x1 cx12' HEB
          have z6 := HT6.out.hb.size
          go_wp2_with (at_builtin; refine wpList_append_own _ rfl _ _ 38 rfl w.heap.size 5 i0 (.int .u8 0) 1 1 Tryz.underlying38 hi hz0 hz1 hz2 rfl (by decide) _ (M + 1) _ rfl HT6.out.own ⟨b9, o9, none⟩ n9 c9 (bys (encB ye)) rfl (by rw [bys_len, encB_len, HN5.out, hl9, Nat.mul_one]) (fun j u hu => by rw [addr_add]; exact HC9.out j u hu) (bys_one _) (by unfold maxLen; omega) (by omega) z6 ?_; intro v7 w7 hown hgrow _; have HT7 : Hid (ES w 32 (cL s kd a b c d x m p t k es en ec ts tn tc r) w7 v7 (M + 1 + n9) (pre ++ trBy (l.take k') ++ [efFn.u8 yw] ++ encB ye)) := Lib.hid (HT6.out.app (by decide) hown hgrow (bys_app _ _).symm); clear hown hgrow)
          exact ⟨⟨k' + 1, M + 1 + n9, by omega, by omega, by go_num, Lib.hid (by rw [HX'.out, ← List.append_assoc, ← List.append_assoc]; exact HT7.out)⟩, by simp [intOf]; omega⟩
        · obtain rfl : tn = k' := by omega
          have cx12 := HT.out.box.cell 12
          go_wp2_with fail
          go_ret
          obtain ⟨sp, cp, rfl, hB, hcp⟩ := HT.out.form (by omega)
          refine ⟨_, _, _, rfl, ?_, HT.out.hb⟩
          rw [HD.out]
          rw [List.take_of_length_le (by rw [HLN.out]; exact Nat.le_refl _)] at hB
          exact hB
end Go.Proofs.YtkappnnoienhnaaGreatDoor.caFn

/- Digits and joined texts, by the reference. -/
namespace Go.Proofs.YtkappnnoienhnaaGreatDoor.caFn
open Go.ChangeShapes Go.WideShapes Go.ChangeAt Go.RowKit drMem efFn
set_option linter.unusedVariables false

theorem rdig_small (p : Nat) (w : World) (h : p < 10) : Calls Tryz.prog 24 #[.int .i64 (p : Int)] w fun e w' => e = .returned (.string (bs (tab p))) ∧ w = w' := by
  have hk : p = 0 ∨ p = 1 ∨ p = 2 ∨ p = 3 ∨ p = 4 ∨ p = 5 ∨ p = 6 ∨ p = 7 ∨ p = 8 ∨ p = 9 := by omega
  rcases hk with rfl | rfl | rfl | rfl | rfl | rfl | rfl | rfl | rfl | rfl
  all_goals
    go_enter Tryz.func24, Tryz.ntmps24
    go_wp2
    go_ret
    exact ⟨rfl, rfl⟩
set_option maxRecDepth 100000 in
theorem rdig_any (p : Nat) (w : World) (h : p ≤ 99) : Calls Tryz.prog 24 #[.int .i64 (p : Int)] w fun e w' => e = .returned (.string (bs (tab p))) ∧ w = w' := by
  by_cases hp : p < 10
  · exact rdig_small p w hp
  · have H1 := fun w => rdig_small (p / 10) w (by omega)
    have H2 := fun w => rdig_small (p % 10) w (by omega)
    have hc := cat_run (tab (p / 10)) (tab (p % 10)) (by have := tab_len (p / 10); have := tab_len (p % 10); omega)
    have e1 : tab (p / 10) ++ tab (p % 10) = tab p := by
      have a1 : tab (p / 10) = [UInt8.ofNat (48 + p / 10)] := by unfold tab; rw [if_pos (by omega)]
      have a2 : tab (p % 10) = [UInt8.ofNat (48 + p % 10)] := by unfold tab; rw [if_pos (by omega)]
      rw [a1, a2]; unfold tab; rw [if_neg hp]; rfl
    rw [e1] at hc
    have e2 : (p : Int).tdiv 10 = ((p / 10 : Nat) : Int) := by rw [Int.tdiv_eq_ediv_of_nonneg (by omega)]; omega
    have e3 : (p : Int).tmod 10 = ((p % 10 : Nat) : Int) := by rw [Int.tmod_eq_emod_of_nonneg (by omega)]; omega
    have a9 : p / 10 ≤ 9 := by omega
    have b9 : p % 10 ≤ 9 := by omega
    have hd : decide ((p : Int) < 10) = false := decide_eq_false (by omega)
    generalize p / 10 = a at *
    generalize p % 10 = b at *
    go_enter Tryz.func24, Tryz.ntmps24
    go_wp2_with (first | (go_at_call 24; (with_reducible refine (H1 _).mono ?_); rintro e w' ⟨rfl, rfl⟩) | (go_at_call 24; (with_reducible refine (H2 _).mono ?_); rintro e w' ⟨rfl, rfl⟩))
    go_ret
    exact ⟨rfl, rfl⟩
theorem join_snoc (sep a : List UInt8) (r : List (List UInt8)) (x : List UInt8) : Lib.join ((a :: r) ++ [x]) sep = Lib.join (a :: r) sep ++ sep ++ x := by
  rw [List.cons_append, Lib.join_cons, Lib.join_cons]
  unfold Lib.joinTail
  simp
theorem kw_shift (kk q : Nat) : (((kk : Int) / 2 ^ q).tmod 2 == 1) = kwHas kk q := by
  have e : ((kk : Int) / 2 ^ q) = ((kk / 2 ^ q : Nat) : Int) := by simp
  rw [e]
  unfold kwHas
  generalize kk / 2 ^ q = x
  rw [Bool.eq_iff_iff, beq_iff_eq, beq_iff_eq, Int.tmod_eq_emod_of_nonneg (by omega)]
  omega
theorem kc_at (q : Nat) (h : q < 4) : ([.string ⟨#[115, 119, 105, 102, 116]⟩, .string ⟨#[102, 108, 121, 105, 110, 103]⟩, .string ⟨#[119, 97, 116, 99, 104, 102, 117, 108]⟩, .string ⟨#[100, 101, 97, 100, 108, 121]⟩] : List Value)[q]? = some (.string (bs (kcL q))) := by
  have hq : q = 0 ∨ q = 1 ∨ q = 2 ∨ q = 3 := by omega
  rcases hq with rfl | rfl | rfl | rfl <;> rfl
theorem wh_at' (t : Int) (h0 : 1 ≤ t) (h1 : t ≤ 3) : ([.string ⟨#[]⟩, .string ⟨#[100, 105, 101, 115]⟩, .string ⟨#[97, 116, 116, 97, 99, 107, 115]⟩, .string ⟨#[117, 112, 107, 101, 101, 112]⟩] : List Value)[t.toNat]? = some (.string (bs (whL t.toNat))) := by
  have ht : t = 1 ∨ t = 2 ∨ t = 3 := by omega
  rcases ht with rfl | rfl | rfl <;> rfl
theorem join_pair (sep a b : List UInt8) : Lib.join [a, b] sep = a ++ sep ++ b := by
  rw [Lib.join_cons]; unfold Lib.joinTail; simp
theorem trT_form (yw : Int) (ye : List Ef) {n : Nat} (hn : ye.length = n) (h1 : 1 ≤ n) (h2 : n ≤ 2) : trT ⟨yw, ye⟩ = whL yw.toNat ++ [58, 32] ++ textE (ye.getD 0 default) ++ (if 1 < n then [32, 97, 110, 100, 32] ++ textE (ye.getD 1 default) else []) := by
  subst hn
  match ye, h1, h2 with
  | [a], _, _ => unfold trT; simp [Lib.join_one]
  | [a, b], _, _ => unfold trT; rw [List.map_cons, List.map_cons, List.map_nil, join_pair]; simp

end Go.Proofs.YtkappnnoienhnaaGreatDoor.caFn

/- The line of a source, by the reference. -/
namespace Go.Proofs.YtkappnnoienhnaaGreatDoor.caFn
open Go.ChangeShapes Go.WideShapes Go.ChangeAt Go.RowKit drMem efFn
set_option linter.unusedVariables false

set_option maxRecDepth 100000 in
set_option maxHeartbeats 4000000 in
theorem rline_1 (nm : List UInt8) (m r : Int) (ka kb kc kdd kx kp kt kk : Nat) (es : Option Addr) (en ec : Nat) (ts : Option Addr) (tn tc : Nat) (w : World) (h1 : nm.length ≤ 32) (hm : 0 ≤ m ∧ m ≤ 3) :
    Calls Tryz.prog 11 #[cV (bs nm) 1 (ka : Nat) (kb : Nat) (kc : Nat) (kdd : Nat) (kx : Nat) m (kp : Nat) (kt : Nat) (kk : Nat) es en ec ts tn tc r] w fun v w' => v = .returned (.string (bs (Lib.join [nm, [115, 111, 117, 114, 99, 101, 32, 111, 102, 32] ++ letT m] [44, 32]))) ∧ Below w.heap.size w w' := by
  have HB0 := Lib.hid (show Below w.heap.size w (w.alloc (.cells #[.string (bs nm), .int .i64 1, .int .i64 (ka : Nat), .int .i64 (kb : Nat), .int .i64 (kc : Nat), .int .i64 (kdd : Nat), .int .i64 (kx : Nat), .int .i64 m, .int .i64 (kp : Nat), .int .i64 (kt : Nat), .int .i64 (kk : Nat), .slice es en ec, .slice ts tn tc, .int .i64 r] 32)) from (Below.refl _ _).alloc (Nat.le_refl _) _)
  have HM0 := Lib.hid (new0 w 32 (cL (bs nm) 1 (ka : Nat) (kb : Nat) (kc : Nat) (kdd : Nat) (kx : Nat) m (kp : Nat) (kt : Nat) (kk : Nat) es en ec ts tn tc r))
  have hm4 : m = 0 ∨ m = 1 ∨ m = 2 ∨ m = 3 := by omega
  have c1 : ∀ w, (Op.stringOp .add (bs nm) ⟨#[44, 32]⟩).run Tryz.prog w = .ok (.string (bs (nm ++ [44, 32]))) w := cat_run nm [44, 32] (by simp; omega)
  have c2 : ∀ w, (Op.stringOp .add (bs (nm ++ [44, 32])) ⟨#[115, 111, 117, 114, 99, 101, 32, 111, 102, 32]⟩).run Tryz.prog w = .ok (.string (bs ((nm ++ [44, 32]) ++ [115, 111, 117, 114, 99, 101, 32, 111, 102, 32]))) w := cat_run (nm ++ [44, 32]) [115, 111, 117, 114, 99, 101, 32, 111, 102, 32] (by simp; omega)
  obtain ⟨L, hL⟩ : ∃ L, (nm ++ [44, 32]) ++ [115, 111, 117, 114, 99, 101, 32, 111, 102, 32] = L := ⟨_, rfl⟩
  have hLl : L.length ≤ 44 := by rw [← hL]; simp; omega
  rw [hL] at c2
  have HL := Lib.hid hL
  clear hL hm
  rw [join_pair]
  rcases hm4 with rfl | rfl | rfl | rfl
  · have ks : ∀ w, Sem.run Tryz.prog (Instr.slice 9 (Value.string { data := #[69, 84, 76, 83] }) (some (Value.int IntKind.i64 0)) (some (Value.int IntKind.i64 (IntKind.i64.wrap 1))) none) w = Result.ok (Value.string ⟨#[69]⟩) w := fun w => by kernel_rfl
    have e3 : (⟨#[69, 84, 76, 83]⟩ : ByteArray).extract 0 1 = ⟨#[69]⟩ := by decide
    have c3 : ∀ w, (Op.stringOp .add (bs L) ((⟨#[69, 84, 76, 83]⟩ : ByteArray).extract 0 1)).run Tryz.prog w = .ok (.string (bs (L ++ [69]))) w := by rw [e3]; exact cat_run L [69] (by simp; omega)
    clear ks e3
    obtain ⟨cx0, cx1, cx2, cx3, cx4, cx5, cx6, cx7, cx8, cx9, cx10, cx11, cx12, cx13, cx14⟩ := card14 HM0.out
    go_enter Tryz.func11, Tryz.ntmps11
    go_wp2_with fail
    go_ret
    exact ⟨by rw [← HL.out]; simp [letT], HB0.out⟩
  · have ks : ∀ w, Sem.run Tryz.prog (Instr.slice 9 (Value.string { data := #[69, 84, 76, 83] }) (some (Value.int IntKind.i64 1)) (some (Value.int IntKind.i64 (IntKind.i64.wrap 2))) none) w = Result.ok (Value.string ⟨#[84]⟩) w := fun w => by kernel_rfl
    have e3 : (⟨#[69, 84, 76, 83]⟩ : ByteArray).extract 1 2 = ⟨#[84]⟩ := by decide
    have c3 : ∀ w, (Op.stringOp .add (bs L) ((⟨#[69, 84, 76, 83]⟩ : ByteArray).extract 1 2)).run Tryz.prog w = .ok (.string (bs (L ++ [84]))) w := by rw [e3]; exact cat_run L [84] (by simp; omega)
    clear ks e3
    obtain ⟨cx0, cx1, cx2, cx3, cx4, cx5, cx6, cx7, cx8, cx9, cx10, cx11, cx12, cx13, cx14⟩ := card14 HM0.out
    go_enter Tryz.func11, Tryz.ntmps11
    go_wp2_with fail
    go_ret
    exact ⟨by rw [← HL.out]; simp [letT], HB0.out⟩
  · have ks : ∀ w, Sem.run Tryz.prog (Instr.slice 9 (Value.string { data := #[69, 84, 76, 83] }) (some (Value.int IntKind.i64 2)) (some (Value.int IntKind.i64 (IntKind.i64.wrap 3))) none) w = Result.ok (Value.string ⟨#[76]⟩) w := fun w => by kernel_rfl
    have e3 : (⟨#[69, 84, 76, 83]⟩ : ByteArray).extract 2 3 = ⟨#[76]⟩ := by decide
    have c3 : ∀ w, (Op.stringOp .add (bs L) ((⟨#[69, 84, 76, 83]⟩ : ByteArray).extract 2 3)).run Tryz.prog w = .ok (.string (bs (L ++ [76]))) w := by rw [e3]; exact cat_run L [76] (by simp; omega)
    clear ks e3
    obtain ⟨cx0, cx1, cx2, cx3, cx4, cx5, cx6, cx7, cx8, cx9, cx10, cx11, cx12, cx13, cx14⟩ := card14 HM0.out
    go_enter Tryz.func11, Tryz.ntmps11
    go_wp2_with fail
    go_ret
    exact ⟨by rw [← HL.out]; simp [letT], HB0.out⟩
  · have ks : ∀ w, Sem.run Tryz.prog (Instr.slice 9 (Value.string { data := #[69, 84, 76, 83] }) (some (Value.int IntKind.i64 3)) (some (Value.int IntKind.i64 (IntKind.i64.wrap 4))) none) w = Result.ok (Value.string ⟨#[83]⟩) w := fun w => by kernel_rfl
    have e3 : (⟨#[69, 84, 76, 83]⟩ : ByteArray).extract 3 4 = ⟨#[83]⟩ := by decide
    have c3 : ∀ w, (Op.stringOp .add (bs L) ((⟨#[69, 84, 76, 83]⟩ : ByteArray).extract 3 4)).run Tryz.prog w = .ok (.string (bs (L ++ [83]))) w := by rw [e3]; exact cat_run L [83] (by simp; omega)
    clear ks e3
    obtain ⟨cx0, cx1, cx2, cx3, cx4, cx5, cx6, cx7, cx8, cx9, cx10, cx11, cx12, cx13, cx14⟩ := card14 HM0.out
    go_enter Tryz.func11, Tryz.ntmps11
    go_wp2_with fail
    go_ret
    exact ⟨by rw [← HL.out]; simp [letT], HB0.out⟩
end Go.Proofs.YtkappnnoienhnaaGreatDoor.caFn

/- The line of a creature, by the reference. -/
namespace Go.Proofs.YtkappnnoienhnaaGreatDoor.caFn
open Go.ChangeShapes Go.WideShapes Go.ChangeAt Go.RowKit drMem efFn
set_option linter.unusedVariables false

set_option maxRecDepth 100000 in
set_option maxHeartbeats 16000000 in
theorem rline_2 (nm : List UInt8) (m r : Int) (ka kb kc kdd kx kp kt kk : Nat) (es : Option Addr) (en ec : Nat) (ts : Option Addr) (tn tc : Nat) (e : List Ef) (l : List Tr) (w : World) (h : CdAt w es en e ts tn l) (h1 : nm.length ≤ 32) (hc : maFn.okC ka kb kc kdd kx = true) (hp : kp ≤ 99) (ht : kt ≤ 99) (hk : kk < 16) (hE : allB e = true) (hl : tn ≤ 2) (hT : ∀ t ∈ l, (1 ≤ t.w ∧ t.w ≤ 3) ∧ (1 ≤ t.e.length ∧ t.e.length ≤ 2) ∧ allB t.e = true) (co : List UInt8) (hco : maFn.textL ka kb kc kdd kx = co) (hcl : co.length ≤ 82) :
    Calls Tryz.prog 11 #[cV (bs nm) 2 (ka : Nat) (kb : Nat) (kc : Nat) (kdd : Nat) (kx : Nat) m (kp : Nat) (kt : Nat) (kk : Nat) es en ec ts tn tc r] w fun v w' => v = .returned (.string (bs (Lib.join (((([nm, [99, 114, 101, 97, 116, 117, 114, 101, 32] ++ co] ++ [tab kp ++ [47] ++ tab kt]) ++ kwT kk 4) ++ e.map textE) ++ l.map trT) [44, 32]))) ∧ Below w.heap.size w w' := by
  have HB0 := Lib.hid (show Below w.heap.size w (w.alloc (.cells #[.string (bs nm), .int .i64 2, .int .i64 (ka : Nat), .int .i64 (kb : Nat), .int .i64 (kc : Nat), .int .i64 (kdd : Nat), .int .i64 (kx : Nat), .int .i64 m, .int .i64 (kp : Nat), .int .i64 (kt : Nat), .int .i64 (kk : Nat), .slice es en ec, .slice ts tn tc, .int .i64 r] 32)) from (Below.refl _ _).alloc (Nat.le_refl _) _)
  have HM0 := Lib.hid (new0 w 32 (cL (bs nm) 2 (ka : Nat) (kb : Nat) (kc : Nat) (kdd : Nat) (kx : Nat) m (kp : Nat) (kt : Nat) (kk : Nat) es en ec ts tn tc r))
  have HH := Lib.hid h
  have hen : en ≤ 4 := by rw [← h.e.n]; exact (all_bd hE).1
  have HLE := Lib.hid h.e.n
  have HLT := Lib.hid h.t.n
  have HEA := Lib.hid (all_ok hE)
  have HTA := Lib.hid hT
  have HTX : Hid (∀ W : World, Calls Tryz.prog 23 #[.agg #[.int .i64 (ka : Nat), .int .i64 (kb : Nat), .int .i64 (kc : Nat), .int .i64 (kdd : Nat), .int .i64 (kx : Nat)]] W fun e w' => e = .returned (.string (bs co)) ∧ Below W.heap.size W w') := Lib.hid fun W => by
    have := maFn.rText_yes ka kb kc kdd kx W hc
    rw [hco] at this
    exact this
  have HGE : Hid (0 < en → ∃ eb eoff, es = some ⟨eb, eoff, none⟩ ∧ eb < w.heap.size ∧ ∀ q, q < en → EfAt w eb (eoff + q * 5) (e.getD q default)) := Lib.hid fun h0 => by
    obtain ⟨eb, eoff, he, hb, hc⟩ := HH.out.e.c h0
    exact ⟨eb, eoff, he, hb, fun q hq => hc q _ (get_some (by rw [HLE.out]; exact hq))⟩
  have HGT : Hid (0 < tn → ∃ tb toff, ts = some ⟨tb, toff, none⟩ ∧ tb < w.heap.size ∧ ∀ q, q < tn → ∃ s n c, TrAt w tb (toff + q * 2) (l.getD q default) s n c) := Lib.hid fun h0 => by
    obtain ⟨tb, toff, he, hb, hc⟩ := HH.out.t.c h0
    exact ⟨tb, toff, he, hb, fun q hq => hc q _ (getT (by rw [HLT.out]; exact hq))⟩
  clear h hE hT hco hc
  obtain ⟨cx0, cx1, cx2, cx3, cx4, cx5, cx6, cx7, cx8, cx9, cx10, cx11, cx12, cx13, cx14⟩ := card14 HM0.out
  have c1 : ∀ w, (Op.stringOp .add (bs nm) ⟨#[44, 32]⟩).run Tryz.prog w = .ok (.string (bs (nm ++ [44, 32]))) w := cat_run nm [44, 32] (by first | omega | (simp; omega))
  obtain ⟨La, hLa⟩ : ∃ La, nm ++ [44, 32] = La := ⟨_, rfl⟩
  obtain ⟨Lb, hLb⟩ : ∃ Lb, (La ++ [99, 114, 101, 97, 116, 117, 114, 101]) ++ [32] = Lb := ⟨_, rfl⟩
  have ha : La.length ≤ 34 := by rw [← hLa]; simp; omega
  have hb : Lb.length ≤ 44 := by rw [← hLb]; simp; omega
  rw [hLa] at c1
  have c2 : ∀ w, (Op.stringOp .add (bs La) ⟨#[99, 114, 101, 97, 116, 117, 114, 101]⟩).run Tryz.prog w = .ok (.string (bs (La ++ [99, 114, 101, 97, 116, 117, 114, 101]))) w := cat_run La [99, 114, 101, 97, 116, 117, 114, 101] (by first | omega | (simp; omega))
  have c3 : ∀ w, (Op.stringOp .add (bs (La ++ [99, 114, 101, 97, 116, 117, 114, 101])) ⟨#[32]⟩).run Tryz.prog w = .ok (.string (bs ((La ++ [99, 114, 101, 97, 116, 117, 114, 101]) ++ [32]))) w := cat_run (La ++ [99, 114, 101, 97, 116, 117, 114, 101]) [32] (by first | omega | (simp; omega))
  rw [hLb] at c3
  have c4 : ∀ w, (Op.stringOp .add (bs Lb) (bs co)).run Tryz.prog w = .ok (.string (bs (Lb ++ co))) w := cat_run Lb co (by first | omega | (simp; omega))
  have HL1 : Hid (Lb ++ co = Lib.join [nm, [99, 114, 101, 97, 116, 117, 114, 101, 32] ++ co] [44, 32]) := Lib.hid (by rw [← hLb, ← hLa, join_pair]; simp)
  have hl1 : (Lb ++ co).length ≤ 130 := by simp; omega
  clear hLa hLb
  go_enter Tryz.func11, Tryz.ntmps11
  go_upto_region 4 with fail
  go_cut [3] from 23 to 34 (fun s3 wr => s3 = .string (bs (Lb ++ co)) ∧ Hid (has wr w.heap.size 32 (cL (bs nm) 2 (ka : Nat) (kb : Nat) (kc : Nat) (kdd : Nat) (kx : Nat) m (kp : Nat) (kt : Nat) (kk : Nat) es en ec ts tn tc r)) ∧ Hid (Below w.heap.size w wr))
  case first =>
    have HMc := Lib.hid (show has (w.alloc (.cells #[.string (bs nm), .int .i64 2, .int .i64 (ka : Nat), .int .i64 (kb : Nat), .int .i64 (kc : Nat), .int .i64 (kdd : Nat), .int .i64 (kx : Nat), .int .i64 m, .int .i64 (kp : Nat), .int .i64 (kt : Nat), .int .i64 (kk : Nat), .slice es en ec, .slice ts tn tc, .int .i64 r] 32)).drew w.heap.size 32 (cL (bs nm) 2 (ka : Nat) (kb : Nat) (kc : Nat) (kdd : Nat) (kx : Nat) m (kp : Nat) (kt : Nat) (kk : Nat) es en ec ts tn tc r) from HM0.out)
    have HBc := Lib.hid (show Below w.heap.size w (w.alloc (.cells #[.string (bs nm), .int .i64 2, .int .i64 (ka : Nat), .int .i64 (kb : Nat), .int .i64 (kc : Nat), .int .i64 (kdd : Nat), .int .i64 (kx : Nat), .int .i64 m, .int .i64 (kp : Nat), .int .i64 (kt : Nat), .int .i64 (kk : Nat), .slice es en ec, .slice ts tn tc, .int .i64 r] 32)).drew from HB0.out.drew)
    have HMd := HMc
    refine wp_region_held_drew (S := (fun w' => has w' w.heap.size 32 (cL (bs nm) 2 (ka : Nat) (kb : Nat) (kc : Nat) (kdd : Nat) (kx : Nat) m (kp : Nat) (kt : Nat) (kk : Nat) es en ec ts tn tc r))) (by kernel_rfl) ?_ (fun hH0 => ?_)
    · exact HMd.out
    refine wpAnyH_take (i := 0) (oi := _) (v := ?_) rfl (by kernel_rfl) (by kernel_rfl) (by kernel_rfl) (fun _ _ _ h => h) (Or.inl ⟨by rfl, ?_⟩) (by assumption) ?_
    rotate_left
    · intro w hSw; (try dsimp only at hSw); obtain ⟨x0, x1, x2, x3, x4, x5, x6, x7, x8, x9, x10, x11, x12, x13, x14⟩ := card14 hSw; first | (go_simp; done) | (go_simp; with_reducible rfl)
    try simp only [go_sem, Act.put, List.getElem_toArray, List.getElem_cons_zero, List.setIfInBounds_toArray, List.set_cons_succ, List.set_cons_zero]
    refine wpAnyH_take (i := 2) (oi := _) (v := ?_) rfl (by kernel_rfl) (by kernel_rfl) (by kernel_rfl) (fun _ _ _ h => h) (Or.inl ⟨by rfl, ?_⟩) (by assumption) ?_
    rotate_left
    · intro w hSw; (try dsimp only at hSw); obtain ⟨x0, x1, x2, x3, x4, x5, x6, x7, x8, x9, x10, x11, x12, x13, x14⟩ := card14 hSw; first | (go_simp; done) | (go_simp; with_reducible rfl)
    try simp only [go_sem, Act.put, List.getElem_toArray, List.getElem_cons_succ, List.getElem_cons_zero, List.setIfInBounds_toArray, List.set_cons_succ, List.set_cons_zero]
    refine wpAnyH_take (i := 3) (oi := _) (v := ?_) rfl (by kernel_rfl) (by kernel_rfl) (by kernel_rfl) (fun _ _ _ h => h) (Or.inl ⟨by rfl, ?_⟩) (by assumption) ?_
    rotate_left
    · intro w hSw; (try dsimp only at hSw); obtain ⟨x0, x1, x2, x3, x4, x5, x6, x7, x8, x9, x10, x11, x12, x13, x14⟩ := card14 hSw; first | (go_simp; done) | (go_simp; with_reducible rfl)
    try simp only [go_sem, Act.put, List.getElem_toArray, List.getElem_cons_succ, List.getElem_cons_zero, List.setIfInBounds_toArray, List.set_cons_succ, List.set_cons_zero]
    refine wpAnyH_take (i := 8) (oi := _) (v := ?_) rfl (by kernel_rfl) (by kernel_rfl) (by kernel_rfl) (fun _ _ _ h => h) (Or.inl ⟨by rfl, ?_⟩) (by assumption) ?_
    rotate_left
    · intro w hSw; (try dsimp only at hSw); obtain ⟨x0, x1, x2, x3, x4, x5, x6, x7, x8, x9, x10, x11, x12, x13, x14⟩ := card14 hSw; first | (go_simp; done) | (go_simp; with_reducible rfl)
    try simp only [go_sem, Act.put, List.getElem_toArray, List.getElem_cons_succ, List.getElem_cons_zero, List.setIfInBounds_toArray, List.set_cons_succ, List.set_cons_zero]
    refine wpAnyH_take (i := 9) (oi := _) (v := ?_) rfl (by kernel_rfl) (by kernel_rfl) (by kernel_rfl) (fun _ _ _ h => h) (Or.inl ⟨by rfl, ?_⟩) (by assumption) ?_
    rotate_left
    · intro w hSw; (try dsimp only at hSw); obtain ⟨x0, x1, x2, x3, x4, x5, x6, x7, x8, x9, x10, x11, x12, x13, x14⟩ := card14 hSw; first | (go_simp; done) | (go_simp; with_reducible rfl)
    try simp only [go_sem, Act.put, List.getElem_toArray, List.getElem_cons_succ, List.getElem_cons_zero, List.setIfInBounds_toArray, List.set_cons_succ, List.set_cons_zero]
    refine wpAnyH_ready (rs := [1, 10]) (by kernel_rfl) (by simp) ?_
    refine AllReadyH.cons (o := _) rfl (fun K hK => ?_) (AllReadyH.cons (o := _) rfl (fun K hK => ?_) AllReadyH.nil)
    · go_simp; have HN := Lib.hid (show has ((w.alloc (.cells #[.string (bs nm), .int .i64 2, .int .i64 (ka : Nat), .int .i64 (kb : Nat), .int .i64 (kc : Nat), .int .i64 (kdd : Nat), .int .i64 (kx : Nat), .int .i64 m, .int .i64 (kp : Nat), .int .i64 (kt : Nat), .int .i64 (kk : Nat), .slice es en ec, .slice ts tn tc, .int .i64 r] 32)).drew.alloc (.cells #[.string ⟨#[]⟩, .string ⟨#[]⟩, .string ⟨#[99, 114, 101, 97, 116, 117, 114, 101]⟩, .string ⟨#[115, 112, 101, 108, 108]⟩, .string ⟨#[116, 114, 105, 99, 107]⟩] 9)) (w.heap.size + 1) 9 [.string ⟨#[]⟩, .string ⟨#[]⟩, .string ⟨#[99, 114, 101, 97, 116, 117, 114, 101]⟩, .string ⟨#[115, 112, 101, 108, 108]⟩, .string ⟨#[116, 114, 105, 99, 107]⟩] from new1 (by simp) _ _); have HMc := Lib.hid (HMc.out.alloc (.cells #[.string ⟨#[]⟩, .string ⟨#[]⟩, .string ⟨#[99, 114, 101, 97, 116, 117, 114, 101]⟩, .string ⟨#[115, 112, 101, 108, 108]⟩, .string ⟨#[116, 114, 105, 99, 107]⟩] 9)); have HBc := Lib.hid (HBc.out.alloc HBc.out.size (.cells #[.string ⟨#[]⟩, .string ⟨#[]⟩, .string ⟨#[99, 114, 101, 97, 116, 117, 114, 101]⟩, .string ⟨#[115, 112, 101, 108, 108]⟩, .string ⟨#[116, 114, 105, 99, 107]⟩] 9))
      refine hK.out _ _ ?_ (fun hH1 => ?_)
      · exact HMc.out
      clear hK K hH0
      try simp only [go_sem, Act.put, List.getElem_toArray, List.getElem_cons_succ, List.getElem_cons_zero, List.setIfInBounds_toArray, List.set_cons_succ, List.set_cons_zero]
      refine wpAnyH_take (i := 4) (oi := _) (v := ?_) rfl (by kernel_rfl) (by kernel_rfl) (by kernel_rfl) (fun _ _ _ h => h) (Or.inl ⟨by rfl, ?_⟩) (by assumption) ?_
      rotate_left
      · intro w hSw; (try dsimp only at hSw); obtain ⟨x0, x1, x2, x3, x4, x5, x6, x7, x8, x9, x10, x11, x12, x13, x14⟩ := card14 hSw; first | (go_simp; done) | (go_simp; with_reducible rfl)
      try simp only [go_sem, Act.put, List.getElem_toArray, List.getElem_cons_succ, List.getElem_cons_zero, List.setIfInBounds_toArray, List.set_cons_succ, List.set_cons_zero]
      refine wpAnyH_ready (rs := [5, 10]) (by kernel_rfl) (by simp) ?_
      refine AllReadyH.cons (o := _) rfl (fun K hK => ?_) (AllReadyH.cons (o := _) rfl (fun K hK => ?_) AllReadyH.nil)
      · have hcw := HN.out.cell 2; go_simp
        refine hK.out _ _ ?_ (fun hH2 => ?_)
        · exact HMc.out
        clear hK K hH1
        try simp only [go_sem, Act.put, List.getElem_toArray, List.getElem_cons_succ, List.getElem_cons_zero, List.setIfInBounds_toArray, List.set_cons_succ, List.set_cons_zero]
        refine wpAnyH_take (i := 6) (oi := _) (v := ?_) rfl (by kernel_rfl) (by kernel_rfl) (by kernel_rfl) (fun _ _ _ h => h) (Or.inl ⟨by rfl, ?_⟩) (by assumption) ?_
        rotate_left
        · intro w hSw; (try dsimp only at hSw); obtain ⟨x0, x1, x2, x3, x4, x5, x6, x7, x8, x9, x10, x11, x12, x13, x14⟩ := card14 hSw; first | (go_simp; done) | (go_simp; with_reducible rfl)
        try simp only [go_sem, Act.put, List.getElem_toArray, List.getElem_cons_succ, List.getElem_cons_zero, List.setIfInBounds_toArray, List.set_cons_succ, List.set_cons_zero]
        refine wpAnyH_take (i := 7) (oi := _) (v := ?_) rfl (by kernel_rfl) (by kernel_rfl) (by kernel_rfl) (fun _ _ _ h => h) (Or.inl ⟨by rfl, ?_⟩) (by assumption) ?_
        rotate_left
        · intro w hSw; (try dsimp only at hSw); obtain ⟨x0, x1, x2, x3, x4, x5, x6, x7, x8, x9, x10, x11, x12, x13, x14⟩ := card14 hSw; first | (go_simp; done) | (go_simp; with_reducible rfl)
        try simp only [go_sem, Act.put, List.getElem_toArray, List.getElem_cons_succ, List.getElem_cons_zero, List.setIfInBounds_toArray, List.set_cons_succ, List.set_cons_zero]
        refine wpAnyH_ready (rs := [10]) (by kernel_rfl) (by simp) ?_
        refine AllReadyH.cons (o := _) rfl (fun K hK => ?_) AllReadyH.nil
        go_simp; refine (HTX.out _).mono ?_; rintro ee wc ⟨rfl, hbc⟩; have HMc := Lib.hid (HMc.out.below hbc HMc.out.lt); have HBc := Lib.hid (next HBc.out hbc)
        refine hK.out _ _ ?_ (fun hH3 => ?_)
        · exact HMc.out
        clear hK K hH2
        try simp only [go_sem, Act.put, List.getElem_toArray, List.getElem_cons_succ, List.getElem_cons_zero, List.setIfInBounds_toArray, List.set_cons_succ, List.set_cons_zero]
        refine wpAnyH_take (i := 11) (oi := _) (v := ?_) rfl (by kernel_rfl) (by kernel_rfl) (by kernel_rfl) (fun _ _ _ h => h) (Or.inl ⟨by rfl, ?_⟩) (by assumption) ?_
        rotate_left
        · intro w hSw; (try dsimp only at hSw); obtain ⟨x0, x1, x2, x3, x4, x5, x6, x7, x8, x9, x10, x11, x12, x13, x14⟩ := card14 hSw; first | (go_simp; done) | (go_simp; with_reducible rfl)
        try simp only [go_sem, Act.put, List.getElem_toArray, List.getElem_cons_succ, List.getElem_cons_zero, List.setIfInBounds_toArray, List.set_cons_succ, List.set_cons_zero]
        refine wpAnyH_take (i := 12) (oi := _) (v := ?_) rfl (by kernel_rfl) (by kernel_rfl) (by kernel_rfl) (fun _ _ _ h => h) (Or.inl ⟨by rfl, ?_⟩) (by assumption) ?_
        rotate_left
        · intro w hSw; (try dsimp only at hSw); obtain ⟨x0, x1, x2, x3, x4, x5, x6, x7, x8, x9, x10, x11, x12, x13, x14⟩ := card14 hSw; first | (go_simp; done) | (go_simp; with_reducible rfl)
        try simp only [go_sem, Act.put, List.getElem_toArray, List.getElem_cons_succ, List.getElem_cons_zero, List.setIfInBounds_toArray, List.set_cons_succ, List.set_cons_zero]
        refine wpAnyH_done (by kernel_rfl) ?_ _
        go_wp2_with fail
        go_meet
        case rel => exact ⟨rfl, HMc, HBc⟩
      · go_simp; refine (HTX.out _).mono ?_; rintro ee wc ⟨rfl, hbc⟩; have HMc := Lib.hid (HMc.out.below hbc HMc.out.lt); have HBc := Lib.hid (next HBc.out hbc)
        refine hK.out _ _ ?_ (fun hH2 => ?_)
        · exact HMc.out
        clear hK K hH1
        try simp only [go_sem, Act.put, List.getElem_toArray, List.getElem_cons_succ, List.getElem_cons_zero, List.setIfInBounds_toArray, List.set_cons_succ, List.set_cons_zero]
        refine wpAnyH_ready (rs := [5]) (by kernel_rfl) (by simp) ?_
        refine AllReadyH.cons (o := _) rfl (fun K hK => ?_) AllReadyH.nil
        have HN := Lib.hid (HN.out.below hbc HN.out.lt); have hcw := HN.out.cell 2; go_simp
        refine hK.out _ _ ?_ (fun hH3 => ?_)
        · exact HMc.out
        clear hK K hH2
        try simp only [go_sem, Act.put, List.getElem_toArray, List.getElem_cons_succ, List.getElem_cons_zero, List.setIfInBounds_toArray, List.set_cons_succ, List.set_cons_zero]
        refine wpAnyH_take (i := 6) (oi := _) (v := ?_) rfl (by kernel_rfl) (by kernel_rfl) (by kernel_rfl) (fun _ _ _ h => h) (Or.inl ⟨by rfl, ?_⟩) (by assumption) ?_
        rotate_left
        · intro w hSw; (try dsimp only at hSw); obtain ⟨x0, x1, x2, x3, x4, x5, x6, x7, x8, x9, x10, x11, x12, x13, x14⟩ := card14 hSw; first | (go_simp; done) | (go_simp; with_reducible rfl)
        try simp only [go_sem, Act.put, List.getElem_toArray, List.getElem_cons_succ, List.getElem_cons_zero, List.setIfInBounds_toArray, List.set_cons_succ, List.set_cons_zero]
        refine wpAnyH_take (i := 7) (oi := _) (v := ?_) rfl (by kernel_rfl) (by kernel_rfl) (by kernel_rfl) (fun _ _ _ h => h) (Or.inl ⟨by rfl, ?_⟩) (by assumption) ?_
        rotate_left
        · intro w hSw; (try dsimp only at hSw); obtain ⟨x0, x1, x2, x3, x4, x5, x6, x7, x8, x9, x10, x11, x12, x13, x14⟩ := card14 hSw; first | (go_simp; done) | (go_simp; with_reducible rfl)
        try simp only [go_sem, Act.put, List.getElem_toArray, List.getElem_cons_succ, List.getElem_cons_zero, List.setIfInBounds_toArray, List.set_cons_succ, List.set_cons_zero]
        refine wpAnyH_take (i := 11) (oi := _) (v := ?_) rfl (by kernel_rfl) (by kernel_rfl) (by kernel_rfl) (fun _ _ _ h => h) (Or.inl ⟨by rfl, ?_⟩) (by assumption) ?_
        rotate_left
        · intro w hSw; (try dsimp only at hSw); obtain ⟨x0, x1, x2, x3, x4, x5, x6, x7, x8, x9, x10, x11, x12, x13, x14⟩ := card14 hSw; first | (go_simp; done) | (go_simp; with_reducible rfl)
        try simp only [go_sem, Act.put, List.getElem_toArray, List.getElem_cons_succ, List.getElem_cons_zero, List.setIfInBounds_toArray, List.set_cons_succ, List.set_cons_zero]
        refine wpAnyH_take (i := 12) (oi := _) (v := ?_) rfl (by kernel_rfl) (by kernel_rfl) (by kernel_rfl) (fun _ _ _ h => h) (Or.inl ⟨by rfl, ?_⟩) (by assumption) ?_
        rotate_left
        · intro w hSw; (try dsimp only at hSw); obtain ⟨x0, x1, x2, x3, x4, x5, x6, x7, x8, x9, x10, x11, x12, x13, x14⟩ := card14 hSw; first | (go_simp; done) | (go_simp; with_reducible rfl)
        try simp only [go_sem, Act.put, List.getElem_toArray, List.getElem_cons_succ, List.getElem_cons_zero, List.setIfInBounds_toArray, List.set_cons_succ, List.set_cons_zero]
        refine wpAnyH_done (by kernel_rfl) ?_ _
        go_wp2_with fail
        go_meet
        case rel => exact ⟨rfl, HMc, HBc⟩
    · go_simp; refine (HTX.out _).mono ?_; rintro ee wc ⟨rfl, hbc⟩; have HMc := Lib.hid (HMc.out.below hbc HMc.out.lt); have HBc := Lib.hid (next HBc.out hbc)
      refine hK.out _ _ ?_ (fun hH1 => ?_)
      · exact HMc.out
      clear hK K hH0
      try simp only [go_sem, Act.put, List.getElem_toArray, List.getElem_cons_succ, List.getElem_cons_zero, List.setIfInBounds_toArray, List.set_cons_succ, List.set_cons_zero]
      refine wpAnyH_ready (rs := [1]) (by kernel_rfl) (by simp) ?_
      refine AllReadyH.cons (o := _) rfl (fun K hK => ?_) AllReadyH.nil
      go_simp; have HN := Lib.hid (show has (wc.alloc (.cells #[.string ⟨#[]⟩, .string ⟨#[]⟩, .string ⟨#[99, 114, 101, 97, 116, 117, 114, 101]⟩, .string ⟨#[115, 112, 101, 108, 108]⟩, .string ⟨#[116, 114, 105, 99, 107]⟩] 9)) (wc.heap.size) 9 [.string ⟨#[]⟩, .string ⟨#[]⟩, .string ⟨#[99, 114, 101, 97, 116, 117, 114, 101]⟩, .string ⟨#[115, 112, 101, 108, 108]⟩, .string ⟨#[116, 114, 105, 99, 107]⟩] from new1 (by simp) _ _); have HMc := Lib.hid (HMc.out.alloc (.cells #[.string ⟨#[]⟩, .string ⟨#[]⟩, .string ⟨#[99, 114, 101, 97, 116, 117, 114, 101]⟩, .string ⟨#[115, 112, 101, 108, 108]⟩, .string ⟨#[116, 114, 105, 99, 107]⟩] 9)); have HBc := Lib.hid (HBc.out.alloc HBc.out.size (.cells #[.string ⟨#[]⟩, .string ⟨#[]⟩, .string ⟨#[99, 114, 101, 97, 116, 117, 114, 101]⟩, .string ⟨#[115, 112, 101, 108, 108]⟩, .string ⟨#[116, 114, 105, 99, 107]⟩] 9))
      refine hK.out _ _ ?_ (fun hH2 => ?_)
      · exact HMc.out
      clear hK K hH1
      try simp only [go_sem, Act.put, List.getElem_toArray, List.getElem_cons_succ, List.getElem_cons_zero, List.setIfInBounds_toArray, List.set_cons_succ, List.set_cons_zero]
      refine wpAnyH_take (i := 4) (oi := _) (v := ?_) rfl (by kernel_rfl) (by kernel_rfl) (by kernel_rfl) (fun _ _ _ h => h) (Or.inl ⟨by rfl, ?_⟩) (by assumption) ?_
      rotate_left
      · intro w hSw; (try dsimp only at hSw); obtain ⟨x0, x1, x2, x3, x4, x5, x6, x7, x8, x9, x10, x11, x12, x13, x14⟩ := card14 hSw; first | (go_simp; done) | (go_simp; with_reducible rfl)
      try simp only [go_sem, Act.put, List.getElem_toArray, List.getElem_cons_succ, List.getElem_cons_zero, List.setIfInBounds_toArray, List.set_cons_succ, List.set_cons_zero]
      refine wpAnyH_ready (rs := [5]) (by kernel_rfl) (by simp) ?_
      refine AllReadyH.cons (o := _) rfl (fun K hK => ?_) AllReadyH.nil
      have hcw := HN.out.cell 2; go_simp
      refine hK.out _ _ ?_ (fun hH3 => ?_)
      · exact HMc.out
      clear hK K hH2
      try simp only [go_sem, Act.put, List.getElem_toArray, List.getElem_cons_succ, List.getElem_cons_zero, List.setIfInBounds_toArray, List.set_cons_succ, List.set_cons_zero]
      refine wpAnyH_take (i := 6) (oi := _) (v := ?_) rfl (by kernel_rfl) (by kernel_rfl) (by kernel_rfl) (fun _ _ _ h => h) (Or.inl ⟨by rfl, ?_⟩) (by assumption) ?_
      rotate_left
      · intro w hSw; (try dsimp only at hSw); obtain ⟨x0, x1, x2, x3, x4, x5, x6, x7, x8, x9, x10, x11, x12, x13, x14⟩ := card14 hSw; first | (go_simp; done) | (go_simp; with_reducible rfl)
      try simp only [go_sem, Act.put, List.getElem_toArray, List.getElem_cons_succ, List.getElem_cons_zero, List.setIfInBounds_toArray, List.set_cons_succ, List.set_cons_zero]
      refine wpAnyH_take (i := 7) (oi := _) (v := ?_) rfl (by kernel_rfl) (by kernel_rfl) (by kernel_rfl) (fun _ _ _ h => h) (Or.inl ⟨by rfl, ?_⟩) (by assumption) ?_
      rotate_left
      · intro w hSw; (try dsimp only at hSw); obtain ⟨x0, x1, x2, x3, x4, x5, x6, x7, x8, x9, x10, x11, x12, x13, x14⟩ := card14 hSw; first | (go_simp; done) | (go_simp; with_reducible rfl)
      try simp only [go_sem, Act.put, List.getElem_toArray, List.getElem_cons_succ, List.getElem_cons_zero, List.setIfInBounds_toArray, List.set_cons_succ, List.set_cons_zero]
      refine wpAnyH_take (i := 11) (oi := _) (v := ?_) rfl (by kernel_rfl) (by kernel_rfl) (by kernel_rfl) (fun _ _ _ h => h) (Or.inl ⟨by rfl, ?_⟩) (by assumption) ?_
      rotate_left
      · intro w hSw; (try dsimp only at hSw); obtain ⟨x0, x1, x2, x3, x4, x5, x6, x7, x8, x9, x10, x11, x12, x13, x14⟩ := card14 hSw; first | (go_simp; done) | (go_simp; with_reducible rfl)
      try simp only [go_sem, Act.put, List.getElem_toArray, List.getElem_cons_succ, List.getElem_cons_zero, List.setIfInBounds_toArray, List.set_cons_succ, List.set_cons_zero]
      refine wpAnyH_take (i := 12) (oi := _) (v := ?_) rfl (by kernel_rfl) (by kernel_rfl) (by kernel_rfl) (fun _ _ _ h => h) (Or.inl ⟨by rfl, ?_⟩) (by assumption) ?_
      rotate_left
      · intro w hSw; (try dsimp only at hSw); obtain ⟨x0, x1, x2, x3, x4, x5, x6, x7, x8, x9, x10, x11, x12, x13, x14⟩ := card14 hSw; first | (go_simp; done) | (go_simp; with_reducible rfl)
      try simp only [go_sem, Act.put, List.getElem_toArray, List.getElem_cons_succ, List.getElem_cons_zero, List.setIfInBounds_toArray, List.set_cons_succ, List.set_cons_zero]
      refine wpAnyH_done (by kernel_rfl) ?_ _
      go_wp2_with fail
      go_meet
      case rel => exact ⟨rfl, HMc, HBc⟩
  case rest =>
    obtain ⟨rfl, HM1, HB1⟩ := hcut
    obtain ⟨L1, hL1⟩ : ∃ L, Lb ++ co = L := ⟨_, rfl⟩
    have HL1' := HL1
    rw [hL1] at HL1' hl1 ⊢
    clear c1 c2 c3 c4 hL1 HTX HL1 ha hb
    obtain ⟨cx0, cx1, cx2, cx3, cx4, cx5, cx6, cx7, cx8, cx9, cx10, cx11, cx12, cx13, cx14⟩ := card14 HM1.out
    have htp := tab_len kp
    have htt := tab_len kt
    have c5 : ∀ w, (Op.stringOp .add (bs L1) ⟨#[44, 32]⟩).run Tryz.prog w = .ok (.string (bs (L1 ++ [44, 32]))) w := cat_run L1 [44, 32] (by first | omega | (simp; omega))
    obtain ⟨Lc, hLc⟩ : ∃ ZZ, L1 ++ [44, 32] = ZZ := ⟨_, rfl⟩
    rw [hLc] at c5
    have nLc : Lc.length = L1.length + 2 := by rw [← hLc, List.length_append]; rfl
    have c6 : ∀ w, (Op.stringOp .add (bs Lc) (bs (tab kp))).run Tryz.prog w = .ok (.string (bs (Lc ++ (tab kp)))) w := cat_run Lc (tab kp) (by first | omega | (simp; omega))
    obtain ⟨Ld, hLd⟩ : ∃ ZZ, Lc ++ (tab kp) = ZZ := ⟨_, rfl⟩
    rw [hLd] at c6
    have nLd : Ld.length = Lc.length + ((tab kp) : List UInt8).length := by rw [← hLd, List.length_append]
    have c7 : ∀ w, (Op.stringOp .add (bs Ld) ⟨#[47]⟩).run Tryz.prog w = .ok (.string (bs (Ld ++ [47]))) w := cat_run Ld [47] (by first | omega | (simp; omega))
    obtain ⟨Le, hLe⟩ : ∃ ZZ, Ld ++ [47] = ZZ := ⟨_, rfl⟩
    rw [hLe] at c7
    have nLe : Le.length = Ld.length + 1 := by rw [← hLe, List.length_append]; rfl
    have c8 : ∀ w, (Op.stringOp .add (bs Le) (bs (tab kt))).run Tryz.prog w = .ok (.string (bs (Le ++ (tab kt)))) w := cat_run Le (tab kt) (by first | omega | (simp; omega))
    obtain ⟨L2, hL2⟩ : ∃ ZZ, Le ++ (tab kt) = ZZ := ⟨_, rfl⟩
    rw [hL2] at c8
    have nL2 : L2.length = Le.length + ((tab kt) : List UInt8).length := by rw [← hL2, List.length_append]
    have HL2 : Hid (L2 = Lib.join ([nm, [99, 114, 101, 97, 116, 117, 114, 101, 32] ++ co] ++ [tab kp ++ [47] ++ tab kt]) [44, 32]) := Lib.hid (by rw [← hL2, ← hLe, ← hLd, ← hLc, HL1'.out, show ([nm, [99, 114, 101, 97, 116, 117, 114, 101, 32] ++ co] ++ [tab kp ++ [47] ++ tab kt]) = (nm :: [[99, 114, 101, 97, 116, 117, 114, 101, 32] ++ co]) ++ [tab kp ++ [47] ++ tab kt] from rfl, join_snoc]; simp only [List.append_assoc])
    have hl2 : L2.length ≤ 140 := by omega
    clear hL2 hLe hLd hLc nL2 nLe nLd nLc
    go_wp2_with fail
    have HMd := Lib.hid (show has wc.drew w.heap.size 32 (cL (bs nm) 2 (ka : Nat) (kb : Nat) (kc : Nat) (kdd : Nat) (kx : Nat) m (kp : Nat) (kt : Nat) (kk : Nat) es en ec ts tn tc r) from HM1.out)
    refine wp_region_held_drew (S := (fun w' => has w' w.heap.size 32 (cL (bs nm) 2 (ka : Nat) (kb : Nat) (kc : Nat) (kdd : Nat) (kx : Nat) m (kp : Nat) (kt : Nat) (kk : Nat) es en ec ts tn tc r))) (by kernel_rfl) ?_ (fun hH0 => ?_)
    · exact HMd.out
    refine wpAnyH_take (i := 0) (oi := _) (v := ?_) rfl (by kernel_rfl) (by kernel_rfl) (by kernel_rfl) (fun _ _ _ h => h) (Or.inl ⟨by rfl, ?_⟩) (by assumption) ?_
    rotate_left
    · intro w hSw; (try dsimp only at hSw); obtain ⟨x0, x1, x2, x3, x4, x5, x6, x7, x8, x9, x10, x11, x12, x13, x14⟩ := card14 hSw; first | (go_simp; done) | (go_simp; with_reducible rfl)
    try simp only [go_sem, Act.put, List.getElem_toArray, List.getElem_cons_zero, List.setIfInBounds_toArray, List.set_cons_succ, List.set_cons_zero]
    refine wpAnyH_take (i := 1) (oi := _) (v := ?_) rfl (by kernel_rfl) (by kernel_rfl) (by kernel_rfl) (fun _ _ _ h => h) (Or.inl ⟨by rfl, ?_⟩) (by assumption) ?_
    rotate_left
    · intro w hSw; (try dsimp only at hSw); obtain ⟨x0, x1, x2, x3, x4, x5, x6, x7, x8, x9, x10, x11, x12, x13, x14⟩ := card14 hSw; first | (go_simp; done) | (go_simp; with_reducible rfl)
    try simp only [go_sem, Act.put, List.getElem_toArray, List.getElem_cons_succ, List.getElem_cons_zero, List.setIfInBounds_toArray, List.set_cons_succ, List.set_cons_zero]
    refine wpAnyH_take (i := 2) (oi := _) (v := ?_) rfl (by kernel_rfl) (by kernel_rfl) (by kernel_rfl) (fun _ _ _ h => h) (Or.inl ⟨by rfl, ?_⟩) (by assumption) ?_
    rotate_left
    · intro w hSw; (try dsimp only at hSw); obtain ⟨x0, x1, x2, x3, x4, x5, x6, x7, x8, x9, x10, x11, x12, x13, x14⟩ := card14 hSw; first | (go_simp; done) | (go_simp; with_reducible rfl)
    try simp only [go_sem, Act.put, List.getElem_toArray, List.getElem_cons_succ, List.getElem_cons_zero, List.setIfInBounds_toArray, List.set_cons_succ, List.set_cons_zero]
    refine wpAnyH_take (i := 3) (oi := _) (v := ?_) rfl (by kernel_rfl) (by kernel_rfl) (by kernel_rfl) (fun _ _ _ h => h) (Or.inl ⟨by rfl, ?_⟩) (by assumption) ?_
    rotate_left
    · intro w hSw; (try dsimp only at hSw); obtain ⟨x0, x1, x2, x3, x4, x5, x6, x7, x8, x9, x10, x11, x12, x13, x14⟩ := card14 hSw; first | (go_simp; done) | (go_simp; with_reducible rfl)
    try simp only [go_sem, Act.put, List.getElem_toArray, List.getElem_cons_succ, List.getElem_cons_zero, List.setIfInBounds_toArray, List.set_cons_succ, List.set_cons_zero]
    refine wpAnyH_take (i := 7) (oi := _) (v := ?_) rfl (by kernel_rfl) (by kernel_rfl) (by kernel_rfl) (fun _ _ _ h => h) (Or.inl ⟨by rfl, ?_⟩) (by assumption) ?_
    rotate_left
    · intro w hSw; (try dsimp only at hSw); obtain ⟨x0, x1, x2, x3, x4, x5, x6, x7, x8, x9, x10, x11, x12, x13, x14⟩ := card14 hSw; first | (go_simp; done) | (go_simp; with_reducible rfl)
    try simp only [go_sem, Act.put, List.getElem_toArray, List.getElem_cons_succ, List.getElem_cons_zero, List.setIfInBounds_toArray, List.set_cons_succ, List.set_cons_zero]
    refine wpAnyH_take (i := 8) (oi := _) (v := ?_) rfl (by kernel_rfl) (by kernel_rfl) (by kernel_rfl) (fun _ _ _ h => h) (Or.inl ⟨by rfl, ?_⟩) (by assumption) ?_
    rotate_left
    · intro w hSw; (try dsimp only at hSw); obtain ⟨x0, x1, x2, x3, x4, x5, x6, x7, x8, x9, x10, x11, x12, x13, x14⟩ := card14 hSw; first | (go_simp; done) | (go_simp; with_reducible rfl)
    try simp only [go_sem, Act.put, List.getElem_toArray, List.getElem_cons_succ, List.getElem_cons_zero, List.setIfInBounds_toArray, List.set_cons_succ, List.set_cons_zero]
    refine wpAnyH_ready (rs := [4]) (by kernel_rfl) (by simp) ?_
    refine AllReadyH.cons (o := _) rfl (fun K hK => ?_) AllReadyH.nil
    go_simp; refine (rdig_any kp _ hp).mono ?_; rintro ee wd ⟨rfl, rfl⟩
    refine hK.out _ _ ?_ (fun hH1 => ?_)
    · exact HMd.out
    clear hK K hH0
    try simp only [go_sem, Act.put, List.getElem_toArray, List.getElem_cons_succ, List.getElem_cons_zero, List.setIfInBounds_toArray, List.set_cons_succ, List.set_cons_zero]
    refine wpAnyH_take (i := 5) (oi := _) (v := ?_) rfl (by kernel_rfl) (by kernel_rfl) (by kernel_rfl) (fun _ _ _ h => h) (Or.inl ⟨by rfl, ?_⟩) (by assumption) ?_
    rotate_left
    · intro w hSw; (try dsimp only at hSw); obtain ⟨x0, x1, x2, x3, x4, x5, x6, x7, x8, x9, x10, x11, x12, x13, x14⟩ := card14 hSw; first | (go_simp; done) | (go_simp; with_reducible rfl)
    try simp only [go_sem, Act.put, List.getElem_toArray, List.getElem_cons_succ, List.getElem_cons_zero, List.setIfInBounds_toArray, List.set_cons_succ, List.set_cons_zero]
    refine wpAnyH_take (i := 6) (oi := _) (v := ?_) rfl (by kernel_rfl) (by kernel_rfl) (by kernel_rfl) (fun _ _ _ h => h) (Or.inl ⟨by rfl, ?_⟩) (by assumption) ?_
    rotate_left
    · intro w hSw; (try dsimp only at hSw); obtain ⟨x0, x1, x2, x3, x4, x5, x6, x7, x8, x9, x10, x11, x12, x13, x14⟩ := card14 hSw; first | (go_simp; done) | (go_simp; with_reducible rfl)
    try simp only [go_sem, Act.put, List.getElem_toArray, List.getElem_cons_succ, List.getElem_cons_zero, List.setIfInBounds_toArray, List.set_cons_succ, List.set_cons_zero]
    refine wpAnyH_ready (rs := [9]) (by kernel_rfl) (by simp) ?_
    refine AllReadyH.cons (o := _) rfl (fun K hK => ?_) AllReadyH.nil
    go_simp; refine (rdig_any kt _ ht).mono ?_; rintro ee wd ⟨rfl, rfl⟩
    refine hK.out _ _ ?_ (fun hH2 => ?_)
    · exact HMd.out
    clear hK K hH1
    try simp only [go_sem, Act.put, List.getElem_toArray, List.getElem_cons_succ, List.getElem_cons_zero, List.setIfInBounds_toArray, List.set_cons_succ, List.set_cons_zero]
    refine wpAnyH_take (i := 10) (oi := _) (v := ?_) rfl (by kernel_rfl) (by kernel_rfl) (by kernel_rfl) (fun _ _ _ h => h) (Or.inl ⟨by rfl, ?_⟩) (by assumption) ?_
    rotate_left
    · intro w hSw; (try dsimp only at hSw); obtain ⟨x0, x1, x2, x3, x4, x5, x6, x7, x8, x9, x10, x11, x12, x13, x14⟩ := card14 hSw; first | (go_simp; done) | (go_simp; with_reducible rfl)
    try simp only [go_sem, Act.put, List.getElem_toArray, List.getElem_cons_succ, List.getElem_cons_zero, List.setIfInBounds_toArray, List.set_cons_succ, List.set_cons_zero]
    refine wpAnyH_take (i := 11) (oi := _) (v := ?_) rfl (by kernel_rfl) (by kernel_rfl) (by kernel_rfl) (fun _ _ _ h => h) (Or.inl ⟨by rfl, ?_⟩) (by assumption) ?_
    rotate_left
    · intro w hSw; (try dsimp only at hSw); obtain ⟨x0, x1, x2, x3, x4, x5, x6, x7, x8, x9, x10, x11, x12, x13, x14⟩ := card14 hSw; first | (go_simp; done) | (go_simp; with_reducible rfl)
    try simp only [go_sem, Act.put, List.getElem_toArray, List.getElem_cons_succ, List.getElem_cons_zero, List.setIfInBounds_toArray, List.set_cons_succ, List.set_cons_zero]
    refine wpAnyH_done (by kernel_rfl) ?_ _
    have HM2 := HMd
    have HB2 := Lib.hid HB1.out.drew
    clear c5 c6 c7 c8 htp htt cx0 cx1 cx2 cx3 cx4 cx5 cx6 cx7 cx8 cx9 cx10 cx11 cx12 cx13 cx14
    obtain ⟨cx0, cx1, cx2, cx3, cx4, cx5, cx6, cx7, cx8, cx9, cx10, cx11, cx12, cx13, cx14⟩ := card14 HM2.out
    go_wp2_with fail
    clear cx0 cx1 cx2 cx3 cx4 cx5 cx6 cx7 cx8 cx9 cx10 cx11 cx12 cx13 cx14
    go_loopw [3, 4] (fun v i wr => ∃ (q : Nat) (L : List UInt8), q ≤ 4 ∧ i = .int .i64 q ∧ v = .string (bs L) ∧ L.length ≤ 140 + 10 * q ∧ Hid (L = Lib.join (([nm, [99, 114, 101, 97, 116, 117, 114, 101, 32] ++ co] ++ [tab kp ++ [47] ++ tab kt]) ++ kwT kk q) [44, 32]) ∧ Hid (has wr w.heap.size 32 (cL (bs nm) 2 (ka : Nat) (kb : Nat) (kc : Nat) (kdd : Nat) (kx : Nat) m (kp : Nat) (kt : Nat) (kk : Nat) es en ec ts tn tc r)) ∧ Hid (Below w.heap.size w wr)) (fun _ i _ => 4 - (intOf i).toNat)
    case atStart => exact ⟨0, L2, Nat.zero_le _, rfl, rfl, by omega, Lib.hid (by rw [show kwT kk 0 = [] from rfl, List.append_nil]; exact HL2.out), HM2, HB2⟩
    case round =>
      clear HL2 HM2 HB2 hl2
      obtain ⟨q, L, hq, rfl, rfl, hLL, HL, HM, HB⟩ := hrel
      by_cases hlt : q < 4
      · have cy10 := HM.out.cell 10
        have hsh : (((kk : Int) / 2 ^ q).tmod 2 == 1) = kwHas kk q := kw_shift kk q
        have HKS : Hid (kwT kk (q + 1) = kwT kk q ++ if kwHas kk q then [kcL q] else []) := Lib.hid (kwT_succ kk q)
        have hkl := kcL_len q
        have HN := Lib.hid (show has (wr.alloc (.cells #[.string ⟨#[115, 119, 105, 102, 116]⟩, .string ⟨#[102, 108, 121, 105, 110, 103]⟩, .string ⟨#[119, 97, 116, 99, 104, 102, 117, 108]⟩, .string ⟨#[100, 101, 97, 100, 108, 121]⟩] 9)) wr.heap.size 9 [.string ⟨#[115, 119, 105, 102, 116]⟩, .string ⟨#[102, 108, 121, 105, 110, 103]⟩, .string ⟨#[119, 97, 116, 99, 104, 102, 117, 108]⟩, .string ⟨#[100, 101, 97, 100, 108, 121]⟩] from new0 wr _ _)
        have hcw : (wr.alloc (.cells #[.string ⟨#[115, 119, 105, 102, 116]⟩, .string ⟨#[102, 108, 121, 105, 110, 103]⟩, .string ⟨#[119, 97, 116, 99, 104, 102, 117, 108]⟩, .string ⟨#[100, 101, 97, 100, 108, 121]⟩] 9)).cell? ⟨wr.heap.size, q, none⟩ = some (.string (bs (kcL q))) := (HN.out.cell q).trans (kc_at q hlt)
        have c5 : ∀ w, (Op.stringOp .add (bs L) ⟨#[44, 32]⟩).run Tryz.prog w = .ok (.string (bs (L ++ [44, 32]))) w := cat_run L [44, 32] (by first | omega | (simp; omega))
        obtain ⟨Lm, hLm⟩ : ∃ ZZ, L ++ [44, 32] = ZZ := ⟨_, rfl⟩
        rw [hLm] at c5
        have nLm : Lm.length = L.length + 2 := by rw [← hLm, List.length_append]; rfl
        have c6 : ∀ w, (Op.stringOp .add (bs Lm) (bs (kcL q))).run Tryz.prog w = .ok (.string (bs (Lm ++ (kcL q)))) w := cat_run Lm (kcL q) (by first | omega | (simp; omega))
        obtain ⟨Ln, hLn⟩ : ∃ ZZ, Lm ++ (kcL q) = ZZ := ⟨_, rfl⟩
        rw [hLn] at c6
        have nLn : Ln.length = Lm.length + ((kcL q) : List UInt8).length := by rw [← hLn, List.length_append]
        have HMq := Lib.hid (HM.out.alloc (.cells #[.string ⟨#[115, 119, 105, 102, 116]⟩, .string ⟨#[102, 108, 121, 105, 110, 103]⟩, .string ⟨#[119, 97, 116, 99, 104, 102, 117, 108]⟩, .string ⟨#[100, 101, 97, 100, 108, 121]⟩] 9))
        have HBq := Lib.hid (HB.out.alloc HB.out.size (.cells #[.string ⟨#[115, 119, 105, 102, 116]⟩, .string ⟨#[102, 108, 121, 105, 110, 103]⟩, .string ⟨#[119, 97, 116, 99, 104, 102, 117, 108]⟩, .string ⟨#[100, 101, 97, 100, 108, 121]⟩] 9))
        cases hb : kwHas kk q
        all_goals rw [hb] at hsh
        · have HR : Hid (L = Lib.join (([nm, [99, 114, 101, 97, 116, 117, 114, 101, 32] ++ co] ++ [tab kp ++ [47] ++ tab kt]) ++ kwT kk (q + 1)) [44, 32]) := Lib.hid (by rw [HKS.out, hb]; simp only [Bool.false_eq_true, if_false, List.append_nil]; exact HL.out)
          go_wp2_with fail
          exact ⟨⟨q + 1, L, by omega, by go_num, rfl, by omega, HR, HM, HB⟩, by simp [intOf]; omega⟩
        · have HR : Hid (Ln = Lib.join (([nm, [99, 114, 101, 97, 116, 117, 114, 101, 32] ++ co] ++ [tab kp ++ [47] ++ tab kt]) ++ kwT kk (q + 1)) [44, 32]) := Lib.hid (by rw [← hLn, ← hLm, HKS.out, hb, HL.out]; simp only [if_true]; rw [← List.append_assoc, show ([nm, [99, 114, 101, 97, 116, 117, 114, 101, 32] ++ co] ++ [tab kp ++ [47] ++ tab kt]) ++ kwT kk q = nm :: ([[99, 114, 101, 97, 116, 117, 114, 101, 32] ++ co, tab kp ++ [47] ++ tab kt] ++ kwT kk q) from by simp, join_snoc])
          have hl3 : Ln.length ≤ 140 + 10 * (q + 1) := by omega
          clear hLn hLm nLn nLm
          go_wp2_with fail
          exact ⟨⟨q + 1, Ln, by omega, by go_num, rfl, hl3, HR, HMq, HBq⟩, by simp [intOf]; omega⟩
      · have hq4 : q = 4 := by omega
        have HLq : Hid (L = Lib.join (([nm, [99, 114, 101, 97, 116, 117, 114, 101, 32] ++ co] ++ [tab kp ++ [47] ++ tab kt]) ++ kwT kk 4) [44, 32]) := Lib.hid (by rw [← hq4]; exact HL.out)
        clear hq4
        have cy10 := HM.out.cell 10
        have cy11 := HM.out.cell 11
        go_wp2_with fail
        clear cy10 cy11
        obtain ⟨wo, hwo⟩ : ∃ wo : World, wo = wr := ⟨_, rfl⟩
        rw [← hwo] at HM HB ⊢
        clear hwo
        have hLn2 : L.length ≤ 180 := by omega
        have HL3 := HLq
        have HMo := HM
        have HBo := HB
        go_loopw [3, 5] (fun v i wr => ∃ (q : Nat) (L : List UInt8), q ≤ en ∧ i = .int .i64 q ∧ v = .string (bs L) ∧ L.length ≤ 180 + 40 * q ∧ Hid (L = Lib.join ((([nm, [99, 114, 101, 97, 116, 117, 114, 101, 32] ++ co] ++ [tab kp ++ [47] ++ tab kt]) ++ kwT kk 4) ++ (e.take q).map textE) [44, 32]) ∧ Hid (has wr w.heap.size 32 (cL (bs nm) 2 (ka : Nat) (kb : Nat) (kc : Nat) (kdd : Nat) (kx : Nat) m (kp : Nat) (kt : Nat) (kk : Nat) es en ec ts tn tc r)) ∧ Hid (Below w.heap.size w wr)) (fun _ i _ => en - (intOf i).toNat)
        case atStart => exact ⟨0, L, Nat.zero_le _, rfl, rfl, by omega, Lib.hid (by rw [List.take_zero, List.map_nil, List.append_nil]; exact HL3.out), HMo, HBo⟩
        case round =>
          clear HL3 HMo HBo HL HM HB hLL hLn2
          obtain ⟨q, L, hq, rfl, rfl, hLL, HL, HM, HB⟩ := hrel
          by_cases hlt : q < en
          · obtain ⟨eb, eoff, hes, heb, hc⟩ := HGE.out (by omega)
            obtain ⟨c0, c1, c2, c3, c4⟩ := (hc q hlt).below HB.out heb
            have cy11 : wr.cell? ⟨w.heap.size, 11, none⟩ = some (.slice (some ⟨eb, eoff, none⟩) en ec) := by rw [← hes]; exact HM.out.cell 11
            have HTK : Hid ((e.take (q + 1)).map textE = (e.take q).map textE ++ [textE (e.getD q default)]) := Lib.hid (by
              have hq' : q < e.length := by rw [HLE.out]; exact hlt
              rw [List.take_succ_eq_append_getElem hq', List.map_append]
              simp [List.getD_eq_getElem?_getD, hq'])
            have hok : (e.getD q default).ok = true := HEA.out _ (by rw [List.getD_eq_getElem?_getD, List.getElem?_eq_getElem (by rw [HLE.out]; exact hlt)]; exact List.getElem_mem _)
            clear hc hes
            generalize e.getD q default = y at *
            have hte := textE_36 y
            have HTE : Hid (∀ W : World, Calls Tryz.prog 25 #[y.v] W fun r w' => r = .returned (.string (bs (textE y))) ∧ Below W.heap.size W w') := Lib.hid fun W => rText_yes y W hok
            generalize hty : textE y = ty at *
            have c5 : ∀ w, (Op.stringOp .add (bs L) ⟨#[44, 32]⟩).run Tryz.prog w = .ok (.string (bs (L ++ [44, 32]))) w := cat_run L [44, 32] (by first | omega | (simp; omega))
            obtain ⟨Lm, hLm⟩ : ∃ ZZ, L ++ [44, 32] = ZZ := ⟨_, rfl⟩
            rw [hLm] at c5
            have nLm : Lm.length = L.length + 2 := by rw [← hLm, List.length_append]; rfl
            have c6 : ∀ w, (Op.stringOp .add (bs Lm) (bs (ty))).run Tryz.prog w = .ok (.string (bs (Lm ++ (ty)))) w := cat_run Lm (ty) (by first | omega | (simp; omega))
            obtain ⟨Ln, hLn⟩ : ∃ ZZ, Lm ++ (ty) = ZZ := ⟨_, rfl⟩
            rw [hLn] at c6
            have nLn : Ln.length = Lm.length + ((ty) : List UInt8).length := by rw [← hLn, List.length_append]
            have HR : Hid (Ln = Lib.join ((([nm, [99, 114, 101, 97, 116, 117, 114, 101, 32] ++ co] ++ [tab kp ++ [47] ++ tab kt]) ++ kwT kk 4) ++ (e.take (q + 1)).map textE) [44, 32]) := Lib.hid (by rw [← hLn, ← hLm, HTK.out, HL.out, ← List.append_assoc, show (([nm, [99, 114, 101, 97, 116, 117, 114, 101, 32] ++ co] ++ [tab kp ++ [47] ++ tab kt]) ++ kwT kk 4) ++ (e.take q).map textE = nm :: (([[99, 114, 101, 97, 116, 117, 114, 101, 32] ++ co, tab kp ++ [47] ++ tab kt] ++ kwT kk 4) ++ (e.take q).map textE) from by simp, join_snoc])
            have hl3 : Ln.length ≤ 180 + 40 * (q + 1) := by omega
            clear hok HTK hLn hLm nLn nLm hty hte
            obtain ⟨xc, xt, xn, xm, xk⟩ := y
            dsimp only at c0 c1 c2 c3 c4
            go_wp2_with fail
            refine (HTE.out _).mono ?_; rintro ee wd ⟨rfl, hbd⟩
            have HMq := Lib.hid (HM.out.below hbd HM.out.lt)
            have HBq := Lib.hid (next HB.out hbd)
            clear hbd
            go_wp2_with fail
            exact ⟨⟨q + 1, Ln, by omega, by go_num, rfl, hl3, HR, HMq, HBq⟩, by simp [intOf]; omega⟩
          · obtain rfl : en = q := by omega
            have HTA2 : Hid (e.take en = e) := Lib.hid (List.take_of_length_le (by rw [HLE.out]; exact Nat.le_refl _))
            have HL4 : Hid (L = Lib.join ((([nm, [99, 114, 101, 97, 116, 117, 114, 101, 32] ++ co] ++ [tab kp ++ [47] ++ tab kt]) ++ kwT kk 4) ++ e.map textE) [44, 32]) := Lib.hid (by have := HL.out; rw [HTA2.out] at this; exact this)
            have hLn2 : L.length ≤ 340 := by omega
            have cy11 := HM.out.cell 11
            have cy12 := HM.out.cell 12
            go_wp2_with fail
            clear cy11 cy12 HTA2
            obtain ⟨wo2, hwo⟩ : ∃ wo : World, wo = wr := ⟨_, rfl⟩
            rw [← hwo] at HM HB ⊢
            clear hwo
            have HMo := HM
            have HBo := HB
            go_loopw [3, 6] (fun v i wr => ∃ (q : Nat) (L : List UInt8), q ≤ tn ∧ i = .int .i64 q ∧ v = .string (bs L) ∧ L.length ≤ 340 + 110 * q ∧ Hid (L = Lib.join (((([nm, [99, 114, 101, 97, 116, 117, 114, 101, 32] ++ co] ++ [tab kp ++ [47] ++ tab kt]) ++ kwT kk 4) ++ e.map textE) ++ (l.take q).map trT) [44, 32]) ∧ Hid (has wr w.heap.size 32 (cL (bs nm) 2 (ka : Nat) (kb : Nat) (kc : Nat) (kdd : Nat) (kx : Nat) m (kp : Nat) (kt : Nat) (kk : Nat) es en ec ts tn tc r)) ∧ Hid (Below w.heap.size w wr)) (fun _ i _ => tn - (intOf i).toNat)
            case atStart => exact ⟨0, L, Nat.zero_le _, rfl, rfl, by omega, Lib.hid (by rw [List.take_zero, List.map_nil, List.append_nil]; exact HL4.out), HMo, HBo⟩
            case round =>
              clear HL4 HMo HBo HL HM HB hLL hLn2
              obtain ⟨q, L, hq, rfl, rfl, hLL, HL, HM, HB⟩ := hrel
              by_cases hlt : q < tn
              · obtain ⟨tb, toff, hts, htb, hc⟩ := HGT.out (by omega)
                obtain ⟨s', n', c', hat⟩ := hc q hlt
                obtain ⟨d0, d1, hye⟩ := hat.below HB.out htb (Nat.le_refl _)
                have cy12 : wr.cell? ⟨w.heap.size, 12, none⟩ = some (.slice (some ⟨tb, toff, none⟩) tn tc) := by rw [← hts]; exact HM.out.cell 12
                have HTK : Hid ((l.take (q + 1)).map trT = (l.take q).map trT ++ [trT (l.getD q default)]) := Lib.hid (by
                  have hq' : q < l.length := by rw [HLT.out]; exact hlt
                  rw [List.take_succ_eq_append_getElem hq', List.map_append]
                  simp [List.getD_eq_getElem?_getD, hq'])
                obtain ⟨⟨y1, y3⟩, ⟨e1, e2⟩, hyB⟩ := HTA.out (l.getD q default) (by rw [List.getD_eq_getElem?_getD, List.getElem?_eq_getElem (by rw [HLT.out]; exact hlt)]; exact List.getElem_mem _)
                clear hc hts hat
                generalize l.getD q default = y at *
                obtain ⟨yw, ye⟩ := y
                dsimp only at d0 d1 hye y1 y3 e1 e2 hyB
                have hn' := hye.n
                rw [hn'] at e1 e2
                obtain ⟨eb, eoff, hse, heb, hce⟩ := hye.c e1
                subst hse
                have g0 := hce 0 _ (get_some (by rw [hn']; exact e1))
                rw [Nat.zero_mul, Nat.add_zero] at g0
                have HG1 : Hid (1 < n' → EfAt wr eb (eoff + 5) (ye.getD 1 default)) := Lib.hid fun h1 => by
                  have := hce 1 _ (get_some (by rw [hn']; exact h1))
                  rw [Nat.one_mul] at this
                  exact this
                have HYE := Lib.hid hn'
                have HYB := Lib.hid hyB
                have HY0 : (ye.getD 0 default).ok = true := all_ok HYB.out _ (by rw [List.getD_eq_getElem?_getD, List.getElem?_eq_getElem (by rw [HYE.out]; exact e1)]; exact List.getElem_mem _)
                have HY1 : Hid (1 < n' → (ye.getD 1 default).ok = true) := Lib.hid fun h1 => all_ok HYB.out _ (by rw [List.getD_eq_getElem?_getD, List.getElem?_eq_getElem (by rw [HYE.out]; exact h1)]; exact List.getElem_mem _)
                have HTR : Hid (trT ⟨yw, ye⟩ = whL yw.toNat ++ [58, 32] ++ textE (ye.getD 0 default) ++ (if 1 < n' then [32, 97, 110, 100, 32] ++ textE (ye.getD 1 default) else [])) := Lib.hid (trT_form yw ye HYE.out e1 e2)
                have hte0 := textE_36 (ye.getD 0 default)
                have hte1 := textE_36 (ye.getD 1 default)
                have hwl := whL_len yw.toNat
                have HTE0 : Hid (∀ W : World, Calls Tryz.prog 25 #[(ye.getD 0 default).v] W fun r w' => r = .returned (.string (bs (textE (ye.getD 0 default)))) ∧ Below W.heap.size W w') := Lib.hid fun W => rText_yes _ W HY0
                have HTE1 : Hid (1 < n' → ∀ W : World, Calls Tryz.prog 25 #[(ye.getD 1 default).v] W fun r w' => r = .returned (.string (bs (textE (ye.getD 1 default)))) ∧ Below W.heap.size W w') := Lib.hid fun h1 W => rText_yes _ W (HY1.out h1)
                generalize ye.getD 1 default = z1 at *
                generalize ye.getD 0 default = z0 at *
                generalize htx0 : textE z0 = t0 at *
                generalize htx1 : textE z1 = t1 at *
                generalize hwh : whL yw.toNat = wh at *
                have HWH := Lib.hid hwh
                obtain ⟨xc, xt, xn, xm, xk⟩ := z0
                obtain ⟨f0, f1, f2, f3, f4⟩ := g0
                have HF : Hid (∀ W, Below wr.heap.size wr W → EfAt W eb eoff ⟨xc, xt, xn, xm, xk⟩) := Lib.hid fun W hW => (⟨f0, f1, f2, f3, f4⟩ : EfAt wr eb eoff ⟨xc, xt, xn, xm, xk⟩).below hW heb
                clear HY0 HY1 htx0 htx1 hwh
                have c5 : ∀ w, (Op.stringOp .add (bs L) ⟨#[44, 32]⟩).run Tryz.prog w = .ok (.string (bs (L ++ [44, 32]))) w := cat_run L [44, 32] (by first | omega | (simp; omega))
                obtain ⟨Lm, hLm⟩ : ∃ ZZ, L ++ [44, 32] = ZZ := ⟨_, rfl⟩
                rw [hLm] at c5
                have nLm : Lm.length = L.length + 2 := by rw [← hLm, List.length_append]; rfl
                have c6 : ∀ w, (Op.stringOp .add (bs Lm) (bs (wh))).run Tryz.prog w = .ok (.string (bs (Lm ++ (wh)))) w := cat_run Lm (wh) (by first | omega | (simp; omega))
                obtain ⟨Ln, hLn⟩ : ∃ ZZ, Lm ++ (wh) = ZZ := ⟨_, rfl⟩
                rw [hLn] at c6
                have nLn : Ln.length = Lm.length + ((wh) : List UInt8).length := by rw [← hLn, List.length_append]
                have c7 : ∀ w, (Op.stringOp .add (bs Ln) ⟨#[58, 32]⟩).run Tryz.prog w = .ok (.string (bs (Ln ++ [58, 32]))) w := cat_run Ln [58, 32] (by first | omega | (simp; omega))
                obtain ⟨Lo, hLo⟩ : ∃ ZZ, Ln ++ [58, 32] = ZZ := ⟨_, rfl⟩
                rw [hLo] at c7
                have nLo : Lo.length = Ln.length + 2 := by rw [← hLo, List.length_append]; rfl
                have c8 : ∀ w, (Op.stringOp .add (bs Lo) (bs (t0))).run Tryz.prog w = .ok (.string (bs (Lo ++ (t0)))) w := cat_run Lo (t0) (by first | omega | (simp; omega))
                obtain ⟨Lp, hLp⟩ : ∃ ZZ, Lo ++ (t0) = ZZ := ⟨_, rfl⟩
                rw [hLp] at c8
                have nLp : Lp.length = Lo.length + ((t0) : List UInt8).length := by rw [← hLp, List.length_append]
                have HLp : Hid (Lp = ((L ++ [44, 32]) ++ wh) ++ [58, 32] ++ t0) := Lib.hid (by rw [← hLp, ← hLo, ← hLn, ← hLm])
                have nLp2 : Lp.length ≤ 340 + 110 * q + 50 := by omega
                clear hLp hLo hLn hLm nLp nLo nLn nLm
                go_upto_region 20 with fail
                clear d0 d1 cy12 f0 f1 f2 f3 f4
                have HT0 := Lib.hid (new0 wr 47 [.int .i64 yw, .slice (some ⟨eb, eoff, none⟩) n' c'])
                have HMt := Lib.hid (HM.out.alloc (.cells #[.int .i64 yw, .slice (some ⟨eb, eoff, none⟩) n' c'] 47))
                have HBt := Lib.hid (HB.out.alloc HB.out.size (.cells #[.int .i64 yw, .slice (some ⟨eb, eoff, none⟩) n' c'] 47))
                have HBt2 := Lib.hid (show Below wr.heap.size wr (wr.alloc (.cells #[.int .i64 yw, .slice (some ⟨eb, eoff, none⟩) n' c'] 47)) from (Below.refl _ wr).alloc (Nat.le_refl _) _)
                go_cut [3] from 94 to 108 (fun s3 wx => s3 = .string (bs Lp) ∧ Hid (has wx wr.heap.size 47 [.int .i64 yw, .slice (some ⟨eb, eoff, none⟩) n' c']) ∧ Hid (has wx w.heap.size 32 (cL (bs nm) 2 (ka : Nat) (kb : Nat) (kc : Nat) (kdd : Nat) (kx : Nat) m (kp : Nat) (kt : Nat) (kk : Nat) es en ec ts tn tc r)) ∧ Hid (Below wr.heap.size wr wx))
                case first =>
                  have HTc := Lib.hid (show has (wr.alloc (.cells #[.int .i64 yw, .slice (some ⟨eb, eoff, none⟩) n' c'] 47)).drew wr.heap.size 47 [.int .i64 yw, .slice (some ⟨eb, eoff, none⟩) n' c'] from HT0.out)
                  have HMc := Lib.hid (show has (wr.alloc (.cells #[.int .i64 yw, .slice (some ⟨eb, eoff, none⟩) n' c'] 47)).drew w.heap.size 32 (cL (bs nm) 2 (ka : Nat) (kb : Nat) (kc : Nat) (kdd : Nat) (kx : Nat) m (kp : Nat) (kt : Nat) (kk : Nat) es en ec ts tn tc r) from HMt.out)
                  have HBc := Lib.hid (show Below wr.heap.size wr (wr.alloc (.cells #[.int .i64 yw, .slice (some ⟨eb, eoff, none⟩) n' c'] 47)).drew from HBt2.out.drew)
                  have hi2 : (0 : Int) < (n' : Int) := by omega
                  have hi3 : 0 < n' := by omega
                  refine wp_region_held_drew (S := (fun w' => has w' wr.heap.size 47 [.int .i64 yw, .slice (some ⟨eb, eoff, none⟩) n' c'] ∧ w'.cell? ⟨eb, eoff, none⟩ = some (.int .i64 xc) ∧ w'.cell? ⟨eb, eoff + 1, none⟩ = some (.int .i64 xt) ∧ w'.cell? ⟨eb, eoff + 2, none⟩ = some (.int .i64 xn) ∧ w'.cell? ⟨eb, eoff + 3, none⟩ = some (.int .i64 xm) ∧ w'.cell? ⟨eb, eoff + 4, none⟩ = some (.int .i64 xk))) (by kernel_rfl) ?_ (fun hH0 => ?_)
                  · exact ⟨HTc.out, (HF.out _ HBc.out).c0, (HF.out _ HBc.out).c1, (HF.out _ HBc.out).c2, (HF.out _ HBc.out).c3, (HF.out _ HBc.out).c4⟩
                  refine wpAnyH_take (i := 0) (oi := _) (v := ?_) rfl (by kernel_rfl) (by kernel_rfl) (by kernel_rfl) (fun _ _ _ h => h) (Or.inl ⟨by rfl, ?_⟩) (by assumption) ?_
                  rotate_left
                  · intro w hSw; (try dsimp only at hSw); obtain ⟨hS1, x5, x6, x7, x8, x9⟩ := hSw; obtain ⟨x0, x1, x2⟩ := two hS1; first | (go_simp; done) | (go_simp; with_reducible rfl)
                  try simp only [go_sem, Act.put, List.getElem_toArray, List.getElem_cons_zero, List.setIfInBounds_toArray, List.set_cons_succ, List.set_cons_zero]
                  refine wpAnyH_take (i := 1) (oi := _) (v := ?_) rfl (by kernel_rfl) (by kernel_rfl) (by kernel_rfl) (fun _ _ _ h => h) (Or.inl ⟨by rfl, ?_⟩) (by assumption) ?_
                  rotate_left
                  · intro w hSw; (try dsimp only at hSw); obtain ⟨hS1, x5, x6, x7, x8, x9⟩ := hSw; obtain ⟨x0, x1, x2⟩ := two hS1; first | (go_simp; done) | (go_simp; with_reducible rfl)
                  try simp only [go_sem, Act.put, List.getElem_toArray, List.getElem_cons_succ, List.getElem_cons_zero, List.setIfInBounds_toArray, List.set_cons_succ, List.set_cons_zero]
                  refine wpAnyH_take (i := 3) (oi := _) (v := ?_) rfl (by kernel_rfl) (by kernel_rfl) (by kernel_rfl) (fun _ _ _ h => h) (Or.inl ⟨by rfl, ?_⟩) (by assumption) ?_
                  rotate_left
                  · intro w hSw; (try dsimp only at hSw); obtain ⟨hS1, x5, x6, x7, x8, x9⟩ := hSw; obtain ⟨x0, x1, x2⟩ := two hS1; first | (go_simp; done) | (go_simp; with_reducible rfl)
                  try simp only [go_sem, Act.put, List.getElem_toArray, List.getElem_cons_succ, List.getElem_cons_zero, List.setIfInBounds_toArray, List.set_cons_succ, List.set_cons_zero]
                  refine wpAnyH_take (i := 4) (oi := _) (v := ?_) rfl (by kernel_rfl) (by kernel_rfl) (by kernel_rfl) (fun _ _ _ h => h) (Or.inl ⟨by rfl, ?_⟩) (by assumption) ?_
                  rotate_left
                  · intro w hSw; (try dsimp only at hSw); obtain ⟨hS1, x5, x6, x7, x8, x9⟩ := hSw; obtain ⟨x0, x1, x2⟩ := two hS1; first | (go_simp; done) | (go_simp; with_reducible rfl)
                  try simp only [go_sem, Act.put, List.getElem_toArray, List.getElem_cons_succ, List.getElem_cons_zero, List.setIfInBounds_toArray, List.set_cons_succ, List.set_cons_zero]
                  refine wpAnyH_take (i := 9) (oi := _) (v := ?_) rfl (by kernel_rfl) (by kernel_rfl) (by kernel_rfl) (fun _ _ _ h => h) (Or.inl ⟨by rfl, ?_⟩) (by assumption) ?_
                  rotate_left
                  · intro w hSw; (try dsimp only at hSw); obtain ⟨hS1, x5, x6, x7, x8, x9⟩ := hSw; obtain ⟨x0, x1, x2⟩ := two hS1; first | (go_simp; done) | (go_simp; with_reducible rfl)
                  try simp only [go_sem, Act.put, List.getElem_toArray, List.getElem_cons_succ, List.getElem_cons_zero, List.setIfInBounds_toArray, List.set_cons_succ, List.set_cons_zero]
                  refine wpAnyH_take (i := 10) (oi := _) (v := ?_) rfl (by kernel_rfl) (by kernel_rfl) (by kernel_rfl) (fun _ _ _ h => h) (Or.inl ⟨by rfl, ?_⟩) (by assumption) ?_
                  rotate_left
                  · intro w hSw; (try dsimp only at hSw); obtain ⟨hS1, x5, x6, x7, x8, x9⟩ := hSw; obtain ⟨x0, x1, x2⟩ := two hS1; first | (go_simp; done) | (go_simp; with_reducible rfl)
                  try simp only [go_sem, Act.put, List.getElem_toArray, List.getElem_cons_succ, List.getElem_cons_zero, List.setIfInBounds_toArray, List.set_cons_succ, List.set_cons_zero]
                  refine wpAnyH_take (i := 11) (oi := _) (v := ?_) rfl (by kernel_rfl) (by kernel_rfl) (by kernel_rfl) (fun _ _ _ h => h) (Or.inl ⟨by rfl, ?_⟩) (by assumption) ?_
                  rotate_left
                  · intro w hSw; (try dsimp only at hSw); obtain ⟨hS1, x5, x6, x7, x8, x9⟩ := hSw; obtain ⟨x0, x1, x2⟩ := two hS1; first | (go_simp; done) | (go_simp; with_reducible rfl)
                  try simp only [go_sem, Act.put, List.getElem_toArray, List.getElem_cons_succ, List.getElem_cons_zero, List.setIfInBounds_toArray, List.set_cons_succ, List.set_cons_zero]
                  refine wpAnyH_take (i := 12) (oi := _) (v := ?_) rfl (by kernel_rfl) (by kernel_rfl) (by kernel_rfl) (fun _ _ _ h => h) (Or.inl ⟨by rfl, ?_⟩) (by assumption) ?_
                  rotate_left
                  · intro w hSw; (try dsimp only at hSw); obtain ⟨hS1, x5, x6, x7, x8, x9⟩ := hSw; obtain ⟨x0, x1, x2⟩ := two hS1; first | (go_simp; done) | (go_simp; with_reducible rfl)
                  try simp only [go_sem, Act.put, List.getElem_toArray, List.getElem_cons_succ, List.getElem_cons_zero, List.setIfInBounds_toArray, List.set_cons_succ, List.set_cons_zero]
                  refine wpAnyH_ready (rs := [2, 13]) (by kernel_rfl) (by simp) ?_
                  refine AllReadyH.cons (o := _) rfl (fun K hK => ?_) (AllReadyH.cons (o := _) rfl (fun K hK => ?_) AllReadyH.nil)
                  · go_simp; have HN := Lib.hid (show has ((wr.alloc (.cells #[.int .i64 yw, .slice (some ⟨eb, eoff, none⟩) n' c'] 47)).drew.alloc (.cells #[.string ⟨#[]⟩, .string ⟨#[100, 105, 101, 115]⟩, .string ⟨#[97, 116, 116, 97, 99, 107, 115]⟩, .string ⟨#[117, 112, 107, 101, 101, 112]⟩] 9)) (wr.heap.size + 1) 9 [.string ⟨#[]⟩, .string ⟨#[100, 105, 101, 115]⟩, .string ⟨#[97, 116, 116, 97, 99, 107, 115]⟩, .string ⟨#[117, 112, 107, 101, 101, 112]⟩] from new1 (by simp) _ _); have HTc := Lib.hid (HTc.out.alloc (.cells #[.string ⟨#[]⟩, .string ⟨#[100, 105, 101, 115]⟩, .string ⟨#[97, 116, 116, 97, 99, 107, 115]⟩, .string ⟨#[117, 112, 107, 101, 101, 112]⟩] 9)); have HMc := Lib.hid (HMc.out.alloc (.cells #[.string ⟨#[]⟩, .string ⟨#[100, 105, 101, 115]⟩, .string ⟨#[97, 116, 116, 97, 99, 107, 115]⟩, .string ⟨#[117, 112, 107, 101, 101, 112]⟩] 9)); have HBc := Lib.hid (HBc.out.alloc HBc.out.size (.cells #[.string ⟨#[]⟩, .string ⟨#[100, 105, 101, 115]⟩, .string ⟨#[97, 116, 116, 97, 99, 107, 115]⟩, .string ⟨#[117, 112, 107, 101, 101, 112]⟩] 9))
                    refine hK.out _ _ ?_ (fun hH1 => ?_)
                    · exact ⟨HTc.out, (HF.out _ HBc.out).c0, (HF.out _ HBc.out).c1, (HF.out _ HBc.out).c2, (HF.out _ HBc.out).c3, (HF.out _ HBc.out).c4⟩
                    clear hK K hH0
                    try simp only [go_sem, Act.put, List.getElem_toArray, List.getElem_cons_succ, List.getElem_cons_zero, List.setIfInBounds_toArray, List.set_cons_succ, List.set_cons_zero]
                    have y4 : yw < 4 := by omega
                    have y0 : 0 ≤ yw := by omega
                    refine wpAnyH_take (i := 5) (oi := _) (v := ?_) rfl (by kernel_rfl) (by kernel_rfl) (by kernel_rfl) (fun _ _ _ h => h) (Or.inl ⟨by rfl, ?_⟩) (by assumption) ?_
                    rotate_left
                    · intro w hSw; (try dsimp only at hSw); obtain ⟨hS1, x5, x6, x7, x8, x9⟩ := hSw; obtain ⟨x0, x1, x2⟩ := two hS1; first | (go_simp; done) | (go_simp; with_reducible rfl)
                    try simp only [go_sem, Act.put, List.getElem_toArray, List.getElem_cons_succ, List.getElem_cons_zero, List.setIfInBounds_toArray, List.set_cons_succ, List.set_cons_zero]
                    refine wpAnyH_ready (rs := [6, 13]) (by kernel_rfl) (by simp) ?_
                    refine AllReadyH.cons (o := _) rfl (fun K hK => ?_) (AllReadyH.cons (o := _) rfl (fun K hK => ?_) AllReadyH.nil)
                    · have hcw := (HN.out.cell yw.toNat).trans (wh_at' yw y1 y3); rw [HWH.out] at hcw; have hge : ∀ h, ([.string ⟨#[]⟩, .string ⟨#[100, 105, 101, 115]⟩, .string ⟨#[97, 116, 116, 97, 99, 107, 115]⟩, .string ⟨#[117, 112, 107, 101, 101, 112]⟩] : List Value)[yw.toNat]'h = .string (bs wh) := (fun h => by have h9 := List.getElem?_eq_some_iff.1 (wh_at' yw y1 y3); rw [HWH.out] at h9; exact h9.2); go_simp; try simp only [hge]
                      refine hK.out _ _ ?_ (fun hH2 => ?_)
                      · exact ⟨HTc.out, (HF.out _ HBc.out).c0, (HF.out _ HBc.out).c1, (HF.out _ HBc.out).c2, (HF.out _ HBc.out).c3, (HF.out _ HBc.out).c4⟩
                      clear hK K hH1
                      try simp only [go_sem, Act.put, List.getElem_toArray, List.getElem_cons_succ, List.getElem_cons_zero, List.setIfInBounds_toArray, List.set_cons_succ, List.set_cons_zero]
                      refine wpAnyH_take (i := 7) (oi := _) (v := ?_) rfl (by kernel_rfl) (by kernel_rfl) (by kernel_rfl) (fun _ _ _ h => h) (Or.inl ⟨by rfl, ?_⟩) (by assumption) ?_
                      rotate_left
                      · intro w hSw; (try dsimp only at hSw); obtain ⟨hS1, x5, x6, x7, x8, x9⟩ := hSw; obtain ⟨x0, x1, x2⟩ := two hS1; first | (go_simp; done) | (go_simp; with_reducible rfl)
                      try simp only [go_sem, Act.put, List.getElem_toArray, List.getElem_cons_succ, List.getElem_cons_zero, List.setIfInBounds_toArray, List.set_cons_succ, List.set_cons_zero]
                      refine wpAnyH_take (i := 8) (oi := _) (v := ?_) rfl (by kernel_rfl) (by kernel_rfl) (by kernel_rfl) (fun _ _ _ h => h) (Or.inl ⟨by rfl, ?_⟩) (by assumption) ?_
                      rotate_left
                      · intro w hSw; (try dsimp only at hSw); obtain ⟨hS1, x5, x6, x7, x8, x9⟩ := hSw; obtain ⟨x0, x1, x2⟩ := two hS1; first | (go_simp; done) | (go_simp; with_reducible rfl)
                      try simp only [go_sem, Act.put, List.getElem_toArray, List.getElem_cons_succ, List.getElem_cons_zero, List.setIfInBounds_toArray, List.set_cons_succ, List.set_cons_zero]
                      refine wpAnyH_ready (rs := [13]) (by kernel_rfl) (by simp) ?_
                      refine AllReadyH.cons (o := _) rfl (fun K hK => ?_) AllReadyH.nil
                      go_simp; refine (HTE0.out _).mono ?_; rintro ee wc ⟨rfl, hbc⟩; have HTc := Lib.hid (HTc.out.below hbc HTc.out.lt); have HMc := Lib.hid (HMc.out.below hbc HMc.out.lt); have HBc := Lib.hid (HBc.out.trans (hbc.mono HBc.out.size))
                      refine hK.out _ _ ?_ (fun hH3 => ?_)
                      · exact ⟨HTc.out, (HF.out _ HBc.out).c0, (HF.out _ HBc.out).c1, (HF.out _ HBc.out).c2, (HF.out _ HBc.out).c3, (HF.out _ HBc.out).c4⟩
                      clear hK K hH2
                      try simp only [go_sem, Act.put, List.getElem_toArray, List.getElem_cons_succ, List.getElem_cons_zero, List.setIfInBounds_toArray, List.set_cons_succ, List.set_cons_zero]
                      refine wpAnyH_take (i := 14) (oi := _) (v := ?_) rfl (by kernel_rfl) (by kernel_rfl) (by kernel_rfl) (fun _ _ _ h => h) (Or.inl ⟨by rfl, ?_⟩) (by assumption) ?_
                      rotate_left
                      · intro w hSw; (try dsimp only at hSw); obtain ⟨hS1, x5, x6, x7, x8, x9⟩ := hSw; obtain ⟨x0, x1, x2⟩ := two hS1; first | (go_simp; done) | (go_simp; with_reducible rfl)
                      try simp only [go_sem, Act.put, List.getElem_toArray, List.getElem_cons_succ, List.getElem_cons_zero, List.setIfInBounds_toArray, List.set_cons_succ, List.set_cons_zero]
                      refine wpAnyH_take (i := 15) (oi := _) (v := ?_) rfl (by kernel_rfl) (by kernel_rfl) (by kernel_rfl) (fun _ _ _ h => h) (Or.inl ⟨by rfl, ?_⟩) (by assumption) ?_
                      rotate_left
                      · intro w hSw; (try dsimp only at hSw); obtain ⟨hS1, x5, x6, x7, x8, x9⟩ := hSw; obtain ⟨x0, x1, x2⟩ := two hS1; first | (go_simp; done) | (go_simp; with_reducible rfl)
                      try simp only [go_sem, Act.put, List.getElem_toArray, List.getElem_cons_succ, List.getElem_cons_zero, List.setIfInBounds_toArray, List.set_cons_succ, List.set_cons_zero]
                      refine wpAnyH_done (by kernel_rfl) ?_ _
                      go_wp2_with fail
                      go_meet
                      case rel => exact ⟨rfl, HTc, HMc, HBc⟩
                    · go_simp; refine (HTE0.out _).mono ?_; rintro ee wc ⟨rfl, hbc⟩; have HTc := Lib.hid (HTc.out.below hbc HTc.out.lt); have HMc := Lib.hid (HMc.out.below hbc HMc.out.lt); have HBc := Lib.hid (HBc.out.trans (hbc.mono HBc.out.size))
                      refine hK.out _ _ ?_ (fun hH2 => ?_)
                      · exact ⟨HTc.out, (HF.out _ HBc.out).c0, (HF.out _ HBc.out).c1, (HF.out _ HBc.out).c2, (HF.out _ HBc.out).c3, (HF.out _ HBc.out).c4⟩
                      clear hK K hH1
                      try simp only [go_sem, Act.put, List.getElem_toArray, List.getElem_cons_succ, List.getElem_cons_zero, List.setIfInBounds_toArray, List.set_cons_succ, List.set_cons_zero]
                      refine wpAnyH_ready (rs := [6]) (by kernel_rfl) (by simp) ?_
                      refine AllReadyH.cons (o := _) rfl (fun K hK => ?_) AllReadyH.nil
                      have HN := Lib.hid (HN.out.below hbc HN.out.lt); have hcw := (HN.out.cell yw.toNat).trans (wh_at' yw y1 y3); rw [HWH.out] at hcw; have hge : ∀ h, ([.string ⟨#[]⟩, .string ⟨#[100, 105, 101, 115]⟩, .string ⟨#[97, 116, 116, 97, 99, 107, 115]⟩, .string ⟨#[117, 112, 107, 101, 101, 112]⟩] : List Value)[yw.toNat]'h = .string (bs wh) := (fun h => by have h9 := List.getElem?_eq_some_iff.1 (wh_at' yw y1 y3); rw [HWH.out] at h9; exact h9.2); go_simp; try simp only [hge]
                      refine hK.out _ _ ?_ (fun hH3 => ?_)
                      · exact ⟨HTc.out, (HF.out _ HBc.out).c0, (HF.out _ HBc.out).c1, (HF.out _ HBc.out).c2, (HF.out _ HBc.out).c3, (HF.out _ HBc.out).c4⟩
                      clear hK K hH2
                      try simp only [go_sem, Act.put, List.getElem_toArray, List.getElem_cons_succ, List.getElem_cons_zero, List.setIfInBounds_toArray, List.set_cons_succ, List.set_cons_zero]
                      refine wpAnyH_take (i := 7) (oi := _) (v := ?_) rfl (by kernel_rfl) (by kernel_rfl) (by kernel_rfl) (fun _ _ _ h => h) (Or.inl ⟨by rfl, ?_⟩) (by assumption) ?_
                      rotate_left
                      · intro w hSw; (try dsimp only at hSw); obtain ⟨hS1, x5, x6, x7, x8, x9⟩ := hSw; obtain ⟨x0, x1, x2⟩ := two hS1; first | (go_simp; done) | (go_simp; with_reducible rfl)
                      try simp only [go_sem, Act.put, List.getElem_toArray, List.getElem_cons_succ, List.getElem_cons_zero, List.setIfInBounds_toArray, List.set_cons_succ, List.set_cons_zero]
                      refine wpAnyH_take (i := 8) (oi := _) (v := ?_) rfl (by kernel_rfl) (by kernel_rfl) (by kernel_rfl) (fun _ _ _ h => h) (Or.inl ⟨by rfl, ?_⟩) (by assumption) ?_
                      rotate_left
                      · intro w hSw; (try dsimp only at hSw); obtain ⟨hS1, x5, x6, x7, x8, x9⟩ := hSw; obtain ⟨x0, x1, x2⟩ := two hS1; first | (go_simp; done) | (go_simp; with_reducible rfl)
                      try simp only [go_sem, Act.put, List.getElem_toArray, List.getElem_cons_succ, List.getElem_cons_zero, List.setIfInBounds_toArray, List.set_cons_succ, List.set_cons_zero]
                      refine wpAnyH_take (i := 14) (oi := _) (v := ?_) rfl (by kernel_rfl) (by kernel_rfl) (by kernel_rfl) (fun _ _ _ h => h) (Or.inl ⟨by rfl, ?_⟩) (by assumption) ?_
                      rotate_left
                      · intro w hSw; (try dsimp only at hSw); obtain ⟨hS1, x5, x6, x7, x8, x9⟩ := hSw; obtain ⟨x0, x1, x2⟩ := two hS1; first | (go_simp; done) | (go_simp; with_reducible rfl)
                      try simp only [go_sem, Act.put, List.getElem_toArray, List.getElem_cons_succ, List.getElem_cons_zero, List.setIfInBounds_toArray, List.set_cons_succ, List.set_cons_zero]
                      refine wpAnyH_take (i := 15) (oi := _) (v := ?_) rfl (by kernel_rfl) (by kernel_rfl) (by kernel_rfl) (fun _ _ _ h => h) (Or.inl ⟨by rfl, ?_⟩) (by assumption) ?_
                      rotate_left
                      · intro w hSw; (try dsimp only at hSw); obtain ⟨hS1, x5, x6, x7, x8, x9⟩ := hSw; obtain ⟨x0, x1, x2⟩ := two hS1; first | (go_simp; done) | (go_simp; with_reducible rfl)
                      try simp only [go_sem, Act.put, List.getElem_toArray, List.getElem_cons_succ, List.getElem_cons_zero, List.setIfInBounds_toArray, List.set_cons_succ, List.set_cons_zero]
                      refine wpAnyH_done (by kernel_rfl) ?_ _
                      go_wp2_with fail
                      go_meet
                      case rel => exact ⟨rfl, HTc, HMc, HBc⟩
                  · go_simp; refine (HTE0.out _).mono ?_; rintro ee wc ⟨rfl, hbc⟩; have HTc := Lib.hid (HTc.out.below hbc HTc.out.lt); have HMc := Lib.hid (HMc.out.below hbc HMc.out.lt); have HBc := Lib.hid (HBc.out.trans (hbc.mono HBc.out.size))
                    refine hK.out _ _ ?_ (fun hH1 => ?_)
                    · exact ⟨HTc.out, (HF.out _ HBc.out).c0, (HF.out _ HBc.out).c1, (HF.out _ HBc.out).c2, (HF.out _ HBc.out).c3, (HF.out _ HBc.out).c4⟩
                    clear hK K hH0
                    try simp only [go_sem, Act.put, List.getElem_toArray, List.getElem_cons_succ, List.getElem_cons_zero, List.setIfInBounds_toArray, List.set_cons_succ, List.set_cons_zero]
                    refine wpAnyH_ready (rs := [2]) (by kernel_rfl) (by simp) ?_
                    refine AllReadyH.cons (o := _) rfl (fun K hK => ?_) AllReadyH.nil
                    go_simp; have HN := Lib.hid (show has (wc.alloc (.cells #[.string ⟨#[]⟩, .string ⟨#[100, 105, 101, 115]⟩, .string ⟨#[97, 116, 116, 97, 99, 107, 115]⟩, .string ⟨#[117, 112, 107, 101, 101, 112]⟩] 9)) (wc.heap.size) 9 [.string ⟨#[]⟩, .string ⟨#[100, 105, 101, 115]⟩, .string ⟨#[97, 116, 116, 97, 99, 107, 115]⟩, .string ⟨#[117, 112, 107, 101, 101, 112]⟩] from new1 (by simp) _ _); have HTc := Lib.hid (HTc.out.alloc (.cells #[.string ⟨#[]⟩, .string ⟨#[100, 105, 101, 115]⟩, .string ⟨#[97, 116, 116, 97, 99, 107, 115]⟩, .string ⟨#[117, 112, 107, 101, 101, 112]⟩] 9)); have HMc := Lib.hid (HMc.out.alloc (.cells #[.string ⟨#[]⟩, .string ⟨#[100, 105, 101, 115]⟩, .string ⟨#[97, 116, 116, 97, 99, 107, 115]⟩, .string ⟨#[117, 112, 107, 101, 101, 112]⟩] 9)); have HBc := Lib.hid (HBc.out.alloc HBc.out.size (.cells #[.string ⟨#[]⟩, .string ⟨#[100, 105, 101, 115]⟩, .string ⟨#[97, 116, 116, 97, 99, 107, 115]⟩, .string ⟨#[117, 112, 107, 101, 101, 112]⟩] 9))
                    refine hK.out _ _ ?_ (fun hH2 => ?_)
                    · exact ⟨HTc.out, (HF.out _ HBc.out).c0, (HF.out _ HBc.out).c1, (HF.out _ HBc.out).c2, (HF.out _ HBc.out).c3, (HF.out _ HBc.out).c4⟩
                    clear hK K hH1
                    try simp only [go_sem, Act.put, List.getElem_toArray, List.getElem_cons_succ, List.getElem_cons_zero, List.setIfInBounds_toArray, List.set_cons_succ, List.set_cons_zero]
                    have y4 : yw < 4 := by omega
                    have y0 : 0 ≤ yw := by omega
                    refine wpAnyH_take (i := 5) (oi := _) (v := ?_) rfl (by kernel_rfl) (by kernel_rfl) (by kernel_rfl) (fun _ _ _ h => h) (Or.inl ⟨by rfl, ?_⟩) (by assumption) ?_
                    rotate_left
                    · intro w hSw; (try dsimp only at hSw); obtain ⟨hS1, x5, x6, x7, x8, x9⟩ := hSw; obtain ⟨x0, x1, x2⟩ := two hS1; first | (go_simp; done) | (go_simp; with_reducible rfl)
                    try simp only [go_sem, Act.put, List.getElem_toArray, List.getElem_cons_succ, List.getElem_cons_zero, List.setIfInBounds_toArray, List.set_cons_succ, List.set_cons_zero]
                    refine wpAnyH_ready (rs := [6]) (by kernel_rfl) (by simp) ?_
                    refine AllReadyH.cons (o := _) rfl (fun K hK => ?_) AllReadyH.nil
                    have hcw := (HN.out.cell yw.toNat).trans (wh_at' yw y1 y3); rw [HWH.out] at hcw; have hge : ∀ h, ([.string ⟨#[]⟩, .string ⟨#[100, 105, 101, 115]⟩, .string ⟨#[97, 116, 116, 97, 99, 107, 115]⟩, .string ⟨#[117, 112, 107, 101, 101, 112]⟩] : List Value)[yw.toNat]'h = .string (bs wh) := (fun h => by have h9 := List.getElem?_eq_some_iff.1 (wh_at' yw y1 y3); rw [HWH.out] at h9; exact h9.2); go_simp; try simp only [hge]
                    refine hK.out _ _ ?_ (fun hH3 => ?_)
                    · exact ⟨HTc.out, (HF.out _ HBc.out).c0, (HF.out _ HBc.out).c1, (HF.out _ HBc.out).c2, (HF.out _ HBc.out).c3, (HF.out _ HBc.out).c4⟩
                    clear hK K hH2
                    try simp only [go_sem, Act.put, List.getElem_toArray, List.getElem_cons_succ, List.getElem_cons_zero, List.setIfInBounds_toArray, List.set_cons_succ, List.set_cons_zero]
                    refine wpAnyH_take (i := 7) (oi := _) (v := ?_) rfl (by kernel_rfl) (by kernel_rfl) (by kernel_rfl) (fun _ _ _ h => h) (Or.inl ⟨by rfl, ?_⟩) (by assumption) ?_
                    rotate_left
                    · intro w hSw; (try dsimp only at hSw); obtain ⟨hS1, x5, x6, x7, x8, x9⟩ := hSw; obtain ⟨x0, x1, x2⟩ := two hS1; first | (go_simp; done) | (go_simp; with_reducible rfl)
                    try simp only [go_sem, Act.put, List.getElem_toArray, List.getElem_cons_succ, List.getElem_cons_zero, List.setIfInBounds_toArray, List.set_cons_succ, List.set_cons_zero]
                    refine wpAnyH_take (i := 8) (oi := _) (v := ?_) rfl (by kernel_rfl) (by kernel_rfl) (by kernel_rfl) (fun _ _ _ h => h) (Or.inl ⟨by rfl, ?_⟩) (by assumption) ?_
                    rotate_left
                    · intro w hSw; (try dsimp only at hSw); obtain ⟨hS1, x5, x6, x7, x8, x9⟩ := hSw; obtain ⟨x0, x1, x2⟩ := two hS1; first | (go_simp; done) | (go_simp; with_reducible rfl)
                    try simp only [go_sem, Act.put, List.getElem_toArray, List.getElem_cons_succ, List.getElem_cons_zero, List.setIfInBounds_toArray, List.set_cons_succ, List.set_cons_zero]
                    refine wpAnyH_take (i := 14) (oi := _) (v := ?_) rfl (by kernel_rfl) (by kernel_rfl) (by kernel_rfl) (fun _ _ _ h => h) (Or.inl ⟨by rfl, ?_⟩) (by assumption) ?_
                    rotate_left
                    · intro w hSw; (try dsimp only at hSw); obtain ⟨hS1, x5, x6, x7, x8, x9⟩ := hSw; obtain ⟨x0, x1, x2⟩ := two hS1; first | (go_simp; done) | (go_simp; with_reducible rfl)
                    try simp only [go_sem, Act.put, List.getElem_toArray, List.getElem_cons_succ, List.getElem_cons_zero, List.setIfInBounds_toArray, List.set_cons_succ, List.set_cons_zero]
                    refine wpAnyH_take (i := 15) (oi := _) (v := ?_) rfl (by kernel_rfl) (by kernel_rfl) (by kernel_rfl) (fun _ _ _ h => h) (Or.inl ⟨by rfl, ?_⟩) (by assumption) ?_
                    rotate_left
                    · intro w hSw; (try dsimp only at hSw); obtain ⟨hS1, x5, x6, x7, x8, x9⟩ := hSw; obtain ⟨x0, x1, x2⟩ := two hS1; first | (go_simp; done) | (go_simp; with_reducible rfl)
                    try simp only [go_sem, Act.put, List.getElem_toArray, List.getElem_cons_succ, List.getElem_cons_zero, List.setIfInBounds_toArray, List.set_cons_succ, List.set_cons_zero]
                    refine wpAnyH_done (by kernel_rfl) ?_ _
                    go_wp2_with fail
                    go_meet
                    case rel => exact ⟨rfl, HTc, HMc, HBc⟩
                case rest =>
                  obtain ⟨rfl, HTx, HMx, HBx⟩ := hcut
                  clear HT0 HMt HBt HBt2 c5 c6 c7 c8
                  obtain ⟨v0, v1, v2⟩ := two HTx.out
                  have HBw := Lib.hid (HB.out.trans (HBx.out.mono HB.out.size))
                  by_cases h2 : 1 < n'
                  · have h2i : (1 : Int) < (n' : Int) := by omega
                    have g1 := (HG1.out h2).below HBx.out heb
                    have HT1 := Lib.hid (HTE1.out h2)
                    have HTQ : Hid (trT ⟨yw, ye⟩ = wh ++ [58, 32] ++ t0 ++ ([32, 97, 110, 100, 32] ++ t1)) := Lib.hid (by rw [HTR.out, if_pos h2])
                    clear h2 HTE1 HG1
                    obtain ⟨zc, zt, zn, zm, zk⟩ := z1
                    obtain ⟨f0, f1, f2, f3, f4⟩ := g1
                    dsimp only at f0 f1 f2 f3 f4
                    have c5 : ∀ w, (Op.stringOp .add (bs Lp) ⟨#[32, 97, 110, 100, 32]⟩).run Tryz.prog w = .ok (.string (bs (Lp ++ [32, 97, 110, 100, 32]))) w := cat_run Lp [32, 97, 110, 100, 32] (by first | omega | (simp; omega))
                    obtain ⟨Lq, hLq⟩ : ∃ ZZ, Lp ++ [32, 97, 110, 100, 32] = ZZ := ⟨_, rfl⟩
                    rw [hLq] at c5
                    have nLq : Lq.length = Lp.length + 5 := by rw [← hLq, List.length_append]; rfl
                    have c6 : ∀ w, (Op.stringOp .add (bs Lq) (bs (t1))).run Tryz.prog w = .ok (.string (bs (Lq ++ (t1)))) w := cat_run Lq (t1) (by first | omega | (simp; omega))
                    obtain ⟨Lr, hLr⟩ : ∃ ZZ, Lq ++ (t1) = ZZ := ⟨_, rfl⟩
                    rw [hLr] at c6
                    have nLr : Lr.length = Lq.length + ((t1) : List UInt8).length := by rw [← hLr, List.length_append]
                    have HR : Hid (Lr = Lib.join (((([nm, [99, 114, 101, 97, 116, 117, 114, 101, 32] ++ co] ++ [tab kp ++ [47] ++ tab kt]) ++ kwT kk 4) ++ e.map textE) ++ (l.take (q + 1)).map trT) [44, 32]) := Lib.hid (by rw [← hLr, ← hLq, HLp.out, HTK.out, HTQ.out, HL.out, ← List.append_assoc, show ((([nm, [99, 114, 101, 97, 116, 117, 114, 101, 32] ++ co] ++ [tab kp ++ [47] ++ tab kt]) ++ kwT kk 4) ++ e.map textE) ++ (l.take q).map trT = nm :: ((([[99, 114, 101, 97, 116, 117, 114, 101, 32] ++ co, tab kp ++ [47] ++ tab kt] ++ kwT kk 4) ++ e.map textE) ++ (l.take q).map trT) from by simp, join_snoc]; simp only [List.append_assoc])
                    have hl3 : Lr.length ≤ 340 + 110 * (q + 1) := by omega
                    clear hLr hLq nLr nLq HTQ HTK
                    go_wp2_with fail
                    refine (HT1.out _).mono ?_; rintro ee wd ⟨rfl, hbd⟩
                    have HMq := Lib.hid (HMx.out.below hbd HMx.out.lt)
                    have HBq := Lib.hid (next HBw.out hbd)
                    clear hbd
                    go_wp2_with fail
                    exact ⟨⟨q + 1, Lr, by omega, by go_num, rfl, hl3, HR, HMq, HBq⟩, by simp [intOf]; omega⟩
                  · have h2i : ¬ (1 : Int) < (n' : Int) := by omega
                    have HR : Hid (Lp = Lib.join (((([nm, [99, 114, 101, 97, 116, 117, 114, 101, 32] ++ co] ++ [tab kp ++ [47] ++ tab kt]) ++ kwT kk 4) ++ e.map textE) ++ (l.take (q + 1)).map trT) [44, 32]) := Lib.hid (by rw [HLp.out, HTK.out, HTR.out, if_neg h2, HL.out, ← List.append_assoc, show ((([nm, [99, 114, 101, 97, 116, 117, 114, 101, 32] ++ co] ++ [tab kp ++ [47] ++ tab kt]) ++ kwT kk 4) ++ e.map textE) ++ (l.take q).map trT = nm :: ((([[99, 114, 101, 97, 116, 117, 114, 101, 32] ++ co, tab kp ++ [47] ++ tab kt] ++ kwT kk 4) ++ e.map textE) ++ (l.take q).map trT) from by simp, join_snoc]; simp only [List.append_assoc, List.append_nil])
                    clear h2 HTR HTK
                    go_wp2_with fail
                    exact ⟨⟨q + 1, Lp, by omega, by go_num, rfl, by omega, HR, HMx, HBw⟩, by simp [intOf]; omega⟩
              · obtain rfl : tn = q := by omega
                have cy12 := HM.out.cell 12
                have HTT : Hid (l.take tn = l) := Lib.hid (List.take_of_length_le (by rw [HLT.out]; exact Nat.le_refl _))
                go_wp2_with fail
                go_ret
                exact ⟨by rw [HL.out, HTT.out]; rfl, HB.out⟩
end Go.Proofs.YtkappnnoienhnaaGreatDoor.caFn

/- The line of a spell, by the reference. -/
namespace Go.Proofs.YtkappnnoienhnaaGreatDoor.caFn
open Go.ChangeShapes Go.WideShapes Go.ChangeAt Go.RowKit drMem efFn
set_option linter.unusedVariables false

set_option maxRecDepth 100000 in
set_option maxHeartbeats 16000000 in
theorem rline_3 (nm : List UInt8) (m r : Int) (ka kb kc kdd kx kp kt kk : Nat) (es : Option Addr) (en ec : Nat) (ts : Option Addr) (tn tc : Nat) (e : List Ef) (l : List Tr) (w : World) (h : CdAt w es en e ts tn l) (h1 : nm.length ≤ 32) (hc : maFn.okC ka kb kc kdd kx = true) (hp : kp ≤ 99) (ht : kt ≤ 99) (hk : kk < 16) (hE : allB e = true) (hl : tn ≤ 2) (hT : ∀ t ∈ l, (1 ≤ t.w ∧ t.w ≤ 3) ∧ (1 ≤ t.e.length ∧ t.e.length ≤ 2) ∧ allB t.e = true) (co : List UInt8) (hco : maFn.textL ka kb kc kdd kx = co) (hcl : co.length ≤ 82) :
    Calls Tryz.prog 11 #[cV (bs nm) 3 (ka : Nat) (kb : Nat) (kc : Nat) (kdd : Nat) (kx : Nat) m (kp : Nat) (kt : Nat) (kk : Nat) es en ec ts tn tc r] w fun v w' => v = .returned (.string (bs (Lib.join ((([nm, [115, 112, 101, 108, 108, 32] ++ co] ++ kwT kk 4) ++ e.map textE) ++ l.map trT) [44, 32]))) ∧ Below w.heap.size w w' := by
  have HB0 := Lib.hid (show Below w.heap.size w (w.alloc (.cells #[.string (bs nm), .int .i64 3, .int .i64 (ka : Nat), .int .i64 (kb : Nat), .int .i64 (kc : Nat), .int .i64 (kdd : Nat), .int .i64 (kx : Nat), .int .i64 m, .int .i64 (kp : Nat), .int .i64 (kt : Nat), .int .i64 (kk : Nat), .slice es en ec, .slice ts tn tc, .int .i64 r] 32)) from (Below.refl _ _).alloc (Nat.le_refl _) _)
  have HM0 := Lib.hid (new0 w 32 (cL (bs nm) 3 (ka : Nat) (kb : Nat) (kc : Nat) (kdd : Nat) (kx : Nat) m (kp : Nat) (kt : Nat) (kk : Nat) es en ec ts tn tc r))
  have HH := Lib.hid h
  have hen : en ≤ 4 := by rw [← h.e.n]; exact (all_bd hE).1
  have HLE := Lib.hid h.e.n
  have HLT := Lib.hid h.t.n
  have HEA := Lib.hid (all_ok hE)
  have HTA := Lib.hid hT
  have HTX : Hid (∀ W : World, Calls Tryz.prog 23 #[.agg #[.int .i64 (ka : Nat), .int .i64 (kb : Nat), .int .i64 (kc : Nat), .int .i64 (kdd : Nat), .int .i64 (kx : Nat)]] W fun e w' => e = .returned (.string (bs co)) ∧ Below W.heap.size W w') := Lib.hid fun W => by
    have := maFn.rText_yes ka kb kc kdd kx W hc
    rw [hco] at this
    exact this
  have HGE : Hid (0 < en → ∃ eb eoff, es = some ⟨eb, eoff, none⟩ ∧ eb < w.heap.size ∧ ∀ q, q < en → EfAt w eb (eoff + q * 5) (e.getD q default)) := Lib.hid fun h0 => by
    obtain ⟨eb, eoff, he, hb, hc⟩ := HH.out.e.c h0
    exact ⟨eb, eoff, he, hb, fun q hq => hc q _ (get_some (by rw [HLE.out]; exact hq))⟩
  have HGT : Hid (0 < tn → ∃ tb toff, ts = some ⟨tb, toff, none⟩ ∧ tb < w.heap.size ∧ ∀ q, q < tn → ∃ s n c, TrAt w tb (toff + q * 2) (l.getD q default) s n c) := Lib.hid fun h0 => by
    obtain ⟨tb, toff, he, hb, hc⟩ := HH.out.t.c h0
    exact ⟨tb, toff, he, hb, fun q hq => hc q _ (getT (by rw [HLT.out]; exact hq))⟩
  clear h hE hT hco hc
  obtain ⟨cx0, cx1, cx2, cx3, cx4, cx5, cx6, cx7, cx8, cx9, cx10, cx11, cx12, cx13, cx14⟩ := card14 HM0.out
  have c1 : ∀ w, (Op.stringOp .add (bs nm) ⟨#[44, 32]⟩).run Tryz.prog w = .ok (.string (bs (nm ++ [44, 32]))) w := cat_run nm [44, 32] (by first | omega | (simp; omega))
  obtain ⟨La, hLa⟩ : ∃ La, nm ++ [44, 32] = La := ⟨_, rfl⟩
  obtain ⟨Lb, hLb⟩ : ∃ Lb, (La ++ [115, 112, 101, 108, 108]) ++ [32] = Lb := ⟨_, rfl⟩
  have ha : La.length ≤ 34 := by rw [← hLa]; simp; omega
  have hb : Lb.length ≤ 44 := by rw [← hLb]; simp; omega
  rw [hLa] at c1
  have c2 : ∀ w, (Op.stringOp .add (bs La) ⟨#[115, 112, 101, 108, 108]⟩).run Tryz.prog w = .ok (.string (bs (La ++ [115, 112, 101, 108, 108]))) w := cat_run La [115, 112, 101, 108, 108] (by first | omega | (simp; omega))
  have c3 : ∀ w, (Op.stringOp .add (bs (La ++ [115, 112, 101, 108, 108])) ⟨#[32]⟩).run Tryz.prog w = .ok (.string (bs ((La ++ [115, 112, 101, 108, 108]) ++ [32]))) w := cat_run (La ++ [115, 112, 101, 108, 108]) [32] (by first | omega | (simp; omega))
  rw [hLb] at c3
  have c4 : ∀ w, (Op.stringOp .add (bs Lb) (bs co)).run Tryz.prog w = .ok (.string (bs (Lb ++ co))) w := cat_run Lb co (by first | omega | (simp; omega))
  have HL1 : Hid (Lb ++ co = Lib.join [nm, [115, 112, 101, 108, 108, 32] ++ co] [44, 32]) := Lib.hid (by rw [← hLb, ← hLa, join_pair]; simp)
  have hl1 : (Lb ++ co).length ≤ 130 := by simp; omega
  clear hLa hLb
  go_enter Tryz.func11, Tryz.ntmps11
  go_upto_region 4 with fail
  go_cut [3] from 23 to 34 (fun s3 wr => s3 = .string (bs (Lb ++ co)) ∧ Hid (has wr w.heap.size 32 (cL (bs nm) 3 (ka : Nat) (kb : Nat) (kc : Nat) (kdd : Nat) (kx : Nat) m (kp : Nat) (kt : Nat) (kk : Nat) es en ec ts tn tc r)) ∧ Hid (Below w.heap.size w wr))
  case first =>
    have HMc := Lib.hid (show has (w.alloc (.cells #[.string (bs nm), .int .i64 3, .int .i64 (ka : Nat), .int .i64 (kb : Nat), .int .i64 (kc : Nat), .int .i64 (kdd : Nat), .int .i64 (kx : Nat), .int .i64 m, .int .i64 (kp : Nat), .int .i64 (kt : Nat), .int .i64 (kk : Nat), .slice es en ec, .slice ts tn tc, .int .i64 r] 32)).drew w.heap.size 32 (cL (bs nm) 3 (ka : Nat) (kb : Nat) (kc : Nat) (kdd : Nat) (kx : Nat) m (kp : Nat) (kt : Nat) (kk : Nat) es en ec ts tn tc r) from HM0.out)
    have HBc := Lib.hid (show Below w.heap.size w (w.alloc (.cells #[.string (bs nm), .int .i64 3, .int .i64 (ka : Nat), .int .i64 (kb : Nat), .int .i64 (kc : Nat), .int .i64 (kdd : Nat), .int .i64 (kx : Nat), .int .i64 m, .int .i64 (kp : Nat), .int .i64 (kt : Nat), .int .i64 (kk : Nat), .slice es en ec, .slice ts tn tc, .int .i64 r] 32)).drew from HB0.out.drew)
    have HMd := HMc
    refine wp_region_held_drew (S := (fun w' => has w' w.heap.size 32 (cL (bs nm) 3 (ka : Nat) (kb : Nat) (kc : Nat) (kdd : Nat) (kx : Nat) m (kp : Nat) (kt : Nat) (kk : Nat) es en ec ts tn tc r))) (by kernel_rfl) ?_ (fun hH0 => ?_)
    · exact HMd.out
    refine wpAnyH_take (i := 0) (oi := _) (v := ?_) rfl (by kernel_rfl) (by kernel_rfl) (by kernel_rfl) (fun _ _ _ h => h) (Or.inl ⟨by rfl, ?_⟩) (by assumption) ?_
    rotate_left
    · intro w hSw; (try dsimp only at hSw); obtain ⟨x0, x1, x2, x3, x4, x5, x6, x7, x8, x9, x10, x11, x12, x13, x14⟩ := card14 hSw; first | (go_simp; done) | (go_simp; with_reducible rfl)
    try simp only [go_sem, Act.put, List.getElem_toArray, List.getElem_cons_zero, List.setIfInBounds_toArray, List.set_cons_succ, List.set_cons_zero]
    refine wpAnyH_take (i := 2) (oi := _) (v := ?_) rfl (by kernel_rfl) (by kernel_rfl) (by kernel_rfl) (fun _ _ _ h => h) (Or.inl ⟨by rfl, ?_⟩) (by assumption) ?_
    rotate_left
    · intro w hSw; (try dsimp only at hSw); obtain ⟨x0, x1, x2, x3, x4, x5, x6, x7, x8, x9, x10, x11, x12, x13, x14⟩ := card14 hSw; first | (go_simp; done) | (go_simp; with_reducible rfl)
    try simp only [go_sem, Act.put, List.getElem_toArray, List.getElem_cons_succ, List.getElem_cons_zero, List.setIfInBounds_toArray, List.set_cons_succ, List.set_cons_zero]
    refine wpAnyH_take (i := 3) (oi := _) (v := ?_) rfl (by kernel_rfl) (by kernel_rfl) (by kernel_rfl) (fun _ _ _ h => h) (Or.inl ⟨by rfl, ?_⟩) (by assumption) ?_
    rotate_left
    · intro w hSw; (try dsimp only at hSw); obtain ⟨x0, x1, x2, x3, x4, x5, x6, x7, x8, x9, x10, x11, x12, x13, x14⟩ := card14 hSw; first | (go_simp; done) | (go_simp; with_reducible rfl)
    try simp only [go_sem, Act.put, List.getElem_toArray, List.getElem_cons_succ, List.getElem_cons_zero, List.setIfInBounds_toArray, List.set_cons_succ, List.set_cons_zero]
    refine wpAnyH_take (i := 8) (oi := _) (v := ?_) rfl (by kernel_rfl) (by kernel_rfl) (by kernel_rfl) (fun _ _ _ h => h) (Or.inl ⟨by rfl, ?_⟩) (by assumption) ?_
    rotate_left
    · intro w hSw; (try dsimp only at hSw); obtain ⟨x0, x1, x2, x3, x4, x5, x6, x7, x8, x9, x10, x11, x12, x13, x14⟩ := card14 hSw; first | (go_simp; done) | (go_simp; with_reducible rfl)
    try simp only [go_sem, Act.put, List.getElem_toArray, List.getElem_cons_succ, List.getElem_cons_zero, List.setIfInBounds_toArray, List.set_cons_succ, List.set_cons_zero]
    refine wpAnyH_take (i := 9) (oi := _) (v := ?_) rfl (by kernel_rfl) (by kernel_rfl) (by kernel_rfl) (fun _ _ _ h => h) (Or.inl ⟨by rfl, ?_⟩) (by assumption) ?_
    rotate_left
    · intro w hSw; (try dsimp only at hSw); obtain ⟨x0, x1, x2, x3, x4, x5, x6, x7, x8, x9, x10, x11, x12, x13, x14⟩ := card14 hSw; first | (go_simp; done) | (go_simp; with_reducible rfl)
    try simp only [go_sem, Act.put, List.getElem_toArray, List.getElem_cons_succ, List.getElem_cons_zero, List.setIfInBounds_toArray, List.set_cons_succ, List.set_cons_zero]
    refine wpAnyH_ready (rs := [1, 10]) (by kernel_rfl) (by simp) ?_
    refine AllReadyH.cons (o := _) rfl (fun K hK => ?_) (AllReadyH.cons (o := _) rfl (fun K hK => ?_) AllReadyH.nil)
    · go_simp; have HN := Lib.hid (show has ((w.alloc (.cells #[.string (bs nm), .int .i64 3, .int .i64 (ka : Nat), .int .i64 (kb : Nat), .int .i64 (kc : Nat), .int .i64 (kdd : Nat), .int .i64 (kx : Nat), .int .i64 m, .int .i64 (kp : Nat), .int .i64 (kt : Nat), .int .i64 (kk : Nat), .slice es en ec, .slice ts tn tc, .int .i64 r] 32)).drew.alloc (.cells #[.string ⟨#[]⟩, .string ⟨#[]⟩, .string ⟨#[99, 114, 101, 97, 116, 117, 114, 101]⟩, .string ⟨#[115, 112, 101, 108, 108]⟩, .string ⟨#[116, 114, 105, 99, 107]⟩] 9)) (w.heap.size + 1) 9 [.string ⟨#[]⟩, .string ⟨#[]⟩, .string ⟨#[99, 114, 101, 97, 116, 117, 114, 101]⟩, .string ⟨#[115, 112, 101, 108, 108]⟩, .string ⟨#[116, 114, 105, 99, 107]⟩] from new1 (by simp) _ _); have HMc := Lib.hid (HMc.out.alloc (.cells #[.string ⟨#[]⟩, .string ⟨#[]⟩, .string ⟨#[99, 114, 101, 97, 116, 117, 114, 101]⟩, .string ⟨#[115, 112, 101, 108, 108]⟩, .string ⟨#[116, 114, 105, 99, 107]⟩] 9)); have HBc := Lib.hid (HBc.out.alloc HBc.out.size (.cells #[.string ⟨#[]⟩, .string ⟨#[]⟩, .string ⟨#[99, 114, 101, 97, 116, 117, 114, 101]⟩, .string ⟨#[115, 112, 101, 108, 108]⟩, .string ⟨#[116, 114, 105, 99, 107]⟩] 9))
      refine hK.out _ _ ?_ (fun hH1 => ?_)
      · exact HMc.out
      clear hK K hH0
      try simp only [go_sem, Act.put, List.getElem_toArray, List.getElem_cons_succ, List.getElem_cons_zero, List.setIfInBounds_toArray, List.set_cons_succ, List.set_cons_zero]
      refine wpAnyH_take (i := 4) (oi := _) (v := ?_) rfl (by kernel_rfl) (by kernel_rfl) (by kernel_rfl) (fun _ _ _ h => h) (Or.inl ⟨by rfl, ?_⟩) (by assumption) ?_
      rotate_left
      · intro w hSw; (try dsimp only at hSw); obtain ⟨x0, x1, x2, x3, x4, x5, x6, x7, x8, x9, x10, x11, x12, x13, x14⟩ := card14 hSw; first | (go_simp; done) | (go_simp; with_reducible rfl)
      try simp only [go_sem, Act.put, List.getElem_toArray, List.getElem_cons_succ, List.getElem_cons_zero, List.setIfInBounds_toArray, List.set_cons_succ, List.set_cons_zero]
      refine wpAnyH_ready (rs := [5, 10]) (by kernel_rfl) (by simp) ?_
      refine AllReadyH.cons (o := _) rfl (fun K hK => ?_) (AllReadyH.cons (o := _) rfl (fun K hK => ?_) AllReadyH.nil)
      · have hcw := HN.out.cell 3; go_simp
        refine hK.out _ _ ?_ (fun hH2 => ?_)
        · exact HMc.out
        clear hK K hH1
        try simp only [go_sem, Act.put, List.getElem_toArray, List.getElem_cons_succ, List.getElem_cons_zero, List.setIfInBounds_toArray, List.set_cons_succ, List.set_cons_zero]
        refine wpAnyH_take (i := 6) (oi := _) (v := ?_) rfl (by kernel_rfl) (by kernel_rfl) (by kernel_rfl) (fun _ _ _ h => h) (Or.inl ⟨by rfl, ?_⟩) (by assumption) ?_
        rotate_left
        · intro w hSw; (try dsimp only at hSw); obtain ⟨x0, x1, x2, x3, x4, x5, x6, x7, x8, x9, x10, x11, x12, x13, x14⟩ := card14 hSw; first | (go_simp; done) | (go_simp; with_reducible rfl)
        try simp only [go_sem, Act.put, List.getElem_toArray, List.getElem_cons_succ, List.getElem_cons_zero, List.setIfInBounds_toArray, List.set_cons_succ, List.set_cons_zero]
        refine wpAnyH_take (i := 7) (oi := _) (v := ?_) rfl (by kernel_rfl) (by kernel_rfl) (by kernel_rfl) (fun _ _ _ h => h) (Or.inl ⟨by rfl, ?_⟩) (by assumption) ?_
        rotate_left
        · intro w hSw; (try dsimp only at hSw); obtain ⟨x0, x1, x2, x3, x4, x5, x6, x7, x8, x9, x10, x11, x12, x13, x14⟩ := card14 hSw; first | (go_simp; done) | (go_simp; with_reducible rfl)
        try simp only [go_sem, Act.put, List.getElem_toArray, List.getElem_cons_succ, List.getElem_cons_zero, List.setIfInBounds_toArray, List.set_cons_succ, List.set_cons_zero]
        refine wpAnyH_ready (rs := [10]) (by kernel_rfl) (by simp) ?_
        refine AllReadyH.cons (o := _) rfl (fun K hK => ?_) AllReadyH.nil
        go_simp; refine (HTX.out _).mono ?_; rintro ee wc ⟨rfl, hbc⟩; have HMc := Lib.hid (HMc.out.below hbc HMc.out.lt); have HBc := Lib.hid (next HBc.out hbc)
        refine hK.out _ _ ?_ (fun hH3 => ?_)
        · exact HMc.out
        clear hK K hH2
        try simp only [go_sem, Act.put, List.getElem_toArray, List.getElem_cons_succ, List.getElem_cons_zero, List.setIfInBounds_toArray, List.set_cons_succ, List.set_cons_zero]
        refine wpAnyH_take (i := 11) (oi := _) (v := ?_) rfl (by kernel_rfl) (by kernel_rfl) (by kernel_rfl) (fun _ _ _ h => h) (Or.inl ⟨by rfl, ?_⟩) (by assumption) ?_
        rotate_left
        · intro w hSw; (try dsimp only at hSw); obtain ⟨x0, x1, x2, x3, x4, x5, x6, x7, x8, x9, x10, x11, x12, x13, x14⟩ := card14 hSw; first | (go_simp; done) | (go_simp; with_reducible rfl)
        try simp only [go_sem, Act.put, List.getElem_toArray, List.getElem_cons_succ, List.getElem_cons_zero, List.setIfInBounds_toArray, List.set_cons_succ, List.set_cons_zero]
        refine wpAnyH_take (i := 12) (oi := _) (v := ?_) rfl (by kernel_rfl) (by kernel_rfl) (by kernel_rfl) (fun _ _ _ h => h) (Or.inl ⟨by rfl, ?_⟩) (by assumption) ?_
        rotate_left
        · intro w hSw; (try dsimp only at hSw); obtain ⟨x0, x1, x2, x3, x4, x5, x6, x7, x8, x9, x10, x11, x12, x13, x14⟩ := card14 hSw; first | (go_simp; done) | (go_simp; with_reducible rfl)
        try simp only [go_sem, Act.put, List.getElem_toArray, List.getElem_cons_succ, List.getElem_cons_zero, List.setIfInBounds_toArray, List.set_cons_succ, List.set_cons_zero]
        refine wpAnyH_done (by kernel_rfl) ?_ _
        go_wp2_with fail
        go_meet
        case rel => exact ⟨rfl, HMc, HBc⟩
      · go_simp; refine (HTX.out _).mono ?_; rintro ee wc ⟨rfl, hbc⟩; have HMc := Lib.hid (HMc.out.below hbc HMc.out.lt); have HBc := Lib.hid (next HBc.out hbc)
        refine hK.out _ _ ?_ (fun hH2 => ?_)
        · exact HMc.out
        clear hK K hH1
        try simp only [go_sem, Act.put, List.getElem_toArray, List.getElem_cons_succ, List.getElem_cons_zero, List.setIfInBounds_toArray, List.set_cons_succ, List.set_cons_zero]
        refine wpAnyH_ready (rs := [5]) (by kernel_rfl) (by simp) ?_
        refine AllReadyH.cons (o := _) rfl (fun K hK => ?_) AllReadyH.nil
        have HN := Lib.hid (HN.out.below hbc HN.out.lt); have hcw := HN.out.cell 3; go_simp
        refine hK.out _ _ ?_ (fun hH3 => ?_)
        · exact HMc.out
        clear hK K hH2
        try simp only [go_sem, Act.put, List.getElem_toArray, List.getElem_cons_succ, List.getElem_cons_zero, List.setIfInBounds_toArray, List.set_cons_succ, List.set_cons_zero]
        refine wpAnyH_take (i := 6) (oi := _) (v := ?_) rfl (by kernel_rfl) (by kernel_rfl) (by kernel_rfl) (fun _ _ _ h => h) (Or.inl ⟨by rfl, ?_⟩) (by assumption) ?_
        rotate_left
        · intro w hSw; (try dsimp only at hSw); obtain ⟨x0, x1, x2, x3, x4, x5, x6, x7, x8, x9, x10, x11, x12, x13, x14⟩ := card14 hSw; first | (go_simp; done) | (go_simp; with_reducible rfl)
        try simp only [go_sem, Act.put, List.getElem_toArray, List.getElem_cons_succ, List.getElem_cons_zero, List.setIfInBounds_toArray, List.set_cons_succ, List.set_cons_zero]
        refine wpAnyH_take (i := 7) (oi := _) (v := ?_) rfl (by kernel_rfl) (by kernel_rfl) (by kernel_rfl) (fun _ _ _ h => h) (Or.inl ⟨by rfl, ?_⟩) (by assumption) ?_
        rotate_left
        · intro w hSw; (try dsimp only at hSw); obtain ⟨x0, x1, x2, x3, x4, x5, x6, x7, x8, x9, x10, x11, x12, x13, x14⟩ := card14 hSw; first | (go_simp; done) | (go_simp; with_reducible rfl)
        try simp only [go_sem, Act.put, List.getElem_toArray, List.getElem_cons_succ, List.getElem_cons_zero, List.setIfInBounds_toArray, List.set_cons_succ, List.set_cons_zero]
        refine wpAnyH_take (i := 11) (oi := _) (v := ?_) rfl (by kernel_rfl) (by kernel_rfl) (by kernel_rfl) (fun _ _ _ h => h) (Or.inl ⟨by rfl, ?_⟩) (by assumption) ?_
        rotate_left
        · intro w hSw; (try dsimp only at hSw); obtain ⟨x0, x1, x2, x3, x4, x5, x6, x7, x8, x9, x10, x11, x12, x13, x14⟩ := card14 hSw; first | (go_simp; done) | (go_simp; with_reducible rfl)
        try simp only [go_sem, Act.put, List.getElem_toArray, List.getElem_cons_succ, List.getElem_cons_zero, List.setIfInBounds_toArray, List.set_cons_succ, List.set_cons_zero]
        refine wpAnyH_take (i := 12) (oi := _) (v := ?_) rfl (by kernel_rfl) (by kernel_rfl) (by kernel_rfl) (fun _ _ _ h => h) (Or.inl ⟨by rfl, ?_⟩) (by assumption) ?_
        rotate_left
        · intro w hSw; (try dsimp only at hSw); obtain ⟨x0, x1, x2, x3, x4, x5, x6, x7, x8, x9, x10, x11, x12, x13, x14⟩ := card14 hSw; first | (go_simp; done) | (go_simp; with_reducible rfl)
        try simp only [go_sem, Act.put, List.getElem_toArray, List.getElem_cons_succ, List.getElem_cons_zero, List.setIfInBounds_toArray, List.set_cons_succ, List.set_cons_zero]
        refine wpAnyH_done (by kernel_rfl) ?_ _
        go_wp2_with fail
        go_meet
        case rel => exact ⟨rfl, HMc, HBc⟩
    · go_simp; refine (HTX.out _).mono ?_; rintro ee wc ⟨rfl, hbc⟩; have HMc := Lib.hid (HMc.out.below hbc HMc.out.lt); have HBc := Lib.hid (next HBc.out hbc)
      refine hK.out _ _ ?_ (fun hH1 => ?_)
      · exact HMc.out
      clear hK K hH0
      try simp only [go_sem, Act.put, List.getElem_toArray, List.getElem_cons_succ, List.getElem_cons_zero, List.setIfInBounds_toArray, List.set_cons_succ, List.set_cons_zero]
      refine wpAnyH_ready (rs := [1]) (by kernel_rfl) (by simp) ?_
      refine AllReadyH.cons (o := _) rfl (fun K hK => ?_) AllReadyH.nil
      go_simp; have HN := Lib.hid (show has (wc.alloc (.cells #[.string ⟨#[]⟩, .string ⟨#[]⟩, .string ⟨#[99, 114, 101, 97, 116, 117, 114, 101]⟩, .string ⟨#[115, 112, 101, 108, 108]⟩, .string ⟨#[116, 114, 105, 99, 107]⟩] 9)) (wc.heap.size) 9 [.string ⟨#[]⟩, .string ⟨#[]⟩, .string ⟨#[99, 114, 101, 97, 116, 117, 114, 101]⟩, .string ⟨#[115, 112, 101, 108, 108]⟩, .string ⟨#[116, 114, 105, 99, 107]⟩] from new1 (by simp) _ _); have HMc := Lib.hid (HMc.out.alloc (.cells #[.string ⟨#[]⟩, .string ⟨#[]⟩, .string ⟨#[99, 114, 101, 97, 116, 117, 114, 101]⟩, .string ⟨#[115, 112, 101, 108, 108]⟩, .string ⟨#[116, 114, 105, 99, 107]⟩] 9)); have HBc := Lib.hid (HBc.out.alloc HBc.out.size (.cells #[.string ⟨#[]⟩, .string ⟨#[]⟩, .string ⟨#[99, 114, 101, 97, 116, 117, 114, 101]⟩, .string ⟨#[115, 112, 101, 108, 108]⟩, .string ⟨#[116, 114, 105, 99, 107]⟩] 9))
      refine hK.out _ _ ?_ (fun hH2 => ?_)
      · exact HMc.out
      clear hK K hH1
      try simp only [go_sem, Act.put, List.getElem_toArray, List.getElem_cons_succ, List.getElem_cons_zero, List.setIfInBounds_toArray, List.set_cons_succ, List.set_cons_zero]
      refine wpAnyH_take (i := 4) (oi := _) (v := ?_) rfl (by kernel_rfl) (by kernel_rfl) (by kernel_rfl) (fun _ _ _ h => h) (Or.inl ⟨by rfl, ?_⟩) (by assumption) ?_
      rotate_left
      · intro w hSw; (try dsimp only at hSw); obtain ⟨x0, x1, x2, x3, x4, x5, x6, x7, x8, x9, x10, x11, x12, x13, x14⟩ := card14 hSw; first | (go_simp; done) | (go_simp; with_reducible rfl)
      try simp only [go_sem, Act.put, List.getElem_toArray, List.getElem_cons_succ, List.getElem_cons_zero, List.setIfInBounds_toArray, List.set_cons_succ, List.set_cons_zero]
      refine wpAnyH_ready (rs := [5]) (by kernel_rfl) (by simp) ?_
      refine AllReadyH.cons (o := _) rfl (fun K hK => ?_) AllReadyH.nil
      have hcw := HN.out.cell 3; go_simp
      refine hK.out _ _ ?_ (fun hH3 => ?_)
      · exact HMc.out
      clear hK K hH2
      try simp only [go_sem, Act.put, List.getElem_toArray, List.getElem_cons_succ, List.getElem_cons_zero, List.setIfInBounds_toArray, List.set_cons_succ, List.set_cons_zero]
      refine wpAnyH_take (i := 6) (oi := _) (v := ?_) rfl (by kernel_rfl) (by kernel_rfl) (by kernel_rfl) (fun _ _ _ h => h) (Or.inl ⟨by rfl, ?_⟩) (by assumption) ?_
      rotate_left
      · intro w hSw; (try dsimp only at hSw); obtain ⟨x0, x1, x2, x3, x4, x5, x6, x7, x8, x9, x10, x11, x12, x13, x14⟩ := card14 hSw; first | (go_simp; done) | (go_simp; with_reducible rfl)
      try simp only [go_sem, Act.put, List.getElem_toArray, List.getElem_cons_succ, List.getElem_cons_zero, List.setIfInBounds_toArray, List.set_cons_succ, List.set_cons_zero]
      refine wpAnyH_take (i := 7) (oi := _) (v := ?_) rfl (by kernel_rfl) (by kernel_rfl) (by kernel_rfl) (fun _ _ _ h => h) (Or.inl ⟨by rfl, ?_⟩) (by assumption) ?_
      rotate_left
      · intro w hSw; (try dsimp only at hSw); obtain ⟨x0, x1, x2, x3, x4, x5, x6, x7, x8, x9, x10, x11, x12, x13, x14⟩ := card14 hSw; first | (go_simp; done) | (go_simp; with_reducible rfl)
      try simp only [go_sem, Act.put, List.getElem_toArray, List.getElem_cons_succ, List.getElem_cons_zero, List.setIfInBounds_toArray, List.set_cons_succ, List.set_cons_zero]
      refine wpAnyH_take (i := 11) (oi := _) (v := ?_) rfl (by kernel_rfl) (by kernel_rfl) (by kernel_rfl) (fun _ _ _ h => h) (Or.inl ⟨by rfl, ?_⟩) (by assumption) ?_
      rotate_left
      · intro w hSw; (try dsimp only at hSw); obtain ⟨x0, x1, x2, x3, x4, x5, x6, x7, x8, x9, x10, x11, x12, x13, x14⟩ := card14 hSw; first | (go_simp; done) | (go_simp; with_reducible rfl)
      try simp only [go_sem, Act.put, List.getElem_toArray, List.getElem_cons_succ, List.getElem_cons_zero, List.setIfInBounds_toArray, List.set_cons_succ, List.set_cons_zero]
      refine wpAnyH_take (i := 12) (oi := _) (v := ?_) rfl (by kernel_rfl) (by kernel_rfl) (by kernel_rfl) (fun _ _ _ h => h) (Or.inl ⟨by rfl, ?_⟩) (by assumption) ?_
      rotate_left
      · intro w hSw; (try dsimp only at hSw); obtain ⟨x0, x1, x2, x3, x4, x5, x6, x7, x8, x9, x10, x11, x12, x13, x14⟩ := card14 hSw; first | (go_simp; done) | (go_simp; with_reducible rfl)
      try simp only [go_sem, Act.put, List.getElem_toArray, List.getElem_cons_succ, List.getElem_cons_zero, List.setIfInBounds_toArray, List.set_cons_succ, List.set_cons_zero]
      refine wpAnyH_done (by kernel_rfl) ?_ _
      go_wp2_with fail
      go_meet
      case rel => exact ⟨rfl, HMc, HBc⟩
  case rest =>
    obtain ⟨rfl, HM1, HB1⟩ := hcut
    obtain ⟨L1, hL1⟩ : ∃ L, Lb ++ co = L := ⟨_, rfl⟩
    have HL1' := HL1
    rw [hL1] at HL1' hl1 ⊢
    clear c1 c2 c3 c4 hL1 HTX HL1 ha hb
    obtain ⟨cx0, cx1, cx2, cx3, cx4, cx5, cx6, cx7, cx8, cx9, cx10, cx11, cx12, cx13, cx14⟩ := card14 HM1.out
    have HM2 := HM1
    have HB2 := HB1
    have HL2 := HL1'
    have hl2 : L1.length ≤ 140 := by omega
    go_wp2_with fail
    clear cx0 cx1 cx2 cx3 cx4 cx5 cx6 cx7 cx8 cx9 cx10 cx11 cx12 cx13 cx14
    go_loopw [3, 4] (fun v i wr => ∃ (q : Nat) (L : List UInt8), q ≤ 4 ∧ i = .int .i64 q ∧ v = .string (bs L) ∧ L.length ≤ 140 + 10 * q ∧ Hid (L = Lib.join ([nm, [115, 112, 101, 108, 108, 32] ++ co] ++ kwT kk q) [44, 32]) ∧ Hid (has wr w.heap.size 32 (cL (bs nm) 3 (ka : Nat) (kb : Nat) (kc : Nat) (kdd : Nat) (kx : Nat) m (kp : Nat) (kt : Nat) (kk : Nat) es en ec ts tn tc r)) ∧ Hid (Below w.heap.size w wr)) (fun _ i _ => 4 - (intOf i).toNat)
    case atStart => exact ⟨0, L1, Nat.zero_le _, rfl, rfl, by omega, Lib.hid (by rw [show kwT kk 0 = [] from rfl, List.append_nil]; exact HL2.out), HM2, HB2⟩
    case round =>
      clear HL2 HM2 HB2 hl2
      obtain ⟨q, L, hq, rfl, rfl, hLL, HL, HM, HB⟩ := hrel
      by_cases hlt : q < 4
      · have cy10 := HM.out.cell 10
        have hsh : (((kk : Int) / 2 ^ q).tmod 2 == 1) = kwHas kk q := kw_shift kk q
        have HKS : Hid (kwT kk (q + 1) = kwT kk q ++ if kwHas kk q then [kcL q] else []) := Lib.hid (kwT_succ kk q)
        have hkl := kcL_len q
        have HN := Lib.hid (show has (wr.alloc (.cells #[.string ⟨#[115, 119, 105, 102, 116]⟩, .string ⟨#[102, 108, 121, 105, 110, 103]⟩, .string ⟨#[119, 97, 116, 99, 104, 102, 117, 108]⟩, .string ⟨#[100, 101, 97, 100, 108, 121]⟩] 9)) wr.heap.size 9 [.string ⟨#[115, 119, 105, 102, 116]⟩, .string ⟨#[102, 108, 121, 105, 110, 103]⟩, .string ⟨#[119, 97, 116, 99, 104, 102, 117, 108]⟩, .string ⟨#[100, 101, 97, 100, 108, 121]⟩] from new0 wr _ _)
        have hcw : (wr.alloc (.cells #[.string ⟨#[115, 119, 105, 102, 116]⟩, .string ⟨#[102, 108, 121, 105, 110, 103]⟩, .string ⟨#[119, 97, 116, 99, 104, 102, 117, 108]⟩, .string ⟨#[100, 101, 97, 100, 108, 121]⟩] 9)).cell? ⟨wr.heap.size, q, none⟩ = some (.string (bs (kcL q))) := (HN.out.cell q).trans (kc_at q hlt)
        have c5 : ∀ w, (Op.stringOp .add (bs L) ⟨#[44, 32]⟩).run Tryz.prog w = .ok (.string (bs (L ++ [44, 32]))) w := cat_run L [44, 32] (by first | omega | (simp; omega))
        obtain ⟨Lm, hLm⟩ : ∃ ZZ, L ++ [44, 32] = ZZ := ⟨_, rfl⟩
        rw [hLm] at c5
        have nLm : Lm.length = L.length + 2 := by rw [← hLm, List.length_append]; rfl
        have c6 : ∀ w, (Op.stringOp .add (bs Lm) (bs (kcL q))).run Tryz.prog w = .ok (.string (bs (Lm ++ (kcL q)))) w := cat_run Lm (kcL q) (by first | omega | (simp; omega))
        obtain ⟨Ln, hLn⟩ : ∃ ZZ, Lm ++ (kcL q) = ZZ := ⟨_, rfl⟩
        rw [hLn] at c6
        have nLn : Ln.length = Lm.length + ((kcL q) : List UInt8).length := by rw [← hLn, List.length_append]
        have HMq := Lib.hid (HM.out.alloc (.cells #[.string ⟨#[115, 119, 105, 102, 116]⟩, .string ⟨#[102, 108, 121, 105, 110, 103]⟩, .string ⟨#[119, 97, 116, 99, 104, 102, 117, 108]⟩, .string ⟨#[100, 101, 97, 100, 108, 121]⟩] 9))
        have HBq := Lib.hid (HB.out.alloc HB.out.size (.cells #[.string ⟨#[115, 119, 105, 102, 116]⟩, .string ⟨#[102, 108, 121, 105, 110, 103]⟩, .string ⟨#[119, 97, 116, 99, 104, 102, 117, 108]⟩, .string ⟨#[100, 101, 97, 100, 108, 121]⟩] 9))
        cases hb : kwHas kk q
        all_goals rw [hb] at hsh
        · have HR : Hid (L = Lib.join ([nm, [115, 112, 101, 108, 108, 32] ++ co] ++ kwT kk (q + 1)) [44, 32]) := Lib.hid (by rw [HKS.out, hb]; simp only [Bool.false_eq_true, if_false, List.append_nil]; exact HL.out)
          go_wp2_with fail
          exact ⟨⟨q + 1, L, by omega, by go_num, rfl, by omega, HR, HM, HB⟩, by simp [intOf]; omega⟩
        · have HR : Hid (Ln = Lib.join ([nm, [115, 112, 101, 108, 108, 32] ++ co] ++ kwT kk (q + 1)) [44, 32]) := Lib.hid (by rw [← hLn, ← hLm, HKS.out, hb, HL.out]; simp only [if_true]; rw [← List.append_assoc, show [nm, [115, 112, 101, 108, 108, 32] ++ co] ++ kwT kk q = nm :: ([[115, 112, 101, 108, 108, 32] ++ co] ++ kwT kk q) from by simp, join_snoc])
          have hl3 : Ln.length ≤ 140 + 10 * (q + 1) := by omega
          clear hLn hLm nLn nLm
          go_wp2_with fail
          exact ⟨⟨q + 1, Ln, by omega, by go_num, rfl, hl3, HR, HMq, HBq⟩, by simp [intOf]; omega⟩
      · have hq4 : q = 4 := by omega
        have HLq : Hid (L = Lib.join ([nm, [115, 112, 101, 108, 108, 32] ++ co] ++ kwT kk 4) [44, 32]) := Lib.hid (by rw [← hq4]; exact HL.out)
        clear hq4
        have cy10 := HM.out.cell 10
        have cy11 := HM.out.cell 11
        go_wp2_with fail
        clear cy10 cy11
        obtain ⟨wo, hwo⟩ : ∃ wo : World, wo = wr := ⟨_, rfl⟩
        rw [← hwo] at HM HB ⊢
        clear hwo
        have hLn2 : L.length ≤ 180 := by omega
        have HL3 := HLq
        have HMo := HM
        have HBo := HB
        go_loopw [3, 5] (fun v i wr => ∃ (q : Nat) (L : List UInt8), q ≤ en ∧ i = .int .i64 q ∧ v = .string (bs L) ∧ L.length ≤ 180 + 40 * q ∧ Hid (L = Lib.join (([nm, [115, 112, 101, 108, 108, 32] ++ co] ++ kwT kk 4) ++ (e.take q).map textE) [44, 32]) ∧ Hid (has wr w.heap.size 32 (cL (bs nm) 3 (ka : Nat) (kb : Nat) (kc : Nat) (kdd : Nat) (kx : Nat) m (kp : Nat) (kt : Nat) (kk : Nat) es en ec ts tn tc r)) ∧ Hid (Below w.heap.size w wr)) (fun _ i _ => en - (intOf i).toNat)
        case atStart => exact ⟨0, L, Nat.zero_le _, rfl, rfl, by omega, Lib.hid (by rw [List.take_zero, List.map_nil, List.append_nil]; exact HL3.out), HMo, HBo⟩
        case round =>
          clear HL3 HMo HBo HL HM HB hLL hLn2
          obtain ⟨q, L, hq, rfl, rfl, hLL, HL, HM, HB⟩ := hrel
          by_cases hlt : q < en
          · obtain ⟨eb, eoff, hes, heb, hc⟩ := HGE.out (by omega)
            obtain ⟨c0, c1, c2, c3, c4⟩ := (hc q hlt).below HB.out heb
            have cy11 : wr.cell? ⟨w.heap.size, 11, none⟩ = some (.slice (some ⟨eb, eoff, none⟩) en ec) := by rw [← hes]; exact HM.out.cell 11
            have HTK : Hid ((e.take (q + 1)).map textE = (e.take q).map textE ++ [textE (e.getD q default)]) := Lib.hid (by
              have hq' : q < e.length := by rw [HLE.out]; exact hlt
              rw [List.take_succ_eq_append_getElem hq', List.map_append]
              simp [List.getD_eq_getElem?_getD, hq'])
            have hok : (e.getD q default).ok = true := HEA.out _ (by rw [List.getD_eq_getElem?_getD, List.getElem?_eq_getElem (by rw [HLE.out]; exact hlt)]; exact List.getElem_mem _)
            clear hc hes
            generalize e.getD q default = y at *
            have hte := textE_36 y
            have HTE : Hid (∀ W : World, Calls Tryz.prog 25 #[y.v] W fun r w' => r = .returned (.string (bs (textE y))) ∧ Below W.heap.size W w') := Lib.hid fun W => rText_yes y W hok
            generalize hty : textE y = ty at *
            have c5 : ∀ w, (Op.stringOp .add (bs L) ⟨#[44, 32]⟩).run Tryz.prog w = .ok (.string (bs (L ++ [44, 32]))) w := cat_run L [44, 32] (by first | omega | (simp; omega))
            obtain ⟨Lm, hLm⟩ : ∃ ZZ, L ++ [44, 32] = ZZ := ⟨_, rfl⟩
            rw [hLm] at c5
            have nLm : Lm.length = L.length + 2 := by rw [← hLm, List.length_append]; rfl
            have c6 : ∀ w, (Op.stringOp .add (bs Lm) (bs (ty))).run Tryz.prog w = .ok (.string (bs (Lm ++ (ty)))) w := cat_run Lm (ty) (by first | omega | (simp; omega))
            obtain ⟨Ln, hLn⟩ : ∃ ZZ, Lm ++ (ty) = ZZ := ⟨_, rfl⟩
            rw [hLn] at c6
            have nLn : Ln.length = Lm.length + ((ty) : List UInt8).length := by rw [← hLn, List.length_append]
            have HR : Hid (Ln = Lib.join (([nm, [115, 112, 101, 108, 108, 32] ++ co] ++ kwT kk 4) ++ (e.take (q + 1)).map textE) [44, 32]) := Lib.hid (by rw [← hLn, ← hLm, HTK.out, HL.out, ← List.append_assoc, show ([nm, [115, 112, 101, 108, 108, 32] ++ co] ++ kwT kk 4) ++ (e.take q).map textE = nm :: (([[115, 112, 101, 108, 108, 32] ++ co] ++ kwT kk 4) ++ (e.take q).map textE) from by simp, join_snoc])
            have hl3 : Ln.length ≤ 180 + 40 * (q + 1) := by omega
            clear hok HTK hLn hLm nLn nLm hty hte
            obtain ⟨xc, xt, xn, xm, xk⟩ := y
            dsimp only at c0 c1 c2 c3 c4
            go_wp2_with fail
            refine (HTE.out _).mono ?_; rintro ee wd ⟨rfl, hbd⟩
            have HMq := Lib.hid (HM.out.below hbd HM.out.lt)
            have HBq := Lib.hid (next HB.out hbd)
            clear hbd
            go_wp2_with fail
            exact ⟨⟨q + 1, Ln, by omega, by go_num, rfl, hl3, HR, HMq, HBq⟩, by simp [intOf]; omega⟩
          · obtain rfl : en = q := by omega
            have HTA2 : Hid (e.take en = e) := Lib.hid (List.take_of_length_le (by rw [HLE.out]; exact Nat.le_refl _))
            have HL4 : Hid (L = Lib.join (([nm, [115, 112, 101, 108, 108, 32] ++ co] ++ kwT kk 4) ++ e.map textE) [44, 32]) := Lib.hid (by have := HL.out; rw [HTA2.out] at this; exact this)
            have hLn2 : L.length ≤ 340 := by omega
            have cy11 := HM.out.cell 11
            have cy12 := HM.out.cell 12
            go_wp2_with fail
            clear cy11 cy12 HTA2
            obtain ⟨wo2, hwo⟩ : ∃ wo : World, wo = wr := ⟨_, rfl⟩
            rw [← hwo] at HM HB ⊢
            clear hwo
            have HMo := HM
            have HBo := HB
            go_loopw [3, 6] (fun v i wr => ∃ (q : Nat) (L : List UInt8), q ≤ tn ∧ i = .int .i64 q ∧ v = .string (bs L) ∧ L.length ≤ 340 + 110 * q ∧ Hid (L = Lib.join ((([nm, [115, 112, 101, 108, 108, 32] ++ co] ++ kwT kk 4) ++ e.map textE) ++ (l.take q).map trT) [44, 32]) ∧ Hid (has wr w.heap.size 32 (cL (bs nm) 3 (ka : Nat) (kb : Nat) (kc : Nat) (kdd : Nat) (kx : Nat) m (kp : Nat) (kt : Nat) (kk : Nat) es en ec ts tn tc r)) ∧ Hid (Below w.heap.size w wr)) (fun _ i _ => tn - (intOf i).toNat)
            case atStart => exact ⟨0, L, Nat.zero_le _, rfl, rfl, by omega, Lib.hid (by rw [List.take_zero, List.map_nil, List.append_nil]; exact HL4.out), HMo, HBo⟩
            case round =>
              clear HL4 HMo HBo HL HM HB hLL hLn2
              obtain ⟨q, L, hq, rfl, rfl, hLL, HL, HM, HB⟩ := hrel
              by_cases hlt : q < tn
              · obtain ⟨tb, toff, hts, htb, hc⟩ := HGT.out (by omega)
                obtain ⟨s', n', c', hat⟩ := hc q hlt
                obtain ⟨d0, d1, hye⟩ := hat.below HB.out htb (Nat.le_refl _)
                have cy12 : wr.cell? ⟨w.heap.size, 12, none⟩ = some (.slice (some ⟨tb, toff, none⟩) tn tc) := by rw [← hts]; exact HM.out.cell 12
                have HTK : Hid ((l.take (q + 1)).map trT = (l.take q).map trT ++ [trT (l.getD q default)]) := Lib.hid (by
                  have hq' : q < l.length := by rw [HLT.out]; exact hlt
                  rw [List.take_succ_eq_append_getElem hq', List.map_append]
                  simp [List.getD_eq_getElem?_getD, hq'])
                obtain ⟨⟨y1, y3⟩, ⟨e1, e2⟩, hyB⟩ := HTA.out (l.getD q default) (by rw [List.getD_eq_getElem?_getD, List.getElem?_eq_getElem (by rw [HLT.out]; exact hlt)]; exact List.getElem_mem _)
                clear hc hts hat
                generalize l.getD q default = y at *
                obtain ⟨yw, ye⟩ := y
                dsimp only at d0 d1 hye y1 y3 e1 e2 hyB
                have hn' := hye.n
                rw [hn'] at e1 e2
                obtain ⟨eb, eoff, hse, heb, hce⟩ := hye.c e1
                subst hse
                have g0 := hce 0 _ (get_some (by rw [hn']; exact e1))
                rw [Nat.zero_mul, Nat.add_zero] at g0
                have HG1 : Hid (1 < n' → EfAt wr eb (eoff + 5) (ye.getD 1 default)) := Lib.hid fun h1 => by
                  have := hce 1 _ (get_some (by rw [hn']; exact h1))
                  rw [Nat.one_mul] at this
                  exact this
                have HYE := Lib.hid hn'
                have HYB := Lib.hid hyB
                have HY0 : (ye.getD 0 default).ok = true := all_ok HYB.out _ (by rw [List.getD_eq_getElem?_getD, List.getElem?_eq_getElem (by rw [HYE.out]; exact e1)]; exact List.getElem_mem _)
                have HY1 : Hid (1 < n' → (ye.getD 1 default).ok = true) := Lib.hid fun h1 => all_ok HYB.out _ (by rw [List.getD_eq_getElem?_getD, List.getElem?_eq_getElem (by rw [HYE.out]; exact h1)]; exact List.getElem_mem _)
                have HTR : Hid (trT ⟨yw, ye⟩ = whL yw.toNat ++ [58, 32] ++ textE (ye.getD 0 default) ++ (if 1 < n' then [32, 97, 110, 100, 32] ++ textE (ye.getD 1 default) else [])) := Lib.hid (trT_form yw ye HYE.out e1 e2)
                have hte0 := textE_36 (ye.getD 0 default)
                have hte1 := textE_36 (ye.getD 1 default)
                have hwl := whL_len yw.toNat
                have HTE0 : Hid (∀ W : World, Calls Tryz.prog 25 #[(ye.getD 0 default).v] W fun r w' => r = .returned (.string (bs (textE (ye.getD 0 default)))) ∧ Below W.heap.size W w') := Lib.hid fun W => rText_yes _ W HY0
                have HTE1 : Hid (1 < n' → ∀ W : World, Calls Tryz.prog 25 #[(ye.getD 1 default).v] W fun r w' => r = .returned (.string (bs (textE (ye.getD 1 default)))) ∧ Below W.heap.size W w') := Lib.hid fun h1 W => rText_yes _ W (HY1.out h1)
                generalize ye.getD 1 default = z1 at *
                generalize ye.getD 0 default = z0 at *
                generalize htx0 : textE z0 = t0 at *
                generalize htx1 : textE z1 = t1 at *
                generalize hwh : whL yw.toNat = wh at *
                have HWH := Lib.hid hwh
                obtain ⟨xc, xt, xn, xm, xk⟩ := z0
                obtain ⟨f0, f1, f2, f3, f4⟩ := g0
                have HF : Hid (∀ W, Below wr.heap.size wr W → EfAt W eb eoff ⟨xc, xt, xn, xm, xk⟩) := Lib.hid fun W hW => (⟨f0, f1, f2, f3, f4⟩ : EfAt wr eb eoff ⟨xc, xt, xn, xm, xk⟩).below hW heb
                clear HY0 HY1 htx0 htx1 hwh
                have c5 : ∀ w, (Op.stringOp .add (bs L) ⟨#[44, 32]⟩).run Tryz.prog w = .ok (.string (bs (L ++ [44, 32]))) w := cat_run L [44, 32] (by first | omega | (simp; omega))
                obtain ⟨Lm, hLm⟩ : ∃ ZZ, L ++ [44, 32] = ZZ := ⟨_, rfl⟩
                rw [hLm] at c5
                have nLm : Lm.length = L.length + 2 := by rw [← hLm, List.length_append]; rfl
                have c6 : ∀ w, (Op.stringOp .add (bs Lm) (bs (wh))).run Tryz.prog w = .ok (.string (bs (Lm ++ (wh)))) w := cat_run Lm (wh) (by first | omega | (simp; omega))
                obtain ⟨Ln, hLn⟩ : ∃ ZZ, Lm ++ (wh) = ZZ := ⟨_, rfl⟩
                rw [hLn] at c6
                have nLn : Ln.length = Lm.length + ((wh) : List UInt8).length := by rw [← hLn, List.length_append]
                have c7 : ∀ w, (Op.stringOp .add (bs Ln) ⟨#[58, 32]⟩).run Tryz.prog w = .ok (.string (bs (Ln ++ [58, 32]))) w := cat_run Ln [58, 32] (by first | omega | (simp; omega))
                obtain ⟨Lo, hLo⟩ : ∃ ZZ, Ln ++ [58, 32] = ZZ := ⟨_, rfl⟩
                rw [hLo] at c7
                have nLo : Lo.length = Ln.length + 2 := by rw [← hLo, List.length_append]; rfl
                have c8 : ∀ w, (Op.stringOp .add (bs Lo) (bs (t0))).run Tryz.prog w = .ok (.string (bs (Lo ++ (t0)))) w := cat_run Lo (t0) (by first | omega | (simp; omega))
                obtain ⟨Lp, hLp⟩ : ∃ ZZ, Lo ++ (t0) = ZZ := ⟨_, rfl⟩
                rw [hLp] at c8
                have nLp : Lp.length = Lo.length + ((t0) : List UInt8).length := by rw [← hLp, List.length_append]
                have HLp : Hid (Lp = ((L ++ [44, 32]) ++ wh) ++ [58, 32] ++ t0) := Lib.hid (by rw [← hLp, ← hLo, ← hLn, ← hLm])
                have nLp2 : Lp.length ≤ 340 + 110 * q + 50 := by omega
                clear hLp hLo hLn hLm nLp nLo nLn nLm
                go_upto_region 20 with fail
                clear d0 d1 cy12 f0 f1 f2 f3 f4
                have HT0 := Lib.hid (new0 wr 47 [.int .i64 yw, .slice (some ⟨eb, eoff, none⟩) n' c'])
                have HMt := Lib.hid (HM.out.alloc (.cells #[.int .i64 yw, .slice (some ⟨eb, eoff, none⟩) n' c'] 47))
                have HBt := Lib.hid (HB.out.alloc HB.out.size (.cells #[.int .i64 yw, .slice (some ⟨eb, eoff, none⟩) n' c'] 47))
                have HBt2 := Lib.hid (show Below wr.heap.size wr (wr.alloc (.cells #[.int .i64 yw, .slice (some ⟨eb, eoff, none⟩) n' c'] 47)) from (Below.refl _ wr).alloc (Nat.le_refl _) _)
                go_cut [3] from 94 to 108 (fun s3 wx => s3 = .string (bs Lp) ∧ Hid (has wx wr.heap.size 47 [.int .i64 yw, .slice (some ⟨eb, eoff, none⟩) n' c']) ∧ Hid (has wx w.heap.size 32 (cL (bs nm) 3 (ka : Nat) (kb : Nat) (kc : Nat) (kdd : Nat) (kx : Nat) m (kp : Nat) (kt : Nat) (kk : Nat) es en ec ts tn tc r)) ∧ Hid (Below wr.heap.size wr wx))
                case first =>
                  have HTc := Lib.hid (show has (wr.alloc (.cells #[.int .i64 yw, .slice (some ⟨eb, eoff, none⟩) n' c'] 47)).drew wr.heap.size 47 [.int .i64 yw, .slice (some ⟨eb, eoff, none⟩) n' c'] from HT0.out)
                  have HMc := Lib.hid (show has (wr.alloc (.cells #[.int .i64 yw, .slice (some ⟨eb, eoff, none⟩) n' c'] 47)).drew w.heap.size 32 (cL (bs nm) 3 (ka : Nat) (kb : Nat) (kc : Nat) (kdd : Nat) (kx : Nat) m (kp : Nat) (kt : Nat) (kk : Nat) es en ec ts tn tc r) from HMt.out)
                  have HBc := Lib.hid (show Below wr.heap.size wr (wr.alloc (.cells #[.int .i64 yw, .slice (some ⟨eb, eoff, none⟩) n' c'] 47)).drew from HBt2.out.drew)
                  have hi2 : (0 : Int) < (n' : Int) := by omega
                  have hi3 : 0 < n' := by omega
                  refine wp_region_held_drew (S := (fun w' => has w' wr.heap.size 47 [.int .i64 yw, .slice (some ⟨eb, eoff, none⟩) n' c'] ∧ w'.cell? ⟨eb, eoff, none⟩ = some (.int .i64 xc) ∧ w'.cell? ⟨eb, eoff + 1, none⟩ = some (.int .i64 xt) ∧ w'.cell? ⟨eb, eoff + 2, none⟩ = some (.int .i64 xn) ∧ w'.cell? ⟨eb, eoff + 3, none⟩ = some (.int .i64 xm) ∧ w'.cell? ⟨eb, eoff + 4, none⟩ = some (.int .i64 xk))) (by kernel_rfl) ?_ (fun hH0 => ?_)
                  · exact ⟨HTc.out, (HF.out _ HBc.out).c0, (HF.out _ HBc.out).c1, (HF.out _ HBc.out).c2, (HF.out _ HBc.out).c3, (HF.out _ HBc.out).c4⟩
                  refine wpAnyH_take (i := 0) (oi := _) (v := ?_) rfl (by kernel_rfl) (by kernel_rfl) (by kernel_rfl) (fun _ _ _ h => h) (Or.inl ⟨by rfl, ?_⟩) (by assumption) ?_
                  rotate_left
                  · intro w hSw; (try dsimp only at hSw); obtain ⟨hS1, x5, x6, x7, x8, x9⟩ := hSw; obtain ⟨x0, x1, x2⟩ := two hS1; first | (go_simp; done) | (go_simp; with_reducible rfl)
                  try simp only [go_sem, Act.put, List.getElem_toArray, List.getElem_cons_zero, List.setIfInBounds_toArray, List.set_cons_succ, List.set_cons_zero]
                  refine wpAnyH_take (i := 1) (oi := _) (v := ?_) rfl (by kernel_rfl) (by kernel_rfl) (by kernel_rfl) (fun _ _ _ h => h) (Or.inl ⟨by rfl, ?_⟩) (by assumption) ?_
                  rotate_left
                  · intro w hSw; (try dsimp only at hSw); obtain ⟨hS1, x5, x6, x7, x8, x9⟩ := hSw; obtain ⟨x0, x1, x2⟩ := two hS1; first | (go_simp; done) | (go_simp; with_reducible rfl)
                  try simp only [go_sem, Act.put, List.getElem_toArray, List.getElem_cons_succ, List.getElem_cons_zero, List.setIfInBounds_toArray, List.set_cons_succ, List.set_cons_zero]
                  refine wpAnyH_take (i := 3) (oi := _) (v := ?_) rfl (by kernel_rfl) (by kernel_rfl) (by kernel_rfl) (fun _ _ _ h => h) (Or.inl ⟨by rfl, ?_⟩) (by assumption) ?_
                  rotate_left
                  · intro w hSw; (try dsimp only at hSw); obtain ⟨hS1, x5, x6, x7, x8, x9⟩ := hSw; obtain ⟨x0, x1, x2⟩ := two hS1; first | (go_simp; done) | (go_simp; with_reducible rfl)
                  try simp only [go_sem, Act.put, List.getElem_toArray, List.getElem_cons_succ, List.getElem_cons_zero, List.setIfInBounds_toArray, List.set_cons_succ, List.set_cons_zero]
                  refine wpAnyH_take (i := 4) (oi := _) (v := ?_) rfl (by kernel_rfl) (by kernel_rfl) (by kernel_rfl) (fun _ _ _ h => h) (Or.inl ⟨by rfl, ?_⟩) (by assumption) ?_
                  rotate_left
                  · intro w hSw; (try dsimp only at hSw); obtain ⟨hS1, x5, x6, x7, x8, x9⟩ := hSw; obtain ⟨x0, x1, x2⟩ := two hS1; first | (go_simp; done) | (go_simp; with_reducible rfl)
                  try simp only [go_sem, Act.put, List.getElem_toArray, List.getElem_cons_succ, List.getElem_cons_zero, List.setIfInBounds_toArray, List.set_cons_succ, List.set_cons_zero]
                  refine wpAnyH_take (i := 9) (oi := _) (v := ?_) rfl (by kernel_rfl) (by kernel_rfl) (by kernel_rfl) (fun _ _ _ h => h) (Or.inl ⟨by rfl, ?_⟩) (by assumption) ?_
                  rotate_left
                  · intro w hSw; (try dsimp only at hSw); obtain ⟨hS1, x5, x6, x7, x8, x9⟩ := hSw; obtain ⟨x0, x1, x2⟩ := two hS1; first | (go_simp; done) | (go_simp; with_reducible rfl)
                  try simp only [go_sem, Act.put, List.getElem_toArray, List.getElem_cons_succ, List.getElem_cons_zero, List.setIfInBounds_toArray, List.set_cons_succ, List.set_cons_zero]
                  refine wpAnyH_take (i := 10) (oi := _) (v := ?_) rfl (by kernel_rfl) (by kernel_rfl) (by kernel_rfl) (fun _ _ _ h => h) (Or.inl ⟨by rfl, ?_⟩) (by assumption) ?_
                  rotate_left
                  · intro w hSw; (try dsimp only at hSw); obtain ⟨hS1, x5, x6, x7, x8, x9⟩ := hSw; obtain ⟨x0, x1, x2⟩ := two hS1; first | (go_simp; done) | (go_simp; with_reducible rfl)
                  try simp only [go_sem, Act.put, List.getElem_toArray, List.getElem_cons_succ, List.getElem_cons_zero, List.setIfInBounds_toArray, List.set_cons_succ, List.set_cons_zero]
                  refine wpAnyH_take (i := 11) (oi := _) (v := ?_) rfl (by kernel_rfl) (by kernel_rfl) (by kernel_rfl) (fun _ _ _ h => h) (Or.inl ⟨by rfl, ?_⟩) (by assumption) ?_
                  rotate_left
                  · intro w hSw; (try dsimp only at hSw); obtain ⟨hS1, x5, x6, x7, x8, x9⟩ := hSw; obtain ⟨x0, x1, x2⟩ := two hS1; first | (go_simp; done) | (go_simp; with_reducible rfl)
                  try simp only [go_sem, Act.put, List.getElem_toArray, List.getElem_cons_succ, List.getElem_cons_zero, List.setIfInBounds_toArray, List.set_cons_succ, List.set_cons_zero]
                  refine wpAnyH_take (i := 12) (oi := _) (v := ?_) rfl (by kernel_rfl) (by kernel_rfl) (by kernel_rfl) (fun _ _ _ h => h) (Or.inl ⟨by rfl, ?_⟩) (by assumption) ?_
                  rotate_left
                  · intro w hSw; (try dsimp only at hSw); obtain ⟨hS1, x5, x6, x7, x8, x9⟩ := hSw; obtain ⟨x0, x1, x2⟩ := two hS1; first | (go_simp; done) | (go_simp; with_reducible rfl)
                  try simp only [go_sem, Act.put, List.getElem_toArray, List.getElem_cons_succ, List.getElem_cons_zero, List.setIfInBounds_toArray, List.set_cons_succ, List.set_cons_zero]
                  refine wpAnyH_ready (rs := [2, 13]) (by kernel_rfl) (by simp) ?_
                  refine AllReadyH.cons (o := _) rfl (fun K hK => ?_) (AllReadyH.cons (o := _) rfl (fun K hK => ?_) AllReadyH.nil)
                  · go_simp; have HN := Lib.hid (show has ((wr.alloc (.cells #[.int .i64 yw, .slice (some ⟨eb, eoff, none⟩) n' c'] 47)).drew.alloc (.cells #[.string ⟨#[]⟩, .string ⟨#[100, 105, 101, 115]⟩, .string ⟨#[97, 116, 116, 97, 99, 107, 115]⟩, .string ⟨#[117, 112, 107, 101, 101, 112]⟩] 9)) (wr.heap.size + 1) 9 [.string ⟨#[]⟩, .string ⟨#[100, 105, 101, 115]⟩, .string ⟨#[97, 116, 116, 97, 99, 107, 115]⟩, .string ⟨#[117, 112, 107, 101, 101, 112]⟩] from new1 (by simp) _ _); have HTc := Lib.hid (HTc.out.alloc (.cells #[.string ⟨#[]⟩, .string ⟨#[100, 105, 101, 115]⟩, .string ⟨#[97, 116, 116, 97, 99, 107, 115]⟩, .string ⟨#[117, 112, 107, 101, 101, 112]⟩] 9)); have HMc := Lib.hid (HMc.out.alloc (.cells #[.string ⟨#[]⟩, .string ⟨#[100, 105, 101, 115]⟩, .string ⟨#[97, 116, 116, 97, 99, 107, 115]⟩, .string ⟨#[117, 112, 107, 101, 101, 112]⟩] 9)); have HBc := Lib.hid (HBc.out.alloc HBc.out.size (.cells #[.string ⟨#[]⟩, .string ⟨#[100, 105, 101, 115]⟩, .string ⟨#[97, 116, 116, 97, 99, 107, 115]⟩, .string ⟨#[117, 112, 107, 101, 101, 112]⟩] 9))
                    refine hK.out _ _ ?_ (fun hH1 => ?_)
                    · exact ⟨HTc.out, (HF.out _ HBc.out).c0, (HF.out _ HBc.out).c1, (HF.out _ HBc.out).c2, (HF.out _ HBc.out).c3, (HF.out _ HBc.out).c4⟩
                    clear hK K hH0
                    try simp only [go_sem, Act.put, List.getElem_toArray, List.getElem_cons_succ, List.getElem_cons_zero, List.setIfInBounds_toArray, List.set_cons_succ, List.set_cons_zero]
                    have y4 : yw < 4 := by omega
                    have y0 : 0 ≤ yw := by omega
                    refine wpAnyH_take (i := 5) (oi := _) (v := ?_) rfl (by kernel_rfl) (by kernel_rfl) (by kernel_rfl) (fun _ _ _ h => h) (Or.inl ⟨by rfl, ?_⟩) (by assumption) ?_
                    rotate_left
                    · intro w hSw; (try dsimp only at hSw); obtain ⟨hS1, x5, x6, x7, x8, x9⟩ := hSw; obtain ⟨x0, x1, x2⟩ := two hS1; first | (go_simp; done) | (go_simp; with_reducible rfl)
                    try simp only [go_sem, Act.put, List.getElem_toArray, List.getElem_cons_succ, List.getElem_cons_zero, List.setIfInBounds_toArray, List.set_cons_succ, List.set_cons_zero]
                    refine wpAnyH_ready (rs := [6, 13]) (by kernel_rfl) (by simp) ?_
                    refine AllReadyH.cons (o := _) rfl (fun K hK => ?_) (AllReadyH.cons (o := _) rfl (fun K hK => ?_) AllReadyH.nil)
                    · have hcw := (HN.out.cell yw.toNat).trans (wh_at' yw y1 y3); rw [HWH.out] at hcw; have hge : ∀ h, ([.string ⟨#[]⟩, .string ⟨#[100, 105, 101, 115]⟩, .string ⟨#[97, 116, 116, 97, 99, 107, 115]⟩, .string ⟨#[117, 112, 107, 101, 101, 112]⟩] : List Value)[yw.toNat]'h = .string (bs wh) := (fun h => by have h9 := List.getElem?_eq_some_iff.1 (wh_at' yw y1 y3); rw [HWH.out] at h9; exact h9.2); go_simp; try simp only [hge]
                      refine hK.out _ _ ?_ (fun hH2 => ?_)
                      · exact ⟨HTc.out, (HF.out _ HBc.out).c0, (HF.out _ HBc.out).c1, (HF.out _ HBc.out).c2, (HF.out _ HBc.out).c3, (HF.out _ HBc.out).c4⟩
                      clear hK K hH1
                      try simp only [go_sem, Act.put, List.getElem_toArray, List.getElem_cons_succ, List.getElem_cons_zero, List.setIfInBounds_toArray, List.set_cons_succ, List.set_cons_zero]
                      refine wpAnyH_take (i := 7) (oi := _) (v := ?_) rfl (by kernel_rfl) (by kernel_rfl) (by kernel_rfl) (fun _ _ _ h => h) (Or.inl ⟨by rfl, ?_⟩) (by assumption) ?_
                      rotate_left
                      · intro w hSw; (try dsimp only at hSw); obtain ⟨hS1, x5, x6, x7, x8, x9⟩ := hSw; obtain ⟨x0, x1, x2⟩ := two hS1; first | (go_simp; done) | (go_simp; with_reducible rfl)
                      try simp only [go_sem, Act.put, List.getElem_toArray, List.getElem_cons_succ, List.getElem_cons_zero, List.setIfInBounds_toArray, List.set_cons_succ, List.set_cons_zero]
                      refine wpAnyH_take (i := 8) (oi := _) (v := ?_) rfl (by kernel_rfl) (by kernel_rfl) (by kernel_rfl) (fun _ _ _ h => h) (Or.inl ⟨by rfl, ?_⟩) (by assumption) ?_
                      rotate_left
                      · intro w hSw; (try dsimp only at hSw); obtain ⟨hS1, x5, x6, x7, x8, x9⟩ := hSw; obtain ⟨x0, x1, x2⟩ := two hS1; first | (go_simp; done) | (go_simp; with_reducible rfl)
                      try simp only [go_sem, Act.put, List.getElem_toArray, List.getElem_cons_succ, List.getElem_cons_zero, List.setIfInBounds_toArray, List.set_cons_succ, List.set_cons_zero]
                      refine wpAnyH_ready (rs := [13]) (by kernel_rfl) (by simp) ?_
                      refine AllReadyH.cons (o := _) rfl (fun K hK => ?_) AllReadyH.nil
                      go_simp; refine (HTE0.out _).mono ?_; rintro ee wc ⟨rfl, hbc⟩; have HTc := Lib.hid (HTc.out.below hbc HTc.out.lt); have HMc := Lib.hid (HMc.out.below hbc HMc.out.lt); have HBc := Lib.hid (HBc.out.trans (hbc.mono HBc.out.size))
                      refine hK.out _ _ ?_ (fun hH3 => ?_)
                      · exact ⟨HTc.out, (HF.out _ HBc.out).c0, (HF.out _ HBc.out).c1, (HF.out _ HBc.out).c2, (HF.out _ HBc.out).c3, (HF.out _ HBc.out).c4⟩
                      clear hK K hH2
                      try simp only [go_sem, Act.put, List.getElem_toArray, List.getElem_cons_succ, List.getElem_cons_zero, List.setIfInBounds_toArray, List.set_cons_succ, List.set_cons_zero]
                      refine wpAnyH_take (i := 14) (oi := _) (v := ?_) rfl (by kernel_rfl) (by kernel_rfl) (by kernel_rfl) (fun _ _ _ h => h) (Or.inl ⟨by rfl, ?_⟩) (by assumption) ?_
                      rotate_left
                      · intro w hSw; (try dsimp only at hSw); obtain ⟨hS1, x5, x6, x7, x8, x9⟩ := hSw; obtain ⟨x0, x1, x2⟩ := two hS1; first | (go_simp; done) | (go_simp; with_reducible rfl)
                      try simp only [go_sem, Act.put, List.getElem_toArray, List.getElem_cons_succ, List.getElem_cons_zero, List.setIfInBounds_toArray, List.set_cons_succ, List.set_cons_zero]
                      refine wpAnyH_take (i := 15) (oi := _) (v := ?_) rfl (by kernel_rfl) (by kernel_rfl) (by kernel_rfl) (fun _ _ _ h => h) (Or.inl ⟨by rfl, ?_⟩) (by assumption) ?_
                      rotate_left
                      · intro w hSw; (try dsimp only at hSw); obtain ⟨hS1, x5, x6, x7, x8, x9⟩ := hSw; obtain ⟨x0, x1, x2⟩ := two hS1; first | (go_simp; done) | (go_simp; with_reducible rfl)
                      try simp only [go_sem, Act.put, List.getElem_toArray, List.getElem_cons_succ, List.getElem_cons_zero, List.setIfInBounds_toArray, List.set_cons_succ, List.set_cons_zero]
                      refine wpAnyH_done (by kernel_rfl) ?_ _
                      go_wp2_with fail
                      go_meet
                      case rel => exact ⟨rfl, HTc, HMc, HBc⟩
                    · go_simp; refine (HTE0.out _).mono ?_; rintro ee wc ⟨rfl, hbc⟩; have HTc := Lib.hid (HTc.out.below hbc HTc.out.lt); have HMc := Lib.hid (HMc.out.below hbc HMc.out.lt); have HBc := Lib.hid (HBc.out.trans (hbc.mono HBc.out.size))
                      refine hK.out _ _ ?_ (fun hH2 => ?_)
                      · exact ⟨HTc.out, (HF.out _ HBc.out).c0, (HF.out _ HBc.out).c1, (HF.out _ HBc.out).c2, (HF.out _ HBc.out).c3, (HF.out _ HBc.out).c4⟩
                      clear hK K hH1
                      try simp only [go_sem, Act.put, List.getElem_toArray, List.getElem_cons_succ, List.getElem_cons_zero, List.setIfInBounds_toArray, List.set_cons_succ, List.set_cons_zero]
                      refine wpAnyH_ready (rs := [6]) (by kernel_rfl) (by simp) ?_
                      refine AllReadyH.cons (o := _) rfl (fun K hK => ?_) AllReadyH.nil
                      have HN := Lib.hid (HN.out.below hbc HN.out.lt); have hcw := (HN.out.cell yw.toNat).trans (wh_at' yw y1 y3); rw [HWH.out] at hcw; have hge : ∀ h, ([.string ⟨#[]⟩, .string ⟨#[100, 105, 101, 115]⟩, .string ⟨#[97, 116, 116, 97, 99, 107, 115]⟩, .string ⟨#[117, 112, 107, 101, 101, 112]⟩] : List Value)[yw.toNat]'h = .string (bs wh) := (fun h => by have h9 := List.getElem?_eq_some_iff.1 (wh_at' yw y1 y3); rw [HWH.out] at h9; exact h9.2); go_simp; try simp only [hge]
                      refine hK.out _ _ ?_ (fun hH3 => ?_)
                      · exact ⟨HTc.out, (HF.out _ HBc.out).c0, (HF.out _ HBc.out).c1, (HF.out _ HBc.out).c2, (HF.out _ HBc.out).c3, (HF.out _ HBc.out).c4⟩
                      clear hK K hH2
                      try simp only [go_sem, Act.put, List.getElem_toArray, List.getElem_cons_succ, List.getElem_cons_zero, List.setIfInBounds_toArray, List.set_cons_succ, List.set_cons_zero]
                      refine wpAnyH_take (i := 7) (oi := _) (v := ?_) rfl (by kernel_rfl) (by kernel_rfl) (by kernel_rfl) (fun _ _ _ h => h) (Or.inl ⟨by rfl, ?_⟩) (by assumption) ?_
                      rotate_left
                      · intro w hSw; (try dsimp only at hSw); obtain ⟨hS1, x5, x6, x7, x8, x9⟩ := hSw; obtain ⟨x0, x1, x2⟩ := two hS1; first | (go_simp; done) | (go_simp; with_reducible rfl)
                      try simp only [go_sem, Act.put, List.getElem_toArray, List.getElem_cons_succ, List.getElem_cons_zero, List.setIfInBounds_toArray, List.set_cons_succ, List.set_cons_zero]
                      refine wpAnyH_take (i := 8) (oi := _) (v := ?_) rfl (by kernel_rfl) (by kernel_rfl) (by kernel_rfl) (fun _ _ _ h => h) (Or.inl ⟨by rfl, ?_⟩) (by assumption) ?_
                      rotate_left
                      · intro w hSw; (try dsimp only at hSw); obtain ⟨hS1, x5, x6, x7, x8, x9⟩ := hSw; obtain ⟨x0, x1, x2⟩ := two hS1; first | (go_simp; done) | (go_simp; with_reducible rfl)
                      try simp only [go_sem, Act.put, List.getElem_toArray, List.getElem_cons_succ, List.getElem_cons_zero, List.setIfInBounds_toArray, List.set_cons_succ, List.set_cons_zero]
                      refine wpAnyH_take (i := 14) (oi := _) (v := ?_) rfl (by kernel_rfl) (by kernel_rfl) (by kernel_rfl) (fun _ _ _ h => h) (Or.inl ⟨by rfl, ?_⟩) (by assumption) ?_
                      rotate_left
                      · intro w hSw; (try dsimp only at hSw); obtain ⟨hS1, x5, x6, x7, x8, x9⟩ := hSw; obtain ⟨x0, x1, x2⟩ := two hS1; first | (go_simp; done) | (go_simp; with_reducible rfl)
                      try simp only [go_sem, Act.put, List.getElem_toArray, List.getElem_cons_succ, List.getElem_cons_zero, List.setIfInBounds_toArray, List.set_cons_succ, List.set_cons_zero]
                      refine wpAnyH_take (i := 15) (oi := _) (v := ?_) rfl (by kernel_rfl) (by kernel_rfl) (by kernel_rfl) (fun _ _ _ h => h) (Or.inl ⟨by rfl, ?_⟩) (by assumption) ?_
                      rotate_left
                      · intro w hSw; (try dsimp only at hSw); obtain ⟨hS1, x5, x6, x7, x8, x9⟩ := hSw; obtain ⟨x0, x1, x2⟩ := two hS1; first | (go_simp; done) | (go_simp; with_reducible rfl)
                      try simp only [go_sem, Act.put, List.getElem_toArray, List.getElem_cons_succ, List.getElem_cons_zero, List.setIfInBounds_toArray, List.set_cons_succ, List.set_cons_zero]
                      refine wpAnyH_done (by kernel_rfl) ?_ _
                      go_wp2_with fail
                      go_meet
                      case rel => exact ⟨rfl, HTc, HMc, HBc⟩
                  · go_simp; refine (HTE0.out _).mono ?_; rintro ee wc ⟨rfl, hbc⟩; have HTc := Lib.hid (HTc.out.below hbc HTc.out.lt); have HMc := Lib.hid (HMc.out.below hbc HMc.out.lt); have HBc := Lib.hid (HBc.out.trans (hbc.mono HBc.out.size))
                    refine hK.out _ _ ?_ (fun hH1 => ?_)
                    · exact ⟨HTc.out, (HF.out _ HBc.out).c0, (HF.out _ HBc.out).c1, (HF.out _ HBc.out).c2, (HF.out _ HBc.out).c3, (HF.out _ HBc.out).c4⟩
                    clear hK K hH0
                    try simp only [go_sem, Act.put, List.getElem_toArray, List.getElem_cons_succ, List.getElem_cons_zero, List.setIfInBounds_toArray, List.set_cons_succ, List.set_cons_zero]
                    refine wpAnyH_ready (rs := [2]) (by kernel_rfl) (by simp) ?_
                    refine AllReadyH.cons (o := _) rfl (fun K hK => ?_) AllReadyH.nil
                    go_simp; have HN := Lib.hid (show has (wc.alloc (.cells #[.string ⟨#[]⟩, .string ⟨#[100, 105, 101, 115]⟩, .string ⟨#[97, 116, 116, 97, 99, 107, 115]⟩, .string ⟨#[117, 112, 107, 101, 101, 112]⟩] 9)) (wc.heap.size) 9 [.string ⟨#[]⟩, .string ⟨#[100, 105, 101, 115]⟩, .string ⟨#[97, 116, 116, 97, 99, 107, 115]⟩, .string ⟨#[117, 112, 107, 101, 101, 112]⟩] from new1 (by simp) _ _); have HTc := Lib.hid (HTc.out.alloc (.cells #[.string ⟨#[]⟩, .string ⟨#[100, 105, 101, 115]⟩, .string ⟨#[97, 116, 116, 97, 99, 107, 115]⟩, .string ⟨#[117, 112, 107, 101, 101, 112]⟩] 9)); have HMc := Lib.hid (HMc.out.alloc (.cells #[.string ⟨#[]⟩, .string ⟨#[100, 105, 101, 115]⟩, .string ⟨#[97, 116, 116, 97, 99, 107, 115]⟩, .string ⟨#[117, 112, 107, 101, 101, 112]⟩] 9)); have HBc := Lib.hid (HBc.out.alloc HBc.out.size (.cells #[.string ⟨#[]⟩, .string ⟨#[100, 105, 101, 115]⟩, .string ⟨#[97, 116, 116, 97, 99, 107, 115]⟩, .string ⟨#[117, 112, 107, 101, 101, 112]⟩] 9))
                    refine hK.out _ _ ?_ (fun hH2 => ?_)
                    · exact ⟨HTc.out, (HF.out _ HBc.out).c0, (HF.out _ HBc.out).c1, (HF.out _ HBc.out).c2, (HF.out _ HBc.out).c3, (HF.out _ HBc.out).c4⟩
                    clear hK K hH1
                    try simp only [go_sem, Act.put, List.getElem_toArray, List.getElem_cons_succ, List.getElem_cons_zero, List.setIfInBounds_toArray, List.set_cons_succ, List.set_cons_zero]
                    have y4 : yw < 4 := by omega
                    have y0 : 0 ≤ yw := by omega
                    refine wpAnyH_take (i := 5) (oi := _) (v := ?_) rfl (by kernel_rfl) (by kernel_rfl) (by kernel_rfl) (fun _ _ _ h => h) (Or.inl ⟨by rfl, ?_⟩) (by assumption) ?_
                    rotate_left
                    · intro w hSw; (try dsimp only at hSw); obtain ⟨hS1, x5, x6, x7, x8, x9⟩ := hSw; obtain ⟨x0, x1, x2⟩ := two hS1; first | (go_simp; done) | (go_simp; with_reducible rfl)
                    try simp only [go_sem, Act.put, List.getElem_toArray, List.getElem_cons_succ, List.getElem_cons_zero, List.setIfInBounds_toArray, List.set_cons_succ, List.set_cons_zero]
                    refine wpAnyH_ready (rs := [6]) (by kernel_rfl) (by simp) ?_
                    refine AllReadyH.cons (o := _) rfl (fun K hK => ?_) AllReadyH.nil
                    have hcw := (HN.out.cell yw.toNat).trans (wh_at' yw y1 y3); rw [HWH.out] at hcw; have hge : ∀ h, ([.string ⟨#[]⟩, .string ⟨#[100, 105, 101, 115]⟩, .string ⟨#[97, 116, 116, 97, 99, 107, 115]⟩, .string ⟨#[117, 112, 107, 101, 101, 112]⟩] : List Value)[yw.toNat]'h = .string (bs wh) := (fun h => by have h9 := List.getElem?_eq_some_iff.1 (wh_at' yw y1 y3); rw [HWH.out] at h9; exact h9.2); go_simp; try simp only [hge]
                    refine hK.out _ _ ?_ (fun hH3 => ?_)
                    · exact ⟨HTc.out, (HF.out _ HBc.out).c0, (HF.out _ HBc.out).c1, (HF.out _ HBc.out).c2, (HF.out _ HBc.out).c3, (HF.out _ HBc.out).c4⟩
                    clear hK K hH2
                    try simp only [go_sem, Act.put, List.getElem_toArray, List.getElem_cons_succ, List.getElem_cons_zero, List.setIfInBounds_toArray, List.set_cons_succ, List.set_cons_zero]
                    refine wpAnyH_take (i := 7) (oi := _) (v := ?_) rfl (by kernel_rfl) (by kernel_rfl) (by kernel_rfl) (fun _ _ _ h => h) (Or.inl ⟨by rfl, ?_⟩) (by assumption) ?_
                    rotate_left
                    · intro w hSw; (try dsimp only at hSw); obtain ⟨hS1, x5, x6, x7, x8, x9⟩ := hSw; obtain ⟨x0, x1, x2⟩ := two hS1; first | (go_simp; done) | (go_simp; with_reducible rfl)
                    try simp only [go_sem, Act.put, List.getElem_toArray, List.getElem_cons_succ, List.getElem_cons_zero, List.setIfInBounds_toArray, List.set_cons_succ, List.set_cons_zero]
                    refine wpAnyH_take (i := 8) (oi := _) (v := ?_) rfl (by kernel_rfl) (by kernel_rfl) (by kernel_rfl) (fun _ _ _ h => h) (Or.inl ⟨by rfl, ?_⟩) (by assumption) ?_
                    rotate_left
                    · intro w hSw; (try dsimp only at hSw); obtain ⟨hS1, x5, x6, x7, x8, x9⟩ := hSw; obtain ⟨x0, x1, x2⟩ := two hS1; first | (go_simp; done) | (go_simp; with_reducible rfl)
                    try simp only [go_sem, Act.put, List.getElem_toArray, List.getElem_cons_succ, List.getElem_cons_zero, List.setIfInBounds_toArray, List.set_cons_succ, List.set_cons_zero]
                    refine wpAnyH_take (i := 14) (oi := _) (v := ?_) rfl (by kernel_rfl) (by kernel_rfl) (by kernel_rfl) (fun _ _ _ h => h) (Or.inl ⟨by rfl, ?_⟩) (by assumption) ?_
                    rotate_left
                    · intro w hSw; (try dsimp only at hSw); obtain ⟨hS1, x5, x6, x7, x8, x9⟩ := hSw; obtain ⟨x0, x1, x2⟩ := two hS1; first | (go_simp; done) | (go_simp; with_reducible rfl)
                    try simp only [go_sem, Act.put, List.getElem_toArray, List.getElem_cons_succ, List.getElem_cons_zero, List.setIfInBounds_toArray, List.set_cons_succ, List.set_cons_zero]
                    refine wpAnyH_take (i := 15) (oi := _) (v := ?_) rfl (by kernel_rfl) (by kernel_rfl) (by kernel_rfl) (fun _ _ _ h => h) (Or.inl ⟨by rfl, ?_⟩) (by assumption) ?_
                    rotate_left
                    · intro w hSw; (try dsimp only at hSw); obtain ⟨hS1, x5, x6, x7, x8, x9⟩ := hSw; obtain ⟨x0, x1, x2⟩ := two hS1; first | (go_simp; done) | (go_simp; with_reducible rfl)
                    try simp only [go_sem, Act.put, List.getElem_toArray, List.getElem_cons_succ, List.getElem_cons_zero, List.setIfInBounds_toArray, List.set_cons_succ, List.set_cons_zero]
                    refine wpAnyH_done (by kernel_rfl) ?_ _
                    go_wp2_with fail
                    go_meet
                    case rel => exact ⟨rfl, HTc, HMc, HBc⟩
                case rest =>
                  obtain ⟨rfl, HTx, HMx, HBx⟩ := hcut
                  clear HT0 HMt HBt HBt2 c5 c6 c7 c8
                  obtain ⟨v0, v1, v2⟩ := two HTx.out
                  have HBw := Lib.hid (HB.out.trans (HBx.out.mono HB.out.size))
                  by_cases h2 : 1 < n'
                  · have h2i : (1 : Int) < (n' : Int) := by omega
                    have g1 := (HG1.out h2).below HBx.out heb
                    have HT1 := Lib.hid (HTE1.out h2)
                    have HTQ : Hid (trT ⟨yw, ye⟩ = wh ++ [58, 32] ++ t0 ++ ([32, 97, 110, 100, 32] ++ t1)) := Lib.hid (by rw [HTR.out, if_pos h2])
                    clear h2 HTE1 HG1
                    obtain ⟨zc, zt, zn, zm, zk⟩ := z1
                    obtain ⟨f0, f1, f2, f3, f4⟩ := g1
                    dsimp only at f0 f1 f2 f3 f4
                    have c5 : ∀ w, (Op.stringOp .add (bs Lp) ⟨#[32, 97, 110, 100, 32]⟩).run Tryz.prog w = .ok (.string (bs (Lp ++ [32, 97, 110, 100, 32]))) w := cat_run Lp [32, 97, 110, 100, 32] (by first | omega | (simp; omega))
                    obtain ⟨Lq, hLq⟩ : ∃ ZZ, Lp ++ [32, 97, 110, 100, 32] = ZZ := ⟨_, rfl⟩
                    rw [hLq] at c5
                    have nLq : Lq.length = Lp.length + 5 := by rw [← hLq, List.length_append]; rfl
                    have c6 : ∀ w, (Op.stringOp .add (bs Lq) (bs (t1))).run Tryz.prog w = .ok (.string (bs (Lq ++ (t1)))) w := cat_run Lq (t1) (by first | omega | (simp; omega))
                    obtain ⟨Lr, hLr⟩ : ∃ ZZ, Lq ++ (t1) = ZZ := ⟨_, rfl⟩
                    rw [hLr] at c6
                    have nLr : Lr.length = Lq.length + ((t1) : List UInt8).length := by rw [← hLr, List.length_append]
                    have HR : Hid (Lr = Lib.join ((([nm, [115, 112, 101, 108, 108, 32] ++ co] ++ kwT kk 4) ++ e.map textE) ++ (l.take (q + 1)).map trT) [44, 32]) := Lib.hid (by rw [← hLr, ← hLq, HLp.out, HTK.out, HTQ.out, HL.out, ← List.append_assoc, show (([nm, [115, 112, 101, 108, 108, 32] ++ co] ++ kwT kk 4) ++ e.map textE) ++ (l.take q).map trT = nm :: ((([[115, 112, 101, 108, 108, 32] ++ co] ++ kwT kk 4) ++ e.map textE) ++ (l.take q).map trT) from by simp, join_snoc]; simp only [List.append_assoc])
                    have hl3 : Lr.length ≤ 340 + 110 * (q + 1) := by omega
                    clear hLr hLq nLr nLq HTQ HTK
                    go_wp2_with fail
                    refine (HT1.out _).mono ?_; rintro ee wd ⟨rfl, hbd⟩
                    have HMq := Lib.hid (HMx.out.below hbd HMx.out.lt)
                    have HBq := Lib.hid (next HBw.out hbd)
                    clear hbd
                    go_wp2_with fail
                    exact ⟨⟨q + 1, Lr, by omega, by go_num, rfl, hl3, HR, HMq, HBq⟩, by simp [intOf]; omega⟩
                  · have h2i : ¬ (1 : Int) < (n' : Int) := by omega
                    have HR : Hid (Lp = Lib.join ((([nm, [115, 112, 101, 108, 108, 32] ++ co] ++ kwT kk 4) ++ e.map textE) ++ (l.take (q + 1)).map trT) [44, 32]) := Lib.hid (by rw [HLp.out, HTK.out, HTR.out, if_neg h2, HL.out, ← List.append_assoc, show (([nm, [115, 112, 101, 108, 108, 32] ++ co] ++ kwT kk 4) ++ e.map textE) ++ (l.take q).map trT = nm :: ((([[115, 112, 101, 108, 108, 32] ++ co] ++ kwT kk 4) ++ e.map textE) ++ (l.take q).map trT) from by simp, join_snoc]; simp only [List.append_assoc, List.append_nil])
                    clear h2 HTR HTK
                    go_wp2_with fail
                    exact ⟨⟨q + 1, Lp, by omega, by go_num, rfl, by omega, HR, HMx, HBw⟩, by simp [intOf]; omega⟩
              · obtain rfl : tn = q := by omega
                have cy12 := HM.out.cell 12
                have HTT : Hid (l.take tn = l) := Lib.hid (List.take_of_length_le (by rw [HLT.out]; exact Nat.le_refl _))
                go_wp2_with fail
                go_ret
                exact ⟨by rw [HL.out, HTT.out]; rfl, HB.out⟩
end Go.Proofs.YtkappnnoienhnaaGreatDoor.caFn

/- The line of a trick, by the reference. -/
namespace Go.Proofs.YtkappnnoienhnaaGreatDoor.caFn
open Go.ChangeShapes Go.WideShapes Go.ChangeAt Go.RowKit drMem efFn
set_option linter.unusedVariables false

set_option maxRecDepth 100000 in
set_option maxHeartbeats 16000000 in
theorem rline_4 (nm : List UInt8) (m r : Int) (ka kb kc kdd kx kp kt kk : Nat) (es : Option Addr) (en ec : Nat) (ts : Option Addr) (tn tc : Nat) (e : List Ef) (l : List Tr) (w : World) (h : CdAt w es en e ts tn l) (h1 : nm.length ≤ 32) (hc : maFn.okC ka kb kc kdd kx = true) (hp : kp ≤ 99) (ht : kt ≤ 99) (hk : kk < 16) (hE : allB e = true) (hl : tn ≤ 2) (hT : ∀ t ∈ l, (1 ≤ t.w ∧ t.w ≤ 3) ∧ (1 ≤ t.e.length ∧ t.e.length ≤ 2) ∧ allB t.e = true) (co : List UInt8) (hco : maFn.textL ka kb kc kdd kx = co) (hcl : co.length ≤ 82) :
    Calls Tryz.prog 11 #[cV (bs nm) 4 (ka : Nat) (kb : Nat) (kc : Nat) (kdd : Nat) (kx : Nat) m (kp : Nat) (kt : Nat) (kk : Nat) es en ec ts tn tc r] w fun v w' => v = .returned (.string (bs (Lib.join ((([nm, [116, 114, 105, 99, 107, 32] ++ co] ++ kwT kk 4) ++ e.map textE) ++ l.map trT) [44, 32]))) ∧ Below w.heap.size w w' := by
  have HB0 := Lib.hid (show Below w.heap.size w (w.alloc (.cells #[.string (bs nm), .int .i64 4, .int .i64 (ka : Nat), .int .i64 (kb : Nat), .int .i64 (kc : Nat), .int .i64 (kdd : Nat), .int .i64 (kx : Nat), .int .i64 m, .int .i64 (kp : Nat), .int .i64 (kt : Nat), .int .i64 (kk : Nat), .slice es en ec, .slice ts tn tc, .int .i64 r] 32)) from (Below.refl _ _).alloc (Nat.le_refl _) _)
  have HM0 := Lib.hid (new0 w 32 (cL (bs nm) 4 (ka : Nat) (kb : Nat) (kc : Nat) (kdd : Nat) (kx : Nat) m (kp : Nat) (kt : Nat) (kk : Nat) es en ec ts tn tc r))
  have HH := Lib.hid h
  have hen : en ≤ 4 := by rw [← h.e.n]; exact (all_bd hE).1
  have HLE := Lib.hid h.e.n
  have HLT := Lib.hid h.t.n
  have HEA := Lib.hid (all_ok hE)
  have HTA := Lib.hid hT
  have HTX : Hid (∀ W : World, Calls Tryz.prog 23 #[.agg #[.int .i64 (ka : Nat), .int .i64 (kb : Nat), .int .i64 (kc : Nat), .int .i64 (kdd : Nat), .int .i64 (kx : Nat)]] W fun e w' => e = .returned (.string (bs co)) ∧ Below W.heap.size W w') := Lib.hid fun W => by
    have := maFn.rText_yes ka kb kc kdd kx W hc
    rw [hco] at this
    exact this
  have HGE : Hid (0 < en → ∃ eb eoff, es = some ⟨eb, eoff, none⟩ ∧ eb < w.heap.size ∧ ∀ q, q < en → EfAt w eb (eoff + q * 5) (e.getD q default)) := Lib.hid fun h0 => by
    obtain ⟨eb, eoff, he, hb, hc⟩ := HH.out.e.c h0
    exact ⟨eb, eoff, he, hb, fun q hq => hc q _ (get_some (by rw [HLE.out]; exact hq))⟩
  have HGT : Hid (0 < tn → ∃ tb toff, ts = some ⟨tb, toff, none⟩ ∧ tb < w.heap.size ∧ ∀ q, q < tn → ∃ s n c, TrAt w tb (toff + q * 2) (l.getD q default) s n c) := Lib.hid fun h0 => by
    obtain ⟨tb, toff, he, hb, hc⟩ := HH.out.t.c h0
    exact ⟨tb, toff, he, hb, fun q hq => hc q _ (getT (by rw [HLT.out]; exact hq))⟩
  clear h hE hT hco hc
  obtain ⟨cx0, cx1, cx2, cx3, cx4, cx5, cx6, cx7, cx8, cx9, cx10, cx11, cx12, cx13, cx14⟩ := card14 HM0.out
  have c1 : ∀ w, (Op.stringOp .add (bs nm) ⟨#[44, 32]⟩).run Tryz.prog w = .ok (.string (bs (nm ++ [44, 32]))) w := cat_run nm [44, 32] (by first | omega | (simp; omega))
  obtain ⟨La, hLa⟩ : ∃ La, nm ++ [44, 32] = La := ⟨_, rfl⟩
  obtain ⟨Lb, hLb⟩ : ∃ Lb, (La ++ [116, 114, 105, 99, 107]) ++ [32] = Lb := ⟨_, rfl⟩
  have ha : La.length ≤ 34 := by rw [← hLa]; simp; omega
  have hb : Lb.length ≤ 44 := by rw [← hLb]; simp; omega
  rw [hLa] at c1
  have c2 : ∀ w, (Op.stringOp .add (bs La) ⟨#[116, 114, 105, 99, 107]⟩).run Tryz.prog w = .ok (.string (bs (La ++ [116, 114, 105, 99, 107]))) w := cat_run La [116, 114, 105, 99, 107] (by first | omega | (simp; omega))
  have c3 : ∀ w, (Op.stringOp .add (bs (La ++ [116, 114, 105, 99, 107])) ⟨#[32]⟩).run Tryz.prog w = .ok (.string (bs ((La ++ [116, 114, 105, 99, 107]) ++ [32]))) w := cat_run (La ++ [116, 114, 105, 99, 107]) [32] (by first | omega | (simp; omega))
  rw [hLb] at c3
  have c4 : ∀ w, (Op.stringOp .add (bs Lb) (bs co)).run Tryz.prog w = .ok (.string (bs (Lb ++ co))) w := cat_run Lb co (by first | omega | (simp; omega))
  have HL1 : Hid (Lb ++ co = Lib.join [nm, [116, 114, 105, 99, 107, 32] ++ co] [44, 32]) := Lib.hid (by rw [← hLb, ← hLa, join_pair]; simp)
  have hl1 : (Lb ++ co).length ≤ 130 := by simp; omega
  clear hLa hLb
  go_enter Tryz.func11, Tryz.ntmps11
  go_upto_region 4 with fail
  go_cut [3] from 23 to 34 (fun s3 wr => s3 = .string (bs (Lb ++ co)) ∧ Hid (has wr w.heap.size 32 (cL (bs nm) 4 (ka : Nat) (kb : Nat) (kc : Nat) (kdd : Nat) (kx : Nat) m (kp : Nat) (kt : Nat) (kk : Nat) es en ec ts tn tc r)) ∧ Hid (Below w.heap.size w wr))
  case first =>
    have HMc := Lib.hid (show has (w.alloc (.cells #[.string (bs nm), .int .i64 4, .int .i64 (ka : Nat), .int .i64 (kb : Nat), .int .i64 (kc : Nat), .int .i64 (kdd : Nat), .int .i64 (kx : Nat), .int .i64 m, .int .i64 (kp : Nat), .int .i64 (kt : Nat), .int .i64 (kk : Nat), .slice es en ec, .slice ts tn tc, .int .i64 r] 32)).drew w.heap.size 32 (cL (bs nm) 4 (ka : Nat) (kb : Nat) (kc : Nat) (kdd : Nat) (kx : Nat) m (kp : Nat) (kt : Nat) (kk : Nat) es en ec ts tn tc r) from HM0.out)
    have HBc := Lib.hid (show Below w.heap.size w (w.alloc (.cells #[.string (bs nm), .int .i64 4, .int .i64 (ka : Nat), .int .i64 (kb : Nat), .int .i64 (kc : Nat), .int .i64 (kdd : Nat), .int .i64 (kx : Nat), .int .i64 m, .int .i64 (kp : Nat), .int .i64 (kt : Nat), .int .i64 (kk : Nat), .slice es en ec, .slice ts tn tc, .int .i64 r] 32)).drew from HB0.out.drew)
    have HMd := HMc
    refine wp_region_held_drew (S := (fun w' => has w' w.heap.size 32 (cL (bs nm) 4 (ka : Nat) (kb : Nat) (kc : Nat) (kdd : Nat) (kx : Nat) m (kp : Nat) (kt : Nat) (kk : Nat) es en ec ts tn tc r))) (by kernel_rfl) ?_ (fun hH0 => ?_)
    · exact HMd.out
    refine wpAnyH_take (i := 0) (oi := _) (v := ?_) rfl (by kernel_rfl) (by kernel_rfl) (by kernel_rfl) (fun _ _ _ h => h) (Or.inl ⟨by rfl, ?_⟩) (by assumption) ?_
    rotate_left
    · intro w hSw; (try dsimp only at hSw); obtain ⟨x0, x1, x2, x3, x4, x5, x6, x7, x8, x9, x10, x11, x12, x13, x14⟩ := card14 hSw; first | (go_simp; done) | (go_simp; with_reducible rfl)
    try simp only [go_sem, Act.put, List.getElem_toArray, List.getElem_cons_zero, List.setIfInBounds_toArray, List.set_cons_succ, List.set_cons_zero]
    refine wpAnyH_take (i := 2) (oi := _) (v := ?_) rfl (by kernel_rfl) (by kernel_rfl) (by kernel_rfl) (fun _ _ _ h => h) (Or.inl ⟨by rfl, ?_⟩) (by assumption) ?_
    rotate_left
    · intro w hSw; (try dsimp only at hSw); obtain ⟨x0, x1, x2, x3, x4, x5, x6, x7, x8, x9, x10, x11, x12, x13, x14⟩ := card14 hSw; first | (go_simp; done) | (go_simp; with_reducible rfl)
    try simp only [go_sem, Act.put, List.getElem_toArray, List.getElem_cons_succ, List.getElem_cons_zero, List.setIfInBounds_toArray, List.set_cons_succ, List.set_cons_zero]
    refine wpAnyH_take (i := 3) (oi := _) (v := ?_) rfl (by kernel_rfl) (by kernel_rfl) (by kernel_rfl) (fun _ _ _ h => h) (Or.inl ⟨by rfl, ?_⟩) (by assumption) ?_
    rotate_left
    · intro w hSw; (try dsimp only at hSw); obtain ⟨x0, x1, x2, x3, x4, x5, x6, x7, x8, x9, x10, x11, x12, x13, x14⟩ := card14 hSw; first | (go_simp; done) | (go_simp; with_reducible rfl)
    try simp only [go_sem, Act.put, List.getElem_toArray, List.getElem_cons_succ, List.getElem_cons_zero, List.setIfInBounds_toArray, List.set_cons_succ, List.set_cons_zero]
    refine wpAnyH_take (i := 8) (oi := _) (v := ?_) rfl (by kernel_rfl) (by kernel_rfl) (by kernel_rfl) (fun _ _ _ h => h) (Or.inl ⟨by rfl, ?_⟩) (by assumption) ?_
    rotate_left
    · intro w hSw; (try dsimp only at hSw); obtain ⟨x0, x1, x2, x3, x4, x5, x6, x7, x8, x9, x10, x11, x12, x13, x14⟩ := card14 hSw; first | (go_simp; done) | (go_simp; with_reducible rfl)
    try simp only [go_sem, Act.put, List.getElem_toArray, List.getElem_cons_succ, List.getElem_cons_zero, List.setIfInBounds_toArray, List.set_cons_succ, List.set_cons_zero]
    refine wpAnyH_take (i := 9) (oi := _) (v := ?_) rfl (by kernel_rfl) (by kernel_rfl) (by kernel_rfl) (fun _ _ _ h => h) (Or.inl ⟨by rfl, ?_⟩) (by assumption) ?_
    rotate_left
    · intro w hSw; (try dsimp only at hSw); obtain ⟨x0, x1, x2, x3, x4, x5, x6, x7, x8, x9, x10, x11, x12, x13, x14⟩ := card14 hSw; first | (go_simp; done) | (go_simp; with_reducible rfl)
    try simp only [go_sem, Act.put, List.getElem_toArray, List.getElem_cons_succ, List.getElem_cons_zero, List.setIfInBounds_toArray, List.set_cons_succ, List.set_cons_zero]
    refine wpAnyH_ready (rs := [1, 10]) (by kernel_rfl) (by simp) ?_
    refine AllReadyH.cons (o := _) rfl (fun K hK => ?_) (AllReadyH.cons (o := _) rfl (fun K hK => ?_) AllReadyH.nil)
    · go_simp; have HN := Lib.hid (show has ((w.alloc (.cells #[.string (bs nm), .int .i64 4, .int .i64 (ka : Nat), .int .i64 (kb : Nat), .int .i64 (kc : Nat), .int .i64 (kdd : Nat), .int .i64 (kx : Nat), .int .i64 m, .int .i64 (kp : Nat), .int .i64 (kt : Nat), .int .i64 (kk : Nat), .slice es en ec, .slice ts tn tc, .int .i64 r] 32)).drew.alloc (.cells #[.string ⟨#[]⟩, .string ⟨#[]⟩, .string ⟨#[99, 114, 101, 97, 116, 117, 114, 101]⟩, .string ⟨#[115, 112, 101, 108, 108]⟩, .string ⟨#[116, 114, 105, 99, 107]⟩] 9)) (w.heap.size + 1) 9 [.string ⟨#[]⟩, .string ⟨#[]⟩, .string ⟨#[99, 114, 101, 97, 116, 117, 114, 101]⟩, .string ⟨#[115, 112, 101, 108, 108]⟩, .string ⟨#[116, 114, 105, 99, 107]⟩] from new1 (by simp) _ _); have HMc := Lib.hid (HMc.out.alloc (.cells #[.string ⟨#[]⟩, .string ⟨#[]⟩, .string ⟨#[99, 114, 101, 97, 116, 117, 114, 101]⟩, .string ⟨#[115, 112, 101, 108, 108]⟩, .string ⟨#[116, 114, 105, 99, 107]⟩] 9)); have HBc := Lib.hid (HBc.out.alloc HBc.out.size (.cells #[.string ⟨#[]⟩, .string ⟨#[]⟩, .string ⟨#[99, 114, 101, 97, 116, 117, 114, 101]⟩, .string ⟨#[115, 112, 101, 108, 108]⟩, .string ⟨#[116, 114, 105, 99, 107]⟩] 9))
      refine hK.out _ _ ?_ (fun hH1 => ?_)
      · exact HMc.out
      clear hK K hH0
      try simp only [go_sem, Act.put, List.getElem_toArray, List.getElem_cons_succ, List.getElem_cons_zero, List.setIfInBounds_toArray, List.set_cons_succ, List.set_cons_zero]
      refine wpAnyH_take (i := 4) (oi := _) (v := ?_) rfl (by kernel_rfl) (by kernel_rfl) (by kernel_rfl) (fun _ _ _ h => h) (Or.inl ⟨by rfl, ?_⟩) (by assumption) ?_
      rotate_left
      · intro w hSw; (try dsimp only at hSw); obtain ⟨x0, x1, x2, x3, x4, x5, x6, x7, x8, x9, x10, x11, x12, x13, x14⟩ := card14 hSw; first | (go_simp; done) | (go_simp; with_reducible rfl)
      try simp only [go_sem, Act.put, List.getElem_toArray, List.getElem_cons_succ, List.getElem_cons_zero, List.setIfInBounds_toArray, List.set_cons_succ, List.set_cons_zero]
      refine wpAnyH_ready (rs := [5, 10]) (by kernel_rfl) (by simp) ?_
      refine AllReadyH.cons (o := _) rfl (fun K hK => ?_) (AllReadyH.cons (o := _) rfl (fun K hK => ?_) AllReadyH.nil)
      · have hcw := HN.out.cell 4; go_simp
        refine hK.out _ _ ?_ (fun hH2 => ?_)
        · exact HMc.out
        clear hK K hH1
        try simp only [go_sem, Act.put, List.getElem_toArray, List.getElem_cons_succ, List.getElem_cons_zero, List.setIfInBounds_toArray, List.set_cons_succ, List.set_cons_zero]
        refine wpAnyH_take (i := 6) (oi := _) (v := ?_) rfl (by kernel_rfl) (by kernel_rfl) (by kernel_rfl) (fun _ _ _ h => h) (Or.inl ⟨by rfl, ?_⟩) (by assumption) ?_
        rotate_left
        · intro w hSw; (try dsimp only at hSw); obtain ⟨x0, x1, x2, x3, x4, x5, x6, x7, x8, x9, x10, x11, x12, x13, x14⟩ := card14 hSw; first | (go_simp; done) | (go_simp; with_reducible rfl)
        try simp only [go_sem, Act.put, List.getElem_toArray, List.getElem_cons_succ, List.getElem_cons_zero, List.setIfInBounds_toArray, List.set_cons_succ, List.set_cons_zero]
        refine wpAnyH_take (i := 7) (oi := _) (v := ?_) rfl (by kernel_rfl) (by kernel_rfl) (by kernel_rfl) (fun _ _ _ h => h) (Or.inl ⟨by rfl, ?_⟩) (by assumption) ?_
        rotate_left
        · intro w hSw; (try dsimp only at hSw); obtain ⟨x0, x1, x2, x3, x4, x5, x6, x7, x8, x9, x10, x11, x12, x13, x14⟩ := card14 hSw; first | (go_simp; done) | (go_simp; with_reducible rfl)
        try simp only [go_sem, Act.put, List.getElem_toArray, List.getElem_cons_succ, List.getElem_cons_zero, List.setIfInBounds_toArray, List.set_cons_succ, List.set_cons_zero]
        refine wpAnyH_ready (rs := [10]) (by kernel_rfl) (by simp) ?_
        refine AllReadyH.cons (o := _) rfl (fun K hK => ?_) AllReadyH.nil
        go_simp; refine (HTX.out _).mono ?_; rintro ee wc ⟨rfl, hbc⟩; have HMc := Lib.hid (HMc.out.below hbc HMc.out.lt); have HBc := Lib.hid (next HBc.out hbc)
        refine hK.out _ _ ?_ (fun hH3 => ?_)
        · exact HMc.out
        clear hK K hH2
        try simp only [go_sem, Act.put, List.getElem_toArray, List.getElem_cons_succ, List.getElem_cons_zero, List.setIfInBounds_toArray, List.set_cons_succ, List.set_cons_zero]
        refine wpAnyH_take (i := 11) (oi := _) (v := ?_) rfl (by kernel_rfl) (by kernel_rfl) (by kernel_rfl) (fun _ _ _ h => h) (Or.inl ⟨by rfl, ?_⟩) (by assumption) ?_
        rotate_left
        · intro w hSw; (try dsimp only at hSw); obtain ⟨x0, x1, x2, x3, x4, x5, x6, x7, x8, x9, x10, x11, x12, x13, x14⟩ := card14 hSw; first | (go_simp; done) | (go_simp; with_reducible rfl)
        try simp only [go_sem, Act.put, List.getElem_toArray, List.getElem_cons_succ, List.getElem_cons_zero, List.setIfInBounds_toArray, List.set_cons_succ, List.set_cons_zero]
        refine wpAnyH_take (i := 12) (oi := _) (v := ?_) rfl (by kernel_rfl) (by kernel_rfl) (by kernel_rfl) (fun _ _ _ h => h) (Or.inl ⟨by rfl, ?_⟩) (by assumption) ?_
        rotate_left
        · intro w hSw; (try dsimp only at hSw); obtain ⟨x0, x1, x2, x3, x4, x5, x6, x7, x8, x9, x10, x11, x12, x13, x14⟩ := card14 hSw; first | (go_simp; done) | (go_simp; with_reducible rfl)
        try simp only [go_sem, Act.put, List.getElem_toArray, List.getElem_cons_succ, List.getElem_cons_zero, List.setIfInBounds_toArray, List.set_cons_succ, List.set_cons_zero]
        refine wpAnyH_done (by kernel_rfl) ?_ _
        go_wp2_with fail
        go_meet
        case rel => exact ⟨rfl, HMc, HBc⟩
      · go_simp; refine (HTX.out _).mono ?_; rintro ee wc ⟨rfl, hbc⟩; have HMc := Lib.hid (HMc.out.below hbc HMc.out.lt); have HBc := Lib.hid (next HBc.out hbc)
        refine hK.out _ _ ?_ (fun hH2 => ?_)
        · exact HMc.out
        clear hK K hH1
        try simp only [go_sem, Act.put, List.getElem_toArray, List.getElem_cons_succ, List.getElem_cons_zero, List.setIfInBounds_toArray, List.set_cons_succ, List.set_cons_zero]
        refine wpAnyH_ready (rs := [5]) (by kernel_rfl) (by simp) ?_
        refine AllReadyH.cons (o := _) rfl (fun K hK => ?_) AllReadyH.nil
        have HN := Lib.hid (HN.out.below hbc HN.out.lt); have hcw := HN.out.cell 4; go_simp
        refine hK.out _ _ ?_ (fun hH3 => ?_)
        · exact HMc.out
        clear hK K hH2
        try simp only [go_sem, Act.put, List.getElem_toArray, List.getElem_cons_succ, List.getElem_cons_zero, List.setIfInBounds_toArray, List.set_cons_succ, List.set_cons_zero]
        refine wpAnyH_take (i := 6) (oi := _) (v := ?_) rfl (by kernel_rfl) (by kernel_rfl) (by kernel_rfl) (fun _ _ _ h => h) (Or.inl ⟨by rfl, ?_⟩) (by assumption) ?_
        rotate_left
        · intro w hSw; (try dsimp only at hSw); obtain ⟨x0, x1, x2, x3, x4, x5, x6, x7, x8, x9, x10, x11, x12, x13, x14⟩ := card14 hSw; first | (go_simp; done) | (go_simp; with_reducible rfl)
        try simp only [go_sem, Act.put, List.getElem_toArray, List.getElem_cons_succ, List.getElem_cons_zero, List.setIfInBounds_toArray, List.set_cons_succ, List.set_cons_zero]
        refine wpAnyH_take (i := 7) (oi := _) (v := ?_) rfl (by kernel_rfl) (by kernel_rfl) (by kernel_rfl) (fun _ _ _ h => h) (Or.inl ⟨by rfl, ?_⟩) (by assumption) ?_
        rotate_left
        · intro w hSw; (try dsimp only at hSw); obtain ⟨x0, x1, x2, x3, x4, x5, x6, x7, x8, x9, x10, x11, x12, x13, x14⟩ := card14 hSw; first | (go_simp; done) | (go_simp; with_reducible rfl)
        try simp only [go_sem, Act.put, List.getElem_toArray, List.getElem_cons_succ, List.getElem_cons_zero, List.setIfInBounds_toArray, List.set_cons_succ, List.set_cons_zero]
        refine wpAnyH_take (i := 11) (oi := _) (v := ?_) rfl (by kernel_rfl) (by kernel_rfl) (by kernel_rfl) (fun _ _ _ h => h) (Or.inl ⟨by rfl, ?_⟩) (by assumption) ?_
        rotate_left
        · intro w hSw; (try dsimp only at hSw); obtain ⟨x0, x1, x2, x3, x4, x5, x6, x7, x8, x9, x10, x11, x12, x13, x14⟩ := card14 hSw; first | (go_simp; done) | (go_simp; with_reducible rfl)
        try simp only [go_sem, Act.put, List.getElem_toArray, List.getElem_cons_succ, List.getElem_cons_zero, List.setIfInBounds_toArray, List.set_cons_succ, List.set_cons_zero]
        refine wpAnyH_take (i := 12) (oi := _) (v := ?_) rfl (by kernel_rfl) (by kernel_rfl) (by kernel_rfl) (fun _ _ _ h => h) (Or.inl ⟨by rfl, ?_⟩) (by assumption) ?_
        rotate_left
        · intro w hSw; (try dsimp only at hSw); obtain ⟨x0, x1, x2, x3, x4, x5, x6, x7, x8, x9, x10, x11, x12, x13, x14⟩ := card14 hSw; first | (go_simp; done) | (go_simp; with_reducible rfl)
        try simp only [go_sem, Act.put, List.getElem_toArray, List.getElem_cons_succ, List.getElem_cons_zero, List.setIfInBounds_toArray, List.set_cons_succ, List.set_cons_zero]
        refine wpAnyH_done (by kernel_rfl) ?_ _
        go_wp2_with fail
        go_meet
        case rel => exact ⟨rfl, HMc, HBc⟩
    · go_simp; refine (HTX.out _).mono ?_; rintro ee wc ⟨rfl, hbc⟩; have HMc := Lib.hid (HMc.out.below hbc HMc.out.lt); have HBc := Lib.hid (next HBc.out hbc)
      refine hK.out _ _ ?_ (fun hH1 => ?_)
      · exact HMc.out
      clear hK K hH0
      try simp only [go_sem, Act.put, List.getElem_toArray, List.getElem_cons_succ, List.getElem_cons_zero, List.setIfInBounds_toArray, List.set_cons_succ, List.set_cons_zero]
      refine wpAnyH_ready (rs := [1]) (by kernel_rfl) (by simp) ?_
      refine AllReadyH.cons (o := _) rfl (fun K hK => ?_) AllReadyH.nil
      go_simp; have HN := Lib.hid (show has (wc.alloc (.cells #[.string ⟨#[]⟩, .string ⟨#[]⟩, .string ⟨#[99, 114, 101, 97, 116, 117, 114, 101]⟩, .string ⟨#[115, 112, 101, 108, 108]⟩, .string ⟨#[116, 114, 105, 99, 107]⟩] 9)) (wc.heap.size) 9 [.string ⟨#[]⟩, .string ⟨#[]⟩, .string ⟨#[99, 114, 101, 97, 116, 117, 114, 101]⟩, .string ⟨#[115, 112, 101, 108, 108]⟩, .string ⟨#[116, 114, 105, 99, 107]⟩] from new1 (by simp) _ _); have HMc := Lib.hid (HMc.out.alloc (.cells #[.string ⟨#[]⟩, .string ⟨#[]⟩, .string ⟨#[99, 114, 101, 97, 116, 117, 114, 101]⟩, .string ⟨#[115, 112, 101, 108, 108]⟩, .string ⟨#[116, 114, 105, 99, 107]⟩] 9)); have HBc := Lib.hid (HBc.out.alloc HBc.out.size (.cells #[.string ⟨#[]⟩, .string ⟨#[]⟩, .string ⟨#[99, 114, 101, 97, 116, 117, 114, 101]⟩, .string ⟨#[115, 112, 101, 108, 108]⟩, .string ⟨#[116, 114, 105, 99, 107]⟩] 9))
      refine hK.out _ _ ?_ (fun hH2 => ?_)
      · exact HMc.out
      clear hK K hH1
      try simp only [go_sem, Act.put, List.getElem_toArray, List.getElem_cons_succ, List.getElem_cons_zero, List.setIfInBounds_toArray, List.set_cons_succ, List.set_cons_zero]
      refine wpAnyH_take (i := 4) (oi := _) (v := ?_) rfl (by kernel_rfl) (by kernel_rfl) (by kernel_rfl) (fun _ _ _ h => h) (Or.inl ⟨by rfl, ?_⟩) (by assumption) ?_
      rotate_left
      · intro w hSw; (try dsimp only at hSw); obtain ⟨x0, x1, x2, x3, x4, x5, x6, x7, x8, x9, x10, x11, x12, x13, x14⟩ := card14 hSw; first | (go_simp; done) | (go_simp; with_reducible rfl)
      try simp only [go_sem, Act.put, List.getElem_toArray, List.getElem_cons_succ, List.getElem_cons_zero, List.setIfInBounds_toArray, List.set_cons_succ, List.set_cons_zero]
      refine wpAnyH_ready (rs := [5]) (by kernel_rfl) (by simp) ?_
      refine AllReadyH.cons (o := _) rfl (fun K hK => ?_) AllReadyH.nil
      have hcw := HN.out.cell 4; go_simp
      refine hK.out _ _ ?_ (fun hH3 => ?_)
      · exact HMc.out
      clear hK K hH2
      try simp only [go_sem, Act.put, List.getElem_toArray, List.getElem_cons_succ, List.getElem_cons_zero, List.setIfInBounds_toArray, List.set_cons_succ, List.set_cons_zero]
      refine wpAnyH_take (i := 6) (oi := _) (v := ?_) rfl (by kernel_rfl) (by kernel_rfl) (by kernel_rfl) (fun _ _ _ h => h) (Or.inl ⟨by rfl, ?_⟩) (by assumption) ?_
      rotate_left
      · intro w hSw; (try dsimp only at hSw); obtain ⟨x0, x1, x2, x3, x4, x5, x6, x7, x8, x9, x10, x11, x12, x13, x14⟩ := card14 hSw; first | (go_simp; done) | (go_simp; with_reducible rfl)
      try simp only [go_sem, Act.put, List.getElem_toArray, List.getElem_cons_succ, List.getElem_cons_zero, List.setIfInBounds_toArray, List.set_cons_succ, List.set_cons_zero]
      refine wpAnyH_take (i := 7) (oi := _) (v := ?_) rfl (by kernel_rfl) (by kernel_rfl) (by kernel_rfl) (fun _ _ _ h => h) (Or.inl ⟨by rfl, ?_⟩) (by assumption) ?_
      rotate_left
      · intro w hSw; (try dsimp only at hSw); obtain ⟨x0, x1, x2, x3, x4, x5, x6, x7, x8, x9, x10, x11, x12, x13, x14⟩ := card14 hSw; first | (go_simp; done) | (go_simp; with_reducible rfl)
      try simp only [go_sem, Act.put, List.getElem_toArray, List.getElem_cons_succ, List.getElem_cons_zero, List.setIfInBounds_toArray, List.set_cons_succ, List.set_cons_zero]
      refine wpAnyH_take (i := 11) (oi := _) (v := ?_) rfl (by kernel_rfl) (by kernel_rfl) (by kernel_rfl) (fun _ _ _ h => h) (Or.inl ⟨by rfl, ?_⟩) (by assumption) ?_
      rotate_left
      · intro w hSw; (try dsimp only at hSw); obtain ⟨x0, x1, x2, x3, x4, x5, x6, x7, x8, x9, x10, x11, x12, x13, x14⟩ := card14 hSw; first | (go_simp; done) | (go_simp; with_reducible rfl)
      try simp only [go_sem, Act.put, List.getElem_toArray, List.getElem_cons_succ, List.getElem_cons_zero, List.setIfInBounds_toArray, List.set_cons_succ, List.set_cons_zero]
      refine wpAnyH_take (i := 12) (oi := _) (v := ?_) rfl (by kernel_rfl) (by kernel_rfl) (by kernel_rfl) (fun _ _ _ h => h) (Or.inl ⟨by rfl, ?_⟩) (by assumption) ?_
      rotate_left
      · intro w hSw; (try dsimp only at hSw); obtain ⟨x0, x1, x2, x3, x4, x5, x6, x7, x8, x9, x10, x11, x12, x13, x14⟩ := card14 hSw; first | (go_simp; done) | (go_simp; with_reducible rfl)
      try simp only [go_sem, Act.put, List.getElem_toArray, List.getElem_cons_succ, List.getElem_cons_zero, List.setIfInBounds_toArray, List.set_cons_succ, List.set_cons_zero]
      refine wpAnyH_done (by kernel_rfl) ?_ _
      go_wp2_with fail
      go_meet
      case rel => exact ⟨rfl, HMc, HBc⟩
  case rest =>
    obtain ⟨rfl, HM1, HB1⟩ := hcut
    obtain ⟨L1, hL1⟩ : ∃ L, Lb ++ co = L := ⟨_, rfl⟩
    have HL1' := HL1
    rw [hL1] at HL1' hl1 ⊢
    clear c1 c2 c3 c4 hL1 HTX HL1 ha hb
    obtain ⟨cx0, cx1, cx2, cx3, cx4, cx5, cx6, cx7, cx8, cx9, cx10, cx11, cx12, cx13, cx14⟩ := card14 HM1.out
    have HM2 := HM1
    have HB2 := HB1
    have HL2 := HL1'
    have hl2 : L1.length ≤ 140 := by omega
    go_wp2_with fail
    clear cx0 cx1 cx2 cx3 cx4 cx5 cx6 cx7 cx8 cx9 cx10 cx11 cx12 cx13 cx14
    go_loopw [3, 4] (fun v i wr => ∃ (q : Nat) (L : List UInt8), q ≤ 4 ∧ i = .int .i64 q ∧ v = .string (bs L) ∧ L.length ≤ 140 + 10 * q ∧ Hid (L = Lib.join ([nm, [116, 114, 105, 99, 107, 32] ++ co] ++ kwT kk q) [44, 32]) ∧ Hid (has wr w.heap.size 32 (cL (bs nm) 4 (ka : Nat) (kb : Nat) (kc : Nat) (kdd : Nat) (kx : Nat) m (kp : Nat) (kt : Nat) (kk : Nat) es en ec ts tn tc r)) ∧ Hid (Below w.heap.size w wr)) (fun _ i _ => 4 - (intOf i).toNat)
    case atStart => exact ⟨0, L1, Nat.zero_le _, rfl, rfl, by omega, Lib.hid (by rw [show kwT kk 0 = [] from rfl, List.append_nil]; exact HL2.out), HM2, HB2⟩
    case round =>
      clear HL2 HM2 HB2 hl2
      obtain ⟨q, L, hq, rfl, rfl, hLL, HL, HM, HB⟩ := hrel
      by_cases hlt : q < 4
      · have cy10 := HM.out.cell 10
        have hsh : (((kk : Int) / 2 ^ q).tmod 2 == 1) = kwHas kk q := kw_shift kk q
        have HKS : Hid (kwT kk (q + 1) = kwT kk q ++ if kwHas kk q then [kcL q] else []) := Lib.hid (kwT_succ kk q)
        have hkl := kcL_len q
        have HN := Lib.hid (show has (wr.alloc (.cells #[.string ⟨#[115, 119, 105, 102, 116]⟩, .string ⟨#[102, 108, 121, 105, 110, 103]⟩, .string ⟨#[119, 97, 116, 99, 104, 102, 117, 108]⟩, .string ⟨#[100, 101, 97, 100, 108, 121]⟩] 9)) wr.heap.size 9 [.string ⟨#[115, 119, 105, 102, 116]⟩, .string ⟨#[102, 108, 121, 105, 110, 103]⟩, .string ⟨#[119, 97, 116, 99, 104, 102, 117, 108]⟩, .string ⟨#[100, 101, 97, 100, 108, 121]⟩] from new0 wr _ _)
        have hcw : (wr.alloc (.cells #[.string ⟨#[115, 119, 105, 102, 116]⟩, .string ⟨#[102, 108, 121, 105, 110, 103]⟩, .string ⟨#[119, 97, 116, 99, 104, 102, 117, 108]⟩, .string ⟨#[100, 101, 97, 100, 108, 121]⟩] 9)).cell? ⟨wr.heap.size, q, none⟩ = some (.string (bs (kcL q))) := (HN.out.cell q).trans (kc_at q hlt)
        have c5 : ∀ w, (Op.stringOp .add (bs L) ⟨#[44, 32]⟩).run Tryz.prog w = .ok (.string (bs (L ++ [44, 32]))) w := cat_run L [44, 32] (by first | omega | (simp; omega))
        obtain ⟨Lm, hLm⟩ : ∃ ZZ, L ++ [44, 32] = ZZ := ⟨_, rfl⟩
        rw [hLm] at c5
        have nLm : Lm.length = L.length + 2 := by rw [← hLm, List.length_append]; rfl
        have c6 : ∀ w, (Op.stringOp .add (bs Lm) (bs (kcL q))).run Tryz.prog w = .ok (.string (bs (Lm ++ (kcL q)))) w := cat_run Lm (kcL q) (by first | omega | (simp; omega))
        obtain ⟨Ln, hLn⟩ : ∃ ZZ, Lm ++ (kcL q) = ZZ := ⟨_, rfl⟩
        rw [hLn] at c6
        have nLn : Ln.length = Lm.length + ((kcL q) : List UInt8).length := by rw [← hLn, List.length_append]
        have HMq := Lib.hid (HM.out.alloc (.cells #[.string ⟨#[115, 119, 105, 102, 116]⟩, .string ⟨#[102, 108, 121, 105, 110, 103]⟩, .string ⟨#[119, 97, 116, 99, 104, 102, 117, 108]⟩, .string ⟨#[100, 101, 97, 100, 108, 121]⟩] 9))
        have HBq := Lib.hid (HB.out.alloc HB.out.size (.cells #[.string ⟨#[115, 119, 105, 102, 116]⟩, .string ⟨#[102, 108, 121, 105, 110, 103]⟩, .string ⟨#[119, 97, 116, 99, 104, 102, 117, 108]⟩, .string ⟨#[100, 101, 97, 100, 108, 121]⟩] 9))
        cases hb : kwHas kk q
        all_goals rw [hb] at hsh
        · have HR : Hid (L = Lib.join ([nm, [116, 114, 105, 99, 107, 32] ++ co] ++ kwT kk (q + 1)) [44, 32]) := Lib.hid (by rw [HKS.out, hb]; simp only [Bool.false_eq_true, if_false, List.append_nil]; exact HL.out)
          go_wp2_with fail
          exact ⟨⟨q + 1, L, by omega, by go_num, rfl, by omega, HR, HM, HB⟩, by simp [intOf]; omega⟩
        · have HR : Hid (Ln = Lib.join ([nm, [116, 114, 105, 99, 107, 32] ++ co] ++ kwT kk (q + 1)) [44, 32]) := Lib.hid (by rw [← hLn, ← hLm, HKS.out, hb, HL.out]; simp only [if_true]; rw [← List.append_assoc, show [nm, [116, 114, 105, 99, 107, 32] ++ co] ++ kwT kk q = nm :: ([[116, 114, 105, 99, 107, 32] ++ co] ++ kwT kk q) from by simp, join_snoc])
          have hl3 : Ln.length ≤ 140 + 10 * (q + 1) := by omega
          clear hLn hLm nLn nLm
          go_wp2_with fail
          exact ⟨⟨q + 1, Ln, by omega, by go_num, rfl, hl3, HR, HMq, HBq⟩, by simp [intOf]; omega⟩
      · have hq4 : q = 4 := by omega
        have HLq : Hid (L = Lib.join ([nm, [116, 114, 105, 99, 107, 32] ++ co] ++ kwT kk 4) [44, 32]) := Lib.hid (by rw [← hq4]; exact HL.out)
        clear hq4
        have cy10 := HM.out.cell 10
        have cy11 := HM.out.cell 11
        go_wp2_with fail
        clear cy10 cy11
        obtain ⟨wo, hwo⟩ : ∃ wo : World, wo = wr := ⟨_, rfl⟩
        rw [← hwo] at HM HB ⊢
        clear hwo
        have hLn2 : L.length ≤ 180 := by omega
        have HL3 := HLq
        have HMo := HM
        have HBo := HB
        go_loopw [3, 5] (fun v i wr => ∃ (q : Nat) (L : List UInt8), q ≤ en ∧ i = .int .i64 q ∧ v = .string (bs L) ∧ L.length ≤ 180 + 40 * q ∧ Hid (L = Lib.join (([nm, [116, 114, 105, 99, 107, 32] ++ co] ++ kwT kk 4) ++ (e.take q).map textE) [44, 32]) ∧ Hid (has wr w.heap.size 32 (cL (bs nm) 4 (ka : Nat) (kb : Nat) (kc : Nat) (kdd : Nat) (kx : Nat) m (kp : Nat) (kt : Nat) (kk : Nat) es en ec ts tn tc r)) ∧ Hid (Below w.heap.size w wr)) (fun _ i _ => en - (intOf i).toNat)
        case atStart => exact ⟨0, L, Nat.zero_le _, rfl, rfl, by omega, Lib.hid (by rw [List.take_zero, List.map_nil, List.append_nil]; exact HL3.out), HMo, HBo⟩
        case round =>
          clear HL3 HMo HBo HL HM HB hLL hLn2
          obtain ⟨q, L, hq, rfl, rfl, hLL, HL, HM, HB⟩ := hrel
          by_cases hlt : q < en
          · obtain ⟨eb, eoff, hes, heb, hc⟩ := HGE.out (by omega)
            obtain ⟨c0, c1, c2, c3, c4⟩ := (hc q hlt).below HB.out heb
            have cy11 : wr.cell? ⟨w.heap.size, 11, none⟩ = some (.slice (some ⟨eb, eoff, none⟩) en ec) := by rw [← hes]; exact HM.out.cell 11
            have HTK : Hid ((e.take (q + 1)).map textE = (e.take q).map textE ++ [textE (e.getD q default)]) := Lib.hid (by
              have hq' : q < e.length := by rw [HLE.out]; exact hlt
              rw [List.take_succ_eq_append_getElem hq', List.map_append]
              simp [List.getD_eq_getElem?_getD, hq'])
            have hok : (e.getD q default).ok = true := HEA.out _ (by rw [List.getD_eq_getElem?_getD, List.getElem?_eq_getElem (by rw [HLE.out]; exact hlt)]; exact List.getElem_mem _)
            clear hc hes
            generalize e.getD q default = y at *
            have hte := textE_36 y
            have HTE : Hid (∀ W : World, Calls Tryz.prog 25 #[y.v] W fun r w' => r = .returned (.string (bs (textE y))) ∧ Below W.heap.size W w') := Lib.hid fun W => rText_yes y W hok
            generalize hty : textE y = ty at *
            have c5 : ∀ w, (Op.stringOp .add (bs L) ⟨#[44, 32]⟩).run Tryz.prog w = .ok (.string (bs (L ++ [44, 32]))) w := cat_run L [44, 32] (by first | omega | (simp; omega))
            obtain ⟨Lm, hLm⟩ : ∃ ZZ, L ++ [44, 32] = ZZ := ⟨_, rfl⟩
            rw [hLm] at c5
            have nLm : Lm.length = L.length + 2 := by rw [← hLm, List.length_append]; rfl
            have c6 : ∀ w, (Op.stringOp .add (bs Lm) (bs (ty))).run Tryz.prog w = .ok (.string (bs (Lm ++ (ty)))) w := cat_run Lm (ty) (by first | omega | (simp; omega))
            obtain ⟨Ln, hLn⟩ : ∃ ZZ, Lm ++ (ty) = ZZ := ⟨_, rfl⟩
            rw [hLn] at c6
            have nLn : Ln.length = Lm.length + ((ty) : List UInt8).length := by rw [← hLn, List.length_append]
            have HR : Hid (Ln = Lib.join (([nm, [116, 114, 105, 99, 107, 32] ++ co] ++ kwT kk 4) ++ (e.take (q + 1)).map textE) [44, 32]) := Lib.hid (by rw [← hLn, ← hLm, HTK.out, HL.out, ← List.append_assoc, show ([nm, [116, 114, 105, 99, 107, 32] ++ co] ++ kwT kk 4) ++ (e.take q).map textE = nm :: (([[116, 114, 105, 99, 107, 32] ++ co] ++ kwT kk 4) ++ (e.take q).map textE) from by simp, join_snoc])
            have hl3 : Ln.length ≤ 180 + 40 * (q + 1) := by omega
            clear hok HTK hLn hLm nLn nLm hty hte
            obtain ⟨xc, xt, xn, xm, xk⟩ := y
            dsimp only at c0 c1 c2 c3 c4
            go_wp2_with fail
            refine (HTE.out _).mono ?_; rintro ee wd ⟨rfl, hbd⟩
            have HMq := Lib.hid (HM.out.below hbd HM.out.lt)
            have HBq := Lib.hid (next HB.out hbd)
            clear hbd
            go_wp2_with fail
            exact ⟨⟨q + 1, Ln, by omega, by go_num, rfl, hl3, HR, HMq, HBq⟩, by simp [intOf]; omega⟩
          · obtain rfl : en = q := by omega
            have HTA2 : Hid (e.take en = e) := Lib.hid (List.take_of_length_le (by rw [HLE.out]; exact Nat.le_refl _))
            have HL4 : Hid (L = Lib.join (([nm, [116, 114, 105, 99, 107, 32] ++ co] ++ kwT kk 4) ++ e.map textE) [44, 32]) := Lib.hid (by have := HL.out; rw [HTA2.out] at this; exact this)
            have hLn2 : L.length ≤ 340 := by omega
            have cy11 := HM.out.cell 11
            have cy12 := HM.out.cell 12
            go_wp2_with fail
            clear cy11 cy12 HTA2
            obtain ⟨wo2, hwo⟩ : ∃ wo : World, wo = wr := ⟨_, rfl⟩
            rw [← hwo] at HM HB ⊢
            clear hwo
            have HMo := HM
            have HBo := HB
            go_loopw [3, 6] (fun v i wr => ∃ (q : Nat) (L : List UInt8), q ≤ tn ∧ i = .int .i64 q ∧ v = .string (bs L) ∧ L.length ≤ 340 + 110 * q ∧ Hid (L = Lib.join ((([nm, [116, 114, 105, 99, 107, 32] ++ co] ++ kwT kk 4) ++ e.map textE) ++ (l.take q).map trT) [44, 32]) ∧ Hid (has wr w.heap.size 32 (cL (bs nm) 4 (ka : Nat) (kb : Nat) (kc : Nat) (kdd : Nat) (kx : Nat) m (kp : Nat) (kt : Nat) (kk : Nat) es en ec ts tn tc r)) ∧ Hid (Below w.heap.size w wr)) (fun _ i _ => tn - (intOf i).toNat)
            case atStart => exact ⟨0, L, Nat.zero_le _, rfl, rfl, by omega, Lib.hid (by rw [List.take_zero, List.map_nil, List.append_nil]; exact HL4.out), HMo, HBo⟩
            case round =>
              clear HL4 HMo HBo HL HM HB hLL hLn2
              obtain ⟨q, L, hq, rfl, rfl, hLL, HL, HM, HB⟩ := hrel
              by_cases hlt : q < tn
              · obtain ⟨tb, toff, hts, htb, hc⟩ := HGT.out (by omega)
                obtain ⟨s', n', c', hat⟩ := hc q hlt
                obtain ⟨d0, d1, hye⟩ := hat.below HB.out htb (Nat.le_refl _)
                have cy12 : wr.cell? ⟨w.heap.size, 12, none⟩ = some (.slice (some ⟨tb, toff, none⟩) tn tc) := by rw [← hts]; exact HM.out.cell 12
                have HTK : Hid ((l.take (q + 1)).map trT = (l.take q).map trT ++ [trT (l.getD q default)]) := Lib.hid (by
                  have hq' : q < l.length := by rw [HLT.out]; exact hlt
                  rw [List.take_succ_eq_append_getElem hq', List.map_append]
                  simp [List.getD_eq_getElem?_getD, hq'])
                obtain ⟨⟨y1, y3⟩, ⟨e1, e2⟩, hyB⟩ := HTA.out (l.getD q default) (by rw [List.getD_eq_getElem?_getD, List.getElem?_eq_getElem (by rw [HLT.out]; exact hlt)]; exact List.getElem_mem _)
                clear hc hts hat
                generalize l.getD q default = y at *
                obtain ⟨yw, ye⟩ := y
                dsimp only at d0 d1 hye y1 y3 e1 e2 hyB
                have hn' := hye.n
                rw [hn'] at e1 e2
                obtain ⟨eb, eoff, hse, heb, hce⟩ := hye.c e1
                subst hse
                have g0 := hce 0 _ (get_some (by rw [hn']; exact e1))
                rw [Nat.zero_mul, Nat.add_zero] at g0
                have HG1 : Hid (1 < n' → EfAt wr eb (eoff + 5) (ye.getD 1 default)) := Lib.hid fun h1 => by
                  have := hce 1 _ (get_some (by rw [hn']; exact h1))
                  rw [Nat.one_mul] at this
                  exact this
                have HYE := Lib.hid hn'
                have HYB := Lib.hid hyB
                have HY0 : (ye.getD 0 default).ok = true := all_ok HYB.out _ (by rw [List.getD_eq_getElem?_getD, List.getElem?_eq_getElem (by rw [HYE.out]; exact e1)]; exact List.getElem_mem _)
                have HY1 : Hid (1 < n' → (ye.getD 1 default).ok = true) := Lib.hid fun h1 => all_ok HYB.out _ (by rw [List.getD_eq_getElem?_getD, List.getElem?_eq_getElem (by rw [HYE.out]; exact h1)]; exact List.getElem_mem _)
                have HTR : Hid (trT ⟨yw, ye⟩ = whL yw.toNat ++ [58, 32] ++ textE (ye.getD 0 default) ++ (if 1 < n' then [32, 97, 110, 100, 32] ++ textE (ye.getD 1 default) else [])) := Lib.hid (trT_form yw ye HYE.out e1 e2)
                have hte0 := textE_36 (ye.getD 0 default)
                have hte1 := textE_36 (ye.getD 1 default)
                have hwl := whL_len yw.toNat
                have HTE0 : Hid (∀ W : World, Calls Tryz.prog 25 #[(ye.getD 0 default).v] W fun r w' => r = .returned (.string (bs (textE (ye.getD 0 default)))) ∧ Below W.heap.size W w') := Lib.hid fun W => rText_yes _ W HY0
                have HTE1 : Hid (1 < n' → ∀ W : World, Calls Tryz.prog 25 #[(ye.getD 1 default).v] W fun r w' => r = .returned (.string (bs (textE (ye.getD 1 default)))) ∧ Below W.heap.size W w') := Lib.hid fun h1 W => rText_yes _ W (HY1.out h1)
                generalize ye.getD 1 default = z1 at *
                generalize ye.getD 0 default = z0 at *
                generalize htx0 : textE z0 = t0 at *
                generalize htx1 : textE z1 = t1 at *
                generalize hwh : whL yw.toNat = wh at *
                have HWH := Lib.hid hwh
                obtain ⟨xc, xt, xn, xm, xk⟩ := z0
                obtain ⟨f0, f1, f2, f3, f4⟩ := g0
                have HF : Hid (∀ W, Below wr.heap.size wr W → EfAt W eb eoff ⟨xc, xt, xn, xm, xk⟩) := Lib.hid fun W hW => (⟨f0, f1, f2, f3, f4⟩ : EfAt wr eb eoff ⟨xc, xt, xn, xm, xk⟩).below hW heb
                clear HY0 HY1 htx0 htx1 hwh
                have c5 : ∀ w, (Op.stringOp .add (bs L) ⟨#[44, 32]⟩).run Tryz.prog w = .ok (.string (bs (L ++ [44, 32]))) w := cat_run L [44, 32] (by first | omega | (simp; omega))
                obtain ⟨Lm, hLm⟩ : ∃ ZZ, L ++ [44, 32] = ZZ := ⟨_, rfl⟩
                rw [hLm] at c5
                have nLm : Lm.length = L.length + 2 := by rw [← hLm, List.length_append]; rfl
                have c6 : ∀ w, (Op.stringOp .add (bs Lm) (bs (wh))).run Tryz.prog w = .ok (.string (bs (Lm ++ (wh)))) w := cat_run Lm (wh) (by first | omega | (simp; omega))
                obtain ⟨Ln, hLn⟩ : ∃ ZZ, Lm ++ (wh) = ZZ := ⟨_, rfl⟩
                rw [hLn] at c6
                have nLn : Ln.length = Lm.length + ((wh) : List UInt8).length := by rw [← hLn, List.length_append]
                have c7 : ∀ w, (Op.stringOp .add (bs Ln) ⟨#[58, 32]⟩).run Tryz.prog w = .ok (.string (bs (Ln ++ [58, 32]))) w := cat_run Ln [58, 32] (by first | omega | (simp; omega))
                obtain ⟨Lo, hLo⟩ : ∃ ZZ, Ln ++ [58, 32] = ZZ := ⟨_, rfl⟩
                rw [hLo] at c7
                have nLo : Lo.length = Ln.length + 2 := by rw [← hLo, List.length_append]; rfl
                have c8 : ∀ w, (Op.stringOp .add (bs Lo) (bs (t0))).run Tryz.prog w = .ok (.string (bs (Lo ++ (t0)))) w := cat_run Lo (t0) (by first | omega | (simp; omega))
                obtain ⟨Lp, hLp⟩ : ∃ ZZ, Lo ++ (t0) = ZZ := ⟨_, rfl⟩
                rw [hLp] at c8
                have nLp : Lp.length = Lo.length + ((t0) : List UInt8).length := by rw [← hLp, List.length_append]
                have HLp : Hid (Lp = ((L ++ [44, 32]) ++ wh) ++ [58, 32] ++ t0) := Lib.hid (by rw [← hLp, ← hLo, ← hLn, ← hLm])
                have nLp2 : Lp.length ≤ 340 + 110 * q + 50 := by omega
                clear hLp hLo hLn hLm nLp nLo nLn nLm
                go_upto_region 20 with fail
                clear d0 d1 cy12 f0 f1 f2 f3 f4
                have HT0 := Lib.hid (new0 wr 47 [.int .i64 yw, .slice (some ⟨eb, eoff, none⟩) n' c'])
                have HMt := Lib.hid (HM.out.alloc (.cells #[.int .i64 yw, .slice (some ⟨eb, eoff, none⟩) n' c'] 47))
                have HBt := Lib.hid (HB.out.alloc HB.out.size (.cells #[.int .i64 yw, .slice (some ⟨eb, eoff, none⟩) n' c'] 47))
                have HBt2 := Lib.hid (show Below wr.heap.size wr (wr.alloc (.cells #[.int .i64 yw, .slice (some ⟨eb, eoff, none⟩) n' c'] 47)) from (Below.refl _ wr).alloc (Nat.le_refl _) _)
                go_cut [3] from 94 to 108 (fun s3 wx => s3 = .string (bs Lp) ∧ Hid (has wx wr.heap.size 47 [.int .i64 yw, .slice (some ⟨eb, eoff, none⟩) n' c']) ∧ Hid (has wx w.heap.size 32 (cL (bs nm) 4 (ka : Nat) (kb : Nat) (kc : Nat) (kdd : Nat) (kx : Nat) m (kp : Nat) (kt : Nat) (kk : Nat) es en ec ts tn tc r)) ∧ Hid (Below wr.heap.size wr wx))
                case first =>
                  have HTc := Lib.hid (show has (wr.alloc (.cells #[.int .i64 yw, .slice (some ⟨eb, eoff, none⟩) n' c'] 47)).drew wr.heap.size 47 [.int .i64 yw, .slice (some ⟨eb, eoff, none⟩) n' c'] from HT0.out)
                  have HMc := Lib.hid (show has (wr.alloc (.cells #[.int .i64 yw, .slice (some ⟨eb, eoff, none⟩) n' c'] 47)).drew w.heap.size 32 (cL (bs nm) 4 (ka : Nat) (kb : Nat) (kc : Nat) (kdd : Nat) (kx : Nat) m (kp : Nat) (kt : Nat) (kk : Nat) es en ec ts tn tc r) from HMt.out)
                  have HBc := Lib.hid (show Below wr.heap.size wr (wr.alloc (.cells #[.int .i64 yw, .slice (some ⟨eb, eoff, none⟩) n' c'] 47)).drew from HBt2.out.drew)
                  have hi2 : (0 : Int) < (n' : Int) := by omega
                  have hi3 : 0 < n' := by omega
                  refine wp_region_held_drew (S := (fun w' => has w' wr.heap.size 47 [.int .i64 yw, .slice (some ⟨eb, eoff, none⟩) n' c'] ∧ w'.cell? ⟨eb, eoff, none⟩ = some (.int .i64 xc) ∧ w'.cell? ⟨eb, eoff + 1, none⟩ = some (.int .i64 xt) ∧ w'.cell? ⟨eb, eoff + 2, none⟩ = some (.int .i64 xn) ∧ w'.cell? ⟨eb, eoff + 3, none⟩ = some (.int .i64 xm) ∧ w'.cell? ⟨eb, eoff + 4, none⟩ = some (.int .i64 xk))) (by kernel_rfl) ?_ (fun hH0 => ?_)
                  · exact ⟨HTc.out, (HF.out _ HBc.out).c0, (HF.out _ HBc.out).c1, (HF.out _ HBc.out).c2, (HF.out _ HBc.out).c3, (HF.out _ HBc.out).c4⟩
                  refine wpAnyH_take (i := 0) (oi := _) (v := ?_) rfl (by kernel_rfl) (by kernel_rfl) (by kernel_rfl) (fun _ _ _ h => h) (Or.inl ⟨by rfl, ?_⟩) (by assumption) ?_
                  rotate_left
                  · intro w hSw; (try dsimp only at hSw); obtain ⟨hS1, x5, x6, x7, x8, x9⟩ := hSw; obtain ⟨x0, x1, x2⟩ := two hS1; first | (go_simp; done) | (go_simp; with_reducible rfl)
                  try simp only [go_sem, Act.put, List.getElem_toArray, List.getElem_cons_zero, List.setIfInBounds_toArray, List.set_cons_succ, List.set_cons_zero]
                  refine wpAnyH_take (i := 1) (oi := _) (v := ?_) rfl (by kernel_rfl) (by kernel_rfl) (by kernel_rfl) (fun _ _ _ h => h) (Or.inl ⟨by rfl, ?_⟩) (by assumption) ?_
                  rotate_left
                  · intro w hSw; (try dsimp only at hSw); obtain ⟨hS1, x5, x6, x7, x8, x9⟩ := hSw; obtain ⟨x0, x1, x2⟩ := two hS1; first | (go_simp; done) | (go_simp; with_reducible rfl)
                  try simp only [go_sem, Act.put, List.getElem_toArray, List.getElem_cons_succ, List.getElem_cons_zero, List.setIfInBounds_toArray, List.set_cons_succ, List.set_cons_zero]
                  refine wpAnyH_take (i := 3) (oi := _) (v := ?_) rfl (by kernel_rfl) (by kernel_rfl) (by kernel_rfl) (fun _ _ _ h => h) (Or.inl ⟨by rfl, ?_⟩) (by assumption) ?_
                  rotate_left
                  · intro w hSw; (try dsimp only at hSw); obtain ⟨hS1, x5, x6, x7, x8, x9⟩ := hSw; obtain ⟨x0, x1, x2⟩ := two hS1; first | (go_simp; done) | (go_simp; with_reducible rfl)
                  try simp only [go_sem, Act.put, List.getElem_toArray, List.getElem_cons_succ, List.getElem_cons_zero, List.setIfInBounds_toArray, List.set_cons_succ, List.set_cons_zero]
                  refine wpAnyH_take (i := 4) (oi := _) (v := ?_) rfl (by kernel_rfl) (by kernel_rfl) (by kernel_rfl) (fun _ _ _ h => h) (Or.inl ⟨by rfl, ?_⟩) (by assumption) ?_
                  rotate_left
                  · intro w hSw; (try dsimp only at hSw); obtain ⟨hS1, x5, x6, x7, x8, x9⟩ := hSw; obtain ⟨x0, x1, x2⟩ := two hS1; first | (go_simp; done) | (go_simp; with_reducible rfl)
                  try simp only [go_sem, Act.put, List.getElem_toArray, List.getElem_cons_succ, List.getElem_cons_zero, List.setIfInBounds_toArray, List.set_cons_succ, List.set_cons_zero]
                  refine wpAnyH_take (i := 9) (oi := _) (v := ?_) rfl (by kernel_rfl) (by kernel_rfl) (by kernel_rfl) (fun _ _ _ h => h) (Or.inl ⟨by rfl, ?_⟩) (by assumption) ?_
                  rotate_left
                  · intro w hSw; (try dsimp only at hSw); obtain ⟨hS1, x5, x6, x7, x8, x9⟩ := hSw; obtain ⟨x0, x1, x2⟩ := two hS1; first | (go_simp; done) | (go_simp; with_reducible rfl)
                  try simp only [go_sem, Act.put, List.getElem_toArray, List.getElem_cons_succ, List.getElem_cons_zero, List.setIfInBounds_toArray, List.set_cons_succ, List.set_cons_zero]
                  refine wpAnyH_take (i := 10) (oi := _) (v := ?_) rfl (by kernel_rfl) (by kernel_rfl) (by kernel_rfl) (fun _ _ _ h => h) (Or.inl ⟨by rfl, ?_⟩) (by assumption) ?_
                  rotate_left
                  · intro w hSw; (try dsimp only at hSw); obtain ⟨hS1, x5, x6, x7, x8, x9⟩ := hSw; obtain ⟨x0, x1, x2⟩ := two hS1; first | (go_simp; done) | (go_simp; with_reducible rfl)
                  try simp only [go_sem, Act.put, List.getElem_toArray, List.getElem_cons_succ, List.getElem_cons_zero, List.setIfInBounds_toArray, List.set_cons_succ, List.set_cons_zero]
                  refine wpAnyH_take (i := 11) (oi := _) (v := ?_) rfl (by kernel_rfl) (by kernel_rfl) (by kernel_rfl) (fun _ _ _ h => h) (Or.inl ⟨by rfl, ?_⟩) (by assumption) ?_
                  rotate_left
                  · intro w hSw; (try dsimp only at hSw); obtain ⟨hS1, x5, x6, x7, x8, x9⟩ := hSw; obtain ⟨x0, x1, x2⟩ := two hS1; first | (go_simp; done) | (go_simp; with_reducible rfl)
                  try simp only [go_sem, Act.put, List.getElem_toArray, List.getElem_cons_succ, List.getElem_cons_zero, List.setIfInBounds_toArray, List.set_cons_succ, List.set_cons_zero]
                  refine wpAnyH_take (i := 12) (oi := _) (v := ?_) rfl (by kernel_rfl) (by kernel_rfl) (by kernel_rfl) (fun _ _ _ h => h) (Or.inl ⟨by rfl, ?_⟩) (by assumption) ?_
                  rotate_left
                  · intro w hSw; (try dsimp only at hSw); obtain ⟨hS1, x5, x6, x7, x8, x9⟩ := hSw; obtain ⟨x0, x1, x2⟩ := two hS1; first | (go_simp; done) | (go_simp; with_reducible rfl)
                  try simp only [go_sem, Act.put, List.getElem_toArray, List.getElem_cons_succ, List.getElem_cons_zero, List.setIfInBounds_toArray, List.set_cons_succ, List.set_cons_zero]
                  refine wpAnyH_ready (rs := [2, 13]) (by kernel_rfl) (by simp) ?_
                  refine AllReadyH.cons (o := _) rfl (fun K hK => ?_) (AllReadyH.cons (o := _) rfl (fun K hK => ?_) AllReadyH.nil)
                  · go_simp; have HN := Lib.hid (show has ((wr.alloc (.cells #[.int .i64 yw, .slice (some ⟨eb, eoff, none⟩) n' c'] 47)).drew.alloc (.cells #[.string ⟨#[]⟩, .string ⟨#[100, 105, 101, 115]⟩, .string ⟨#[97, 116, 116, 97, 99, 107, 115]⟩, .string ⟨#[117, 112, 107, 101, 101, 112]⟩] 9)) (wr.heap.size + 1) 9 [.string ⟨#[]⟩, .string ⟨#[100, 105, 101, 115]⟩, .string ⟨#[97, 116, 116, 97, 99, 107, 115]⟩, .string ⟨#[117, 112, 107, 101, 101, 112]⟩] from new1 (by simp) _ _); have HTc := Lib.hid (HTc.out.alloc (.cells #[.string ⟨#[]⟩, .string ⟨#[100, 105, 101, 115]⟩, .string ⟨#[97, 116, 116, 97, 99, 107, 115]⟩, .string ⟨#[117, 112, 107, 101, 101, 112]⟩] 9)); have HMc := Lib.hid (HMc.out.alloc (.cells #[.string ⟨#[]⟩, .string ⟨#[100, 105, 101, 115]⟩, .string ⟨#[97, 116, 116, 97, 99, 107, 115]⟩, .string ⟨#[117, 112, 107, 101, 101, 112]⟩] 9)); have HBc := Lib.hid (HBc.out.alloc HBc.out.size (.cells #[.string ⟨#[]⟩, .string ⟨#[100, 105, 101, 115]⟩, .string ⟨#[97, 116, 116, 97, 99, 107, 115]⟩, .string ⟨#[117, 112, 107, 101, 101, 112]⟩] 9))
                    refine hK.out _ _ ?_ (fun hH1 => ?_)
                    · exact ⟨HTc.out, (HF.out _ HBc.out).c0, (HF.out _ HBc.out).c1, (HF.out _ HBc.out).c2, (HF.out _ HBc.out).c3, (HF.out _ HBc.out).c4⟩
                    clear hK K hH0
                    try simp only [go_sem, Act.put, List.getElem_toArray, List.getElem_cons_succ, List.getElem_cons_zero, List.setIfInBounds_toArray, List.set_cons_succ, List.set_cons_zero]
                    have y4 : yw < 4 := by omega
                    have y0 : 0 ≤ yw := by omega
                    refine wpAnyH_take (i := 5) (oi := _) (v := ?_) rfl (by kernel_rfl) (by kernel_rfl) (by kernel_rfl) (fun _ _ _ h => h) (Or.inl ⟨by rfl, ?_⟩) (by assumption) ?_
                    rotate_left
                    · intro w hSw; (try dsimp only at hSw); obtain ⟨hS1, x5, x6, x7, x8, x9⟩ := hSw; obtain ⟨x0, x1, x2⟩ := two hS1; first | (go_simp; done) | (go_simp; with_reducible rfl)
                    try simp only [go_sem, Act.put, List.getElem_toArray, List.getElem_cons_succ, List.getElem_cons_zero, List.setIfInBounds_toArray, List.set_cons_succ, List.set_cons_zero]
                    refine wpAnyH_ready (rs := [6, 13]) (by kernel_rfl) (by simp) ?_
                    refine AllReadyH.cons (o := _) rfl (fun K hK => ?_) (AllReadyH.cons (o := _) rfl (fun K hK => ?_) AllReadyH.nil)
                    · have hcw := (HN.out.cell yw.toNat).trans (wh_at' yw y1 y3); rw [HWH.out] at hcw; have hge : ∀ h, ([.string ⟨#[]⟩, .string ⟨#[100, 105, 101, 115]⟩, .string ⟨#[97, 116, 116, 97, 99, 107, 115]⟩, .string ⟨#[117, 112, 107, 101, 101, 112]⟩] : List Value)[yw.toNat]'h = .string (bs wh) := (fun h => by have h9 := List.getElem?_eq_some_iff.1 (wh_at' yw y1 y3); rw [HWH.out] at h9; exact h9.2); go_simp; try simp only [hge]
                      refine hK.out _ _ ?_ (fun hH2 => ?_)
                      · exact ⟨HTc.out, (HF.out _ HBc.out).c0, (HF.out _ HBc.out).c1, (HF.out _ HBc.out).c2, (HF.out _ HBc.out).c3, (HF.out _ HBc.out).c4⟩
                      clear hK K hH1
                      try simp only [go_sem, Act.put, List.getElem_toArray, List.getElem_cons_succ, List.getElem_cons_zero, List.setIfInBounds_toArray, List.set_cons_succ, List.set_cons_zero]
                      refine wpAnyH_take (i := 7) (oi := _) (v := ?_) rfl (by kernel_rfl) (by kernel_rfl) (by kernel_rfl) (fun _ _ _ h => h) (Or.inl ⟨by rfl, ?_⟩) (by assumption) ?_
                      rotate_left
                      · intro w hSw; (try dsimp only at hSw); obtain ⟨hS1, x5, x6, x7, x8, x9⟩ := hSw; obtain ⟨x0, x1, x2⟩ := two hS1; first | (go_simp; done) | (go_simp; with_reducible rfl)
                      try simp only [go_sem, Act.put, List.getElem_toArray, List.getElem_cons_succ, List.getElem_cons_zero, List.setIfInBounds_toArray, List.set_cons_succ, List.set_cons_zero]
                      refine wpAnyH_take (i := 8) (oi := _) (v := ?_) rfl (by kernel_rfl) (by kernel_rfl) (by kernel_rfl) (fun _ _ _ h => h) (Or.inl ⟨by rfl, ?_⟩) (by assumption) ?_
                      rotate_left
                      · intro w hSw; (try dsimp only at hSw); obtain ⟨hS1, x5, x6, x7, x8, x9⟩ := hSw; obtain ⟨x0, x1, x2⟩ := two hS1; first | (go_simp; done) | (go_simp; with_reducible rfl)
                      try simp only [go_sem, Act.put, List.getElem_toArray, List.getElem_cons_succ, List.getElem_cons_zero, List.setIfInBounds_toArray, List.set_cons_succ, List.set_cons_zero]
                      refine wpAnyH_ready (rs := [13]) (by kernel_rfl) (by simp) ?_
                      refine AllReadyH.cons (o := _) rfl (fun K hK => ?_) AllReadyH.nil
                      go_simp; refine (HTE0.out _).mono ?_; rintro ee wc ⟨rfl, hbc⟩; have HTc := Lib.hid (HTc.out.below hbc HTc.out.lt); have HMc := Lib.hid (HMc.out.below hbc HMc.out.lt); have HBc := Lib.hid (HBc.out.trans (hbc.mono HBc.out.size))
                      refine hK.out _ _ ?_ (fun hH3 => ?_)
                      · exact ⟨HTc.out, (HF.out _ HBc.out).c0, (HF.out _ HBc.out).c1, (HF.out _ HBc.out).c2, (HF.out _ HBc.out).c3, (HF.out _ HBc.out).c4⟩
                      clear hK K hH2
                      try simp only [go_sem, Act.put, List.getElem_toArray, List.getElem_cons_succ, List.getElem_cons_zero, List.setIfInBounds_toArray, List.set_cons_succ, List.set_cons_zero]
                      refine wpAnyH_take (i := 14) (oi := _) (v := ?_) rfl (by kernel_rfl) (by kernel_rfl) (by kernel_rfl) (fun _ _ _ h => h) (Or.inl ⟨by rfl, ?_⟩) (by assumption) ?_
                      rotate_left
                      · intro w hSw; (try dsimp only at hSw); obtain ⟨hS1, x5, x6, x7, x8, x9⟩ := hSw; obtain ⟨x0, x1, x2⟩ := two hS1; first | (go_simp; done) | (go_simp; with_reducible rfl)
                      try simp only [go_sem, Act.put, List.getElem_toArray, List.getElem_cons_succ, List.getElem_cons_zero, List.setIfInBounds_toArray, List.set_cons_succ, List.set_cons_zero]
                      refine wpAnyH_take (i := 15) (oi := _) (v := ?_) rfl (by kernel_rfl) (by kernel_rfl) (by kernel_rfl) (fun _ _ _ h => h) (Or.inl ⟨by rfl, ?_⟩) (by assumption) ?_
                      rotate_left
                      · intro w hSw; (try dsimp only at hSw); obtain ⟨hS1, x5, x6, x7, x8, x9⟩ := hSw; obtain ⟨x0, x1, x2⟩ := two hS1; first | (go_simp; done) | (go_simp; with_reducible rfl)
                      try simp only [go_sem, Act.put, List.getElem_toArray, List.getElem_cons_succ, List.getElem_cons_zero, List.setIfInBounds_toArray, List.set_cons_succ, List.set_cons_zero]
                      refine wpAnyH_done (by kernel_rfl) ?_ _
                      go_wp2_with fail
                      go_meet
                      case rel => exact ⟨rfl, HTc, HMc, HBc⟩
                    · go_simp; refine (HTE0.out _).mono ?_; rintro ee wc ⟨rfl, hbc⟩; have HTc := Lib.hid (HTc.out.below hbc HTc.out.lt); have HMc := Lib.hid (HMc.out.below hbc HMc.out.lt); have HBc := Lib.hid (HBc.out.trans (hbc.mono HBc.out.size))
                      refine hK.out _ _ ?_ (fun hH2 => ?_)
                      · exact ⟨HTc.out, (HF.out _ HBc.out).c0, (HF.out _ HBc.out).c1, (HF.out _ HBc.out).c2, (HF.out _ HBc.out).c3, (HF.out _ HBc.out).c4⟩
                      clear hK K hH1
                      try simp only [go_sem, Act.put, List.getElem_toArray, List.getElem_cons_succ, List.getElem_cons_zero, List.setIfInBounds_toArray, List.set_cons_succ, List.set_cons_zero]
                      refine wpAnyH_ready (rs := [6]) (by kernel_rfl) (by simp) ?_
                      refine AllReadyH.cons (o := _) rfl (fun K hK => ?_) AllReadyH.nil
                      have HN := Lib.hid (HN.out.below hbc HN.out.lt); have hcw := (HN.out.cell yw.toNat).trans (wh_at' yw y1 y3); rw [HWH.out] at hcw; have hge : ∀ h, ([.string ⟨#[]⟩, .string ⟨#[100, 105, 101, 115]⟩, .string ⟨#[97, 116, 116, 97, 99, 107, 115]⟩, .string ⟨#[117, 112, 107, 101, 101, 112]⟩] : List Value)[yw.toNat]'h = .string (bs wh) := (fun h => by have h9 := List.getElem?_eq_some_iff.1 (wh_at' yw y1 y3); rw [HWH.out] at h9; exact h9.2); go_simp; try simp only [hge]
                      refine hK.out _ _ ?_ (fun hH3 => ?_)
                      · exact ⟨HTc.out, (HF.out _ HBc.out).c0, (HF.out _ HBc.out).c1, (HF.out _ HBc.out).c2, (HF.out _ HBc.out).c3, (HF.out _ HBc.out).c4⟩
                      clear hK K hH2
                      try simp only [go_sem, Act.put, List.getElem_toArray, List.getElem_cons_succ, List.getElem_cons_zero, List.setIfInBounds_toArray, List.set_cons_succ, List.set_cons_zero]
                      refine wpAnyH_take (i := 7) (oi := _) (v := ?_) rfl (by kernel_rfl) (by kernel_rfl) (by kernel_rfl) (fun _ _ _ h => h) (Or.inl ⟨by rfl, ?_⟩) (by assumption) ?_
                      rotate_left
                      · intro w hSw; (try dsimp only at hSw); obtain ⟨hS1, x5, x6, x7, x8, x9⟩ := hSw; obtain ⟨x0, x1, x2⟩ := two hS1; first | (go_simp; done) | (go_simp; with_reducible rfl)
                      try simp only [go_sem, Act.put, List.getElem_toArray, List.getElem_cons_succ, List.getElem_cons_zero, List.setIfInBounds_toArray, List.set_cons_succ, List.set_cons_zero]
                      refine wpAnyH_take (i := 8) (oi := _) (v := ?_) rfl (by kernel_rfl) (by kernel_rfl) (by kernel_rfl) (fun _ _ _ h => h) (Or.inl ⟨by rfl, ?_⟩) (by assumption) ?_
                      rotate_left
                      · intro w hSw; (try dsimp only at hSw); obtain ⟨hS1, x5, x6, x7, x8, x9⟩ := hSw; obtain ⟨x0, x1, x2⟩ := two hS1; first | (go_simp; done) | (go_simp; with_reducible rfl)
                      try simp only [go_sem, Act.put, List.getElem_toArray, List.getElem_cons_succ, List.getElem_cons_zero, List.setIfInBounds_toArray, List.set_cons_succ, List.set_cons_zero]
                      refine wpAnyH_take (i := 14) (oi := _) (v := ?_) rfl (by kernel_rfl) (by kernel_rfl) (by kernel_rfl) (fun _ _ _ h => h) (Or.inl ⟨by rfl, ?_⟩) (by assumption) ?_
                      rotate_left
                      · intro w hSw; (try dsimp only at hSw); obtain ⟨hS1, x5, x6, x7, x8, x9⟩ := hSw; obtain ⟨x0, x1, x2⟩ := two hS1; first | (go_simp; done) | (go_simp; with_reducible rfl)
                      try simp only [go_sem, Act.put, List.getElem_toArray, List.getElem_cons_succ, List.getElem_cons_zero, List.setIfInBounds_toArray, List.set_cons_succ, List.set_cons_zero]
                      refine wpAnyH_take (i := 15) (oi := _) (v := ?_) rfl (by kernel_rfl) (by kernel_rfl) (by kernel_rfl) (fun _ _ _ h => h) (Or.inl ⟨by rfl, ?_⟩) (by assumption) ?_
                      rotate_left
                      · intro w hSw; (try dsimp only at hSw); obtain ⟨hS1, x5, x6, x7, x8, x9⟩ := hSw; obtain ⟨x0, x1, x2⟩ := two hS1; first | (go_simp; done) | (go_simp; with_reducible rfl)
                      try simp only [go_sem, Act.put, List.getElem_toArray, List.getElem_cons_succ, List.getElem_cons_zero, List.setIfInBounds_toArray, List.set_cons_succ, List.set_cons_zero]
                      refine wpAnyH_done (by kernel_rfl) ?_ _
                      go_wp2_with fail
                      go_meet
                      case rel => exact ⟨rfl, HTc, HMc, HBc⟩
                  · go_simp; refine (HTE0.out _).mono ?_; rintro ee wc ⟨rfl, hbc⟩; have HTc := Lib.hid (HTc.out.below hbc HTc.out.lt); have HMc := Lib.hid (HMc.out.below hbc HMc.out.lt); have HBc := Lib.hid (HBc.out.trans (hbc.mono HBc.out.size))
                    refine hK.out _ _ ?_ (fun hH1 => ?_)
                    · exact ⟨HTc.out, (HF.out _ HBc.out).c0, (HF.out _ HBc.out).c1, (HF.out _ HBc.out).c2, (HF.out _ HBc.out).c3, (HF.out _ HBc.out).c4⟩
                    clear hK K hH0
                    try simp only [go_sem, Act.put, List.getElem_toArray, List.getElem_cons_succ, List.getElem_cons_zero, List.setIfInBounds_toArray, List.set_cons_succ, List.set_cons_zero]
                    refine wpAnyH_ready (rs := [2]) (by kernel_rfl) (by simp) ?_
                    refine AllReadyH.cons (o := _) rfl (fun K hK => ?_) AllReadyH.nil
                    go_simp; have HN := Lib.hid (show has (wc.alloc (.cells #[.string ⟨#[]⟩, .string ⟨#[100, 105, 101, 115]⟩, .string ⟨#[97, 116, 116, 97, 99, 107, 115]⟩, .string ⟨#[117, 112, 107, 101, 101, 112]⟩] 9)) (wc.heap.size) 9 [.string ⟨#[]⟩, .string ⟨#[100, 105, 101, 115]⟩, .string ⟨#[97, 116, 116, 97, 99, 107, 115]⟩, .string ⟨#[117, 112, 107, 101, 101, 112]⟩] from new1 (by simp) _ _); have HTc := Lib.hid (HTc.out.alloc (.cells #[.string ⟨#[]⟩, .string ⟨#[100, 105, 101, 115]⟩, .string ⟨#[97, 116, 116, 97, 99, 107, 115]⟩, .string ⟨#[117, 112, 107, 101, 101, 112]⟩] 9)); have HMc := Lib.hid (HMc.out.alloc (.cells #[.string ⟨#[]⟩, .string ⟨#[100, 105, 101, 115]⟩, .string ⟨#[97, 116, 116, 97, 99, 107, 115]⟩, .string ⟨#[117, 112, 107, 101, 101, 112]⟩] 9)); have HBc := Lib.hid (HBc.out.alloc HBc.out.size (.cells #[.string ⟨#[]⟩, .string ⟨#[100, 105, 101, 115]⟩, .string ⟨#[97, 116, 116, 97, 99, 107, 115]⟩, .string ⟨#[117, 112, 107, 101, 101, 112]⟩] 9))
                    refine hK.out _ _ ?_ (fun hH2 => ?_)
                    · exact ⟨HTc.out, (HF.out _ HBc.out).c0, (HF.out _ HBc.out).c1, (HF.out _ HBc.out).c2, (HF.out _ HBc.out).c3, (HF.out _ HBc.out).c4⟩
                    clear hK K hH1
                    try simp only [go_sem, Act.put, List.getElem_toArray, List.getElem_cons_succ, List.getElem_cons_zero, List.setIfInBounds_toArray, List.set_cons_succ, List.set_cons_zero]
                    have y4 : yw < 4 := by omega
                    have y0 : 0 ≤ yw := by omega
                    refine wpAnyH_take (i := 5) (oi := _) (v := ?_) rfl (by kernel_rfl) (by kernel_rfl) (by kernel_rfl) (fun _ _ _ h => h) (Or.inl ⟨by rfl, ?_⟩) (by assumption) ?_
                    rotate_left
                    · intro w hSw; (try dsimp only at hSw); obtain ⟨hS1, x5, x6, x7, x8, x9⟩ := hSw; obtain ⟨x0, x1, x2⟩ := two hS1; first | (go_simp; done) | (go_simp; with_reducible rfl)
                    try simp only [go_sem, Act.put, List.getElem_toArray, List.getElem_cons_succ, List.getElem_cons_zero, List.setIfInBounds_toArray, List.set_cons_succ, List.set_cons_zero]
                    refine wpAnyH_ready (rs := [6]) (by kernel_rfl) (by simp) ?_
                    refine AllReadyH.cons (o := _) rfl (fun K hK => ?_) AllReadyH.nil
                    have hcw := (HN.out.cell yw.toNat).trans (wh_at' yw y1 y3); rw [HWH.out] at hcw; have hge : ∀ h, ([.string ⟨#[]⟩, .string ⟨#[100, 105, 101, 115]⟩, .string ⟨#[97, 116, 116, 97, 99, 107, 115]⟩, .string ⟨#[117, 112, 107, 101, 101, 112]⟩] : List Value)[yw.toNat]'h = .string (bs wh) := (fun h => by have h9 := List.getElem?_eq_some_iff.1 (wh_at' yw y1 y3); rw [HWH.out] at h9; exact h9.2); go_simp; try simp only [hge]
                    refine hK.out _ _ ?_ (fun hH3 => ?_)
                    · exact ⟨HTc.out, (HF.out _ HBc.out).c0, (HF.out _ HBc.out).c1, (HF.out _ HBc.out).c2, (HF.out _ HBc.out).c3, (HF.out _ HBc.out).c4⟩
                    clear hK K hH2
                    try simp only [go_sem, Act.put, List.getElem_toArray, List.getElem_cons_succ, List.getElem_cons_zero, List.setIfInBounds_toArray, List.set_cons_succ, List.set_cons_zero]
                    refine wpAnyH_take (i := 7) (oi := _) (v := ?_) rfl (by kernel_rfl) (by kernel_rfl) (by kernel_rfl) (fun _ _ _ h => h) (Or.inl ⟨by rfl, ?_⟩) (by assumption) ?_
                    rotate_left
                    · intro w hSw; (try dsimp only at hSw); obtain ⟨hS1, x5, x6, x7, x8, x9⟩ := hSw; obtain ⟨x0, x1, x2⟩ := two hS1; first | (go_simp; done) | (go_simp; with_reducible rfl)
                    try simp only [go_sem, Act.put, List.getElem_toArray, List.getElem_cons_succ, List.getElem_cons_zero, List.setIfInBounds_toArray, List.set_cons_succ, List.set_cons_zero]
                    refine wpAnyH_take (i := 8) (oi := _) (v := ?_) rfl (by kernel_rfl) (by kernel_rfl) (by kernel_rfl) (fun _ _ _ h => h) (Or.inl ⟨by rfl, ?_⟩) (by assumption) ?_
                    rotate_left
                    · intro w hSw; (try dsimp only at hSw); obtain ⟨hS1, x5, x6, x7, x8, x9⟩ := hSw; obtain ⟨x0, x1, x2⟩ := two hS1; first | (go_simp; done) | (go_simp; with_reducible rfl)
                    try simp only [go_sem, Act.put, List.getElem_toArray, List.getElem_cons_succ, List.getElem_cons_zero, List.setIfInBounds_toArray, List.set_cons_succ, List.set_cons_zero]
                    refine wpAnyH_take (i := 14) (oi := _) (v := ?_) rfl (by kernel_rfl) (by kernel_rfl) (by kernel_rfl) (fun _ _ _ h => h) (Or.inl ⟨by rfl, ?_⟩) (by assumption) ?_
                    rotate_left
                    · intro w hSw; (try dsimp only at hSw); obtain ⟨hS1, x5, x6, x7, x8, x9⟩ := hSw; obtain ⟨x0, x1, x2⟩ := two hS1; first | (go_simp; done) | (go_simp; with_reducible rfl)
                    try simp only [go_sem, Act.put, List.getElem_toArray, List.getElem_cons_succ, List.getElem_cons_zero, List.setIfInBounds_toArray, List.set_cons_succ, List.set_cons_zero]
                    refine wpAnyH_take (i := 15) (oi := _) (v := ?_) rfl (by kernel_rfl) (by kernel_rfl) (by kernel_rfl) (fun _ _ _ h => h) (Or.inl ⟨by rfl, ?_⟩) (by assumption) ?_
                    rotate_left
                    · intro w hSw; (try dsimp only at hSw); obtain ⟨hS1, x5, x6, x7, x8, x9⟩ := hSw; obtain ⟨x0, x1, x2⟩ := two hS1; first | (go_simp; done) | (go_simp; with_reducible rfl)
                    try simp only [go_sem, Act.put, List.getElem_toArray, List.getElem_cons_succ, List.getElem_cons_zero, List.setIfInBounds_toArray, List.set_cons_succ, List.set_cons_zero]
                    refine wpAnyH_done (by kernel_rfl) ?_ _
                    go_wp2_with fail
                    go_meet
                    case rel => exact ⟨rfl, HTc, HMc, HBc⟩
                case rest =>
                  obtain ⟨rfl, HTx, HMx, HBx⟩ := hcut
                  clear HT0 HMt HBt HBt2 c5 c6 c7 c8
                  obtain ⟨v0, v1, v2⟩ := two HTx.out
                  have HBw := Lib.hid (HB.out.trans (HBx.out.mono HB.out.size))
                  by_cases h2 : 1 < n'
                  · have h2i : (1 : Int) < (n' : Int) := by omega
                    have g1 := (HG1.out h2).below HBx.out heb
                    have HT1 := Lib.hid (HTE1.out h2)
                    have HTQ : Hid (trT ⟨yw, ye⟩ = wh ++ [58, 32] ++ t0 ++ ([32, 97, 110, 100, 32] ++ t1)) := Lib.hid (by rw [HTR.out, if_pos h2])
                    clear h2 HTE1 HG1
                    obtain ⟨zc, zt, zn, zm, zk⟩ := z1
                    obtain ⟨f0, f1, f2, f3, f4⟩ := g1
                    dsimp only at f0 f1 f2 f3 f4
                    have c5 : ∀ w, (Op.stringOp .add (bs Lp) ⟨#[32, 97, 110, 100, 32]⟩).run Tryz.prog w = .ok (.string (bs (Lp ++ [32, 97, 110, 100, 32]))) w := cat_run Lp [32, 97, 110, 100, 32] (by first | omega | (simp; omega))
                    obtain ⟨Lq, hLq⟩ : ∃ ZZ, Lp ++ [32, 97, 110, 100, 32] = ZZ := ⟨_, rfl⟩
                    rw [hLq] at c5
                    have nLq : Lq.length = Lp.length + 5 := by rw [← hLq, List.length_append]; rfl
                    have c6 : ∀ w, (Op.stringOp .add (bs Lq) (bs (t1))).run Tryz.prog w = .ok (.string (bs (Lq ++ (t1)))) w := cat_run Lq (t1) (by first | omega | (simp; omega))
                    obtain ⟨Lr, hLr⟩ : ∃ ZZ, Lq ++ (t1) = ZZ := ⟨_, rfl⟩
                    rw [hLr] at c6
                    have nLr : Lr.length = Lq.length + ((t1) : List UInt8).length := by rw [← hLr, List.length_append]
                    have HR : Hid (Lr = Lib.join ((([nm, [116, 114, 105, 99, 107, 32] ++ co] ++ kwT kk 4) ++ e.map textE) ++ (l.take (q + 1)).map trT) [44, 32]) := Lib.hid (by rw [← hLr, ← hLq, HLp.out, HTK.out, HTQ.out, HL.out, ← List.append_assoc, show (([nm, [116, 114, 105, 99, 107, 32] ++ co] ++ kwT kk 4) ++ e.map textE) ++ (l.take q).map trT = nm :: ((([[116, 114, 105, 99, 107, 32] ++ co] ++ kwT kk 4) ++ e.map textE) ++ (l.take q).map trT) from by simp, join_snoc]; simp only [List.append_assoc])
                    have hl3 : Lr.length ≤ 340 + 110 * (q + 1) := by omega
                    clear hLr hLq nLr nLq HTQ HTK
                    go_wp2_with fail
                    refine (HT1.out _).mono ?_; rintro ee wd ⟨rfl, hbd⟩
                    have HMq := Lib.hid (HMx.out.below hbd HMx.out.lt)
                    have HBq := Lib.hid (next HBw.out hbd)
                    clear hbd
                    go_wp2_with fail
                    exact ⟨⟨q + 1, Lr, by omega, by go_num, rfl, hl3, HR, HMq, HBq⟩, by simp [intOf]; omega⟩
                  · have h2i : ¬ (1 : Int) < (n' : Int) := by omega
                    have HR : Hid (Lp = Lib.join ((([nm, [116, 114, 105, 99, 107, 32] ++ co] ++ kwT kk 4) ++ e.map textE) ++ (l.take (q + 1)).map trT) [44, 32]) := Lib.hid (by rw [HLp.out, HTK.out, HTR.out, if_neg h2, HL.out, ← List.append_assoc, show (([nm, [116, 114, 105, 99, 107, 32] ++ co] ++ kwT kk 4) ++ e.map textE) ++ (l.take q).map trT = nm :: ((([[116, 114, 105, 99, 107, 32] ++ co] ++ kwT kk 4) ++ e.map textE) ++ (l.take q).map trT) from by simp, join_snoc]; simp only [List.append_assoc, List.append_nil])
                    clear h2 HTR HTK
                    go_wp2_with fail
                    exact ⟨⟨q + 1, Lp, by omega, by go_num, rfl, by omega, HR, HMx, HBw⟩, by simp [intOf]; omega⟩
              · obtain rfl : tn = q := by omega
                have cy12 := HM.out.cell 12
                have HTT : Hid (l.take tn = l) := Lib.hid (List.take_of_length_le (by rw [HLT.out]; exact Nat.le_refl _))
                go_wp2_with fail
                go_ret
                exact ⟨by rw [HL.out, HTT.out]; rfl, HB.out⟩
end Go.Proofs.YtkappnnoienhnaaGreatDoor.caFn

/- The line of a valid card, by the reference. -/
namespace Go.Proofs.YtkappnnoienhnaaGreatDoor.caFn
open Go.ChangeShapes Go.WideShapes Go.ChangeAt Go.RowKit drMem efFn
set_option linter.unusedVariables false

theorem rLine_c (s : ByteArray) (kd a b c d x m p t k : Int) (es : Option Addr) (en ec : Nat) (ts : Option Addr) (tn tc : Nat) (r : Int) (e : List Ef) (l : List Tr) (w : World) (h : CdAt w es en e ts tn l) (ho : okCd ⟨s.data.toList, kd, a, b, c, d, x, m, p, t, k, e, l, r⟩ = true) :
    Calls Tryz.prog 11 #[cV s kd a b c d x m p t k es en ec ts tn tc r] w fun v w' => v = .returned (.string (bs (lineT ⟨s.data.toList, kd, a, b, c, d, x, m, p, t, k, e, l, r⟩))) ∧ Below w.heap.size w w' := by
  obtain ⟨hn, hr, hkind⟩ := okCd_parts ho
  have hnl := nameB_len hn
  have hb := okCd_bd ho
  obtain ⟨_, _, _, a0, b0, c0, d0, x0, _, p0, t0, k0, eA, tr0, _⟩ := hb
  dsimp only at a0 b0 c0 d0 x0 p0 t0 k0 eA tr0 hnl
  rw [h.t.n] at tr0
  rcases kind_cases hkind with ⟨q0, hs⟩ | ⟨q0, hs⟩ | ⟨q0, hs⟩
  · obtain ⟨g1, ⟨g2, g3, g4, g5, g6⟩, g7, g8, g9, ga, gb⟩ := srcB_bd hs
    dsimp only at q0 g1 g2 g3 g4 g5 g6 g7 g8 g9 ga gb
    subst q0 g2 g3 g4 g5 g6 g7 g8 g9 ga gb
    have := rline_1 s.data.toList m r 0 0 0 0 0 0 0 0 es en ec ts tn tc w hnl.2 g1
    have e1 : lineT ⟨s.data.toList, 1, 0, 0, 0, 0, 0, m, 0, 0, 0, [], [], r⟩ = Lib.join [s.data.toList, [115, 111, 117, 114, 99, 101, 32, 111, 102, 32] ++ letT m] [44, 32] := by
      have hk : kwT 0 4 = [] := by decide
      unfold lineT partsT kdT ptT
      simp [hk]
    rw [e1]
    exact this
  all_goals
    obtain ⟨ka, rfl⟩ : ∃ ka : Nat, a = ka := ⟨a.toNat, by omega⟩
    obtain ⟨kb, rfl⟩ : ∃ kb : Nat, b = kb := ⟨b.toNat, by omega⟩
    obtain ⟨kc, rfl⟩ : ∃ kc : Nat, c = kc := ⟨c.toNat, by omega⟩
    obtain ⟨kdd, rfl⟩ : ∃ kdd : Nat, d = kdd := ⟨d.toNat, by omega⟩
    obtain ⟨kx, rfl⟩ : ∃ kx : Nat, x = kx := ⟨x.toNat, by omega⟩
    obtain ⟨kp, rfl⟩ : ∃ kp : Nat, p = kp := ⟨p.toNat, by omega⟩
    obtain ⟨kt, rfl⟩ : ∃ kt : Nat, t = kt := ⟨t.toNat, by omega⟩
    obtain ⟨kk, rfl⟩ : ∃ kk : Nat, k = kk := ⟨k.toNat, by omega⟩
  · obtain ⟨g1, g2, g3, g4, g5, g6, g7⟩ := creB_bd hs
    dsimp only at q0 g1 g2 g3 g4 g5 g7
    subst q0
    have hT : ∀ t ∈ l, (1 ≤ t.w ∧ t.w ≤ 3) ∧ (1 ≤ t.e.length ∧ t.e.length ≤ 2) ∧ allB t.e = true := fun t ht => by
      obtain ⟨b1, b2, b3, _⟩ := trB_bd ((trsB_bd g7).2 t ht)
      exact ⟨b1, b2, b3⟩
    have hcl := costT_len (q := ⟨s.data.toList, 2, ka, kb, kc, kdd, kx, m, kp, kt, kk, e, l, r⟩) g1
    have := rline_2 s.data.toList m r ka kb kc kdd kx kp kt kk es en ec ts tn tc e l w h hnl.2 g1 (by omega) (by omega) (by omega) eA tr0 hT _ rfl hcl
    have e1 : lineT ⟨s.data.toList, 2, ka, kb, kc, kdd, kx, m, kp, kt, kk, e, l, r⟩ = Lib.join ((([s.data.toList, [99, 114, 101, 97, 116, 117, 114, 101, 32] ++ maFn.textL ka kb kc kdd kx] ++ [tab kp ++ [47] ++ tab kt]) ++ kwT kk 4) ++ e.map textE ++ l.map trT) [44, 32] := by
      rw [← dec_tab kp (by omega), ← dec_tab kt (by omega)]; rfl
    rw [e1]
    exact this
  · obtain ⟨g1, g2, g3, g4, g5, g6, g7, g8⟩ := splB_bd hs
    dsimp only at q0 g1 g2 g3 g4 g5 g6 g7 g8
    subst g8
    rcases q0 with rfl | rfl
    · have hcl := costT_len (q := ⟨s.data.toList, 3, ka, kb, kc, kdd, kx, m, kp, kt, kk, e, [], r⟩) g1
      have := rline_3 s.data.toList m r ka kb kc kdd kx kp kt kk es en ec ts tn tc e [] w h hnl.2 g1 (by omega) (by omega) (by omega) eA tr0 (by simp) _ rfl hcl
      exact this
    · have hcl := costT_len (q := ⟨s.data.toList, 4, ka, kb, kc, kdd, kx, m, kp, kt, kk, e, [], r⟩) g1
      have := rline_4 s.data.toList m r ka kb kc kdd kx kp kt kk es en ec ts tn tc e [] w h hnl.2 g1 (by omega) (by omega) (by omega) eA tr0 (by simp) _ rfl hcl
      exact this
end Go.Proofs.YtkappnnoienhnaaGreatDoor.caFn
