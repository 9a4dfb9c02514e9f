/- What the reference's Pick returns. -/
import Derived.Test.YtefncefmolphfaaDrRef3
import Derived.Test.YtefncefmolphfaaDrRefMath
namespace Go.Proofs.Ytefncefmolphfaa.drFn
open Go.ChangeShapes Go.WideShapes Go.ChangeAt Go.RowKit drMem
set_option linter.unusedVariables false

theorem infoB : (Try.prog.info? 4).map (fun i => (i.zero, i.size, i.bytes)) = some (some (.bool false), 1, 1) := by kernel_rfl
def bs (fl : List Bool) : List Value := fl.map Value.bool
theorem bs_get (fl : List Bool) (j : Nat) (h : j < fl.length) : (bs fl)[j]? = some (.bool (fl.getD j true)) := by simp [bs, h, List.getD_eq_getElem?_getD]
theorem bs_set (fl : List Bool) (i : Nat) (x : Bool) : (bs fl).set i (.bool x) = bs (fl.set i x) := by simp [bs, List.map_set]

set_option maxHeartbeats 1000000 in
theorem rPick_arg (sp : Option Addr) (c : Nat) (l : List Nat) (u : Nat) (m n : Int) (B : Nat) (w : World) (h : Lf B w sp (l.length - u) c (l.drop u)) (hx : n < 0 ∨ 65536 < n ∨ m < 0 ∨ n < m) :
    Calls Try.prog 16 #[.agg #[.slice sp (l.length - u) c, .int .i64 (u : Int)], .int .i64 m, .int .i64 n] w (rsPost B w l u [] 2) := by
  have H := Lib.hid h
  clear h
  by_cases k1 : n < 0
  · clear hx
    go_enter Try.func16, Try.ntmps16
    go_wp2
    exact bodyPost_ret (v := .tuple #[.agg #[.slice sp (l.length - u) c, .int .i64 (u : Int)], .slice none 0 0, .int .i64 2]) (by simp [results, Try.results16, go_sem]) rfl ⟨_, c, _, rfl, H.out, rOut_none _ _, rs_back⟩
  · have d1 : decide (n < 0) = false := by simpa using k1
    by_cases k2 : 65536 < n
    · clear hx
      go_enter Try.func16, Try.ntmps16
      go_wp2
      exact bodyPost_ret (v := .tuple #[.agg #[.slice sp (l.length - u) c, .int .i64 (u : Int)], .slice none 0 0, .int .i64 2]) (by simp [results, Try.results16, go_sem]) rfl ⟨_, c, _, rfl, H.out, rOut_none _ _, rs_back⟩
    · have d2 : decide (65536 < n) = false := by simpa using k2
      by_cases k3 : m < 0
      · clear hx
        go_enter Try.func16, Try.ntmps16
        go_wp2
        exact bodyPost_ret (v := .tuple #[.agg #[.slice sp (l.length - u) c, .int .i64 (u : Int)], .slice none 0 0, .int .i64 2]) (by simp [results, Try.results16, go_sem]) rfl ⟨_, c, _, rfl, H.out, rOut_none _ _, rs_back⟩
      · have d3 : decide (m < 0) = false := by simpa using k3
        have k4 : n < m := by omega
        clear hx
        go_enter Try.func16, Try.ntmps16
        go_wp2
        exact bodyPost_ret (v := .tuple #[.agg #[.slice sp (l.length - u) c, .int .i64 (u : Int)], .slice none 0 0, .int .i64 2]) (by simp [results, Try.results16, go_sem]) rfl ⟨_, c, _, rfl, H.out, rOut_none _ _, rs_back⟩
set_option maxHeartbeats 400000 in
theorem rPick_end (sp : Option Addr) (c : Nat) (l : List Nat) (u : Nat) (many bound : Nat) (B : Nat) (w : World) (h : Lf B w sp (l.length - u) c (l.drop u)) (hb : bound ≤ 65536) (hm : many ≤ bound) (hr : l.length - u < many) :
    Calls Try.prog 16 #[.agg #[.slice sp (l.length - u) c, .int .i64 (u : Int)], .int .i64 (many : Int), .int .i64 (bound : Int)] w (rsPost B w l u [] 16) := by
  have H := Lib.hid h
  have d1 : decide ((bound : Int) < 0) = false := by simp
  have d2 : decide (65536 < (bound : Int)) = false := by simp; omega
  have d3 : decide ((many : Int) < 0) = false := by simp
  have d4 : decide (bound < many) = false := by simp; omega
  have d5 : decide (l.length - u < many) = true := by simp; omega
  clear h
  go_enter Try.func16, Try.ntmps16
  go_wp2
  exact bodyPost_ret (v := .tuple #[.agg #[.slice sp (l.length - u) c, .int .i64 (u : Int)], .slice none 0 0, .int .i64 16]) (by simp [results, Try.results16, go_sem]) rfl ⟨_, c, _, rfl, H.out, rOut_none _ _, rs_back⟩

/- the reference's picking after k rounds: the draws in their box, the result's cells, the flags -/
structure RPk (B : Nat) (w : World) (l : List Nat) (u0 many n : Nat) (full : List Int) (k : Nat) (W : World) : Prop where
  t : ∃ sp c, has W w.heap.size 32 [.slice sp (l.length - (u0 + k)) c, .int .i64 ((u0 + k : Nat) : Int)] ∧ Lf B w sp (l.length - (u0 + k)) c (l.drop (u0 + k))
  r : has W (w.heap.size + 1) 32 [.slice none 0 0, .int .i64 0]
  f : ∃ (fl : List Bool) (ps : List Int), fl.length = n ∧ has W (w.heap.size + 2) 4 (bs fl) ∧ (dnL 0 fl).length = n - k ∧ ps ++ pickGo l (u0 + k) (many - k) (dnL 0 fl) = full ∧ (upF 0 fl).Perm ps
  b : Below w.heap.size w W
theorem rpk_next {B : Nat} {w W : World} {l : List Nat} {u0 many n k j q u' : Nat} {full ps : List Int} {fl : List Bool} {sp' : Option Addr} {c' : Nat} (hk : k < many) (hm : many ≤ n) (hu : u0 + k = u') (hj : pick1 l u' (n - k) = j)
    (ht : has W w.heap.size 32 [.slice sp' (l.length - (u' + 1)) c', .int .i64 ((u' : Int) + 1)]) (hlf : Lf B w sp' (l.length - (u' + 1)) c' (l.drop (u' + 1)))
    (hr : has W (w.heap.size + 1) 32 [.slice none 0 0, .int .i64 0]) (hfl : fl.length = n) (hbs : has W (w.heap.size + 2) 4 (bs fl)) (hdn : (dnL 0 fl).length = n - k)
    (hpk : ps ++ pickGo l u' (many - k) (dnL 0 fl) = full) (hup : (upF 0 fl).Perm ps) (hf : Below w.heap.size w W) (hq : q < n) (hfq : fl.getD q true = false) (hjq : (dnL 0 (fl.take q)).length = j) :
    RPk B w l u0 many n full (k + 1) (W.setCell ⟨w.heap.size + 2, q, none⟩ (.bool true)) := by
  have e : u0 + (k + 1) = u' + 1 := by omega
  obtain ⟨f1, f2, f3⟩ := flag_up fl q (by omega) hfq
  rw [hjq] at f1 f2
  have hjl : j < (dnL 0 fl).length := by rw [hdn, ← hj]; exact Nat.mod_lt _ (by omega)
  refine ⟨⟨sp', c', ?_, by rw [e]; exact hlf⟩, hr.far (p := ⟨w.heap.size + 2, q, none⟩) (by simp) _, ⟨fl.set q true, ps ++ [(q : Int)], by simp [hfl], ?_, ?_, ?_, ?_⟩, hf.setCell (p := ⟨w.heap.size + 2, q, none⟩) (by simp) _⟩
  · rw [e]; exact ht.far (p := ⟨w.heap.size + 2, q, none⟩) (by simp) _
  · have := hbs.put q (.bool true)
    rw [bs_set] at this; exact this
  · rw [f1, List.length_eraseIdx_of_lt hjl]; omega
  · obtain ⟨m, hm'⟩ : ∃ m, many - k = m + 1 := ⟨many - k - 1, by omega⟩
    rw [hm', pickGo, hdn, hj, f2] at hpk
    rw [show many - (k + 1) = m by omega, e, f1, ← hpk]
    simp
  · exact f3.trans ((hup.cons _).trans (List.perm_append_singleton _ _).symm)
set_option maxRecDepth 100000 in
set_option maxHeartbeats 2000000 in
theorem rPick_ok (sp : Option Addr) (c : Nat) (l : List Nat) (u : Nat) (many n : Nat) (B : Nat) (w : World) (hBw : B ≤ w.heap.size) (h : Lf B w sp (l.length - u) c (l.drop u)) (hb : n ≤ 65536) (hm : many ≤ n) (hr : many ≤ l.length - u) (hll : l.length ≤ 65536) :
    Calls Try.prog 16 #[.agg #[.slice sp (l.length - u) c, .int .i64 (u : Int)], .int .i64 (many : Int), .int .i64 (n : Int)] w (rsPost B w l (u + many) ((pickGo l u many (upL n n)).mergeSort fun x y => decide (x ≤ y)) 0) := by
  have hmk := fun W => run_make_row' (P := Try.prog) 67 4 (.bool false) 1 Try.underlying67 infoB rfl .i64 .i64 n (by omega) (by omega) W
  obtain ⟨i0, hi, hz0, hz1, hz2⟩ := info_parts infoI
  have d1 : decide ((n : Int) < 0) = false := by simp
  have d2 : decide (65536 < (n : Int)) = false := by simp; omega
  have d3 : decide ((many : Int) < 0) = false := by simp
  have d4 : decide (n < many) = false := by simp; omega
  have d5 : decide (l.length - u < many) = false := by simp; omega
  have hst : RPk B w l u many n (pickGo l u many (upL n n)) 0 (((w.alloc (.cells #[.slice sp (l.length - u) c, .int .i64 (u : Int)] 32)).alloc (.cells #[.slice none 0 0, .int .i64 0] 32)).alloc (.cells (madeCells #[.bool false] n) 4)) := by
    have e1 : (w.alloc (.cells #[.slice sp (l.length - u) c, .int .i64 (u : Int)] 32)).heap.size = w.heap.size + 1 := by simp
    have e2 : ((w.alloc (.cells #[.slice sp (l.length - u) c, .int .i64 (u : Int)] 32)).alloc (.cells #[.slice none 0 0, .int .i64 0] 32)).heap.size = w.heap.size + 2 := by simp
    have g1 := has.new (w.alloc (.cells #[.slice sp (l.length - u) c, .int .i64 (u : Int)] 32)) 32 [.slice none 0 0, .int .i64 0]
    rw [e1] at g1
    have g2 := has.new ((w.alloc (.cells #[.slice sp (l.length - u) c, .int .i64 (u : Int)] 32)).alloc (.cells #[.slice none 0 0, .int .i64 0] 32)) 4 (bs (List.replicate n false))
    rw [e2] at g2
    refine ⟨⟨sp, c, ((has.new w _ [.slice sp (l.length - u) c, .int .i64 (u : Int)]).alloc _).alloc _, h⟩, g1.alloc _, ⟨List.replicate n false, [], by simp, ?_, ?_, ?_, ?_⟩, (((Below.refl _ _).alloc (Nat.le_refl _) _).alloc (by simp) _).alloc (by simp; omega) _⟩
    · rw [made_list]; simpa [bs] using g2
    · rw [dnL_none]; simp
    · rw [dnL_none, upL_full, List.nil_append, Nat.add_zero, Nat.sub_zero]; simp
    · rw [upF_none]
  have HST := Lib.hid hst
  clear h hst
  go_enter Try.func16, Try.ntmps16
  go_wp2
  go_loopg [10] many (fun gh i wx => ∃ k : Nat, k ≤ many ∧ gh = many - k ∧ i = .int .i64 k ∧ Hid (RPk B w l u many n (pickGo l u many (upL n n)) k wx))
  case atStart => exact ⟨0, Nat.zero_le _, rfl, rfl, HST⟩
  case round =>
    obtain ⟨k, hk, rfl, rfl, HR⟩ := hrel
    clear HST
    obtain ⟨⟨tsp, tc, ht, hlf⟩, hr1, ⟨fl, ps, hfl, hbs, hdn, hpk, hup⟩, hf⟩ := HR.out
    obtain ⟨u', hu'⟩ : ∃ u', u + k = u' := ⟨_, rfl⟩
    rw [hu'] at ht hlf hpk
    have c0 : wr.cell? ⟨w.heap.size, 0, none⟩ = some (.slice tsp (l.length - u') tc) := by rw [ht.cell]; rfl
    have c1 : wr.cell? ⟨w.heap.size, 1, none⟩ = some (.int .i64 (u' : Int)) := by rw [ht.cell]; rfl
    have T := Lib.hid ht
    have LF := Lib.hid hlf
    have R := Lib.hid hr1
    have FL := Lib.hid hfl
    have BS := Lib.hid hbs
    have DN := Lib.hid hdn
    have PK := Lib.hid hpk
    have UP := Lib.hid hup
    have F := Lib.hid hf
    have UE := Lib.hid hu'
    clear ht hlf hr1 hfl hbs hdn hpk hup hf HR
    by_cases hlt : k < many
    · have hul : u' + 1 ≤ l.length := by omega
      have hul0 : u' ≤ 65536 := by omega
      have hcall := rchoose_any tsp (l.length - u') tc (l.drop u') (u' : Int) (n - k) B wr (Nat.le_trans hBw F.out.size) (LF.out.below (F.out.mono hBw)) (by omega) (by omega) (by omega) (by omega) (by omega)
      rw [show ((n - k : Nat) : Int) = (n : Int) - (k : Int) by omega] at hcall
      have CALL := Lib.hid hcall
      clear hcall hu'
      go_wp2_with fail
      refine CALL.out.mono ?_
      rintro e w3 ⟨sp', c', rfl, hlf, hb⟩
      have e1 : l.length - u' - 1 = l.length - (u' + 1) := by omega
      have e2 : (l.drop u').drop 1 = l.drop (u' + 1) := by rw [List.drop_drop]
      have e3 : (l.drop u').getD 0 0 % (n - k) = pick1 l u' (n - k) := by unfold pick1; rw [getD_drop, Nat.add_zero]
      rw [e1, e3]
      rw [e1, e2] at hlf
      obtain ⟨j, hj⟩ : ∃ j, pick1 l u' (n - k) = j := ⟨_, rfl⟩
      have hjk : j < n - k := by rw [← hj]; exact Nat.mod_lt _ (by omega)
      rw [hj]
      have t3 := T.out.below hb T.out.lt
      have r3 := R.out.below hb R.out.lt
      have f3 := BS.out.below hb BS.out.lt
      have a0 : w3.cell? ⟨w.heap.size, 0, none⟩ = some (.slice tsp (l.length - u') tc) := by rw [t3.cell]; rfl
      have a1 : w3.cell? ⟨w.heap.size, 1, none⟩ = some (.int .i64 (u' : Int)) := by rw [t3.cell]; rfl
      have a2 : w3.frozen? ⟨w.heap.size, 0, none⟩ = false := t3.free 0
      have a3 : w3.frozen? ⟨w.heap.size, 1, none⟩ = false := t3.free 1
      have a4 : w.heap.size < w3.heap.size := t3.lt
      obtain ⟨W5, hW5⟩ : ∃ W5, W5 = ((w3.setCell ⟨w.heap.size, 0, none⟩ (.slice sp' (l.length - (u' + 1)) c')).setCell ⟨w.heap.size, 1, none⟩ (.int .i64 ((u' : Int) + 1))).alloc (.cells #[.slice sp' (l.length - (u' + 1)) c', .int .i64 ((u' : Int) + 1)] 32) := ⟨_, rfl⟩
      have t5 : has W5 w.heap.size 32 [.slice sp' (l.length - (u' + 1)) c', .int .i64 ((u' : Int) + 1)] := by rw [hW5]; exact ((t3.put 0 _).put 1 _).alloc _
      have r5 : has W5 (w.heap.size + 1) 32 [.slice none 0 0, .int .i64 0] := by rw [hW5]; exact ((r3.far (p := ⟨w.heap.size, 0, none⟩) (by simp) _).far (p := ⟨w.heap.size, 1, none⟩) (by simp) _).alloc _
      have f5 : has W5 (w.heap.size + 2) 4 (bs fl) := by rw [hW5]; exact ((f3.far (p := ⟨w.heap.size, 0, none⟩) (by simp) _).far (p := ⟨w.heap.size, 1, none⟩) (by simp) _).alloc _
      have b5 : Below w.heap.size w W5 := by
        rw [hW5]
        have h1 := ((F.out.trans (hb.mono F.out.size)).setCell (p := ⟨w.heap.size, 0, none⟩) (Nat.le_refl _) (.slice sp' (l.length - (u' + 1)) c')).setCell (p := ⟨w.heap.size, 1, none⟩) (Nat.le_refl _) (.int .i64 ((u' : Int) + 1))
        exact h1.alloc h1.size _
      have hnx := fun q h1 h2 h3 => rpk_next (q := q) hlt hm UE.out hj t5 (hlf.back (F.out.mono hBw)) r5 FL.out f5 DN.out PK.out UP.out b5 h1 h2 h3
      have NX := Lib.hid hnx
      have F5 := Lib.hid f5
      have HW5 := Lib.hid hW5
      clear hnx t3 r3 f3 t5 r5 f5 b5 hj hlf hb e1 e2 e3 CALL T LF R BS PK UP F UE hul hW5
      go_wp2
      go_loopg [12, 13] n (fun gh s12 s13 wx => ∃ q jj : Nat, q ≤ n ∧ gh = n - q ∧ s13 = .int .i64 q ∧ s12 = .int .i64 jj ∧ Hid (jj + (dnL 0 (fl.take q)).length = j) ∧ Hid (W5 = wx))
      case atStart => exact ⟨0, j, Nat.zero_le _, rfl, rfl, rfl, Lib.hid (by simp [dnL]), HW5⟩
      case round =>
        obtain ⟨q, jj, hq, rfl, rfl, rfl, hjj, hw⟩ := hrel
        have hw' := hw.out
        clear hw HW5 a0 a1 a2 a3 a4
        subst hw'
        by_cases hqn : q < n
        · have x0 : W5.cell? ⟨w.heap.size + 2, q, none⟩ = some (.bool (fl.getD q true)) := by rw [F5.out.cell]; exact bs_get fl q (by rw [FL.out]; exact hqn)
          have x1 : W5.frozen? ⟨w.heap.size + 2, q, none⟩ = false := F5.out.free q
          have hdt := dn_take fl q (by rw [FL.out]; exact hqn)
          have hjle : jj ≤ j := by have := hjj.out; omega
          cases hfq : fl.getD q true with
          | true =>
            rw [hfq] at x0 hdt
            have NJ : Hid (jj + (dnL 0 (fl.take (q + 1))).length = j) := Lib.hid (by have := hjj.out; simp at hdt; omega)
            clear hdt hfq hjj
            go_wp2
            go_roundg (n - (q + 1))
            case measure => go_light; omega
            case rel => go_light; exact ⟨q + 1, jj, by omega, rfl, by go_num, rfl, NJ, Lib.hid rfl⟩
          | false =>
            rw [hfq] at x0 hdt
            by_cases hj0 : jj = 0
            · have N2 := Lib.hid (NX.out q hqn hfq (by have := hjj.out; omega))
              have z0 : ((jj : Int) == 0) = true := by rw [beq_iff_eq]; omega
              clear hdt hfq hjj hj0
              go_wp2
              go_roundg (many - (k + 1))
              case measure => go_light; omega
              case rel => go_light; exact ⟨k + 1, by omega, rfl, by go_num, N2⟩
            · have NJ : Hid ((jj - 1) + (dnL 0 (fl.take (q + 1))).length = j) := Lib.hid (by have := hjj.out; simp at hdt; omega)
              have z0 : ((jj : Int) == 0) = false := by rw [beq_eq_false_iff_ne]; omega
              clear hdt hfq hjj
              go_wp2
              go_roundg (n - (q + 1))
              case measure => go_light; omega
              case rel => go_light; exact ⟨q + 1, jj - 1, by omega, rfl, by go_num, by congr 1; omega, NJ, Lib.hid rfl⟩
        · exfalso
          have h1 := hjj.out
          have h2 := DN.out
          rw [show q = fl.length by rw [FL.out]; omega, List.take_length] at h1
          omega
    · have hkm : k = many := by omega
      subst hkm
      have hout : (pickGo l u k (upL n n)).mergeSort (fun x y => decide (x ≤ y)) = upF 0 fl := by
        have h1 := PK.out
        rw [Nat.sub_self] at h1
        rw [picked_eq fl ps UP.out, ← h1]
        simp [pickGo]
      have HOUT := Lib.hid hout
      have hf3 : w.heap.size + 3 ≤ wr.heap.size := BS.out.lt
      obtain ⟨W0, hW0⟩ : ∃ W0, W0 = wr := ⟨_, rfl⟩
      have HW0 := Lib.hid hW0
      have HF3 := Lib.hid hf3
      clear hW0 c0 c1 hu' hout hlt PK UP DN
      go_wp2
      go_loopg [14, 15] n (fun gh v s15 wx => ∃ q : Nat, q ≤ n ∧ gh = n - q ∧ s15 = .int .i64 q ∧ Hid (wx.ownsRow (w.heap.size + 3) 3 1 v (upF 0 (fl.take q)).length (is (upF 0 (fl.take q)))) ∧ Hid (Below (w.heap.size + 3) W0 wx))
      case atStart => exact ⟨0, Nat.zero_le _, rfl, rfl, Lib.hid (by rw [List.take_zero]; exact World.ownsRow_nil _ _ _ _), Lib.hid (by rw [HW0.out]; exact Below.refl _ _)⟩
      case round =>
        obtain ⟨q, hq, rfl, rfl, ho, hbl⟩ := hrel
        have hb' := hbl.out
        rw [HW0.out] at hb'
        have hs3 : w.heap.size + 3 ≤ wr.heap.size := Nat.le_trans HF3.out hb'.size
        have f3 := BS.out.below hb' (by omega)
        have r3 := R.out.below hb' (by omega)
        have t3 := T.out.below hb' (by omega)
        clear hf3
        by_cases hqn : q < n
        · have x0 : wr.cell? ⟨w.heap.size + 2, q, none⟩ = some (.bool (fl.getD q true)) := by rw [f3.cell]; exact bs_get fl q (by rw [FL.out]; exact hqn)
          have hut := up_take fl q (by rw [FL.out]; exact hqn)
          have hul : (upF 0 (fl.take q)).length ≤ q := by
            have h1 := dn_up_len (fl.take q) 0
            rw [List.length_take] at h1
            omega
          cases hfq : fl.getD q true with
          | true =>
            rw [hfq] at x0 hut
            have ue : is (upF 0 (fl.take (q + 1))) = is (upF 0 (fl.take q)) ++ [.int .i64 (q : Int)] := by rw [hut]; simp [is]
            have ul : (upF 0 (fl.take (q + 1))).length = (upF 0 (fl.take q)).length + 1 := by rw [hut]; simp
            have UE2 := Lib.hid ue
            have UL2 := Lib.hid ul
            have UB := Lib.hid hul
            have B3 := Lib.hid hb'
            clear hut hfq ue ul hul hb' f3 r3 t3 HW0
            go_wp2_with (at_builtin; refine wpList_append_own _ rfl _ _ 33 rfl (w.heap.size + 3) 3 i0 (.int .i64 0) 1 8 Try.underlying33 hi hz0 hz1 hz2 rfl (by decide) _ _ _ rfl (ho.out.alloc _) ⟨wr.heap.size, 0, none⟩ 1 1 [.int .i64 (q : Int)] rfl rfl ?c2 ?c3 ?c4 ?c5 ?c6 ?_)
            case c2 => intro j u hu; rw [addr_add, Nat.zero_add]; exact (has.cell (has.new wr 3 [.int .i64 (q : Int)]) j).trans hu
            case c3 => intro u hu; simp at hu; subst hu; rfl
            case c4 => have := UB.out; unfold maxLen; omega
            case c5 => have := UB.out; omega
            case c6 => simp; omega
            intro v' w1 hown0 hgrow hnil
            have N1 : Hid (w1.ownsRow (w.heap.size + 3) 3 1 v' (upF 0 (fl.take (q + 1))).length (is (upF 0 (fl.take (q + 1))))) := Lib.hid (by rw [UE2.out, UL2.out]; exact hown0)
            have N2 : Hid (Below (w.heap.size + 3) W0 w1) := Lib.hid (by
              have h1 := hbl.out.alloc (Nat.le_trans hs3 (Nat.le_refl _)) (.cells #[.int .i64 (q : Int)] 3)
              refine h1.grown hgrow (by simp; omega) ?_
              intro g hg
              rcases ho.out.2 with ⟨h2, _⟩ | ⟨g', cap, cur, h2, hbg, _⟩
              · rw [h2] at hg; simp [Value.ownBlock] at hg
              · rw [h2] at hg; simp [Value.ownBlock] at hg; omega)
            clear hown0 hgrow hnil UE2 UL2 UB ho hbl B3
            go_wp2
            go_roundg (n - (q + 1))
            case measure => go_light; omega
            case rel => go_light; exact ⟨q + 1, by omega, rfl, by go_num, N1, N2⟩
          | false =>
            rw [hfq] at x0 hut
            have N1 : Hid (wr.ownsRow (w.heap.size + 3) 3 1 u14 (upF 0 (fl.take (q + 1))).length (is (upF 0 (fl.take (q + 1))))) := Lib.hid (by rw [hut, if_pos rfl, List.append_nil]; exact ho.out)
            clear hut hfq hul hb' f3 r3 t3 HW0 ho
            go_wp2
            go_roundg (n - (q + 1))
            case measure => go_light; omega
            case rel => go_light; exact ⟨q + 1, by omega, rfl, by go_num, N1, hbl⟩
        · have hqe : q = fl.length := by rw [FL.out]; omega
          have ho2 := ho.out
          rw [hqe, List.take_length] at ho2
          obtain ⟨sv, cv, hv, hsrc, hsb⟩ : ∃ sv cv, u14 = .slice sv (upF 0 fl).length cv ∧ src wr sv (is (upF 0 fl)) ∧ ∀ a, sv = some a → w.heap.size + 3 ≤ a.block := by
            rcases ho2.2 with ⟨h2, h3⟩ | ⟨g', cap, cur, h2, hbg, _⟩
            · refine ⟨none, 0, by rw [h2, h3], ?_, by simp⟩
              intro h4; rw [is_len, h3] at h4; omega
            · refine ⟨some ⟨g', 0, none⟩, cap, h2, ?_, by rintro a ⟨⟩; exact hbg⟩
              intro h4
              rw [h2] at ho2
              refine ⟨g', 0, rfl, (own_lt ho2).2, ?_⟩
              intro j u hu
              have hj := (List.getElem?_eq_some_iff.1 hu).1
              rw [is_len] at hj
              rw [Nat.zero_add, ho2.cellAt j (by omega)]; exact hu
          have c0 : wr.cell? ⟨w.heap.size, 0, none⟩ = some (.slice tsp (l.length - u') tc) := by rw [t3.cell]; rfl
          have c1 : wr.cell? ⟨w.heap.size, 1, none⟩ = some (.int .i64 (u' : Int)) := by rw [t3.cell]; rfl
          have g0 : wr.cell? ⟨w.heap.size + 1, 0, none⟩ = some (.slice none 0 0) := by rw [r3.cell]; rfl
          have g1 : wr.cell? ⟨w.heap.size + 1, 1, none⟩ = some (.int .i64 0) := by rw [r3.cell]; rfl
          have q0 : wr.frozen? ⟨w.heap.size + 1, 0, none⟩ = false := r3.free 0
          have q1 : wr.frozen? ⟨w.heap.size + 1, 1, none⟩ = false := r3.free 1
          have HROW : Hid (rOut w ((wr.setCell ⟨w.heap.size + 1, 0, none⟩ (.slice tsp (l.length - u') tc)).setCell ⟨w.heap.size + 1, 1, none⟩ (.int .i64 (u' : Int))) (.slice sv (upF 0 fl).length cv) (upF 0 fl)) := Lib.hid (by
            refine ⟨sv, cv, rfl, ?_, fun a ha => by have := hsb a ha; omega⟩
            intro h4
            obtain ⟨b, off, e, hbl2, hc⟩ := hsrc h4
            have hb3 : w.heap.size + 3 ≤ b := hsb _ e
            refine ⟨b, off, e, by simp [World.setCell]; exact hbl2, fun j u hu => ?_⟩
            rw [World.cell?_setCell_other _ _ _ _ (by intro e; have := congrArg Addr.block e; simp at this; omega), World.cell?_setCell_other _ _ _ _ (by intro e; have := congrArg Addr.block e; simp at this; omega)]
            exact hc j u hu)
          have HBF : Hid (Below w.heap.size w ((wr.setCell ⟨w.heap.size + 1, 0, none⟩ (.slice tsp (l.length - u') tc)).setCell ⟨w.heap.size + 1, 1, none⟩ (.int .i64 (u' : Int)))) := Lib.hid
            (((F.out.trans (hb'.mono (by omega))).setCell (p := ⟨w.heap.size + 1, 0, none⟩) (by simp) _).setCell (p := ⟨w.heap.size + 1, 1, none⟩) (by simp) _)
          subst hv
          clear ho ho2 hsrc hsb hb' f3 r3 t3 HW0 hbl
          go_wp2
          refine bodyPost_ret (v := .tuple #[.agg #[.slice tsp (l.length - u') tc, .int .i64 (u' : Int)], .slice sv (upF 0 fl).length cv, .int .i64 0]) (by simp [results, Try.results16, go_sem, g0, g1]) rfl ?_
          rw [HOUT.out]
          exact ⟨tsp, tc, _, by rw [UE.out], by rw [UE.out]; exact LF.out, HROW.out, HBF.out⟩
theorem rPick_any (sp : Option Addr) (c : Nat) (l : List Nat) (u : Nat) (m n : Int) (B : Nat) (w : World) (hBw : B ≤ w.heap.size) (h : Lf B w sp (l.length - u) c (l.drop u)) (hll : l.length ≤ 65536) :
    Calls Try.prog 16 #[.agg #[.slice sp (l.length - u) c, .int .i64 (u : Int)], .int .i64 m, .int .i64 n] w (rsPost B w l (pkU l u m n) (pkOut l u m n) (pkE l u m n)) := by
  by_cases k1 : n < 0 ∨ 65536 < n ∨ m < 0 ∨ n < m
  · have e1 : pkE l u m n = 2 := by unfold pkE; rw [if_pos k1]
    have e2 : pkOut l u m n = [] := by unfold pkOut; rw [e1]; rfl
    have e3 : pkU l u m n = u := by unfold pkU; rw [e1]; rfl
    rw [e1, e2, e3]
    exact rPick_arg sp c l u m n B w h k1
  · obtain ⟨m', rfl⟩ : ∃ m' : Nat, m = m' := ⟨m.toNat, by omega⟩
    obtain ⟨n', rfl⟩ : ∃ n' : Nat, n = n' := ⟨n.toNat, by omega⟩
    by_cases k2 : l.length - u < m'
    · have e1 : pkE l u m' n' = 16 := by unfold pkE; rw [if_neg k1, if_pos (by simpa using k2)]
      have e2 : pkOut l u m' n' = [] := by unfold pkOut; rw [e1]; rfl
      have e3 : pkU l u m' n' = u := by unfold pkU; rw [e1]; rfl
      rw [e1, e2, e3]
      exact rPick_end sp c l u m' n' B w h (by omega) (by omega) k2
    · have e1 : pkE l u m' n' = 0 := by unfold pkE; rw [if_neg k1, if_neg (by simpa using k2)]
      have e2 : pkOut l u m' n' = (pickGo l u m' (upL n' n')).mergeSort fun x y => decide (x ≤ y) := by unfold pkOut; rw [if_pos e1]; rfl
      have e3 : pkU l u m' n' = u + m' := by unfold pkU; rw [if_pos e1]; rfl
      rw [e1, e2, e3]
      exact rPick_ok sp c l u m' n' B w hBw h (by omega) (by omega) (by omega) hll
end Go.Proofs.Ytefncefmolphfaa.drFn
