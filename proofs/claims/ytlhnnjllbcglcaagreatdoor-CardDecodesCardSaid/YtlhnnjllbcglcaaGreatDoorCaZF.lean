/- Joined texts: CaRDe CaLawD -/
import Derived.Test.YtlhnnjllbcglcaaGreatDoorCaR1
import Derived.Test.YtlhnnjllbcglcaaGreatDoorCaR2
import Derived.Test.YtlhnnjllbcglcaaGreatDoorCaR3
import Derived.Test.YtlhnnjllbcglcaaGreatDoorCaR4
import Derived.Test.YtlhnnjllbcglcaaGreatDoorCaZK
/- Decode, by the reference. -/
namespace Go.Proofs.YtlhnnjllbcglcaaGreatDoor.caFn
open Go.ChangeShapes Go.WideShapes Go.ChangeAt Go.RowKit drMem efFn
set_option linter.unusedVariables false

theorem rdec_many (b off n cap : Nat) (l : List UInt8) (w : World) (h : BsAt w (some ⟨b, off, none⟩) n l) (hcap : n ≤ cap) (h3 : 3 ≤ n) : Calls Tryz.prog 12 #[.slice (some ⟨b, off, none⟩) n cap] w (rdPost l w) := by
  by_cases h1 : good1 l n
  · by_cases h2 : good2 l n
    · by_cases h4 : (cdR (l, 0)).2.2 = 0
      · exact rdec_p4 b off n cap l w h hcap h3 h1 h2 h4
      · exact rdec_p3 b off n cap l w h hcap h3 h1 h2 h4
    · exact rdec_p2 b off n cap l w h hcap h3 h1 h2
  · exact rdec_p1 b off n cap l w h hcap h3 h1

end Go.Proofs.YtlhnnjllbcglcaaGreatDoor.caFn

/- The law CardDecodes. -/
namespace Go.Proofs.YtlhnnjllbcglcaaGreatDoor.caFn
open Go.ChangeShapes Go.WideShapes Go.ChangeAt Go.RowKit drMem efFn
set_option linter.unusedVariables false

theorem rdec_any (sp : Option Addr) (n cap : Nat) (l : List UInt8) (w : World) (h : BsAt w sp n l) (hcap : n ≤ cap) : Calls Tryz.prog 12 #[.slice sp n cap] w (rdPost l w) := by
  by_cases h3 : n < 3
  · exact rdec_few sp n cap l w h h3
  · obtain ⟨b, off, e, _, _⟩ := h.c (by rw [bys_len, h.n]; omega)
    subst e
    exact rdec_many b off n cap l w h hcap (by omega)
set_option maxRecDepth 100000 in
set_option maxHeartbeats 8000000 in
theorem Decodes_law (sp : Option Addr) (n cap : Nat) (l : List UInt8) (w : World) (hG : G w) (hb : BsAt w sp n l) (hcap : n ≤ cap) :
    Calls Tryz.prog 4 #[.slice sp n cap] w (lawPost w) := by
  have HG := Lib.hid hG
  have HS := Lib.hid hb
  have HC := Lib.hid hcap
  have hm := hb.m
  have HD := rdec_any sp n cap l w hb hcap
  clear hG hb hcap
  by_cases h3 : 300 < n
  · have h3i : (300 : Int) < (n : Int) := by omega
    clear HD
    go_enter Tryz.func4, Tryz.ntmps4
    go_wp2_with fail
    refine (known_any _ HG.out).mono ?_; rintro e wk ⟨rfl, hbk⟩
    have HB := Lib.hid hbk
    clear hbk
    go_wp2_with fail
    go_ret
    exact ⟨rfl, HB.out⟩
  · have h3i : ¬ (300 : Int) < (n : Int) := by omega
    go_enter Tryz.func4, Tryz.ntmps4
    go_wp2_with fail
    refine HD.mono ?_; rintro v w1 ⟨q, m, e, es, en, ec, ts, tn, tc, hq, rfl, hcd, hb1⟩
    have HY := Lib.hid (show has (w1.alloc (.cells #[.string (bs q.nm), .int .i64 q.kd, .int .i64 q.a, .int .i64 q.b, .int .i64 q.c, .int .i64 q.d, .int .i64 q.x, .int .i64 q.ml, .int .i64 q.pw, .int .i64 q.tg, .int .i64 q.kw, .slice es en ec, .slice ts tn tc, .int .i64 q.ra] 32)) w1.heap.size 32 (cL (bs q.nm) q.kd q.a q.b q.c q.d q.x q.ml q.pw q.tg q.kw es en ec ts tn tc q.ra) from new0 w1 32 (cL (bs q.nm) q.kd q.a q.b q.c q.d q.x q.ml q.pw q.tg q.kw es en ec ts tn tc q.ra))
    have HB := Lib.hid (show Below w.heap.size w (w1.alloc (.cells #[.string (bs q.nm), .int .i64 q.kd, .int .i64 q.a, .int .i64 q.b, .int .i64 q.c, .int .i64 q.d, .int .i64 q.x, .int .i64 q.ml, .int .i64 q.pw, .int .i64 q.tg, .int .i64 q.kw, .slice es en ec, .slice ts tn tc, .int .i64 q.ra] 32)) from hb1.alloc hb1.size _)
    have h7 := decodes_any q es en ec ts tn tc sp n cap l m e (w1.alloc (.cells #[.string (bs q.nm), .int .i64 q.kd, .int .i64 q.a, .int .i64 q.b, .int .i64 q.c, .int .i64 q.d, .int .i64 q.x, .int .i64 q.ml, .int .i64 q.pw, .int .i64 q.tg, .int .i64 q.kw, .slice es en ec, .slice ts tn tc, .int .i64 q.ra] 32)) (hcd.below ((Below.refl _ _).alloc (Nat.le_refl _) _) (Nat.le_refl _)) (HS.out.below HB.out (Nat.le_refl _)) HC.out
    rw [decide_eq_true hq] at h7
    clear hcd hb1 hq
    obtain ⟨u0, u1, u2, u3, u4, u5, u6, u7, u8, u9, u10, u11, u12, u13, u14⟩ := card14 HY.out
    go_wp2_with fail
    refine h7.mono ?_; rintro v w3 ⟨rfl, hb3⟩
    have HB := Lib.hid (next HB.out hb3)
    clear hb3 h7 u0 u1 u2 u3 u4 u5 u6 u7 u8 u9 u10 u11 u12 u13 u14
    go_wp2_with fail
    refine (known_any _ (HG.out.below HB.out)).mono ?_; rintro e wk ⟨rfl, hbk⟩
    have HB := Lib.hid (next HB.out hbk)
    clear hbk
    go_wp2_with fail
    go_ret
    exact ⟨rfl, HB.out⟩
end Go.Proofs.YtlhnnjllbcglcaaGreatDoor.caFn
