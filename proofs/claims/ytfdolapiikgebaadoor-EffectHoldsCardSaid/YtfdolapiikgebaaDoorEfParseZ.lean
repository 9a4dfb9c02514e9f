/- The effect with a text: what Parse returns for every text. -/
import Derived.Test.YtfdolapiikgebaaDoorEfParseA
import Derived.Test.YtfdolapiikgebaaDoorEfParseB
import Derived.Test.YtfdolapiikgebaaDoorEfParseC
namespace Go.Proofs.YtfdolapiikgebaaDoor.efFn
open Go.ChangeShapes Go.WideShapes Go.ChangeAt Go.RowKit drMem
set_option linter.unusedVariables false

def isTx (l : List UInt8) : Prop := (cand l).ok = true ∧ textE (cand l) = l
instance (l : List UInt8) : Decidable (isTx l) := by unfold isTx; infer_instance
def parV (l : List UInt8) : Value × Int := if isTx l then ((cand l).v, 0) else (eV 0 0 0 0 0, 6)
def parPost (l : List UInt8) (w : World) (e : Ending) (w' : World) : Prop := e = .returned (.tuple #[(parV l).1, .int .i64 (parV l).2]) ∧ Below w.heap.size w w'
theorem parV_yes {l : List UInt8} {e : Ef} (hc : cand l = e) (hv : e.ok = true) (ht : textE e = l) : parV l = (e.v, 0) := by
  subst hc; exact if_pos ⟨hv, ht⟩
theorem parV_bad {l : List UInt8} {e : Ef} (hc : cand l = e) (hv : e.ok = false) : parV l = (eV 0 0 0 0 0, 6) := by
  subst hc; exact if_neg (fun h => by rw [h.1] at hv; cases hv)
theorem parV_ne {l : List UInt8} {e : Ef} (hc : cand l = e) (ht : textE e ≠ l) : parV l = (eV 0 0 0 0 0, 6) := by
  subst hc; exact if_neg (fun h => ht h.2)
theorem par_pl (l : List UInt8) (w : World) (hG : G w) (hl : l.length ≤ 900) (cd : Int) (nm : ByteArray) (kk : Int) (hcd : cdW (c1 l) = cd) (hr : ruleV cd = plV nm kk)
    (hc : cand l = ⟨cd, kdW (c2 l), 0, 0, 0⟩) : Calls Tryd.prog 27 #[.string (bs l)] w (parPost l w) := by
  unfold parPost
  by_cases hv : okE cd (kdW (c2 l)) 0 0 0 = true
  · by_cases ht : textE ⟨cd, kdW (c2 l), 0, 0, 0⟩ = l
    · rw [parV_yes hc hv ht]; exact Parse_pl_eq l w hG hl cd _  nm kk hcd hr rfl hv ht
    · rw [parV_ne hc ht]; exact Parse_pl_ne l w hG hl cd _  nm kk hcd hr rfl hv ht
  · have hv' : okE cd (kdW (c2 l)) 0 0 0 = false := by simpa using hv
    rw [parV_bad hc hv']; exact Parse_pl_bad l w hG hl cd _  nm kk hcd hr rfl hv'
theorem par_ra (l : List UInt8) (w : World) (hG : G w) (hl : l.length ≤ 900) (cd p q r : Int) (nm : ByteArray) (kk x0 x1 x2 y0 y1 y2 : Int) (hcd : cdW (c1 l) = cd) (hr : ruleV cd = raV nm kk x0 x1 x2 y0 y1 y2)
    (z : List UInt8) (HRD : ∀ w, G w → Calls Tryd.prog 42 #[.string (bs (c2 l)), raV nm kk x0 x1 x2 y0 y1 y2] w fun e w' => e = .returned (.tuple #[.agg #[.int .i64 p, .int .i64 q, .int .i64 r], .string (bs z)]) ∧ Below w.heap.size w w')
    (hc : cand l = ⟨cd, kdW z, p, q, r⟩) : Calls Tryd.prog 27 #[.string (bs l)] w (parPost l w) := by
  unfold parPost
  by_cases hv : okE cd (kdW z) p q r = true
  · by_cases ht : textE ⟨cd, kdW z, p, q, r⟩ = l
    · rw [parV_yes hc hv ht]; exact Parse_ra_eq l w hG hl cd _ p q r nm kk x0 x1 x2 y0 y1 y2 hcd hr z HRD rfl hv ht
    · rw [parV_ne hc ht]; exact Parse_ra_ne l w hG hl cd _ p q r nm kk x0 x1 x2 y0 y1 y2 hcd hr z HRD rfl hv ht
  · have hv' : okE cd (kdW z) p q r = false := by simpa using hv
    rw [parV_bad hc hv']; exact Parse_ra_bad l w hG hl cd _ p q r nm kk x0 x1 x2 y0 y1 y2 hcd hr z HRD rfl hv'
theorem par_so (l : List UInt8) (w : World) (hG : G w) (hl : l.length ≤ 900) (cd p q r : Int) (nm : ByteArray) (kk x0 x1 x2 y0 y1 y2 : Int) (hcd : cdW (c1 l) = cd) (hr : ruleV cd = soV nm kk x0 x1 x2 y0 y1 y2)
    (z : List UInt8) (HRD : ∀ w, G w → Calls Tryd.prog 42 #[.string (bs (c2 l)), soV nm kk x0 x1 x2 y0 y1 y2] w fun e w' => e = .returned (.tuple #[.agg #[.int .i64 p, .int .i64 q, .int .i64 r], .string (bs z)]) ∧ Below w.heap.size w w')
    (hc : cand l = ⟨cd, kdW z, p, q, r⟩) : Calls Tryd.prog 27 #[.string (bs l)] w (parPost l w) := by
  unfold parPost
  by_cases hv : okE cd (kdW z) p q r = true
  · by_cases ht : textE ⟨cd, kdW z, p, q, r⟩ = l
    · rw [parV_yes hc hv ht]; exact Parse_so_eq l w hG hl cd _ p q r nm kk x0 x1 x2 y0 y1 y2 hcd hr z HRD rfl hv ht
    · rw [parV_ne hc ht]; exact Parse_so_ne l w hG hl cd _ p q r nm kk x0 x1 x2 y0 y1 y2 hcd hr z HRD rfl hv ht
  · have hv' : okE cd (kdW z) p q r = false := by simpa using hv
    rw [parV_bad hc hv']; exact Parse_so_bad l w hG hl cd _ p q r nm kk x0 x1 x2 y0 y1 y2 hcd hr z HRD rfl hv'
theorem Parse_any (l : List UInt8) (w : World) (hG : G w) (hl : l.length ≤ 900) : Calls Tryd.prog 27 #[.string (bs l)] w (parPost l w) := by
  have hl2 : (c2 l).length ≤ 900 := by have := c2_len l; omega
  generalize hcd : cdW (c1 l) = cd
  by_cases hin : 1 ≤ cd ∧ cd ≤ 12
  · rcases codesR cd hin.1 hin.2 with rfl | rfl | rfl | rfl | rfl | rfl | rfl | rfl | rfl | rfl | rfl | rfl
    · exact par_ra l w hG hl 1 (fr (c1 (c2 l))) 0 0 _ 62 1 0 0 99 0 0 hcd ruleV_1 (c2 (c2 l)) (fun w h => rd_A _ 62 1 0 0 99 (c2 l) w h hl2 (by omega)) (by unfold cand; rw [hcd]; rfl)
    · exact par_ra l w hG hl 2 (fr (c1 (c2 l))) 0 0 _ 17 1 0 0 7 0 0 hcd ruleV_2 (c2 (c2 l)) (fun w h => rd_A _ 17 1 0 0 7 (c2 l) w h hl2 (by omega)) (by unfold cand; rw [hcd]; rfl)
    · exact par_ra l w hG hl 3 (fr (c1 (c2 l))) 0 0 _ 17 1 0 0 99 0 0 hcd ruleV_3 (c2 (c2 l)) (fun w h => rd_A _ 17 1 0 0 99 (c2 l) w h hl2 (by omega)) (by unfold cand; rw [hcd]; rfl)
    · exact par_ra l w hG hl 4 (fr (c1 (c2 l))) 0 0 _ 17 1 0 0 99 0 0 hcd ruleV_4 (c2 (c2 l)) (fun w h => rd_A _ 17 1 0 0 99 (c2 l) w h hl2 (by omega)) (by unfold cand; rw [hcd]; rfl)
    · exact par_pl l w hG hl 5 _ _ hcd ruleV_5 (by unfold cand; rw [hcd]; rfl)
    · exact par_pl l w hG hl 6 _ _ hcd ruleV_6 (by unfold cand; rw [hcd]; rfl)
    · exact par_pl l w hG hl 7 _ _ hcd ruleV_7 (by unfold cand; rw [hcd]; rfl)
    · exact par_so l w hG hl 8 (fr (c1 (c2 l))) (fr (c1 (c2 (c2 l)))) 0 _ 15 0 0 0 9 9 0 hcd ruleV_8 (c2 (c2 (c2 l))) (fun w h => rd_S _ 15 0 0 0 9 9 (c2 l) w h hl2 (by omega) (by omega)) (by unfold cand; rw [hcd]; rfl)
    · exact par_ra l w hG hl 9 (fr (c1 (c2 l))) 0 0 _ 15 1 0 0 9 0 0 hcd ruleV_9 (c2 (c2 l)) (fun w h => rd_A _ 15 1 0 0 9 (c2 l) w h hl2 (by omega)) (by unfold cand; rw [hcd]; rfl)
    · exact par_ra l w hG hl 10 (fr (c1 (c2 l))) (fr (c1 (c2 (c2 l)))) 0 _ 1 0 1 0 9 9 0 hcd ruleV_10 (c2 (c2 (c2 l))) (fun w h => rd_B _ 1 0 1 0 9 9 (c2 l) w h hl2 (by omega) (by omega)) (by unfold cand; rw [hcd]; rfl)
    · exact par_pl l w hG hl 11 _ _ hcd ruleV_11 (by unfold cand; rw [hcd]; rfl)
    · exact par_ra l w hG hl 12 (fr (c1 (c2 l))) 0 (ltW (c1 (c2 (c2 l)))) _ 1 1 0 0 9 0 3 hcd ruleV_12 (c2 (c2 (c2 l))) (fun w h => rd_C _ 1 1 0 0 9 3 (c2 l) w h hl2 (by omega) (by omega)) (by unfold cand; rw [hcd]; rfl)
  · refine par_pl l w hG hl cd _ _ hcd (ruleV_no cd hin) ?_
    unfold cand
    rw [hcd]
    dsimp only
    rw [if_neg (by omega), if_neg (by omega), if_neg (by omega)]
end Go.Proofs.YtfdolapiikgebaaDoor.efFn
