/- Planes: what the exact laws of PlanesOk and PlanesWords call. -/
import Derived.Test.YtfdlmpjccoaejaaPlT
namespace Go.Proofs.Ytfdlmpjccoaejaa
open Go.RowKit
set_option linter.unusedVariables false
theorem uSpecPlanesOk (c0 c1 c2 : Value) (m : PlanesM) (w : World) (h : PlanesIn [c0, c1, c2] m w) (hb : planesBd m) : Calls Try.prog 40 #[.agg #[c0, c1, c2]] w fun e w' => e = .returned (.bool (planesOkB m)) ∧ Below w.heap.size w w' := specPlanesOk c0 c1 c2 m w h hb
theorem uImplPlanesOk (c0 c1 c2 : Value) (m : PlanesM) (w : World) (h : PlanesIn [c0, c1, c2] m w) (hb : planesBd m) : Calls Try.prog 21 #[.agg #[c0, c1, c2]] w fun e w' => e = .returned (.bool (planesOkB m)) ∧ Below w.heap.size w w' := implPlanesOk c0 c1 c2 m w h hb
theorem uSpecPlanesWords (c0 c1 c2 : Value) (m : PlanesM) (w : World) (h : PlanesIn [c0, c1, c2] m w) (hb : planesBd m) : Calls Try.prog 42 #[.agg #[c0, c1, c2]] w (StringSRet (wordsM m) w) := specPlanesWords c0 c1 c2 m w h hb
theorem uImplPlanesWords (c0 c1 c2 : Value) (m : PlanesM) (w : World) (h : PlanesIn [c0, c1, c2] m w) (hb : planesBd m) : Calls Try.prog 20 #[.agg #[c0, c1, c2]] w (StringSRet (wordsM m) w) := implPlanesWords c0 c1 c2 m w h hb
theorem wordsM_len (m : PlanesM) : (wordsM m).length ≤ 64 := by
  unfold wordsM
  split
  · rename_i h
    exact (planesB_iff.1 (ok_words h).2.1).1
  · simp
theorem wordsM_bd (m : PlanesM) : mcStringS (wordsM m) ≤ 1000000000000 := by have := wordsM_len m; unfold mcStringS; omega
end Go.Proofs.Ytfdlmpjccoaejaa
