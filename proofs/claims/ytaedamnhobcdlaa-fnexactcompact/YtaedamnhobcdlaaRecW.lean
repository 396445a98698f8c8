/- The functions of chapter 9 in the model, uniform. -/
import Derived.Test.YtaedamnhobcdlaaRecR
namespace Go.Proofs.Ytaedamnhobcdlaa
open Go.RowKit
set_option linter.unusedVariables false

theorem recOfL_bd (m : RecM) : szByteS (recOfL m) ≤ 1000000000000 := by
  unfold szByteS recOfL
  split
  · rw [bytesR_length]; decide
  · simp
theorem uSpecRecOk (c0 c1 c2 c3 : Value) (m : RecM) (w : World) (h : RecIn [c0, c1, c2, c3] m w) (hb : recBd m) : Calls Try.prog 46 #[.agg #[c0, c1, c2, c3]] w fun e w' => e = .returned (.bool (recOkB m)) ∧ Below w.heap.size w w' := by
  obtain ⟨rfl, rfl, rfl, rfl⟩ := recIn_cells h
  exact specRecOk m w hb.2.2
theorem uSpecRecAhead (c0 c1 c2 c3 : Value) (m : RecM) (d0 d1 d2 d3 : Value) (n : RecM) (w : World) (h : RecIn [c0, c1, c2, c3] m w) (k : RecIn [d0, d1, d2, d3] n w) (hb : recBd m) (kb : recBd n) : Calls Try.prog 16 #[.agg #[c0, c1, c2, c3], .agg #[d0, d1, d2, d3]] w fun e w' => e = .returned (.bool (aheadB m n)) ∧ Below w.heap.size w w' := by
  obtain ⟨rfl, rfl, rfl, rfl⟩ := recIn_cells h
  obtain ⟨rfl, rfl, rfl, rfl⟩ := recIn_cells k
  exact specRecAheadR m n w hb.2.2 kb.2.2
end Go.Proofs.Ytaedamnhobcdlaa
