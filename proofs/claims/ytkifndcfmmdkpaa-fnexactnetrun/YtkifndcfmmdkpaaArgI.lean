/- An argument that is a slice of integers. -/
import Derived.Test.YtkifndcfmmdkpaaIntsU
import Derived.Test.YtkifndcfmmdkpaaReads
namespace Go.Proofs.Ytkifndcfmmdkpaa
open Go.RowKit Go.ChangeShapes Go.WideShapes Go.Deep
set_option linter.unusedVariables false

theorem argIntS {w : World} {v : Value} (h : Arg w 28 v) : ∃ c m, v = c ∧ IntSIn [c] m w ∧ ∀ z ∈ m, -9223372036854775808 ≤ z ∧ z ≤ 9223372036854775807 := by
  obtain ⟨a, len, cap, rfl, hr⟩ := h.slice Try.underlying28
  obtain ⟨a', cap', l, hc, h1, h2, h3, h4⟩ := hr.ints Try.underlying28 Try.underlying3 (by kernel_rfl)
  simp at hc
  obtain ⟨rfl, rfl, rfl⟩ := hc
  exact ⟨_, l, rfl, ⟨a, cap, rfl, by omega, by omega, h3⟩, fun z hz => wf_i64 (h4 z hz)⟩
end Go.Proofs.Ytkifndcfmmdkpaa
