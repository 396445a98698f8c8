/- Rankings, plain: they are short. No function of the program in it. -/
import Derived.Test.YtaedamnhobcdlaaRkB
import Derived.Test.YtaedamnhobcdlaaRecMk
namespace Go.Proofs.Ytaedamnhobcdlaa
open Go.RowKit
set_option linter.unusedVariables false
theorem rankM_bd (l : List RecM) : mcRecS (rankM l) ≤ 1000000000000 := by
  unfold rankM mcRecS
  split
  · rename_i h
    have := recsOkB_len h
    rw [insAll_length]; omega
  · simp
theorem compactM_bd (l : List RecM) : mcRecS (compactM l) ≤ 1000000000000 := by
  unfold compactM mcRecS
  split
  · rename_i h
    have := recsOkB_len h
    rw [compactL_length]; omega
  · simp
theorem topM_bd (l : List RecM) (k : Int) : mcRecS (topM l k) ≤ 1000000000000 := by
  unfold topM mcRecS
  split
  · rename_i h
    unfold topB at h
    simp only [Bool.and_eq_true, decide_eq_true_eq] at h
    simp; omega
  · simp
theorem rankByM_bd (m : NetM) (l : List RecM) : mcRecS (rankByM m l) ≤ 1000000000000 := by
  unfold rankByM mcRecS
  split
  · rename_i h
    unfold rankByB at h
    simp only [Bool.and_eq_true] at h
    have := recsOkB_len h.2.1
    rw [runRm_length]; omega
  · simp
end Go.Proofs.Ytaedamnhobcdlaa
