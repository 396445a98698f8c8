/- Records, plain: a record is what its bytes are read as; who is ahead of whom. No function of the program in it. -/
import Derived.Test.YtkcplnmhonhmaaaRecP
namespace Go.Proofs.Ytkcplnmhonhmaaa
open Go.RowKit
open Go.Lib (compareBytes)
set_option linter.unusedVariables false

theorem inner_padR {l : List UInt8} (h : wordB l = true) : inner (padL l) = l := by
  have hl := word_len h
  unfold inner padL
  rw [h]
  have e : (UInt8.ofNat l.length).toNat = l.length := by simp; omega
  simp only [if_true, List.drop_succ_cons, List.drop_zero, List.getD_cons_zero, e]
  rw [List.take_left]
theorem unp_padR {l : List UInt8} (h : wordB l = true) : unpL (padL l) = l := by
  have hl := word_len h
  have hb : unpB (padL l) = true := by
    unfold unpB
    rw [inner_padR h, padL_length, h]
    have e : ((padL l).getD 0 0).toNat ≤ 32 := by
      unfold padL; rw [h]
      have e : (UInt8.ofNat l.length).toNat = l.length := by simp; omega
      simp only [if_true, List.getD_cons_zero, e]; exact hl.2
    simp
    simpa using e
  rw [unp_yes hb, inner_padR h]
theorem cand_back {r : RecM} (h : recOkB r = true) : candR (bytesR r) = r := by
  rcases recOkB_cases h with rfl | h
  · unfold candR
    rw [if_neg (by decide)]
  · obtain ⟨h1, ⟨h2, h3⟩, ⟨h4, h5⟩, h6⟩ := liveB_ok h
    obtain ⟨lv, ds, wt, wd⟩ := r
    simp only at h1 h2 h3 h4 h5 h6
    subst h1
    unfold candR bytesR headR
    rw [if_pos (by simp)]
    have e1 : (UInt8.ofNat ds.toNat).toNat = ds.toNat := by simp; omega
    have e2 : (UInt8.ofNat (wt.toNat / 256)).toNat = wt.toNat / 256 := by simp; omega
    have e3 : (UInt8.ofNat (wt.toNat % 256)).toNat = wt.toNat % 256 := by simp
    have e4 : strL wd.data.toList = wd := rfl
    simp only [List.cons_append, List.nil_append, List.getD_cons_succ, List.getD_cons_zero, List.drop_succ_cons, List.drop_zero, e1, e2, e3, unp_padR h6, e4]
    congr 1 <;> omega
theorem rec_back {r : RecM} (h : recOkB r = true) : readB (recOfL r) = true ∧ readM (recOfL r) = r := by
  have e : recOfL r = bytesR r := by unfold recOfL; rw [if_pos h]
  rw [e]
  have hb : readB (bytesR r) = true := by
    rw [readB_at (bytesR_length r) (by rw [cand_back h]; exact h), cand_back h]; simp
  exact ⟨hb, by rw [readM_yes hb, cand_back h]⟩
end Go.Proofs.Ytkcplnmhonhmaaa
