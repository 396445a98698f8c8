/- Drawn pairs for chapter 6; a padded word read back. -/
import Derived.Test.YticfnhbjoaecjaaDrawP
import Derived.Test.YticfnhbjoaecjaaUnpad
import Derived.Test.YticfnhbjoaecjaaBigIs
namespace Go.Proofs.Yticfnhbjoaecjaa
open Go.RowKit
set_option linter.unusedVariables false

theorem inner_pad {l : List UInt8} (h : wordB l = true) : inner (padL l) = l := by
  have hl := word_len h
  unfold inner padL
  rw [h]
  have e : (UInt8.ofNat l.length).toNat = l.length := by simp; omega
  simp only [if_true, List.drop_succ_cons, List.drop_zero, List.getD_cons_zero, e]
  rw [List.take_left]
theorem unp_pad {l : List UInt8} (h : wordB l = true) : unpB (padL l) = true ∧ unpL (padL l) = l := by
  have hl := word_len h
  have hb : unpB (padL l) = true := by
    unfold unpB
    rw [inner_pad h, padL_length, h]
    have e : ((padL l).getD 0 0).toNat ≤ 32 := by
      unfold padL; rw [h]
      have e : (UInt8.ofNat l.length).toNat = l.length := by simp; omega
      simp only [if_true, List.getD_cons_zero, e]; exact hl.2
    simp
    simpa using e
  exact ⟨hb, by rw [unp_yes hb, inner_pad h]⟩
def PairOutM (w : World) (e : Ending) (w' : World) : Prop := ∃ s t : ByteArray, e = .returned (.tuple #[.string s, .string t]) ∧ s.size ≤ 200 ∧ t.size ≤ 200 ∧ Below w.heap.size w w'
set_option maxHeartbeats 800000 in
theorem drawMyersRun (a : Option Addr) (l : List UInt8) (cap : Nat) (w : World) (hl : l.length ≤ 1048576) (r : Row w a (l.map bval)) : Calls Try.prog 13 #[.slice a l.length cap] w (PairOutM w) := by
  have R := Lib.hid r
  clear r
  go_enter Try.func13, Try.ntmps13
  go_wp2_with fail
  refine (curOpen a l cap _ hl R.out).mono ?_
  rintro e w1 ⟨rfl, hI1, hb1⟩
  have I1 := Lib.hid hI1
  clear hI1
  go_wp2_with fail
  refine (curPair w.heap.size a l cap 0 _ hl (by omega) I1.out).mono ?_
  rintro e w2 ⟨s, t, rfl, hs, ht, _, hg2⟩
  go_wp2
  go_ret2
  exact ⟨s, t, rfl, hs, ht, below_write hb1 hg2 (Nat.le_refl _)⟩
end Go.Proofs.Yticfnhbjoaecjaa
