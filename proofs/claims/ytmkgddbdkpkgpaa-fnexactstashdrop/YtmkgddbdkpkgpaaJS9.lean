/- Ints in one. Written by tools/join2.py. -/
import Derived.Test.YtmkgddbdkpkgpaaJS1
import Derived.Test.YtmkgddbdkpkgpaaJS2
import Derived.Deep.QuietTactic
import Derived.BigQuiet
section
namespace Go.Proofs.Ytmkgddbdkpkgpaa
open Go.RowKit
set_option linter.unusedVariables false

theorem ibeq_take {l m : List Int} (hl : l.length = m.length) (k : Nat) (hk : l.length ≤ k) (h : l.take k = m.take k) : (l == m) = true := by
  rw [List.take_of_length_le hk, List.take_of_length_le (by omega)] at h; simp [h]
theorem ibeq_at {l m : List Int} {k : Nat} (h1 : k < l.length) (h2 : k < m.length) (h : l[k] ≠ m[k]) : (l == m) = false := by
  rw [beq_eq_false_iff_ne]; intro e; subst e; exact h rfl
theorem itake_both {l m : List Int} {k : Nat} (h1 : k < l.length) (h2 : k < m.length) (e : l.take k = m.take k) (h : l[k] = m[k]) : l.take (k + 1) = m.take (k + 1) := by
  rw [List.take_succ_eq_append_getElem h1, List.take_succ_eq_append_getElem h2, e, h]

/-- What is left of a bound behind n more: -1 where it is passed. -/
def szI (left : Int) (n : Nat) : Int := if left - n < 0 then -1 else left - n
theorem szI_no {left : Int} {n : Nat} (h : left - n < 0) : szI left n = -1 := if_pos h
theorem szI_yes {left : Int} {n : Nat} (h : ¬ left - n < 0) : szI left n = left - n := if_neg h

/-- The marks k, k+1, .. (as integers). -/
def marksI (k n : Nat) : List Int := (List.range n).map fun i => ((k + i : Nat) : Int)
theorem marksI_length (k n : Nat) : (marksI k n).length = n := by simp [marksI]
theorem marksI_succ (k n : Nat) : marksI k (n + 1) = marksI k n ++ [((k + n : Nat) : Int)] := by simp [marksI, List.range_succ]
def markRowI (k j : Nat) (xs : List Value) : List Value := (marksI k j).map ival ++ xs.drop j
theorem markRowI_zero (k : Nat) (xs : List Value) : markRowI k 0 xs = xs := by simp [markRowI, marksI]
theorem markRowI_set (k j : Nat) (xs : List Value) (h : j < xs.length) : (markRowI k j xs).set j (.int .i64 ((k + j : Nat) : Int)) = markRowI k (j + 1) xs := by
  unfold markRowI
  rw [marksI_succ, List.set_append_right _ _ (by simp [marksI_length])]
  rw [show j - ((marksI k j).map ival).length = 0 from by simp [marksI_length], List.drop_eq_getElem_cons h, List.set_cons_zero]
  simp [ival]
theorem marksI_at {k n i : Nat} (h : i < n) : ((marksI k n).map ival)[i]? = some (.int .i64 ((k + i : Nat) : Int)) := by
  simp [marksI, h, ival]
theorem markRowI_done (k : Nat) (xs : List Value) : markRowI k xs.length xs = (marksI k xs.length).map ival := by simp [markRowI]
theorem markRowI_length (k j : Nat) (xs : List Value) (h : j ≤ xs.length) : (markRowI k j xs).length = xs.length := by simp [markRowI, marksI_length]; omega


def copyRowI (l : List Int) (k : Nat) : List Value := (l.take k).map ival ++ List.replicate (l.length - k) (.int .i64 0)
theorem copyRowI_length (l : List Int) (k : Nat) (h : k ≤ l.length) : (copyRowI l k).length = l.length := by unfold copyRowI; simp; omega
theorem copyRowI_zero (l : List Int) : copyRowI l 0 = List.replicate l.length (.int .i64 0) := by simp [copyRowI]
theorem copyRowI_set (l : List Int) (k : Nat) (h : k < l.length) : (copyRowI l k).set k (.int .i64 l[k]) = copyRowI l (k + 1) := by
  unfold copyRowI
  rw [List.take_succ_eq_append_getElem h, List.set_append_right _ _ (by simp; omega)]
  obtain ⟨m, hm⟩ : ∃ m, l.length - k = m + 1 := ⟨l.length - k - 1, by omega⟩
  rw [hm, show l.length - (k + 1) = m from by omega, List.replicate_succ]
  rw [show k - ((l.take k).map ival).length = 0 from by simp; omega]
  rw [List.set_cons_zero, List.map_append, List.append_assoc]; rfl
theorem copyRowI_done (l : List Int) : copyRowI l l.length = l.map ival := by unfold copyRowI; simp

end Go.Proofs.Ytmkgddbdkpkgpaa
end
