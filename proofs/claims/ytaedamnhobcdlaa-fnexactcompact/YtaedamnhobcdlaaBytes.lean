/- The laws' own helpers over slices of bytes: compared, marked, held, copied. -/
import Derived.Test.YtaedamnhobcdlaaBase
import Derived.Test.YtaedamnhobcdlaaVals
import Derived.Deep.QuietTactic
import Derived.BigQuiet
namespace Go.Proofs.Ytaedamnhobcdlaa
open Go.RowKit
set_option linter.unusedVariables false

theorem beq_take {l m : List UInt8} (hl : l.length = m.length) (k : Nat) (hk : l.length ≤ k) (h : l.take k = m.take k) : (l == m) = true := by
  rw [List.take_of_length_le hk, List.take_of_length_le (by omega)] at h; simp [h]
theorem beq_at {l m : List UInt8} {k : Nat} (h1 : k < l.length) (h2 : k < m.length) (h : l[k].toNat ≠ m[k].toNat) : (l == m) = false := by
  rw [beq_eq_false_iff_ne]; intro e; subst e; exact h rfl
theorem take_both {l m : List UInt8} {k : Nat} (h1 : k < l.length) (h2 : k < m.length) (e : l.take k = m.take k) (h : l[k].toNat = m[k].toNat) : l.take (k + 1) = m.take (k + 1) := by
  rw [List.take_succ_eq_append_getElem h1, List.take_succ_eq_append_getElem h2, e, UInt8.toNat_inj.1 h]


/-- The marks k, k+1, .. (as bytes). -/
def marks (k n : Nat) : List UInt8 := (List.range n).map fun i => UInt8.ofNat (k + i)
theorem marks_length (k n : Nat) : (marks k n).length = n := by simp [marks]
theorem marks_succ (k n : Nat) : marks k (n + 1) = marks k n ++ [UInt8.ofNat (k + n)] := by simp [marks, List.range_succ]
def markRow (k j : Nat) (xs : List Value) : List Value := (marks k j).map bval ++ xs.drop j
theorem markRow_zero (k : Nat) (xs : List Value) : markRow k 0 xs = xs := by simp [markRow, marks]
theorem markRow_set (k j : Nat) (xs : List Value) (h : j < xs.length) : (markRow k j xs).set j (.int .u8 (((k : Int) + (j : Int)) % 256)) = markRow k (j + 1) xs := by
  unfold markRow
  rw [marks_succ, List.set_append_right _ _ (by simp [marks_length])]
  rw [show j - ((marks k j).map bval).length = 0 from by simp [marks_length], List.drop_eq_getElem_cons h, List.set_cons_zero]
  simp [bval]
theorem marks_at {k n i : Nat} (h : i < n) : ((marks k n).map bval)[i]? = some (.int .u8 (((k : Int) + (i : Int)) % 256)) := by
  simp [marks, h, bval]
theorem markRow_done (k : Nat) (xs : List Value) : markRow k xs.length xs = (marks k xs.length).map bval := by simp [markRow]
theorem markRow_length (k j : Nat) (xs : List Value) (h : j ≤ xs.length) : (markRow k j xs).length = xs.length := by simp [markRow, marks_length]; omega



def copyRow (l : List UInt8) (k : Nat) : List Value := (l.take k).map bval ++ List.replicate (l.length - k) (.int .u8 0)
theorem copyRow_length (l : List UInt8) (k : Nat) (h : k ≤ l.length) : (copyRow l k).length = l.length := by unfold copyRow; simp; omega
theorem copyRow_zero (l : List UInt8) : copyRow l 0 = List.replicate l.length (.int .u8 0) := by simp [copyRow]
theorem copyRow_set (l : List UInt8) (k : Nat) (h : k < l.length) : (copyRow l k).set k (.int .u8 (l[k].toNat : Int)) = copyRow l (k + 1) := by
  unfold copyRow
  rw [List.take_succ_eq_append_getElem h, List.set_append_right _ _ (by simp; omega)]
  obtain ⟨m, hm⟩ : ∃ m, l.length - k = m + 1 := ⟨l.length - k - 1, by omega⟩
  rw [hm, show l.length - (k + 1) = m from by omega, List.replicate_succ]
  rw [show k - ((l.take k).map bval).length = 0 from by simp; omega]
  rw [List.set_cons_zero, List.map_append, List.append_assoc]; rfl
theorem copyRow_done (l : List UInt8) : copyRow l l.length = l.map bval := by unfold copyRow; simp


end Go.Proofs.Ytaedamnhobcdlaa
