/- The laws' own helpers over rows of cells, the second part: copied, compared, marked, held. -/
import Derived.Test.YticfnhbjoaecjaaDoorMemCel
namespace Go.Proofs.YticfnhbjoaecjaaDoor
open Go.RowKit
set_option linter.unusedVariables false

theorem Datas.set_row {lo hi : Nat} {vs us : List Value} {ls : List (List UInt8)} {w : World} {base g n cap k : Nat} (h : Datas lo hi vs ls w) (ho : w.ownsRow base 43 1 (.slice (some ⟨g, 0, none⟩) n cap) n us) (u : Value) : Datas lo hi vs ls (w.setCell ⟨g, k, none⟩ u) :=
  h.turned (Turned.own ho (ho.stored k u).2) (by decide)
theorem fill_set {u z : Value} : ∀ (us : List Value) (m : Nat), (us ++ List.replicate (m + 1) z).set us.length u = us ++ [u] ++ List.replicate m z := by
  intro us m
  rw [List.set_append_right _ _ (Nat.le_refl _), Nat.sub_self, List.replicate_succ, List.set_cons_zero]
  simp
def mkC : Nat → List (List UInt8) → List (List UInt8)
  | _, [] => []
  | k, l :: ls => marks k l.length :: mkC (k + l.length) ls
theorem mkC_length : ∀ k ls, (mkC k ls).length = ls.length
  | _, [] => rfl
  | k, l :: ls => by simp [mkC, mkC_length]
theorem mkC_snoc : ∀ k ls l, mkC k (ls ++ [l]) = mkC k ls ++ [marks (k + sumL ls) l.length]
  | k, [], l => by simp [mkC, sumL]
  | k, m :: ls, l => by
    have e : sumL (m :: ls) = m.length + sumL ls := by simp [sumL]
    simp only [mkC, List.cons_append, mkC_snoc (k + m.length) ls l, e, Nat.add_assoc]
theorem mkC_at : ∀ (k : Nat) (ls : List (List UInt8)) (j : Nat) (h : j < ls.length), (mkC k ls)[j]'(by rw [mkC_length]; exact h) = marks (k + sumL (ls.take j)) ls[j].length
  | _, [], j, h => by simp at h
  | k, l :: ls, 0, h => by simp [mkC, sumL]
  | k, l :: ls, j + 1, h => by
    have := mkC_at (k + l.length) ls j (by simpa using h)
    simp only [mkC, List.getElem_cons_succ, List.take_succ_cons, this]
    have e : sumL (l :: ls.take j) = l.length + sumL (ls.take j) := by simp [sumL]
    rw [e, Nat.add_assoc]
theorem sumL_mkC : ∀ k ls, sumL (mkC k ls) = sumL ls
  | _, [] => rfl
  | k, l :: ls => by simp only [sumL, mkC, List.map_cons, List.sum_cons, marks_length]; have := sumL_mkC (k + l.length) ls; unfold sumL at this; rw [this]
def mkCj (k j : Nat) (ls : List (List UInt8)) : List (List UInt8) := mkC k (ls.take j) ++ ls.drop j
theorem mkCj_zero (k : Nat) (ls : List (List UInt8)) : mkCj k 0 ls = ls := by simp [mkCj, mkC]
theorem mkCj_done (k : Nat) (ls : List (List UInt8)) : mkCj k ls.length ls = mkC k ls := by simp [mkCj]
theorem mkCj_length (k j : Nat) (ls : List (List UInt8)) (h : j ≤ ls.length) : (mkCj k j ls).length = ls.length := by simp [mkCj, mkC_length]; omega
theorem mkCj_at (k j : Nat) (ls : List (List UInt8)) (h : j < ls.length) : (mkCj k j ls)[j]? = some ls[j] := by
  unfold mkCj
  rw [List.getElem?_append_right (by rw [mkC_length, List.length_take]; omega), mkC_length, List.length_take]
  simp [Nat.min_eq_left (Nat.le_of_lt h), h]
theorem mkCj_set (k j : Nat) (ls : List (List UInt8)) (h : j < ls.length) : (mkCj k j ls).set j (marks (k + sumL (ls.take j)) ls[j].length) = mkCj k (j + 1) ls := by
  unfold mkCj
  rw [List.take_succ_eq_append_getElem h, mkC_snoc, List.set_append_right _ _ (by rw [mkC_length, List.length_take]; omega)]
  rw [show j - (mkC k (ls.take j)).length = 0 from by rw [mkC_length, List.length_take]; omega, List.drop_eq_getElem_cons h, List.set_cons_zero]
  simp
end Go.Proofs.YticfnhbjoaecjaaDoor
