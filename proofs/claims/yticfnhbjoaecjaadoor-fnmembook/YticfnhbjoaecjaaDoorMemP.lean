/- Chapter 4, plain: when a memory is valid. No program in it. -/
import Derived.Test.YticfnhbjoaecjaaDoorMemV
namespace Go.Proofs.YticfnhbjoaecjaaDoor
open Go.RowKit
set_option linter.unusedVariables false

theorem gall_snoc {α : Type} (p : α → Bool) (l : List α) (k : Nat) (h : k < l.length) : (l.take (k + 1)).all p = ((l.take k).all p && p l[k]) := by
  rw [List.take_succ_eq_append_getElem h, List.all_append]; simp
theorem gall_bad {α : Type} (p : α → Bool) (l : List α) (k : Nat) (h : k < l.length) (hp : p l[k] = false) : l.all p = false := by
  rw [List.all_eq_false]; exact ⟨l[k], List.getElem_mem h, by simp [hp]⟩
theorem gall_done {α : Type} (p : α → Bool) (l : List α) (k : Nat) (h : l.length ≤ k) (hp : (l.take k).all p = true) : l.all p = true := by
  rw [List.take_of_length_le h] at hp; exact hp
def sizeB (z : Int) : Bool := decide (1 ≤ z) && decide (z ≤ 1000)
def cellB (z : Int) (l : List UInt8) : Bool := decide ((l.length : Int) = z)
def cellsB (z : Int) (ls : List (List UInt8)) : Bool := decide (ls.length ≤ 128) && ls.all (cellB z)
def touchB (z : Int) (n : Nat) (t : TouchM) : Bool := (decide (t.op = 1) || decide (t.op = 2)) && (decide (0 ≤ t.ad) && decide (t.ad < n)) && decide (t.len = z)
def logB (z : Int) (n : Nat) (l : List TouchM) : Bool := decide (l.length ≤ 6000) && l.all (touchB z n)
def memOkB (m : MemM) : Bool := sizeB m.z && cellsB m.z m.cells && logB m.z m.cells.length m.log
theorem touch_cases (z : Int) (n : Nat) (x y u : Int) :
    (touchB z n ⟨x, y, u⟩ = true ∧ (x = 1 ∨ x = 2) ∧ 0 ≤ y ∧ y < n ∧ u = z) ∨
    (touchB z n ⟨x, y, u⟩ = false ∧ ((x ≠ 1 ∧ x ≠ 2) ∨ ((x = 1 ∨ x = 2) ∧ (y < 0 ∨ (0 ≤ y ∧ (n : Int) ≤ y) ∨ (0 ≤ y ∧ y < n ∧ u ≠ z))))) := by
  unfold touchB
  by_cases h1 : x = 1 ∨ x = 2
  · by_cases h2 : y < 0
    · right; refine ⟨?_, .inr ⟨h1, .inl h2⟩⟩; simp; intro _ h; omega
    · by_cases h3 : (n : Int) ≤ y
      · right; refine ⟨?_, .inr ⟨h1, .inr (.inl ⟨by omega, h3⟩)⟩⟩; simp; intro _ _ h; omega
      · by_cases h4 : u = z
        · left; refine ⟨?_, h1, by omega, by omega, h4⟩; simp [h4]; omega
        · right; refine ⟨?_, .inr ⟨h1, .inr (.inr ⟨by omega, by omega, h4⟩)⟩⟩; simp [h4]
  · right; refine ⟨?_, .inl (by omega)⟩; simp; omega
theorem mem_size {m : MemM} (h : sizeB m.z = false) : memOkB m = false := by unfold memOkB; rw [h]; rfl
theorem mem_cells {m : MemM} (h : cellsB m.z m.cells = false) : memOkB m = false := by unfold memOkB; rw [h]; simp
theorem mem_log {m : MemM} (h : logB m.z m.cells.length m.log = false) : memOkB m = false := by unfold memOkB; rw [h]; simp
theorem mem_all {m : MemM} (h1 : sizeB m.z = true) (h2 : cellsB m.z m.cells = true) (h3 : logB m.z m.cells.length m.log = true) : memOkB m = true := by unfold memOkB; rw [h1, h2, h3]; rfl
theorem cells_long {z : Int} {ls : List (List UInt8)} (h : 128 < ls.length) : cellsB z ls = false := by unfold cellsB; simp; omega
theorem cells_bad {z : Int} {ls : List (List UInt8)} (h : ls.all (cellB z) = false) : cellsB z ls = false := by unfold cellsB; rw [h]; simp
theorem cells_good {z : Int} {ls : List (List UInt8)} (h1 : ¬ 128 < ls.length) (h : ls.all (cellB z) = true) : cellsB z ls = true := by unfold cellsB; rw [h]; simp; omega
theorem log_long {z : Int} {n : Nat} {l : List TouchM} (h : 6000 < l.length) : logB z n l = false := by unfold logB; simp; omega
theorem log_bad {z : Int} {n : Nat} {l : List TouchM} (h : l.all (touchB z n) = false) : logB z n l = false := by unfold logB; rw [h]; simp
theorem log_good {z : Int} {n : Nat} {l : List TouchM} (h1 : ¬ 6000 < l.length) (h : l.all (touchB z n) = true) : logB z n l = true := by unfold logB; rw [h]; simp; omega
theorem size_no {z : Int} (h : z < 1 ∨ 1000 < z) : sizeB z = false := by unfold sizeB; simp; omega
theorem size_yes {z : Int} (h1 : ¬ z < 1) (h2 : ¬ 1000 < z) : sizeB z = true := by unfold sizeB; simp; omega
/-- What a valid memory has. -/
theorem mem_of {m : MemM} (h : memOkB m = true) : 1 ≤ m.z ∧ m.z ≤ 1000 ∧ m.cells.length ≤ 128 ∧ m.log.length ≤ 6000 ∧ ∀ l ∈ m.cells, (l.length : Int) = m.z := by
  unfold memOkB sizeB cellsB logB cellB at h
  simp only [Bool.and_eq_true, decide_eq_true_eq, List.all_eq_true] at h
  exact ⟨h.1.1.1, h.1.1.2, h.1.2.1, h.2.1, h.1.2.2⟩
end Go.Proofs.YticfnhbjoaecjaaDoor
