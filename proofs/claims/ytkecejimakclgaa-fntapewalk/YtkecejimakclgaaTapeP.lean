/- Plain facts on tapes: valid, draws left, the next ones. No program in it. -/
import Derived.Test.YtkecejimakclgaaLeaf
namespace Go.Proofs.Ytkecejimakclgaa
/-- A valid tape: at most 4000 draws, the place among them, each draw within its bounds. -/
def tapeB (l : List Int) (at' : Int) : Bool := decide (l.length ≤ 4000) && decide (0 ≤ at') && decide (at' ≤ l.length) && l.all drawB
def leftI (l : List Int) (at' : Int) : Int := if tapeB l at' then l.length - at' else -1
theorem tape_long {l : List Int} {z : Int} (h : 4000 < l.length) : tapeB l z = false := by
  have : ¬ l.length ≤ 4000 := by omega
  unfold tapeB; simp [this]
theorem tape_neg {l : List Int} {z : Int} (h : z < 0) : tapeB l z = false := by
  have : ¬ 0 ≤ z := by omega
  unfold tapeB; simp [this]
theorem tape_over {l : List Int} {z : Int} (h : (l.length : Int) < z) : tapeB l z = false := by
  have : ¬ z ≤ l.length := by omega
  unfold tapeB; simp [this]
theorem tape_mid {l : List Int} {z : Int} (h1 : ¬ 4000 < l.length) (h2 : ¬ z < 0) (h3 : ¬ (l.length : Int) < z) : tapeB l z = l.all drawB := by
  have a : l.length ≤ 4000 := by omega
  have b : 0 ≤ z := by omega
  have c : z ≤ l.length := by omega
  unfold tapeB; simp [a, b, c]
theorem tape_of {l : List Int} {z : Int} (h : tapeB l z = true) : l.length ≤ 4000 ∧ 0 ≤ z ∧ z ≤ l.length ∧ l.all drawB = true := by
  unfold tapeB at h; simp only [Bool.and_eq_true, decide_eq_true_eq] at h; exact ⟨h.1.1.1, h.1.1.2, h.1.2, h.2⟩
theorem left_no {l : List Int} {z : Int} (h : tapeB l z = false) : leftI l z = -1 := by unfold leftI; rw [h]; rfl
theorem left_yes {l : List Int} {z : Int} (h : tapeB l z = true) : leftI l z = l.length - z := by unfold leftI; rw [h]; rfl
theorem left_bounds (l : List Int) (z : Int) : -1 ≤ leftI l z ∧ leftI l z ≤ 4000 := by
  cases h : tapeB l z
  · rw [left_no h]; omega
  · rw [left_yes h]; have := tape_of h; omega
theorem iall_snoc (l : List Int) (k : Nat) (h : k < l.length) : (l.take (k + 1)).all drawB = ((l.take k).all drawB && drawB l[k]) := by
  rw [List.take_succ_eq_append_getElem h, List.all_append, List.all_cons, List.all_nil, Bool.and_true]
theorem iall_bad (l : List Int) (k : Nat) (h : k < l.length) (hb : drawB l[k] = false) : l.all drawB = false := by
  rw [List.all_eq_false]
  exact ⟨l[k], List.getElem_mem h, by simp [hb]⟩
theorem iall_done (l : List Int) (k : Nat) (h : l.length ≤ k) (hb : (l.take k).all drawB = true) : l.all drawB = true := by
  rwa [List.take_of_length_le h] at hb
/-- Is there a next draw? -/
def hasB (l : List Int) (z : Int) : Bool := decide (1 ≤ leftI l z)
def takeL (l : List Int) (z : Int) : List Int := if hasB l z then l else []
def takeAt (l : List Int) (z : Int) : Int := if hasB l z then z + 1 else 0
def takeD (l : List Int) (z : Int) : Int := if hasB l z then l.getD z.toNat 0 else 0
theorem has_no {l : List Int} {z : Int} (h : leftI l z < 1) : hasB l z = false := by unfold hasB; simp; omega
theorem has_yes {l : List Int} {z : Int} (h : ¬ leftI l z < 1) : hasB l z = true := by unfold hasB; simp; omega
theorem take_no {l : List Int} {z : Int} (h : hasB l z = false) : takeL l z = [] ∧ takeAt l z = 0 ∧ takeD l z = 0 := by
  unfold takeL takeAt takeD; rw [h]; exact ⟨rfl, rfl, rfl⟩
theorem take_yes {l : List Int} {z : Int} (h : hasB l z = true) : takeL l z = l ∧ takeAt l z = z + 1 ∧ takeD l z = l.getD z.toNat 0 := by
  unfold takeL takeAt takeD; rw [h]; exact ⟨rfl, rfl, rfl⟩
theorem has_of {l : List Int} {z : Int} (h : hasB l z = true) : tapeB l z = true ∧ 0 ≤ z ∧ z < l.length ∧ l.length ≤ 4000 := by
  have h1 : 1 ≤ leftI l z := by simpa [hasB] using h
  cases hb : tapeB l z
  · rw [left_no hb] at h1; omega
  · rw [left_yes hb] at h1
    have := tape_of hb
    exact ⟨rfl, by omega, by omega, this.1⟩
/-- Are there n more? -/
def nextB (l : List Int) (z n : Int) : Bool := decide (0 ≤ n) && decide (n ≤ leftI l z)
def nextL (l : List Int) (z n : Int) : List Int := if nextB l z n then (l.drop z.toNat).take n.toNat else []
theorem next_neg {l : List Int} {z n : Int} (h : n < 0) : nextB l z n = false := by
  have : ¬ 0 ≤ n := by omega
  unfold nextB; simp [this]
theorem next_over {l : List Int} {z n : Int} (h : leftI l z < n) : nextB l z n = false := by
  have : ¬ n ≤ leftI l z := by omega
  unfold nextB; simp [this]
theorem next_yes {l : List Int} {z n : Int} (h : ¬ n < 0) (k : ¬ leftI l z < n) : nextB l z n = true := by
  unfold nextB; simp; omega
theorem nextL_no {l : List Int} {z n : Int} (h : nextB l z n = false) : nextL l z n = [] := by unfold nextL; rw [h]; rfl
theorem nextL_yes {l : List Int} {z n : Int} (h : nextB l z n = true) : nextL l z n = (l.drop z.toNat).take n.toNat := by unfold nextL; rw [h]; rfl
theorem next_of {l : List Int} {z n : Int} (h : nextB l z n = true) : tapeB l z = true ∧ 0 ≤ n ∧ 0 ≤ z ∧ z + n ≤ l.length ∧ l.length ≤ 4000 := by
  have h1 : 0 ≤ n ∧ n ≤ leftI l z := by simpa [nextB] using h
  cases hb : tapeB l z
  · rw [left_no hb] at h1; omega
  · rw [left_yes hb] at h1
    have := tape_of hb
    exact ⟨rfl, by omega, by omega, by omega, this.1⟩
theorem nextL_length {l : List Int} {z n : Int} (h : nextB l z n = true) : (nextL l z n).length = n.toNat := by
  have := next_of h
  rw [nextL_yes h]; simp; omega
end Go.Proofs.Ytkecejimakclgaa
