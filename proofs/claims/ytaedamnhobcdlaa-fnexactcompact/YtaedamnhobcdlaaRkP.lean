/- Rankings, plain: the models of chapter 10. No function of the program in it. -/
import Derived.Test.YtaedamnhobcdlaaRecQ
import Derived.Test.YtaedamnhobcdlaaRecR
namespace Go.Proofs.Ytaedamnhobcdlaa
open Go.RowKit
open Go.Lib (compareBytes)
set_option linter.unusedVariables false

/-- The least of 1, 2, 4, .., 64 that is at least n. -/
def sizeUp (n : Nat) : Nat := if n ≤ 1 then 1 else if n ≤ 2 then 2 else if n ≤ 4 then 4 else if n ≤ 8 then 8 else if n ≤ 16 then 16 else if n ≤ 32 then 32 else 64
def rankSizeZ (n : Int) : Int := if n < 0 ∨ 64 < n then -1 else (sizeUp n.toNat : Int)
theorem rankSizeZ_no {n : Int} (h : n < 0 ∨ 64 < n) : rankSizeZ n = -1 := by unfold rankSizeZ; rw [if_pos h]
theorem rankSizeZ_at {n : Nat} (h : n ≤ 64) : rankSizeZ n = (sizeUp n : Int) := by unfold rankSizeZ; rw [if_neg (by omega)]; simp
theorem sizeUp_le {n : Nat} (h : n ≤ 64) : n ≤ sizeUp n ∧ sizeUp n ≤ 64 ∧ 1 ≤ sizeUp n := by
  unfold sizeUp; repeat' split
  all_goals omega
/-- The doubling: s has come to a power of two below n, or is what is asked. -/
def dbl (s n : Nat) : Prop := (s = 1 ∨ s = 2 ∨ s = 4 ∨ s = 8 ∨ s = 16 ∨ s = 32 ∨ s = 64) ∧ s ≤ sizeUp n
theorem dbl_start (n : Nat) : dbl 1 n := ⟨.inl rfl, by unfold sizeUp; repeat' split
                                                       all_goals omega⟩
theorem dbl_next {s n : Nat} (h : dbl s n) (hn : n ≤ 64) (hl : s < n) : dbl (2 * s) n ∧ s ≤ 32 := by
  obtain ⟨h1, h2⟩ := h
  unfold dbl sizeUp at *
  rcases h1 with rfl | rfl | rfl | rfl | rfl | rfl | rfl
  all_goals (refine ⟨⟨by omega, ?_⟩, by omega⟩; repeat' split) <;> omega
theorem dbl_done {s n : Nat} (h : dbl s n) (hn : n ≤ 64) (hl : ¬ s < n) : s = sizeUp n := by
  obtain ⟨h1, h2⟩ := h
  unfold sizeUp at *
  rcases h1 with rfl | rfl | rfl | rfl | rfl | rfl | rfl
  all_goals (revert h2; repeat' split) <;> omega
/-- Where a record is put in, from place k down. -/
def posDown (out : List RecM) (r : RecM) : Nat → Nat
  | 0 => 0
  | k + 1 => if aheadB r (out.getD k zeroR) = true then posDown out r k else k + 1
theorem posDown_le (out : List RecM) (r : RecM) : ∀ k, posDown out r k ≤ k
  | 0 => Nat.le_refl _
  | k + 1 => by unfold posDown; split; exact Nat.le_trans (posDown_le out r k) (Nat.le_succ k); exact Nat.le_refl _
def insR (out : List RecM) (r : RecM) : List RecM := out.take (posDown out r out.length) ++ (r :: out.drop (posDown out r out.length))
theorem insR_length (out : List RecM) (r : RecM) : (insR out r).length = out.length + 1 := by
  unfold insR
  have := posDown_le out r out.length
  simp; omega
def insAll (l : List RecM) : List RecM := l.foldl insR []
theorem insAll_snoc (l : List RecM) (r : RecM) : insAll (l ++ [r]) = insR (insAll l) r := by unfold insAll; rw [List.foldl_append]; rfl
theorem insAll_length (l : List RecM) : (insAll l).length = l.length := by
  have : ∀ (l out : List RecM), (l.foldl insR out).length = out.length + l.length := fun l => by
    induction l with
    | nil => intro out; simp
    | cons x l ih => intro out; simp [ih, insR_length]; omega
  simpa [insAll] using this l []
def rankM (l : List RecM) : List RecM := if recsOkB l = true then insAll l else []
def compactL (l : List RecM) : List RecM := l.filter (·.live) ++ List.replicate (l.length - (l.filter (·.live)).length) zeroR
theorem compactL_length (l : List RecM) : (compactL l).length = l.length := by
  unfold compactL
  have := List.length_filter_le (·.live) l
  simp; omega
def compactM (l : List RecM) : List RecM := if recsOkB l = true then compactL l else []
def topB (l : List RecM) (k : Int) : Bool := recsOkB l && (decide (0 ≤ k) && decide (k ≤ 8))
def topM (l : List RecM) (k : Int) : List RecM := if topB l k = true then (insAll l ++ List.replicate (k.toNat - l.length) zeroR).take k.toNat else []
/-- The list behind the wires. -/
def stepR (l : List RecM) (a b : Nat) : List RecM := (l.set a (pairA (l.getD a zeroR) (l.getD b zeroR))).set b (pairB (l.getD a zeroR) (l.getD b zeroR))
def runRec : List (Nat × Nat) → List RecM → List RecM
  | [], l => l
  | (a, b) :: ws, l => runRec ws (stepR l a b)
theorem stepR_length (l : List RecM) (a b : Nat) : (stepR l a b).length = l.length := by simp [stepR]
theorem runRec_length : ∀ (ws : List (Nat × Nat)) (l : List RecM), (runRec ws l).length = l.length
  | [], l => rfl
  | (a, b) :: ws, l => by rw [runRec, runRec_length ws, stepR_length]
theorem runRec_snoc : ∀ (ws : List (Nat × Nat)) (a b : Nat) (l : List RecM), runRec (ws ++ [(a, b)]) l = stepR (runRec ws l) a b
  | [], a, b, l => rfl
  | (c, d) :: ws, a, b, l => by rw [List.cons_append, runRec, runRec_snoc ws, runRec]
end Go.Proofs.Ytaedamnhobcdlaa
