/- The three nets, plain: their steps and wires; no program in it. -/
import Derived.Test.YtaedamnhobcdlaaNetP
namespace Go.Proofs.Ytaedamnhobcdlaa
set_option linter.unusedVariables false

def wireAt (σ : Nat → Nat) (p : Nat) : List WireM := if p < σ p then [⟨(p : Int), (σ p : Int)⟩] else []
def stepW (σ : Nat → Nat) (n : Nat) : List WireM := (List.range n).flatMap (wireAt σ)
theorem stepW_zero (σ : Nat → Nat) : stepW σ 0 = [] := rfl
theorem stepW_succ (σ : Nat → Nat) (p : Nat) : stepW σ (p + 1) = stepW σ p ++ wireAt σ p := by
  unfold stepW
  rw [List.range_succ, List.flatMap_append]
  simp
theorem wireAt_yes {σ : Nat → Nat} {p : Nat} (h : p < σ p) : wireAt σ p = [⟨(p : Int), (σ p : Int)⟩] := by unfold wireAt; rw [if_pos h]
theorem wireAt_no {σ : Nat → Nat} {p : Nat} (h : ¬ p < σ p) : wireAt σ p = [] := by unfold wireAt; rw [if_neg h]
theorem wireAt_length (σ : Nat → Nat) (p : Nat) : (wireAt σ p).length ≤ 1 := by unfold wireAt; split <;> simp
theorem stepW_length (σ : Nat → Nat) : ∀ n, (stepW σ n).length ≤ n
  | 0 => Nat.le_refl _
  | n + 1 => by
    have h1 := stepW_length σ n
    have h2 := wireAt_length σ n
    rw [stepW_succ, List.length_append]
    omega
def neiF (r p : Nat) : Nat := if r ≤ p then p else p + 1
def mirF (s p : Nat) : Nat := if s / 2 ≤ p % s then p else p - p % s + s - 1 - p % s
def halF (h p : Nat) : Nat := if h ≤ p % (2 * h) then p else p + h
def oddF (s h p : Nat) : Nat := if s - h ≤ p % s ∨ p % s / h % 2 = 0 then p else p + h
/-- The wires of a list of steps, in order. -/
def allW (n : Nat) : List (Nat → Nat) → List WireM
  | [] => []
  | σ :: l => stepW σ n ++ allW n l
theorem allW_app (n : Nat) (a b : List (Nat → Nat)) : allW n (a ++ b) = allW n a ++ allW n b := by
  induction a with
  | nil => rfl
  | cons σ a ih => simp [allW, ih]
theorem allW_length (n : Nat) : ∀ l : List (Nat → Nat), (allW n l).length ≤ l.length * n
  | [] => by simp [allW]
  | σ :: l => by
    have h1 := stepW_length σ n
    have h2 := allW_length n l
    simp only [allW, List.length_append, List.length_cons, Nat.succ_mul]
    omega
/-- r, r - 1, .., 1. -/
def bubS : Nat → List (Nat → Nat)
  | 0 => []
  | r + 1 => neiF (r + 1) :: bubS r
theorem bubS_length : ∀ r, (bubS r).length = r
  | 0 => rfl
  | r + 1 => by simp [bubS, bubS_length r]
/-- h, h / 2, .., 1. -/
def downs (f : Nat → Nat → Nat) : Nat → Nat → List (Nat → Nat)
  | 0, _ => []
  | k + 1, h => if h = 0 then [] else f h :: downs f k (h / 2)
theorem downs_nil (f : Nat → Nat → Nat) (k : Nat) : downs f k 0 = [] := by cases k <;> simp [downs]
theorem downs_cons (f : Nat → Nat → Nat) (k h : Nat) (h0 : h ≠ 0) : downs f (k + 1) h = f h :: downs f k (h / 2) := by rw [downs, if_neg h0]
theorem downs_length (f : Nat → Nat → Nat) : ∀ k h, (downs f k h).length ≤ k
  | 0, _ => Nat.le_refl _
  | k + 1, h => by
    have := downs_length f k (h / 2)
    rw [downs]
    split
    · simp
    · simp; omega
/-- The steps for s, 2s, .. up to n: each a first step, then those for s / 4, s / 8, .., 1. -/
def ups (g : Nat → Nat → Nat) (f : Nat → Nat → Nat → Nat) (n : Nat) : Nat → Nat → List (Nat → Nat)
  | 0, _ => []
  | k + 1, s => if s ≤ n then (g s :: downs (f s) 6 (s / 4)) ++ ups g f n k (2 * s) else []
theorem ups_end (g : Nat → Nat → Nat) (f : Nat → Nat → Nat → Nat) (n k s : Nat) (h : n < s) : ups g f n k s = [] := by
  cases k with
  | zero => rfl
  | succ k => rw [ups, if_neg (by omega)]
theorem ups_length (g : Nat → Nat → Nat) (f : Nat → Nat → Nat → Nat) (n : Nat) : ∀ k s, (ups g f n k s).length ≤ 7 * k
  | 0, _ => Nat.le_refl _
  | k + 1, s => by
    have h1 := ups_length g f n k (2 * s)
    have h2 := downs_length (f s) 6 (s / 4)
    rw [ups]
    split
    · simp; omega
    · simp
def bitS (n : Nat) : List (Nat → Nat) := ups mirF (fun _ => halF) n 6 2
def oeS (n : Nat) : List (Nat → Nat) := ups (fun s => halF (s / 2)) oddF n 6 2
def isTwo (n : Nat) : Prop := n = 1 ∨ n = 2 ∨ n = 4 ∨ n = 8 ∨ n = 16 ∨ n = 32 ∨ n = 64
instance (n : Nat) : Decidable (isTwo n) := by unfold isTwo; infer_instance
def twoZ (z : Int) : Bool := decide (0 ≤ z ∧ isTwo z.toNat)
def bitonicM (z : Int) : NetM := if twoZ z = true then ⟨z, allW z.toNat (bitS z.toNat)⟩ else ⟨0, []⟩
def oddEvenM (z : Int) : NetM := if twoZ z = true then ⟨z, allW z.toNat (oeS z.toNat)⟩ else ⟨0, []⟩
def bubbleM (z : Int) : NetM := if 1 ≤ z ∧ z ≤ 64 then ⟨z, allW z.toNat (bubS (z.toNat - 1))⟩ else ⟨0, []⟩
theorem isTwo_le {n : Nat} (h : isTwo n) : 1 ≤ n ∧ n ≤ 64 := by unfold isTwo at h; omega
theorem twoZ_nat {z : Int} (h : twoZ z = true) : ∃ n : Nat, z = n ∧ isTwo n := by
  unfold twoZ at h
  simp only [decide_eq_true_eq] at h
  exact ⟨z.toNat, by omega, h.2⟩
theorem bubbleM_bd (z : Int) : mcNet (bubbleM z) ≤ 1000000000000 := by
  unfold bubbleM mcNet
  split
  · rename_i h
    have h1 := allW_length z.toNat (bubS (z.toNat - 1))
    rw [bubS_length] at h1
    have h2 : (z.toNat - 1) * z.toNat ≤ 64 * 64 := Nat.mul_le_mul (by omega) (by omega)
    simp only []
    omega
  · simp
theorem bitonicM_bd (z : Int) : mcNet (bitonicM z) ≤ 1000000000000 := by
  unfold bitonicM mcNet
  split
  · rename_i h
    obtain ⟨n, rfl, hn⟩ := twoZ_nat h
    have := isTwo_le hn
    have h1 := allW_length n (bitS n)
    have h3 : (bitS n).length ≤ 42 := ups_length _ _ n 6 2
    have h2 : (bitS n).length * n ≤ 42 * 64 := Nat.mul_le_mul h3 (by omega)
    simp only [Int.toNat_natCast]
    omega
  · simp
theorem oddEvenM_bd (z : Int) : mcNet (oddEvenM z) ≤ 1000000000000 := by
  unfold oddEvenM mcNet
  split
  · rename_i h
    obtain ⟨n, rfl, hn⟩ := twoZ_nat h
    have := isTwo_le hn
    have h1 := allW_length n (oeS n)
    have h3 : (oeS n).length ≤ 42 := ups_length _ _ n 6 2
    have h2 : (oeS n).length * n ≤ 42 * 64 := Nat.mul_le_mul h3 (by omega)
    simp only [Int.toNat_natCast]
    omega
  · simp
end Go.Proofs.Ytaedamnhobcdlaa
