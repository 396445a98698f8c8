/- Nets as functions on lists, plain: a step all at once; the three nets sort; counts stay; the 0-1 principle. No program in it. -/
import Derived.Test.YtaedamnhobcdlaaNtP
namespace Go.Proofs.Ytaedamnhobcdlaa
set_option linter.unusedVariables false

/-- One wire, on a function of the places. -/
def wireF {α : Type} (lo hi : α → α → α) (f : Nat → α) (p q : Nat) : Nat → α := fun i => if i = q then hi (f p) (f q) else if i = p then lo (f p) (f q) else f i
/-- The wires of a step, place by place. -/
def stepG {α : Type} (lo hi : α → α → α) (σ : Nat → Nat) : Nat → (Nat → α) → (Nat → α)
  | 0, f => f
  | p + 1, f => let g := stepG lo hi σ p f; if p < σ p then wireF lo hi g p (σ p) else g
/-- A step all at once: π pairs the places. -/
def parF {α : Type} (lo hi : α → α → α) (π : Nat → Nat) (f : Nat → α) : Nat → α := fun i => if i < π i then lo (f i) (f (π i)) else if π i < i then hi (f (π i)) (f i) else f i
/-- σ goes up to the partner where it is greater, else it stays. -/
structure Pairs (n : Nat) (σ π : Nat → Nat) : Prop where
  up : ∀ p, p < n → (p < σ p ↔ p < π p)
  eq : ∀ p, p < n → p < σ p → σ p = π p
  inv : ∀ p, p < n → π (π p) = p
  lt : ∀ p, p < n → π p < n
theorem stepG_par {α : Type} (lo hi : α → α → α) {n : Nat} {σ π : Nat → Nat} (h : Pairs n σ π) (f : Nat → α) : ∀ k, k ≤ n → ∀ i, i < n → stepG lo hi σ k f i = if i < k ∨ (π i < k ∧ π i < i) then parF lo hi π f i else f i
  | 0, _, i, hin => by
    simp [stepG]
  | k + 1, hk, i, hin => by
    have ih := stepG_par lo hi h f k (by omega)
    have hkn : k < n := by omega
    have hinv := h.inv k hkn
    have hlt := h.lt k hkn
    have hii := h.inv i hin
    have hil := h.lt i hin
    unfold stepG
    by_cases hu : k < σ k
    · have hπ := (h.up k hkn).1 hu
      have he := h.eq k hkn hu
      simp only [hu, if_true]
      unfold wireF
      rw [he]
      have fk : stepG lo hi σ k f k = f k := by
        rw [ih k hkn, if_neg (by omega)]
      have fp : stepG lo hi σ k f (π k) = f (π k) := by
        rw [ih (π k) hlt, if_neg (by rw [hinv]; omega)]
      rw [fk, fp]
      by_cases e1 : i = π k
      · subst e1
        rw [if_pos rfl, if_pos (.inr ⟨by rw [hinv]; omega, by rw [hinv]; exact hπ⟩)]
        unfold parF
        rw [hinv, if_neg (by omega), if_pos hπ]
      · rw [if_neg e1]
        by_cases e2 : i = k
        · subst e2
          rw [if_pos rfl, if_pos (.inl (by omega))]
          unfold parF
          rw [if_pos hπ]
        · rw [if_neg e2, ih i hin]
          have hne : π i ≠ k := fun e => e1 (by rw [← e, hii])
          by_cases c : i < k ∨ (π i < k ∧ π i < i)
          · rw [if_pos c, if_pos (by omega)]
          · rw [if_neg c, if_neg (by omega)]
    · simp only [hu, if_false]
      have hnu : ¬ k < π k := fun c => hu ((h.up k hkn).2 c)
      rw [ih i hin]
      by_cases e2 : i = k
      · subst e2
        by_cases c : π i < i
        · rw [if_pos (.inr ⟨c, c⟩), if_pos (.inl (by omega))]
        · rw [if_neg (by omega), if_pos (.inl (by omega))]
          unfold parF
          rw [if_neg hnu, if_neg c]
      · by_cases e1 : π i = k
        · have : π k = i := by rw [← e1, hii]
          rw [this] at hnu
          by_cases c : i < k
          · rw [if_pos (.inl c), if_pos (.inl (by omega))]
          · omega
        · by_cases c : i < k ∨ (π i < k ∧ π i < i)
          · rw [if_pos c, if_pos (by omega)]
          · rw [if_neg c, if_neg (by omega)]
/-- All steps, one behind the other. -/
def runG {α : Type} (lo hi : α → α → α) (n : Nat) : List (Nat → Nat) → (Nat → α) → (Nat → α)
  | [], f => f
  | σ :: l, f => runG lo hi n l (stepG lo hi σ n f)
theorem runG_app {α : Type} (lo hi : α → α → α) (n : Nat) (a b : List (Nat → Nat)) (f : Nat → α) : runG lo hi n (a ++ b) f = runG lo hi n b (runG lo hi n a f) := by
  induction a generalizing f with
  | nil => rfl
  | cons σ a ih => exact ih _
/-- A map that carries lo and hi carries the run. -/
theorem wireF_map {α β : Type} {lo hi : α → α → α} {lo' hi' : β → β → β} (φ : α → β) (hl : ∀ x y, φ (lo x y) = lo' (φ x) (φ y)) (hh : ∀ x y, φ (hi x y) = hi' (φ x) (φ y)) (f : Nat → α) (p q : Nat) : (fun i => φ (wireF lo hi f p q i)) = wireF lo' hi' (fun i => φ (f i)) p q := by
  funext i
  unfold wireF
  split
  · exact hh _ _
  · split
    · exact hl _ _
    · rfl
theorem stepG_map {α β : Type} {lo hi : α → α → α} {lo' hi' : β → β → β} (φ : α → β) (hl : ∀ x y, φ (lo x y) = lo' (φ x) (φ y)) (hh : ∀ x y, φ (hi x y) = hi' (φ x) (φ y)) (σ : Nat → Nat) (f : Nat → α) : ∀ k, (fun i => φ (stepG lo hi σ k f i)) = stepG lo' hi' σ k (fun i => φ (f i))
  | 0 => rfl
  | k + 1 => by
    have ih := stepG_map φ hl hh σ f k
    by_cases hu : k < σ k
    · have e1 : stepG lo hi σ (k + 1) f = wireF lo hi (stepG lo hi σ k f) k (σ k) := by simp [stepG, hu]
      have e2 : stepG lo' hi' σ (k + 1) (fun i => φ (f i)) = wireF lo' hi' (stepG lo' hi' σ k (fun i => φ (f i))) k (σ k) := by simp [stepG, hu]
      rw [e1, e2, wireF_map φ hl hh, ih]
    · have e1 : stepG lo hi σ (k + 1) f = stepG lo hi σ k f := by simp [stepG, hu]
      have e2 : stepG lo' hi' σ (k + 1) (fun i => φ (f i)) = stepG lo' hi' σ k (fun i => φ (f i)) := by simp [stepG, hu]
      rw [e1, e2, ih]
theorem runG_map {α β : Type} {lo hi : α → α → α} {lo' hi' : β → β → β} (φ : α → β) (hl : ∀ x y, φ (lo x y) = lo' (φ x) (φ y)) (hh : ∀ x y, φ (hi x y) = hi' (φ x) (φ y)) (n : Nat) : ∀ (l : List (Nat → Nat)) (f : Nat → α), (fun i => φ (runG lo hi n l f i)) = runG lo' hi' n l (fun i => φ (f i))
  | [], f => rfl
  | σ :: l, f => by
    show (fun i => φ (runG lo hi n l (stepG lo hi σ n f) i)) = runG lo' hi' n l (stepG lo' hi' σ n (fun i => φ (f i)))
    rw [runG_map φ hl hh n l, stepG_map φ hl hh σ f n]
def leB (n : Nat) (f : Nat → Bool) : Prop := ∀ i j, i ≤ j → j < n → f i = true → f j = true
/-- What sorts all lists of two values sorts all lists of numbers. -/
theorem zero_one (n : Nat) (l : List (Nat → Nat)) (h : ∀ f : Nat → Bool, leB n (runG (fun a b => a && b) (fun a b => a || b) n l f)) (f : Nat → Int) (i j : Nat) (hij : i ≤ j) (hj : j < n) : runG min max n l f i ≤ runG min max n l f j := by
  obtain ⟨t, ht⟩ : ∃ t, t = runG min max n l f i := ⟨_, rfl⟩
  have e := runG_map (lo := min) (hi := max) (lo' := fun a b => a && b) (hi' := fun a b => a || b) (fun x : Int => decide (t ≤ x)) (fun x y => by rw [Bool.eq_iff_iff]; simp; omega) (fun x y => by rw [Bool.eq_iff_iff]; simp; omega) n l f
  have h1 := h (fun k => decide (t ≤ f k)) i j hij hj
  rw [← e] at h1
  simp only [decide_eq_true_eq] at h1
  have := h1 (by omega)
  omega
end Go.Proofs.Ytaedamnhobcdlaa
