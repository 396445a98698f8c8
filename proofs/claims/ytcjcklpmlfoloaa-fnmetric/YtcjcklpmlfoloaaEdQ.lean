/- The edits of EditText, plain: each is possible, and together they cost the distance. No program in it. -/
import Derived.Test.YtcjcklpmlfoloaaEdP
namespace Go.Proofs.Ytcjcklpmlfoloaa
set_option linter.unusedVariables false

theorem least_ok (a b : List UInt8) (h : ¬ (a = [] ∧ b = [])) :
    passL (leastE a b).1.toNat a b = ((leastE a b).2.1, (leastE a b).2.2, true) ∧ dist a b = dist (a.drop (leastE a b).2.1) (b.drop (leastE a b).2.2) + priceL (leastE a b).1.toNat ∧
      (leastE a b).2.1 ≤ a.length ∧ (leastE a b).2.2 ≤ b.length ∧ 1 ≤ (leastE a b).2.1 + (leastE a b).2.2 := by
  unfold leastE
  by_cases h1 : a.isEmpty = false ∧ dist a b = dist (a.drop 1) b + 1
  · rw [if_pos h1]
    cases a with
    | nil => simp at h1
    | cons x l => exact ⟨rfl, by simpa [priceL] using h1.2, by simp, by simp, by simp⟩
  rw [if_neg h1]
  by_cases h2 : b.isEmpty = false ∧ dist a b = dist a (b.drop 1) + 1
  · rw [if_pos h2]
    cases b with
    | nil => simp at h2
    | cons y m => exact ⟨rfl, by simpa [priceL] using h2.2, by simp, by simp, by simp⟩
  rw [if_neg h2]
  cases a with
  | nil =>
    cases b with
    | nil => exact absurd ⟨rfl, rfl⟩ h
    | cons y m => exact absurd ⟨rfl, by simp [dist_nil]⟩ h2
  | cons x l =>
    cases b with
    | nil => exact absurd ⟨rfl, by simp [dist_end]⟩ h1
    | cons y m =>
      have e1 : ¬ dist (x :: l) (y :: m) = dist l (y :: m) + 1 := fun e => h1 ⟨rfl, by simpa using e⟩
      have e2 : ¬ dist (x :: l) (y :: m) = dist (x :: l) m + 1 := fun e => h2 ⟨rfl, by simpa using e⟩
      have d := dist_cons x y l m
      by_cases h3 : (((x :: l).isEmpty = false ∧ (y :: m).isEmpty = false ∧ (x :: l).head? = (y :: m).head?) ∧ dist (x :: l) (y :: m) = dist ((x :: l).drop 1) ((y :: m).drop 1))
      · rw [if_pos h3]
        have hx : x = y := by simpa using h3.1.2.2
        subst hx
        exact ⟨by simp [passL], by simpa [priceL] using h3.2, by simp, by simp, by simp⟩
      · rw [if_neg h3]
        have hx : ¬ x = y := by
          intro e
          rw [if_pos e] at d
          exact h3 ⟨⟨rfl, rfl, by simp [e]⟩, by simp only [List.drop_succ_cons, List.drop_zero]; omega⟩
        rw [if_neg hx] at d
        exact ⟨by simp [passL, hx], by simp only [List.drop_succ_cons, List.drop_zero]; unfold priceL; simp; omega, by simp, by simp, by simp⟩
theorem edits_cost : ∀ (r : Nat) (a b : List UInt8), a.length + b.length ≤ r → costL (editsL r a b) a b = some (dist a b)
  | 0, a, b, h => by
    have ha : a = [] := List.eq_nil_of_length_eq_zero (by omega)
    have hb : b = [] := List.eq_nil_of_length_eq_zero (by omega)
    subst ha; subst hb; rfl
  | r + 1, a, b, h => by
    by_cases e : a = [] ∧ b = []
    · rw [e.1, e.2]; rfl
    · have hne : (a.isEmpty && b.isEmpty) = false := by
        cases a <;> cases b <;> simp_all
      obtain ⟨h1, h2, h3, h4, h5⟩ := least_ok a b e
      have ih := edits_cost r (a.drop (leastE a b).2.1) (b.drop (leastE a b).2.2) (by rw [List.length_drop, List.length_drop]; omega)
      unfold editsL
      rw [hne]
      simp only [Bool.false_eq_true, if_false]
      unfold costL
      rw [h1]
      simp only [if_true]
      rw [ih]
      simp only [Option.map_some]
      rw [h2]
theorem edits_length : ∀ (r : Nat) (a b : List UInt8), (editsL r a b).length ≤ r
  | 0, a, b => Nat.le_refl _
  | r + 1, a, b => by
    unfold editsL
    split
    · simp
    · simp; exact edits_length r _ _
theorem edits_end (r : Nat) : editsL r [] [] = [] := by cases r <;> rfl
/-- One edit more, at place i of A, j of B. -/
theorem edits_step {A B full es : List UInt8} {i j r : Nat} (hi : i ≤ A.length) (hj : j ≤ B.length) (hne : i < A.length ∨ j < B.length) (h : full = es ++ editsL r (A.drop i) (B.drop j)) (hr : (A.length - i) + (B.length - j) ≤ r) :
    ∃ r', r = r' + 1 ∧ full = (es ++ [(leastE (A.drop i) (B.drop j)).1]) ++ editsL r' (A.drop (i + (leastE (A.drop i) (B.drop j)).2.1)) (B.drop (j + (leastE (A.drop i) (B.drop j)).2.2)) ∧
      i + (leastE (A.drop i) (B.drop j)).2.1 ≤ A.length ∧ j + (leastE (A.drop i) (B.drop j)).2.2 ≤ B.length ∧ 1 ≤ (leastE (A.drop i) (B.drop j)).2.1 + (leastE (A.drop i) (B.drop j)).2.2 ∧
      (A.length - (i + (leastE (A.drop i) (B.drop j)).2.1)) + (B.length - (j + (leastE (A.drop i) (B.drop j)).2.2)) ≤ r' := by
  have e : ¬ (A.drop i = [] ∧ B.drop j = []) := by
    rw [List.drop_eq_nil_iff, List.drop_eq_nil_iff]; omega
  obtain ⟨_, _, h3, h4, h5⟩ := least_ok (A.drop i) (B.drop j) e
  rw [List.length_drop] at h3 h4
  obtain ⟨r', rfl⟩ : ∃ r', r = r' + 1 := ⟨r - 1, by omega⟩
  refine ⟨r', rfl, ?_, by omega, by omega, h5, by omega⟩
  rw [h]
  have hne' : ((A.drop i).isEmpty && (B.drop j).isEmpty) = false := by
    cases h1 : A.drop i <;> cases h2 : B.drop j <;> simp_all
  conv => lhs; unfold editsL
  rw [hne']
  simp [List.drop_drop]
theorem edits_done {A B full es : List UInt8} {i j r : Nat} (hi : A.length ≤ i) (hj : B.length ≤ j) (h : full = es ++ editsL r (A.drop i) (B.drop j)) : full = es := by
  rw [h, List.drop_of_length_le hi, List.drop_of_length_le hj, edits_end, List.append_nil]
theorem cost_text {a b : List UInt8} (ha : a.length ≤ 32) (hb : b.length ≤ 32) : costZ (editTextL a b) a b = (dist a b : Int) := by
  have e : editTextL a b = editsL (a.length + b.length) a b := by unfold editTextL; rw [if_neg (by omega)]
  have hl := edits_length (a.length + b.length) a b
  unfold costZ
  rw [e, if_neg (by omega), edits_cost _ _ _ (Nat.le_refl _)]
theorem text_cost (a b : List UInt8) : costZ (editTextL a b) a b = distZ a b := by
  unfold distZ
  by_cases h : 32 < a.length ∨ 32 < b.length
  · rw [if_pos h]; unfold costZ; rw [if_pos (by omega)]
  · rw [if_neg h]; exact cost_text (by omega) (by omega)
/-- No edits cost less. -/
theorem cost_above (e a b : List UInt8) : costZ e a b < 0 ∨ distZ a b ≤ costZ e a b := by
  unfold costZ
  by_cases h : 32 < a.length ∨ 32 < b.length ∨ 64 < e.length
  · rw [if_pos h]; exact .inl (by omega)
  · rw [if_neg h]
    cases hc : costL e a b with
    | none => exact .inl (by simp)
    | some c =>
      refine .inr ?_
      have := cost_least e a b c hc
      unfold distZ
      rw [if_neg (by omega)]
      simp; exact this
end Go.Proofs.Ytcjcklpmlfoloaa
