/- The three nets sort every list, plain: the stages of Bitonic and of OddEven; Bubble. No program in it. -/
import Derived.Test.YtaedamnhobcdlaaNsQ
namespace Go.Proofs.Ytaedamnhobcdlaa
set_option linter.unusedVariables false

abbrev AB : Bool → Bool → Bool := fun a b => a && b
abbrev OB : Bool → Bool → Bool := fun a b => a || b
theorem Sor.ext {f g : Nat → Bool} {b m : Nat} (h : Sor f b m) (e : ∀ r, r < m → g (b + r) = f (b + r)) : Sor g b m := by
  obtain ⟨c, hc, hr⟩ := h
  exact ⟨c, hc, fun r hlt => by rw [e r hlt]; exact hr r hlt⟩
/-- All blocks of m places are sorted. -/
def Blocks (n m : Nat) (f : Nat → Bool) : Prop := ∀ q, (q + 1) * m ≤ n → Sor f (q * m) m
theorem blocks_one (n : Nat) (f : Nat → Bool) : Blocks n 1 f := fun q _ => by
  have z : ∀ r, r < 1 → r = 0 := fun r hr => by omega
  by_cases c : f (q * 1 + 0) = true
  · refine ⟨0, by omega, fun r hr => ?_⟩
    rw [z r hr]
    exact ⟨fun _ => Nat.le_refl _, fun _ => c⟩
  · refine ⟨1, by omega, fun r hr => ?_⟩
    rw [z r hr]
    exact ⟨fun h => absurd h c, fun h => absurd h (by omega)⟩
/-- A step all at once, for the places below n. -/
theorem step_at {n : Nat} {σ π : Nat → Nat} (h : Pairs n σ π) (f : Nat → Bool) (i : Nat) (hi : i < n) : stepG AB OB σ n f i = parB π f i := by
  rw [stepG_par AB OB h f n (Nat.le_refl _) i hi, if_pos (.inl hi)]
/-- What is read below n decides what comes below n. -/
theorem stepG_congr {α : Type} (lo hi : α → α → α) {n : Nat} {σ π : Nat → Nat} (h : Pairs n σ π) {f g : Nat → α} (e : ∀ i, i < n → f i = g i) (i : Nat) (hin : i < n) : stepG lo hi σ n f i = stepG lo hi σ n g i := by
  rw [stepG_par lo hi h f n (Nat.le_refl _) i hin, stepG_par lo hi h g n (Nat.le_refl _) i hin]
  simp only [hin, true_or, if_true]
  unfold parF
  rw [e i hin, e (π i) (h.lt i hin)]
/-- The steps h, h / 2, .., 1 as a run over halves. -/
theorem downs_hal (N : Nat) : ∀ (k t : Nat) (f g : Nat → Bool), k ≤ t → (∀ i, i < N * 2 ^ k → f i = g i) → ∀ i, i < N * 2 ^ k → runG AB OB (N * 2 ^ k) (downs halF t (2 ^ k / 2)) f i = halvesRun k g i
  | 0, t, f, g, _, e, i, hi => by
    have : (2 : Nat) ^ 0 / 2 = 0 := rfl
    rw [this, downs_nil]
    exact e i hi
  | k + 1, t, f, g, ht, e, i, hi => by
    obtain ⟨t', rfl⟩ : ∃ t', t = t' + 1 := ⟨t - 1, by omega⟩
    have hp : 0 < 2 ^ k := Nat.pow_pos (by omega)
    have e1 : 2 ^ (k + 1) / 2 = 2 ^ k := by rw [Nat.pow_succ]; omega
    have e2 : N * 2 ^ (k + 1) = N * (2 * 2 ^ k) := by rw [Nat.pow_succ, Nat.mul_comm (2 ^ k) 2]
    have e3 : N * 2 ^ (k + 1) = (N * 2) * 2 ^ k := by rw [Nat.pow_succ, Nat.mul_assoc, Nat.mul_comm 2 (2 ^ k)]
    have P := hal_pairs (h := 2 ^ k) (N := N) hp
    rw [← e2] at P
    rw [e1, downs_cons _ _ _ (by omega)]
    show runG AB OB _ (downs halF t' (2 ^ k / 2)) (stepG AB OB (halF (2 ^ k)) _ f) i = halvesRun k (parB (halP (2 ^ k)) g) i
    have ih := downs_hal (N * 2) k t' (stepG AB OB (halF (2 ^ k)) (N * 2 ^ (k + 1)) f) (parB (halP (2 ^ k)) g) (by omega)
    rw [← e3] at ih
    exact ih (fun j hj => by
      rw [stepG_congr AB OB P e j hj, step_at P g j hj]) i hi
/-- One stage of Bitonic: blocks of 2^k sorted, then of twice that. -/
theorem bit_stage (N k t : Nat) (f : Nat → Bool) (hk : k ≤ t) (h : Blocks (N * 2 ^ (k + 1)) (2 ^ k) f) : Blocks (N * 2 ^ (k + 1)) (2 ^ (k + 1)) (runG AB OB (N * 2 ^ (k + 1)) (mirF (2 ^ (k + 1)) :: downs halF t (2 ^ (k + 1) / 4)) f) := by
  have hp : 0 < 2 ^ k := Nat.pow_pos (by omega)
  have e0 : 2 ^ (k + 1) = 2 * 2 ^ k := by rw [Nat.pow_succ, Nat.mul_comm]
  have e3 : N * 2 ^ (k + 1) = (N * 2) * 2 ^ k := by rw [Nat.pow_succ, Nat.mul_assoc, Nat.mul_comm 2 (2 ^ k)]
  have e4 : 2 ^ (k + 1) / 4 = 2 ^ k / 2 := by rw [e0]; omega
  have P := mir_pairs (s := 2 ^ (k + 1)) (N := N) (by omega) (by omega)
  intro q hq
  show Sor (runG AB OB _ (downs halF t (2 ^ (k + 1) / 4)) (stepG AB OB (mirF (2 ^ (k + 1))) _ f)) _ _
  have D := downs_hal (N * 2) k t (stepG AB OB (mirF (2 ^ (k + 1))) (N * 2 ^ (k + 1)) f) (parB (mirP (2 ^ (k + 1))) f) hk
  rw [← e3] at D
  have D2 := D (fun i hi => step_at P f i hi)
  rw [e4]
  have qe : (q + 1) * 2 ^ (k + 1) = q * 2 ^ (k + 1) + 2 ^ (k + 1) := Nat.succ_mul _ _
  refine Sor.ext (f := halvesRun k (parB (mirP (2 ^ (k + 1))) f)) ?_ (fun r hr => D2 _ (by omega))
  -- the two halves, sorted
  have i1 : 2 * q * 2 ^ k = q * 2 ^ (k + 1) := by rw [e0, Nat.mul_comm 2 q, Nat.mul_assoc]
  have i2 : (2 * q + 1) * 2 ^ k = q * 2 ^ (k + 1) + 2 ^ k := by rw [Nat.add_mul, i1, Nat.one_mul]
  obtain ⟨a, ha, fa⟩ := h (2 * q) (by rw [i2]; omega)
  obtain ⟨b, hb, fb⟩ := h (2 * q + 1) (by rw [Nat.succ_mul, i2]; omega)
  rw [i1] at fa
  rw [i2] at fb
  have s2 : (2 ^ (k + 1)) % 2 = 0 := by omega
  have lo : ∀ r, r < 2 ^ k → (parB (mirP (2 ^ (k + 1))) f (q * 2 ^ (k + 1) + r) = true ↔ a ≤ r ∧ b ≤ 2 ^ k - 1 - r) := fun r hr => by
    rw [par_mlo f s2 (by omega)]
    have h1 := fa r hr
    have h2 := fb (2 ^ k - 1 - r) (by omega)
    rw [show q * 2 ^ (k + 1) + 2 ^ k + (2 ^ k - 1 - r) = q * 2 ^ (k + 1) + (2 ^ (k + 1) - 1 - r) from by omega] at h2
    simp only [Bool.and_eq_true, h1, h2]
  have hi : ∀ r, r < 2 ^ k → (parB (mirP (2 ^ (k + 1))) f (q * 2 ^ (k + 1) + 2 ^ k + r) = true ↔ a ≤ 2 ^ k - 1 - r ∨ b ≤ r) := fun r hr => by
    have h1 := fa (2 ^ k - 1 - r) (by omega)
    have h2 := fb r hr
    have := par_mhi (s := 2 ^ (k + 1)) (q := q) (r := 2 ^ k - 1 - r) f s2 (by omega)
    rw [show 2 ^ (k + 1) - 1 - (2 ^ k - 1 - r) = 2 ^ k + r from by omega] at this
    rw [Nat.add_assoc, this]
    rw [Nat.add_assoc] at h2
    simp only [Bool.or_eq_true, h1, h2]
  generalize parB (mirP (2 ^ (k + 1))) f = g at *
  have s1 := halves_sort k g (2 * q)
  have s2' := halves_sort k g (2 * q + 1)
  have c1 := halvesRun_const k g (2 * q) false
  have c2 := halvesRun_const k g (2 * q + 1) true
  rw [i1] at s1 c1
  rw [i2] at s2' c2
  have nf : ∀ x : Bool, x = false ↔ ¬ x = true := fun x => by cases x <;> simp
  obtain ⟨x, hx, gx⟩ := s1 (by
    by_cases c : a ≤ 2 ^ k - b
    · exact ⟨a, 2 ^ k - b, c, by omega, .inl fun r hr => by rw [lo r hr]; omega⟩
    · exact ⟨0, 0, by omega, by omega, .inl fun r hr => by rw [lo r hr]; omega⟩)
  obtain ⟨y, hy, gy⟩ := s2' (by
    by_cases c : 2 ^ k - a ≤ b
    · exact ⟨2 ^ k - a, b, c, hb, .inr fun r hr => by rw [hi r hr]; omega⟩
    · exact ⟨0, 0, by omega, by omega, .inr fun r hr => by rw [hi r hr]; omega⟩)
  generalize halvesRun k g = u at *
  have up : ∀ r, 2 ^ k ≤ r → r < 2 ^ (k + 1) → (u (q * 2 ^ (k + 1) + r) = true ↔ y ≤ r - 2 ^ k) := fun r h1 h2 => by
    have := gy (r - 2 ^ k) (by omega)
    rw [Nat.add_assoc, show 2 ^ k + (r - 2 ^ k) = r from by omega] at this
    exact this
  by_cases c : a + b < 2 ^ k
  · have z := c2 (fun r hr => by rw [hi r hr]; omega)
    refine ⟨x, by omega, fun r hr => ?_⟩
    by_cases c' : r < 2 ^ k
    · exact gx r c'
    · have := z (r - 2 ^ k) (by omega)
      rw [Nat.add_assoc, show 2 ^ k + (r - 2 ^ k) = r from by omega] at this
      rw [this]; simp; omega
  · have z := c1 (fun r hr => by rw [nf, lo r hr]; omega)
    refine ⟨2 ^ k + y, by omega, fun r hr => ?_⟩
    by_cases c' : r < 2 ^ k
    · rw [z r c']; simp; omega
    · rw [up r (by omega) hr]; omega
end Go.Proofs.Ytaedamnhobcdlaa
