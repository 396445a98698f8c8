/- The three nets sort, plain: each step all at once, block by block, on lists of two values. No program in it. -/
import Derived.Test.YtaedamnhobcdlaaNsP
namespace Go.Proofs.Ytaedamnhobcdlaa
set_option linter.unusedVariables false

abbrev parB (π : Nat → Nat) (f : Nat → Bool) : Nat → Bool := parF (fun a b => a && b) (fun a b => a || b) π f
theorem mod_at {m q r : Nat} (h : r < m) : (q * m + r) % m = r := by rw [Nat.mul_comm, Nat.mul_add_mod, Nat.mod_eq_of_lt h]
theorem at_mod (m p : Nat) (h : 0 < m) : ∃ q r, p = q * m + r ∧ r < m := ⟨p / m, p % m, by rw [Nat.mul_comm]; exact (Nat.div_add_mod p m).symm, Nat.mod_lt _ h⟩
theorem at_lt {m N q r : Nat} (h : q * m + r < N * m) : q < N := by
  rcases Nat.lt_or_ge q N with h1 | h1
  · exact h1
  · have := Nat.mul_le_mul_right m h1
    omega
theorem lt_at {m N q r : Nat} (hq : q < N) (hr : r < m) : q * m + r < N * m := by
  have := Nat.mul_le_mul_right m (show q + 1 ≤ N from hq)
  rw [Nat.succ_mul] at this
  omega
def mirP (s p : Nat) : Nat := p - p % s + (s - 1 - p % s)
def halP (h p : Nat) : Nat := if p % (2 * h) < h then p + h else p - h
theorem mirP_at {s q r : Nat} (h : r < s) : mirP s (q * s + r) = q * s + (s - 1 - r) := by unfold mirP; rw [mod_at h]; omega
theorem halP_lo {h q r : Nat} (hr : r < h) : halP h (q * (2 * h) + r) = q * (2 * h) + (h + r) := by unfold halP; rw [mod_at (by omega), if_pos hr]; omega
theorem halP_hi {h q r : Nat} (hr : r < h) : halP h (q * (2 * h) + (h + r)) = q * (2 * h) + r := by unfold halP; rw [mod_at (by omega), if_neg (by omega)]; omega
theorem mir_pairs {s N : Nat} (hs : 2 ≤ s) (h2 : s % 2 = 0) : Pairs (N * s) (mirF s) (mirP s) := by
  have key : ∀ p, p < N * s → ∃ q r, p = q * s + r ∧ r < s ∧ q < N := fun p hp => by
    obtain ⟨q, r, e, hr⟩ := at_mod s p (by omega)
    exact ⟨q, r, e, hr, at_lt (by rw [← e]; exact hp)⟩
  refine ⟨fun p hp => ?_, fun p hp hu => ?_, fun p hp => ?_, fun p hp => ?_⟩ <;> obtain ⟨q, r, rfl, hr, hq⟩ := key p hp
  · rw [mirP_at hr]; unfold mirF; rw [mod_at hr]; split <;> omega
  · unfold mirF at hu ⊢; rw [mod_at hr] at hu ⊢; rw [mirP_at hr]
    by_cases c : s / 2 ≤ r
    · rw [if_pos c] at hu; omega
    · rw [if_neg c]; omega
  · rw [mirP_at hr, mirP_at (by omega)]; omega
  · rw [mirP_at hr]; exact lt_at hq (by omega)
theorem hal_pairs {h N : Nat} (hh : 1 ≤ h) : Pairs (N * (2 * h)) (halF h) (halP h) := by
  have key : ∀ p, p < N * (2 * h) → ∃ q r, q < N ∧ r < h ∧ (p = q * (2 * h) + r ∨ p = q * (2 * h) + (h + r)) := fun p hp => by
    obtain ⟨q, r, e, hr⟩ := at_mod (2 * h) p (by omega)
    have hq : q < N := at_lt (by rw [← e]; exact hp)
    by_cases c : r < h
    · exact ⟨q, r, hq, c, .inl e⟩
    · exact ⟨q, r - h, hq, by omega, .inr (by omega)⟩
  refine ⟨fun p hp => ?_, fun p hp hu => ?_, fun p hp => ?_, fun p hp => ?_⟩ <;> obtain ⟨q, r, hq, hr, rfl | rfl⟩ := key p hp
  · rw [halP_lo hr]; unfold halF; rw [mod_at (by omega), if_neg (by omega)]; omega
  · rw [halP_hi hr]; unfold halF; rw [mod_at (by omega), if_pos (by omega)]; omega
  · rw [halP_lo hr]; unfold halF; rw [mod_at (by omega), if_neg (by omega)]; omega
  · unfold halF at hu; rw [mod_at (by omega), if_pos (by omega)] at hu; omega
  · rw [halP_lo hr, halP_hi hr]
  · rw [halP_hi hr, halP_lo hr]
  · rw [halP_lo hr]; exact lt_at hq (by omega)
  · rw [halP_hi hr]; exact lt_at hq (by omega)
theorem par_lo {h q r : Nat} (f : Nat → Bool) (hr : r < h) : parB (halP h) f (q * (2 * h) + r) = (f (q * (2 * h) + r) && f (q * (2 * h) + (h + r))) := by
  unfold parB parF; rw [halP_lo hr, if_pos (by omega)]
theorem par_hi {h q r : Nat} (f : Nat → Bool) (hr : r < h) : parB (halP h) f (q * (2 * h) + (h + r)) = (f (q * (2 * h) + r) || f (q * (2 * h) + (h + r))) := by
  unfold parB parF; rw [halP_hi hr, if_neg (by omega), if_pos (by omega)]
theorem par_mlo {s q r : Nat} (f : Nat → Bool) (h2 : s % 2 = 0) (hr : r < s / 2) : parB (mirP s) f (q * s + r) = (f (q * s + r) && f (q * s + (s - 1 - r))) := by
  unfold parB parF; rw [mirP_at (by omega), if_pos (by omega)]
theorem par_mhi {s q r : Nat} (f : Nat → Bool) (h2 : s % 2 = 0) (hr : r < s / 2) : parB (mirP s) f (q * s + (s - 1 - r)) = (f (q * s + r) || f (q * s + (s - 1 - r))) := by
  unfold parB parF; rw [mirP_at (by omega), show s - 1 - (s - 1 - r) = r from by omega, if_neg (by omega), if_pos (by omega)]
/-- One stretch of the one value among the other. -/
def Bit (f : Nat → Bool) (b m : Nat) : Prop := ∃ c d, c ≤ d ∧ d ≤ m ∧ ((∀ r, r < m → (f (b + r) = true ↔ c ≤ r ∧ r < d)) ∨ (∀ r, r < m → (f (b + r) = true ↔ ¬ (c ≤ r ∧ r < d))))
def Sor (f : Nat → Bool) (b m : Nat) : Prop := ∃ c, c ≤ m ∧ ∀ r, r < m → (f (b + r) = true ↔ c ≤ r)
def halvesRun : Nat → (Nat → Bool) → (Nat → Bool)
  | 0, f => f
  | k + 1, f => halvesRun k (parB (halP (2 ^ k)) f)
theorem halvesRun_const : ∀ (k : Nat) (f : Nat → Bool) (q : Nat) (v : Bool), (∀ r, r < 2 ^ k → f (q * 2 ^ k + r) = v) → ∀ r, r < 2 ^ k → halvesRun k f (q * 2 ^ k + r) = v
  | 0, f, q, v, h, r, hr => h r hr
  | k + 1, f, q, v, h, r, hr => by
    have e : q * 2 ^ (k + 1) = q * (2 * 2 ^ k) := by rw [Nat.pow_succ, Nat.mul_comm (2 ^ k) 2]
    have e2 : 2 ^ (k + 1) = 2 * 2 ^ k := by rw [Nat.pow_succ, Nat.mul_comm]
    rw [e] at h ⊢
    rw [e2] at h hr
    show halvesRun k (parB (halP (2 ^ k)) f) _ = v
    generalize hH : 2 ^ k = H at *
    have lo : ∀ t, t < H → parB (halP H) f (q * (2 * H) + t) = v := fun t ht => by rw [par_lo f ht, h t (by omega), h (H + t) (by omega)]; cases v <;> rfl
    have hi : ∀ t, t < H → parB (halP H) f (q * (2 * H) + (H + t)) = v := fun t ht => by rw [par_hi f ht, h t (by omega), h (H + t) (by omega)]; cases v <;> rfl
    by_cases c : r < H
    · have := halvesRun_const k (parB (halP H) f) (2 * q) v (fun t ht => by rw [hH, Nat.mul_comm 2 q, Nat.mul_assoc]; exact lo t (by rw [← hH]; exact ht)) r (by rw [hH]; exact c)
      rw [hH, Nat.mul_comm 2 q, Nat.mul_assoc] at this
      exact this
    · have := halvesRun_const k (parB (halP H) f) (2 * q + 1) v (fun t ht => by rw [hH, Nat.add_mul, Nat.mul_comm 2 q, Nat.mul_assoc, Nat.one_mul, Nat.add_assoc]; exact hi t (by rw [← hH]; exact ht)) (r - H) (by rw [hH]; omega)
      rw [hH, Nat.add_mul, Nat.mul_comm 2 q, Nat.mul_assoc, Nat.one_mul, Nat.add_assoc, show H + (r - H) = r from by omega] at this
      exact this
/-- One step over a stretch: two stretches, and one of the halves is all of one value. -/
theorem bit_step {H q : Nat} {f : Nat → Bool} (h : Bit f (q * (2 * H)) (2 * H)) :
    Bit (parB (halP H) f) (q * (2 * H)) H ∧ Bit (parB (halP H) f) (q * (2 * H) + H) H ∧ ((∀ r, r < H → parB (halP H) f (q * (2 * H) + r) = false) ∨ (∀ r, r < H → parB (halP H) f (q * (2 * H) + H + r) = true)) := by
  obtain ⟨c, d, hcd, hd, hf⟩ := h
  have lo : ∀ r, r < H → (parB (halP H) f (q * (2 * H) + r) = true ↔ (f (q * (2 * H) + r) = true ∧ f (q * (2 * H) + (H + r)) = true)) := fun r hr => by rw [par_lo f hr]; simp
  have hi : ∀ r, r < H → (parB (halP H) f (q * (2 * H) + H + r) = true ↔ (f (q * (2 * H) + r) = true ∨ f (q * (2 * H) + (H + r)) = true)) := fun r hr => by rw [Nat.add_assoc, par_hi f hr]; simp
  generalize parB (halP H) f = g at *
  have nf : ∀ x : Bool, x = false ↔ ¬ x = true := fun x => by cases x <;> simp
  rcases hf with hf | hf
  · have f1 : ∀ r, r < H → (f (q * (2 * H) + r) = true ↔ c ≤ r ∧ r < d) := fun r hr => hf r (by omega)
    have f2 : ∀ r, r < H → (f (q * (2 * H) + (H + r)) = true ↔ c ≤ H + r ∧ H + r < d) := fun r hr => hf (H + r) (by omega)
    by_cases k1 : c + H < d
    · refine ⟨⟨c, d - H, by omega, by omega, .inl fun r hr => ?_⟩, ⟨0, 0, by omega, by omega, .inr fun r hr => ?_⟩, .inr fun r hr => ?_⟩
      · rw [lo r hr, f1 r hr, f2 r hr]; omega
      · rw [hi r hr, f1 r hr, f2 r hr]; omega
      · rw [hi r hr, f1 r hr, f2 r hr]; omega
    · refine ⟨⟨0, 0, by omega, by omega, .inl fun r hr => ?_⟩, ?_, .inl fun r hr => ?_⟩
      · rw [lo r hr, f1 r hr, f2 r hr]; omega
      · by_cases k2 : d ≤ H
        · exact ⟨c, d, hcd, k2, .inl fun r hr => by rw [hi r hr, f1 r hr, f2 r hr]; omega⟩
        · by_cases k3 : H ≤ c
          · exact ⟨c - H, d - H, by omega, by omega, .inl fun r hr => by rw [hi r hr, f1 r hr, f2 r hr]; omega⟩
          · exact ⟨d - H, c, by omega, by omega, .inr fun r hr => by rw [hi r hr, f1 r hr, f2 r hr]; omega⟩
      · rw [nf, lo r hr, f1 r hr, f2 r hr]; omega
  · have f1 : ∀ r, r < H → (f (q * (2 * H) + r) = true ↔ ¬ (c ≤ r ∧ r < d)) := fun r hr => hf r (by omega)
    have f2 : ∀ r, r < H → (f (q * (2 * H) + (H + r)) = true ↔ ¬ (c ≤ H + r ∧ H + r < d)) := fun r hr => hf (H + r) (by omega)
    by_cases k1 : c + H < d
    · refine ⟨⟨0, 0, by omega, by omega, .inl fun r hr => ?_⟩, ⟨c, d - H, by omega, by omega, .inr fun r hr => ?_⟩, .inl fun r hr => ?_⟩
      · rw [lo r hr, f1 r hr, f2 r hr]; omega
      · rw [hi r hr, f1 r hr, f2 r hr]; omega
      · rw [nf, lo r hr, f1 r hr, f2 r hr]; omega
    · refine ⟨?_, ⟨0, 0, by omega, by omega, .inr fun r hr => ?_⟩, .inr fun r hr => ?_⟩
      · by_cases k2 : d ≤ H
        · exact ⟨c, d, hcd, k2, .inr fun r hr => by rw [lo r hr, f1 r hr, f2 r hr]; omega⟩
        · by_cases k3 : H ≤ c
          · exact ⟨c - H, d - H, by omega, by omega, .inr fun r hr => by rw [lo r hr, f1 r hr, f2 r hr]; omega⟩
          · exact ⟨d - H, c, by omega, by omega, .inl fun r hr => by rw [lo r hr, f1 r hr, f2 r hr]; omega⟩
      · rw [hi r hr, f1 r hr, f2 r hr]; omega
      · rw [hi r hr, f1 r hr, f2 r hr]; omega
theorem halves_sort : ∀ (k : Nat) (f : Nat → Bool) (q : Nat), Bit f (q * 2 ^ k) (2 ^ k) → Sor (halvesRun k f) (q * 2 ^ k) (2 ^ k)
  | 0, f, q, h => by
    have z : ∀ r, r < 2 ^ 0 → r = 0 := fun r hr => by simpa using hr
    by_cases c : f (q * 2 ^ 0 + 0) = true
    · refine ⟨0, by omega, fun r hr => ?_⟩
      rw [z r hr]
      exact ⟨fun _ => Nat.le_refl _, fun _ => c⟩
    · refine ⟨1, by simp, fun r hr => ?_⟩
      rw [z r hr]
      exact ⟨fun h => absurd h c, fun h => absurd h (by omega)⟩
  | k + 1, f, q, h => by
    have e : q * 2 ^ (k + 1) = q * (2 * 2 ^ k) := by rw [Nat.pow_succ, Nat.mul_comm (2 ^ k) 2]
    have e2 : 2 ^ (k + 1) = 2 * 2 ^ k := by rw [Nat.pow_succ, Nat.mul_comm]
    rw [e, e2] at h ⊢
    obtain ⟨b1, b2, hc⟩ := bit_step h
    show Sor (halvesRun k (parB (halP (2 ^ k)) f)) _ _
    have s1 := halves_sort k (parB (halP (2 ^ k)) f) (2 * q)
    have s2 := halves_sort k (parB (halP (2 ^ k)) f) (2 * q + 1)
    have c1 := fun v => halvesRun_const k (parB (halP (2 ^ k)) f) (2 * q) v
    have c2 := fun v => halvesRun_const k (parB (halP (2 ^ k)) f) (2 * q + 1) v
    have i1 : 2 * q * 2 ^ k = q * (2 * 2 ^ k) := by rw [Nat.mul_comm 2 q, Nat.mul_assoc]
    have i2 : (2 * q + 1) * 2 ^ k = q * (2 * 2 ^ k) + 2 ^ k := by rw [Nat.add_mul, i1, Nat.one_mul]
    rw [i1] at s1 c1
    rw [i2] at s2 c2
    obtain ⟨x, hx, gx⟩ := s1 b1
    obtain ⟨y, hy, gy⟩ := s2 b2
    generalize halvesRun k (parB (halP (2 ^ k)) f) = g at *
    generalize parB (halP (2 ^ k)) f = f1 at *
    generalize hH : 2 ^ k = H at *
    have up : ∀ r, H ≤ r → r < 2 * H → (g (q * (2 * H) + r) = true ↔ y ≤ r - H) := fun r h1 h2 => by
      have := gy (r - H) (by omega)
      rw [Nat.add_assoc, show H + (r - H) = r from by omega] at this
      exact this
    rcases hc with hc | hc
    · have z := c1 false hc
      refine ⟨H + y, by omega, fun r hr => ?_⟩
      by_cases c : r < H
      · rw [z r c]; simp; omega
      · rw [up r (by omega) hr]; omega
    · have z := c2 true hc
      refine ⟨x, by omega, fun r hr => ?_⟩
      by_cases c : r < H
      · exact gx r c
      · have := z (r - H) (by omega)
        rw [Nat.add_assoc, show H + (r - H) = r from by omega] at this
        rw [this]; simp; omega
end Go.Proofs.Ytaedamnhobcdlaa
