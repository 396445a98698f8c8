/- NsP, NsQ, NsR, NsS, NsT in one. Written by tools/join.py. -/
import Derived.Test.YtaedamnhobcdlaaJNet
import Derived.Test.YtaedamnhobcdlaaJNeG
section
namespace Go.Proofs.Ytaedamnhobcdlaa
set_option linter.unusedVariables false

/-- One wire, on a function of the places. -/
def wireF {α : Type} (lo hi : α → α → α) (f : Nat → α) (p q : Nat) : Nat → α := fun i => if i = q then hi (f p) (f q) else if i = p then lo (f p) (f q) else f i
/-- The wires of a step, place by place. -/
def stepG {α : Type} (lo hi : α → α → α) (σ : Nat → Nat) : Nat → (Nat → α) → (Nat → α)
  | 0, f => f
  | p + 1, f => let g := stepG lo hi σ p f; if p < σ p then wireF lo hi g p (σ p) else g
/-- A step all at once: π pairs the places. -/
def parF {α : Type} (lo hi : α → α → α) (π : Nat → Nat) (f : Nat → α) : Nat → α := fun i => if i < π i then lo (f i) (f (π i)) else if π i < i then hi (f (π i)) (f i) else f i
/-- σ goes up to the partner where it is greater, else it stays. -/
structure Pairs (n : Nat) (σ π : Nat → Nat) : Prop where
  up : ∀ p, p < n → (p < σ p ↔ p < π p)
  eq : ∀ p, p < n → p < σ p → σ p = π p
  inv : ∀ p, p < n → π (π p) = p
  lt : ∀ p, p < n → π p < n
theorem stepG_par {α : Type} (lo hi : α → α → α) {n : Nat} {σ π : Nat → Nat} (h : Pairs n σ π) (f : Nat → α) : ∀ k, k ≤ n → ∀ i, i < n → stepG lo hi σ k f i = if i < k ∨ (π i < k ∧ π i < i) then parF lo hi π f i else f i
  | 0, _, i, hin => by
    simp [stepG]
  | k + 1, hk, i, hin => by
    have ih := stepG_par lo hi h f k (by omega)
    have hkn : k < n := by omega
    have hinv := h.inv k hkn
    have hlt := h.lt k hkn
    have hii := h.inv i hin
    have hil := h.lt i hin
    unfold stepG
    by_cases hu : k < σ k
    · have hπ := (h.up k hkn).1 hu
      have he := h.eq k hkn hu
      simp only [hu, if_true]
      unfold wireF
      rw [he]
      have fk : stepG lo hi σ k f k = f k := by
        rw [ih k hkn, if_neg (by omega)]
      have fp : stepG lo hi σ k f (π k) = f (π k) := by
        rw [ih (π k) hlt, if_neg (by rw [hinv]; omega)]
      rw [fk, fp]
      by_cases e1 : i = π k
      · subst e1
        rw [if_pos rfl, if_pos (.inr ⟨by rw [hinv]; omega, by rw [hinv]; exact hπ⟩)]
        unfold parF
        rw [hinv, if_neg (by omega), if_pos hπ]
      · rw [if_neg e1]
        by_cases e2 : i = k
        · subst e2
          rw [if_pos rfl, if_pos (.inl (by omega))]
          unfold parF
          rw [if_pos hπ]
        · rw [if_neg e2, ih i hin]
          have hne : π i ≠ k := fun e => e1 (by rw [← e, hii])
          by_cases c : i < k ∨ (π i < k ∧ π i < i)
          · rw [if_pos c, if_pos (by omega)]
          · rw [if_neg c, if_neg (by omega)]
    · simp only [hu, if_false]
      have hnu : ¬ k < π k := fun c => hu ((h.up k hkn).2 c)
      rw [ih i hin]
      by_cases e2 : i = k
      · subst e2
        by_cases c : π i < i
        · rw [if_pos (.inr ⟨c, c⟩), if_pos (.inl (by omega))]
        · rw [if_neg (by omega), if_pos (.inl (by omega))]
          unfold parF
          rw [if_neg hnu, if_neg c]
      · by_cases e1 : π i = k
        · have : π k = i := by rw [← e1, hii]
          rw [this] at hnu
          by_cases c : i < k
          · rw [if_pos (.inl c), if_pos (.inl (by omega))]
          · omega
        · by_cases c : i < k ∨ (π i < k ∧ π i < i)
          · rw [if_pos c, if_pos (by omega)]
          · rw [if_neg c, if_neg (by omega)]
/-- All steps, one behind the other. -/
def runG {α : Type} (lo hi : α → α → α) (n : Nat) : List (Nat → Nat) → (Nat → α) → (Nat → α)
  | [], f => f
  | σ :: l, f => runG lo hi n l (stepG lo hi σ n f)
theorem runG_app {α : Type} (lo hi : α → α → α) (n : Nat) (a b : List (Nat → Nat)) (f : Nat → α) : runG lo hi n (a ++ b) f = runG lo hi n b (runG lo hi n a f) := by
  induction a generalizing f with
  | nil => rfl
  | cons σ a ih => exact ih _
/-- A map that carries lo and hi carries the run. -/
theorem wireF_map {α β : Type} {lo hi : α → α → α} {lo' hi' : β → β → β} (φ : α → β) (hl : ∀ x y, φ (lo x y) = lo' (φ x) (φ y)) (hh : ∀ x y, φ (hi x y) = hi' (φ x) (φ y)) (f : Nat → α) (p q : Nat) : (fun i => φ (wireF lo hi f p q i)) = wireF lo' hi' (fun i => φ (f i)) p q := by
  funext i
  unfold wireF
  split
  · exact hh _ _
  · split
    · exact hl _ _
    · rfl
theorem stepG_map {α β : Type} {lo hi : α → α → α} {lo' hi' : β → β → β} (φ : α → β) (hl : ∀ x y, φ (lo x y) = lo' (φ x) (φ y)) (hh : ∀ x y, φ (hi x y) = hi' (φ x) (φ y)) (σ : Nat → Nat) (f : Nat → α) : ∀ k, (fun i => φ (stepG lo hi σ k f i)) = stepG lo' hi' σ k (fun i => φ (f i))
  | 0 => rfl
  | k + 1 => by
    have ih := stepG_map φ hl hh σ f k
    by_cases hu : k < σ k
    · have e1 : stepG lo hi σ (k + 1) f = wireF lo hi (stepG lo hi σ k f) k (σ k) := by simp [stepG, hu]
      have e2 : stepG lo' hi' σ (k + 1) (fun i => φ (f i)) = wireF lo' hi' (stepG lo' hi' σ k (fun i => φ (f i))) k (σ k) := by simp [stepG, hu]
      rw [e1, e2, wireF_map φ hl hh, ih]
    · have e1 : stepG lo hi σ (k + 1) f = stepG lo hi σ k f := by simp [stepG, hu]
      have e2 : stepG lo' hi' σ (k + 1) (fun i => φ (f i)) = stepG lo' hi' σ k (fun i => φ (f i)) := by simp [stepG, hu]
      rw [e1, e2, ih]
theorem runG_map {α β : Type} {lo hi : α → α → α} {lo' hi' : β → β → β} (φ : α → β) (hl : ∀ x y, φ (lo x y) = lo' (φ x) (φ y)) (hh : ∀ x y, φ (hi x y) = hi' (φ x) (φ y)) (n : Nat) : ∀ (l : List (Nat → Nat)) (f : Nat → α), (fun i => φ (runG lo hi n l f i)) = runG lo' hi' n l (fun i => φ (f i))
  | [], f => rfl
  | σ :: l, f => by
    show (fun i => φ (runG lo hi n l (stepG lo hi σ n f) i)) = runG lo' hi' n l (stepG lo' hi' σ n (fun i => φ (f i)))
    rw [runG_map φ hl hh n l, stepG_map φ hl hh σ f n]
def leB (n : Nat) (f : Nat → Bool) : Prop := ∀ i j, i ≤ j → j < n → f i = true → f j = true
/-- What sorts all lists of two values sorts all lists of numbers. -/
theorem zero_one (n : Nat) (l : List (Nat → Nat)) (h : ∀ f : Nat → Bool, leB n (runG (fun a b => a && b) (fun a b => a || b) n l f)) (f : Nat → Int) (i j : Nat) (hij : i ≤ j) (hj : j < n) : runG min max n l f i ≤ runG min max n l f j := by
  obtain ⟨t, ht⟩ : ∃ t, t = runG min max n l f i := ⟨_, rfl⟩
  have e := runG_map (lo := min) (hi := max) (lo' := fun a b => a && b) (hi' := fun a b => a || b) (fun x : Int => decide (t ≤ x)) (fun x y => by rw [Bool.eq_iff_iff]; simp; omega) (fun x y => by rw [Bool.eq_iff_iff]; simp; omega) n l f
  have h1 := h (fun k => decide (t ≤ f k)) i j hij hj
  rw [← e] at h1
  simp only [decide_eq_true_eq] at h1
  have := h1 (by omega)
  omega
end Go.Proofs.Ytaedamnhobcdlaa
end

section
namespace Go.Proofs.Ytaedamnhobcdlaa
set_option linter.unusedVariables false

abbrev parB (π : Nat → Nat) (f : Nat → Bool) : Nat → Bool := parF (fun a b => a && b) (fun a b => a || b) π f
theorem mod_at {m q r : Nat} (h : r < m) : (q * m + r) % m = r := by rw [Nat.mul_comm, Nat.mul_add_mod, Nat.mod_eq_of_lt h]
theorem at_mod (m p : Nat) (h : 0 < m) : ∃ q r, p = q * m + r ∧ r < m := ⟨p / m, p % m, by rw [Nat.mul_comm]; exact (Nat.div_add_mod p m).symm, Nat.mod_lt _ h⟩
theorem at_lt {m N q r : Nat} (h : q * m + r < N * m) : q < N := by
  rcases Nat.lt_or_ge q N with h1 | h1
  · exact h1
  · have := Nat.mul_le_mul_right m h1
    omega
theorem lt_at {m N q r : Nat} (hq : q < N) (hr : r < m) : q * m + r < N * m := by
  have := Nat.mul_le_mul_right m (show q + 1 ≤ N from hq)
  rw [Nat.succ_mul] at this
  omega
def mirP (s p : Nat) : Nat := p - p % s + (s - 1 - p % s)
def halP (h p : Nat) : Nat := if p % (2 * h) < h then p + h else p - h
theorem mirP_at {s q r : Nat} (h : r < s) : mirP s (q * s + r) = q * s + (s - 1 - r) := by unfold mirP; rw [mod_at h]; omega
theorem halP_lo {h q r : Nat} (hr : r < h) : halP h (q * (2 * h) + r) = q * (2 * h) + (h + r) := by unfold halP; rw [mod_at (by omega), if_pos hr]; omega
theorem halP_hi {h q r : Nat} (hr : r < h) : halP h (q * (2 * h) + (h + r)) = q * (2 * h) + r := by unfold halP; rw [mod_at (by omega), if_neg (by omega)]; omega
theorem mir_pairs {s N : Nat} (hs : 2 ≤ s) (h2 : s % 2 = 0) : Pairs (N * s) (mirF s) (mirP s) := by
  have key : ∀ p, p < N * s → ∃ q r, p = q * s + r ∧ r < s ∧ q < N := fun p hp => by
    obtain ⟨q, r, e, hr⟩ := at_mod s p (by omega)
    exact ⟨q, r, e, hr, at_lt (by rw [← e]; exact hp)⟩
  refine ⟨fun p hp => ?_, fun p hp hu => ?_, fun p hp => ?_, fun p hp => ?_⟩ <;> obtain ⟨q, r, rfl, hr, hq⟩ := key p hp
  · rw [mirP_at hr]; unfold mirF; rw [mod_at hr]; split <;> omega
  · unfold mirF at hu ⊢; rw [mod_at hr] at hu ⊢; rw [mirP_at hr]
    by_cases c : s / 2 ≤ r
    · rw [if_pos c] at hu; omega
    · rw [if_neg c]; omega
  · rw [mirP_at hr, mirP_at (by omega)]; omega
  · rw [mirP_at hr]; exact lt_at hq (by omega)
theorem hal_pairs {h N : Nat} (hh : 1 ≤ h) : Pairs (N * (2 * h)) (halF h) (halP h) := by
  have key : ∀ p, p < N * (2 * h) → ∃ q r, q < N ∧ r < h ∧ (p = q * (2 * h) + r ∨ p = q * (2 * h) + (h + r)) := fun p hp => by
    obtain ⟨q, r, e, hr⟩ := at_mod (2 * h) p (by omega)
    have hq : q < N := at_lt (by rw [← e]; exact hp)
    by_cases c : r < h
    · exact ⟨q, r, hq, c, .inl e⟩
    · exact ⟨q, r - h, hq, by omega, .inr (by omega)⟩
  refine ⟨fun p hp => ?_, fun p hp hu => ?_, fun p hp => ?_, fun p hp => ?_⟩ <;> obtain ⟨q, r, hq, hr, rfl | rfl⟩ := key p hp
  · rw [halP_lo hr]; unfold halF; rw [mod_at (by omega), if_neg (by omega)]; omega
  · rw [halP_hi hr]; unfold halF; rw [mod_at (by omega), if_pos (by omega)]; omega
  · rw [halP_lo hr]; unfold halF; rw [mod_at (by omega), if_neg (by omega)]; omega
  · unfold halF at hu; rw [mod_at (by omega), if_pos (by omega)] at hu; omega
  · rw [halP_lo hr, halP_hi hr]
  · rw [halP_hi hr, halP_lo hr]
  · rw [halP_lo hr]; exact lt_at hq (by omega)
  · rw [halP_hi hr]; exact lt_at hq (by omega)
theorem par_lo {h q r : Nat} (f : Nat → Bool) (hr : r < h) : parB (halP h) f (q * (2 * h) + r) = (f (q * (2 * h) + r) && f (q * (2 * h) + (h + r))) := by
  unfold parB parF; rw [halP_lo hr, if_pos (by omega)]
theorem par_hi {h q r : Nat} (f : Nat → Bool) (hr : r < h) : parB (halP h) f (q * (2 * h) + (h + r)) = (f (q * (2 * h) + r) || f (q * (2 * h) + (h + r))) := by
  unfold parB parF; rw [halP_hi hr, if_neg (by omega), if_pos (by omega)]
theorem par_mlo {s q r : Nat} (f : Nat → Bool) (h2 : s % 2 = 0) (hr : r < s / 2) : parB (mirP s) f (q * s + r) = (f (q * s + r) && f (q * s + (s - 1 - r))) := by
  unfold parB parF; rw [mirP_at (by omega), if_pos (by omega)]
theorem par_mhi {s q r : Nat} (f : Nat → Bool) (h2 : s % 2 = 0) (hr : r < s / 2) : parB (mirP s) f (q * s + (s - 1 - r)) = (f (q * s + r) || f (q * s + (s - 1 - r))) := by
  unfold parB parF; rw [mirP_at (by omega), show s - 1 - (s - 1 - r) = r from by omega, if_neg (by omega), if_pos (by omega)]
/-- One stretch of the one value among the other. -/
def Bit (f : Nat → Bool) (b m : Nat) : Prop := ∃ c d, c ≤ d ∧ d ≤ m ∧ ((∀ r, r < m → (f (b + r) = true ↔ c ≤ r ∧ r < d)) ∨ (∀ r, r < m → (f (b + r) = true ↔ ¬ (c ≤ r ∧ r < d))))
def Sor (f : Nat → Bool) (b m : Nat) : Prop := ∃ c, c ≤ m ∧ ∀ r, r < m → (f (b + r) = true ↔ c ≤ r)
def halvesRun : Nat → (Nat → Bool) → (Nat → Bool)
  | 0, f => f
  | k + 1, f => halvesRun k (parB (halP (2 ^ k)) f)
theorem halvesRun_const : ∀ (k : Nat) (f : Nat → Bool) (q : Nat) (v : Bool), (∀ r, r < 2 ^ k → f (q * 2 ^ k + r) = v) → ∀ r, r < 2 ^ k → halvesRun k f (q * 2 ^ k + r) = v
  | 0, f, q, v, h, r, hr => h r hr
  | k + 1, f, q, v, h, r, hr => by
    have e : q * 2 ^ (k + 1) = q * (2 * 2 ^ k) := by rw [Nat.pow_succ, Nat.mul_comm (2 ^ k) 2]
    have e2 : 2 ^ (k + 1) = 2 * 2 ^ k := by rw [Nat.pow_succ, Nat.mul_comm]
    rw [e] at h ⊢
    rw [e2] at h hr
    show halvesRun k (parB (halP (2 ^ k)) f) _ = v
    generalize hH : 2 ^ k = H at *
    have lo : ∀ t, t < H → parB (halP H) f (q * (2 * H) + t) = v := fun t ht => by rw [par_lo f ht, h t (by omega), h (H + t) (by omega)]; cases v <;> rfl
    have hi : ∀ t, t < H → parB (halP H) f (q * (2 * H) + (H + t)) = v := fun t ht => by rw [par_hi f ht, h t (by omega), h (H + t) (by omega)]; cases v <;> rfl
    by_cases c : r < H
    · have := halvesRun_const k (parB (halP H) f) (2 * q) v (fun t ht => by rw [hH, Nat.mul_comm 2 q, Nat.mul_assoc]; exact lo t (by rw [← hH]; exact ht)) r (by rw [hH]; exact c)
      rw [hH, Nat.mul_comm 2 q, Nat.mul_assoc] at this
      exact this
    · have := halvesRun_const k (parB (halP H) f) (2 * q + 1) v (fun t ht => by rw [hH, Nat.add_mul, Nat.mul_comm 2 q, Nat.mul_assoc, Nat.one_mul, Nat.add_assoc]; exact hi t (by rw [← hH]; exact ht)) (r - H) (by rw [hH]; omega)
      rw [hH, Nat.add_mul, Nat.mul_comm 2 q, Nat.mul_assoc, Nat.one_mul, Nat.add_assoc, show H + (r - H) = r from by omega] at this
      exact this
/-- One step over a stretch: two stretches, and one of the halves is all of one value. -/
theorem bit_step {H q : Nat} {f : Nat → Bool} (h : Bit f (q * (2 * H)) (2 * H)) :
    Bit (parB (halP H) f) (q * (2 * H)) H ∧ Bit (parB (halP H) f) (q * (2 * H) + H) H ∧ ((∀ r, r < H → parB (halP H) f (q * (2 * H) + r) = false) ∨ (∀ r, r < H → parB (halP H) f (q * (2 * H) + H + r) = true)) := by
  obtain ⟨c, d, hcd, hd, hf⟩ := h
  have lo : ∀ r, r < H → (parB (halP H) f (q * (2 * H) + r) = true ↔ (f (q * (2 * H) + r) = true ∧ f (q * (2 * H) + (H + r)) = true)) := fun r hr => by rw [par_lo f hr]; simp
  have hi : ∀ r, r < H → (parB (halP H) f (q * (2 * H) + H + r) = true ↔ (f (q * (2 * H) + r) = true ∨ f (q * (2 * H) + (H + r)) = true)) := fun r hr => by rw [Nat.add_assoc, par_hi f hr]; simp
  generalize parB (halP H) f = g at *
  have nf : ∀ x : Bool, x = false ↔ ¬ x = true := fun x => by cases x <;> simp
  rcases hf with hf | hf
  · have f1 : ∀ r, r < H → (f (q * (2 * H) + r) = true ↔ c ≤ r ∧ r < d) := fun r hr => hf r (by omega)
    have f2 : ∀ r, r < H → (f (q * (2 * H) + (H + r)) = true ↔ c ≤ H + r ∧ H + r < d) := fun r hr => hf (H + r) (by omega)
    by_cases k1 : c + H < d
    · refine ⟨⟨c, d - H, by omega, by omega, .inl fun r hr => ?_⟩, ⟨0, 0, by omega, by omega, .inr fun r hr => ?_⟩, .inr fun r hr => ?_⟩
      · rw [lo r hr, f1 r hr, f2 r hr]; omega
      · rw [hi r hr, f1 r hr, f2 r hr]; omega
      · rw [hi r hr, f1 r hr, f2 r hr]; omega
    · refine ⟨⟨0, 0, by omega, by omega, .inl fun r hr => ?_⟩, ?_, .inl fun r hr => ?_⟩
      · rw [lo r hr, f1 r hr, f2 r hr]; omega
      · by_cases k2 : d ≤ H
        · exact ⟨c, d, hcd, k2, .inl fun r hr => by rw [hi r hr, f1 r hr, f2 r hr]; omega⟩
        · by_cases k3 : H ≤ c
          · exact ⟨c - H, d - H, by omega, by omega, .inl fun r hr => by rw [hi r hr, f1 r hr, f2 r hr]; omega⟩
          · exact ⟨d - H, c, by omega, by omega, .inr fun r hr => by rw [hi r hr, f1 r hr, f2 r hr]; omega⟩
      · rw [nf, lo r hr, f1 r hr, f2 r hr]; omega
  · have f1 : ∀ r, r < H → (f (q * (2 * H) + r) = true ↔ ¬ (c ≤ r ∧ r < d)) := fun r hr => hf r (by omega)
    have f2 : ∀ r, r < H → (f (q * (2 * H) + (H + r)) = true ↔ ¬ (c ≤ H + r ∧ H + r < d)) := fun r hr => hf (H + r) (by omega)
    by_cases k1 : c + H < d
    · refine ⟨⟨0, 0, by omega, by omega, .inl fun r hr => ?_⟩, ⟨c, d - H, by omega, by omega, .inr fun r hr => ?_⟩, .inl fun r hr => ?_⟩
      · rw [lo r hr, f1 r hr, f2 r hr]; omega
      · rw [hi r hr, f1 r hr, f2 r hr]; omega
      · rw [nf, lo r hr, f1 r hr, f2 r hr]; omega
    · refine ⟨?_, ⟨0, 0, by omega, by omega, .inr fun r hr => ?_⟩, .inr fun r hr => ?_⟩
      · by_cases k2 : d ≤ H
        · exact ⟨c, d, hcd, k2, .inr fun r hr => by rw [lo r hr, f1 r hr, f2 r hr]; omega⟩
        · by_cases k3 : H ≤ c
          · exact ⟨c - H, d - H, by omega, by omega, .inr fun r hr => by rw [lo r hr, f1 r hr, f2 r hr]; omega⟩
          · exact ⟨d - H, c, by omega, by omega, .inl fun r hr => by rw [lo r hr, f1 r hr, f2 r hr]; omega⟩
      · rw [hi r hr, f1 r hr, f2 r hr]; omega
      · rw [hi r hr, f1 r hr, f2 r hr]; omega
theorem halves_sort : ∀ (k : Nat) (f : Nat → Bool) (q : Nat), Bit f (q * 2 ^ k) (2 ^ k) → Sor (halvesRun k f) (q * 2 ^ k) (2 ^ k)
  | 0, f, q, h => by
    have z : ∀ r, r < 2 ^ 0 → r = 0 := fun r hr => by simpa using hr
    by_cases c : f (q * 2 ^ 0 + 0) = true
    · refine ⟨0, by omega, fun r hr => ?_⟩
      rw [z r hr]
      exact ⟨fun _ => Nat.le_refl _, fun _ => c⟩
    · refine ⟨1, by simp, fun r hr => ?_⟩
      rw [z r hr]
      exact ⟨fun h => absurd h c, fun h => absurd h (by omega)⟩
  | k + 1, f, q, h => by
    have e : q * 2 ^ (k + 1) = q * (2 * 2 ^ k) := by rw [Nat.pow_succ, Nat.mul_comm (2 ^ k) 2]
    have e2 : 2 ^ (k + 1) = 2 * 2 ^ k := by rw [Nat.pow_succ, Nat.mul_comm]
    rw [e, e2] at h ⊢
    obtain ⟨b1, b2, hc⟩ := bit_step h
    show Sor (halvesRun k (parB (halP (2 ^ k)) f)) _ _
    have s1 := halves_sort k (parB (halP (2 ^ k)) f) (2 * q)
    have s2 := halves_sort k (parB (halP (2 ^ k)) f) (2 * q + 1)
    have c1 := fun v => halvesRun_const k (parB (halP (2 ^ k)) f) (2 * q) v
    have c2 := fun v => halvesRun_const k (parB (halP (2 ^ k)) f) (2 * q + 1) v
    have i1 : 2 * q * 2 ^ k = q * (2 * 2 ^ k) := by rw [Nat.mul_comm 2 q, Nat.mul_assoc]
    have i2 : (2 * q + 1) * 2 ^ k = q * (2 * 2 ^ k) + 2 ^ k := by rw [Nat.add_mul, i1, Nat.one_mul]
    rw [i1] at s1 c1
    rw [i2] at s2 c2
    obtain ⟨x, hx, gx⟩ := s1 b1
    obtain ⟨y, hy, gy⟩ := s2 b2
    generalize halvesRun k (parB (halP (2 ^ k)) f) = g at *
    generalize parB (halP (2 ^ k)) f = f1 at *
    generalize hH : 2 ^ k = H at *
    have up : ∀ r, H ≤ r → r < 2 * H → (g (q * (2 * H) + r) = true ↔ y ≤ r - H) := fun r h1 h2 => by
      have := gy (r - H) (by omega)
      rw [Nat.add_assoc, show H + (r - H) = r from by omega] at this
      exact this
    rcases hc with hc | hc
    · have z := c1 false hc
      refine ⟨H + y, by omega, fun r hr => ?_⟩
      by_cases c : r < H
      · rw [z r c]; simp; omega
      · rw [up r (by omega) hr]; omega
    · have z := c2 true hc
      refine ⟨x, by omega, fun r hr => ?_⟩
      by_cases c : r < H
      · exact gx r c
      · have := z (r - H) (by omega)
        rw [Nat.add_assoc, show H + (r - H) = r from by omega] at this
        rw [this]; simp; omega
end Go.Proofs.Ytaedamnhobcdlaa
end

section
namespace Go.Proofs.Ytaedamnhobcdlaa
set_option linter.unusedVariables false

abbrev AB : Bool → Bool → Bool := fun a b => a && b
abbrev OB : Bool → Bool → Bool := fun a b => a || b
theorem Sor.ext {f g : Nat → Bool} {b m : Nat} (h : Sor f b m) (e : ∀ r, r < m → g (b + r) = f (b + r)) : Sor g b m := by
  obtain ⟨c, hc, hr⟩ := h
  exact ⟨c, hc, fun r hlt => by rw [e r hlt]; exact hr r hlt⟩
/-- All blocks of m places are sorted. -/
def Blocks (n m : Nat) (f : Nat → Bool) : Prop := ∀ q, (q + 1) * m ≤ n → Sor f (q * m) m
theorem blocks_one (n : Nat) (f : Nat → Bool) : Blocks n 1 f := fun q _ => by
  have z : ∀ r, r < 1 → r = 0 := fun r hr => by omega
  by_cases c : f (q * 1 + 0) = true
  · refine ⟨0, by omega, fun r hr => ?_⟩
    rw [z r hr]
    exact ⟨fun _ => Nat.le_refl _, fun _ => c⟩
  · refine ⟨1, by omega, fun r hr => ?_⟩
    rw [z r hr]
    exact ⟨fun h => absurd h c, fun h => absurd h (by omega)⟩
/-- A step all at once, for the places below n. -/
theorem step_at {n : Nat} {σ π : Nat → Nat} (h : Pairs n σ π) (f : Nat → Bool) (i : Nat) (hi : i < n) : stepG AB OB σ n f i = parB π f i := by
  rw [stepG_par AB OB h f n (Nat.le_refl _) i hi, if_pos (.inl hi)]
/-- What is read below n decides what comes below n. -/
theorem stepG_congr {α : Type} (lo hi : α → α → α) {n : Nat} {σ π : Nat → Nat} (h : Pairs n σ π) {f g : Nat → α} (e : ∀ i, i < n → f i = g i) (i : Nat) (hin : i < n) : stepG lo hi σ n f i = stepG lo hi σ n g i := by
  rw [stepG_par lo hi h f n (Nat.le_refl _) i hin, stepG_par lo hi h g n (Nat.le_refl _) i hin]
  simp only [hin, true_or, if_true]
  unfold parF
  rw [e i hin, e (π i) (h.lt i hin)]
/-- The steps h, h / 2, .., 1 as a run over halves. -/
theorem downs_hal (N : Nat) : ∀ (k t : Nat) (f g : Nat → Bool), k ≤ t → (∀ i, i < N * 2 ^ k → f i = g i) → ∀ i, i < N * 2 ^ k → runG AB OB (N * 2 ^ k) (downs halF t (2 ^ k / 2)) f i = halvesRun k g i
  | 0, t, f, g, _, e, i, hi => by
    have : (2 : Nat) ^ 0 / 2 = 0 := rfl
    rw [this, downs_nil]
    exact e i hi
  | k + 1, t, f, g, ht, e, i, hi => by
    obtain ⟨t', rfl⟩ : ∃ t', t = t' + 1 := ⟨t - 1, by omega⟩
    have hp : 0 < 2 ^ k := Nat.pow_pos (by omega)
    have e1 : 2 ^ (k + 1) / 2 = 2 ^ k := by rw [Nat.pow_succ]; omega
    have e2 : N * 2 ^ (k + 1) = N * (2 * 2 ^ k) := by rw [Nat.pow_succ, Nat.mul_comm (2 ^ k) 2]
    have e3 : N * 2 ^ (k + 1) = (N * 2) * 2 ^ k := by rw [Nat.pow_succ, Nat.mul_assoc, Nat.mul_comm 2 (2 ^ k)]
    have P := hal_pairs (h := 2 ^ k) (N := N) hp
    rw [← e2] at P
    rw [e1, downs_cons _ _ _ (by omega)]
    show runG AB OB _ (downs halF t' (2 ^ k / 2)) (stepG AB OB (halF (2 ^ k)) _ f) i = halvesRun k (parB (halP (2 ^ k)) g) i
    have ih := downs_hal (N * 2) k t' (stepG AB OB (halF (2 ^ k)) (N * 2 ^ (k + 1)) f) (parB (halP (2 ^ k)) g) (by omega)
    rw [← e3] at ih
    exact ih (fun j hj => by
      rw [stepG_congr AB OB P e j hj, step_at P g j hj]) i hi
/-- One stage of Bitonic: blocks of 2^k sorted, then of twice that. -/
theorem bit_stage (N k t : Nat) (f : Nat → Bool) (hk : k ≤ t) (h : Blocks (N * 2 ^ (k + 1)) (2 ^ k) f) : Blocks (N * 2 ^ (k + 1)) (2 ^ (k + 1)) (runG AB OB (N * 2 ^ (k + 1)) (mirF (2 ^ (k + 1)) :: downs halF t (2 ^ (k + 1) / 4)) f) := by
  have hp : 0 < 2 ^ k := Nat.pow_pos (by omega)
  have e0 : 2 ^ (k + 1) = 2 * 2 ^ k := by rw [Nat.pow_succ, Nat.mul_comm]
  have e3 : N * 2 ^ (k + 1) = (N * 2) * 2 ^ k := by rw [Nat.pow_succ, Nat.mul_assoc, Nat.mul_comm 2 (2 ^ k)]
  have e4 : 2 ^ (k + 1) / 4 = 2 ^ k / 2 := by rw [e0]; omega
  have P := mir_pairs (s := 2 ^ (k + 1)) (N := N) (by omega) (by omega)
  intro q hq
  show Sor (runG AB OB _ (downs halF t (2 ^ (k + 1) / 4)) (stepG AB OB (mirF (2 ^ (k + 1))) _ f)) _ _
  have D := downs_hal (N * 2) k t (stepG AB OB (mirF (2 ^ (k + 1))) (N * 2 ^ (k + 1)) f) (parB (mirP (2 ^ (k + 1))) f) hk
  rw [← e3] at D
  have D2 := D (fun i hi => step_at P f i hi)
  rw [e4]
  have qe : (q + 1) * 2 ^ (k + 1) = q * 2 ^ (k + 1) + 2 ^ (k + 1) := Nat.succ_mul _ _
  refine Sor.ext (f := halvesRun k (parB (mirP (2 ^ (k + 1))) f)) ?_ (fun r hr => D2 _ (by omega))
  -- the two halves, sorted
  have i1 : 2 * q * 2 ^ k = q * 2 ^ (k + 1) := by rw [e0, Nat.mul_comm 2 q, Nat.mul_assoc]
  have i2 : (2 * q + 1) * 2 ^ k = q * 2 ^ (k + 1) + 2 ^ k := by rw [Nat.add_mul, i1, Nat.one_mul]
  obtain ⟨a, ha, fa⟩ := h (2 * q) (by rw [i2]; omega)
  obtain ⟨b, hb, fb⟩ := h (2 * q + 1) (by rw [Nat.succ_mul, i2]; omega)
  rw [i1] at fa
  rw [i2] at fb
  have s2 : (2 ^ (k + 1)) % 2 = 0 := by omega
  have lo : ∀ r, r < 2 ^ k → (parB (mirP (2 ^ (k + 1))) f (q * 2 ^ (k + 1) + r) = true ↔ a ≤ r ∧ b ≤ 2 ^ k - 1 - r) := fun r hr => by
    rw [par_mlo f s2 (by omega)]
    have h1 := fa r hr
    have h2 := fb (2 ^ k - 1 - r) (by omega)
    rw [show q * 2 ^ (k + 1) + 2 ^ k + (2 ^ k - 1 - r) = q * 2 ^ (k + 1) + (2 ^ (k + 1) - 1 - r) from by omega] at h2
    simp only [Bool.and_eq_true, h1, h2]
  have hi : ∀ r, r < 2 ^ k → (parB (mirP (2 ^ (k + 1))) f (q * 2 ^ (k + 1) + 2 ^ k + r) = true ↔ a ≤ 2 ^ k - 1 - r ∨ b ≤ r) := fun r hr => by
    have h1 := fa (2 ^ k - 1 - r) (by omega)
    have h2 := fb r hr
    have := par_mhi (s := 2 ^ (k + 1)) (q := q) (r := 2 ^ k - 1 - r) f s2 (by omega)
    rw [show 2 ^ (k + 1) - 1 - (2 ^ k - 1 - r) = 2 ^ k + r from by omega] at this
    rw [Nat.add_assoc, this]
    rw [Nat.add_assoc] at h2
    simp only [Bool.or_eq_true, h1, h2]
  generalize parB (mirP (2 ^ (k + 1))) f = g at *
  have s1 := halves_sort k g (2 * q)
  have s2' := halves_sort k g (2 * q + 1)
  have c1 := halvesRun_const k g (2 * q) false
  have c2 := halvesRun_const k g (2 * q + 1) true
  rw [i1] at s1 c1
  rw [i2] at s2' c2
  have nf : ∀ x : Bool, x = false ↔ ¬ x = true := fun x => by cases x <;> simp
  obtain ⟨x, hx, gx⟩ := s1 (by
    by_cases c : a ≤ 2 ^ k - b
    · exact ⟨a, 2 ^ k - b, c, by omega, .inl fun r hr => by rw [lo r hr]; omega⟩
    · exact ⟨0, 0, by omega, by omega, .inl fun r hr => by rw [lo r hr]; omega⟩)
  obtain ⟨y, hy, gy⟩ := s2' (by
    by_cases c : 2 ^ k - a ≤ b
    · exact ⟨2 ^ k - a, b, c, hb, .inr fun r hr => by rw [hi r hr]; omega⟩
    · exact ⟨0, 0, by omega, by omega, .inr fun r hr => by rw [hi r hr]; omega⟩)
  generalize halvesRun k g = u at *
  have up : ∀ r, 2 ^ k ≤ r → r < 2 ^ (k + 1) → (u (q * 2 ^ (k + 1) + r) = true ↔ y ≤ r - 2 ^ k) := fun r h1 h2 => by
    have := gy (r - 2 ^ k) (by omega)
    rw [Nat.add_assoc, show 2 ^ k + (r - 2 ^ k) = r from by omega] at this
    exact this
  by_cases c : a + b < 2 ^ k
  · have z := c2 (fun r hr => by rw [hi r hr]; omega)
    refine ⟨x, by omega, fun r hr => ?_⟩
    by_cases c' : r < 2 ^ k
    · exact gx r c'
    · have := z (r - 2 ^ k) (by omega)
      rw [Nat.add_assoc, show 2 ^ k + (r - 2 ^ k) = r from by omega] at this
      rw [this]; simp; omega
  · have z := c1 (fun r hr => by rw [nf, lo r hr]; omega)
    refine ⟨2 ^ k + y, by omega, fun r hr => ?_⟩
    by_cases c' : r < 2 ^ k
    · rw [z r c']; simp; omega
    · rw [up r (by omega) hr]; omega
end Go.Proofs.Ytaedamnhobcdlaa
end

section
namespace Go.Proofs.Ytaedamnhobcdlaa
set_option linter.unusedVariables false
set_option linter.unusedSimpArgs false

theorem runG_cons {α : Type} (lo hi : α → α → α) (n : Nat) (σ : Nat → Nat) (l : List (Nat → Nat)) (f : Nat → α) : runG lo hi n (σ :: l) f = runG lo hi n l (stepG lo hi σ n f) := rfl
theorem ups_blocks (K : Nat) (g : Nat → Nat → Nat) (F : Nat → Nat → Nat → Nat) (hst : ∀ (N k : Nat) (f : Nat → Bool), k ≤ 6 → N * 2 ^ (k + 1) = 2 ^ K → Blocks (N * 2 ^ (k + 1)) (2 ^ k) f → Blocks (N * 2 ^ (k + 1)) (2 ^ (k + 1)) (runG AB OB (N * 2 ^ (k + 1)) (g (2 ^ (k + 1)) :: downs (F (2 ^ (k + 1))) 6 (2 ^ (k + 1) / 4)) f)) :
    ∀ (j k : Nat) (f : Nat → Bool), K ≤ 6 → k ≤ K → K ≤ k + j → Blocks (2 ^ K) (2 ^ k) f → Blocks (2 ^ K) (2 ^ K) (runG AB OB (2 ^ K) (ups g F (2 ^ K) j (2 ^ (k + 1))) f)
  | 0, k, f, h6, hk, hj, h => by
    obtain rfl : k = K := by omega
    exact h
  | j + 1, k, f, h6, hk, hj, h => by
    by_cases e : k = K
    · subst e
      rw [ups, if_neg (by rw [Nat.pow_succ]; have := Nat.pow_pos (n := k) (show 0 < 2 by omega); omega)]
      exact h
    · have hle : 2 ^ (k + 1) ≤ 2 ^ K := Nat.pow_le_pow_right (by omega) (by omega)
      rw [ups, if_pos hle, runG_app]
      have e2 : 2 * 2 ^ (k + 1) = 2 ^ (k + 1 + 1) := by rw [Nat.pow_succ 2 (k + 1), Nat.mul_comm]
      rw [e2]
      refine ups_blocks K g F hst j (k + 1) _ h6 (by omega) (by omega) ?_
      have eN : 2 ^ (K - (k + 1)) * 2 ^ (k + 1) = 2 ^ K := by rw [← Nat.pow_add]; congr 1; omega
      have := hst (2 ^ (K - (k + 1))) k f (by omega) eN (by rw [eN]; exact h)
      rw [eN] at this
      exact this
theorem blocks_le {n : Nat} {f : Nat → Bool} (h : Blocks n n f) : leB n f := fun i j hij hj hi => by
  obtain ⟨c, hc, hf⟩ := h 0 (by omega)
  have h1 := hf i (by omega)
  have h2 := hf j hj
  rw [Nat.zero_mul, Nat.zero_add] at h1 h2
  exact h2.2 (by have := h1.1 hi; omega)
theorem bit_sorts (K : Nat) (hK : K ≤ 6) (f : Nat → Bool) : leB (2 ^ K) (runG AB OB (2 ^ K) (bitS (2 ^ K)) f) :=
  blocks_le (ups_blocks K mirF (fun _ => halF) (fun N k f hk _ h => bit_stage N k 6 f hk h) 6 0 f hK (Nat.zero_le _) (by omega) (blocks_one _ f))

def oddP (s h p : Nat) : Nat := if p % s < h ∨ s - h ≤ p % s then p else if p % s / h % 2 = 1 then p + h else p - h
/-- A place in a block of 2L parts of h places. -/
theorem div_at {h u r : Nat} (hr : r < h) : (u * h + r) / h = u := by
  rw [Nat.mul_comm, Nat.mul_add_div (by omega), Nat.div_eq_of_lt hr, Nat.add_zero]
theorem part_lt {h L u r : Nat} (hu : u < 2 * L) (hr : r < h) : u * h + r < 2 * L * h := lt_at hu hr
theorem odd_at {h L q u r : Nat} (hu : u < 2 * L) (hr : r < h) : oddP (2 * L * h) h (q * (2 * L * h) + (u * h + r)) = q * (2 * L * h) + (if u = 0 ∨ u + 1 = 2 * L then u * h + r else if u % 2 = 1 then (u + 1) * h + r else (u - 1) * h + r) := by
  have hlt := part_lt hu hr
  have hL : (2 * L - 1) * h + h = 2 * L * h := by rw [← Nat.succ_mul]; congr 1; omega
  unfold oddP
  rw [mod_at hlt, div_at hr]
  by_cases c0 : u = 0
  · subst c0
    rw [if_pos (.inl (by omega)), if_pos (.inl rfl)]
  · have h1 : h ≤ u * h := Nat.le_mul_of_pos_left h (by omega)
    by_cases c1 : u + 1 = 2 * L
    · have hu' : u = 2 * L - 1 := by omega
      rw [if_pos (.inr (by rw [hu']; omega)), if_pos (.inr c1)]
    · have h2 : u * h + h + h ≤ 2 * L * h := by
        have := Nat.mul_le_mul_right h (show u + 2 ≤ 2 * L by omega)
        rw [Nat.add_mul] at this
        omega
      rw [if_neg (show ¬ (u * h + r < h ∨ 2 * L * h - h ≤ u * h + r) by omega), if_neg (show ¬ (u = 0 ∨ u + 1 = 2 * L) by omega)]
      by_cases c2 : u % 2 = 1
      · rw [if_pos c2, if_pos c2, Nat.succ_mul u h]; omega
      · rw [if_neg c2, if_neg c2]
        have : (u - 1) * h + h = u * h := by rw [← Nat.succ_mul]; congr 1; omega
        omega
theorem place (h L N p : Nat) (hh : 0 < h) (hp : p < N * (2 * L * h)) : ∃ q u r, p = q * (2 * L * h) + (u * h + r) ∧ q < N ∧ u < 2 * L ∧ r < h := by
  have hpos : 0 < 2 * L * h := by
    rcases Nat.eq_zero_or_pos (2 * L * h) with e | e
    · rw [e] at hp; omega
    · exact e
  obtain ⟨q, y, e, hy⟩ := at_mod (2 * L * h) p hpos
  obtain ⟨u, r, e2, hr⟩ := at_mod h y hh
  exact ⟨q, u, r, by rw [e, e2], at_lt (by rw [← e]; exact hp), at_lt (by rw [← e2]; exact hy), hr⟩
theorem odd_pairs {h L N : Nat} (hh : 0 < h) : Pairs (N * (2 * L * h)) (oddF (2 * L * h) h) (oddP (2 * L * h) h) := by
  have hF : ∀ q u r, u < 2 * L → r < h → oddF (2 * L * h) h (q * (2 * L * h) + (u * h + r)) = if u + 1 = 2 * L ∨ u % 2 = 0 then q * (2 * L * h) + (u * h + r) else q * (2 * L * h) + ((u + 1) * h + r) := fun q u r hu hr => by
    have hlt := part_lt hu hr
    have hL : (2 * L - 1) * h + h = 2 * L * h := by rw [← Nat.succ_mul]; congr 1; omega
    unfold oddF
    rw [mod_at hlt, div_at hr]
    by_cases c1 : u + 1 = 2 * L
    · have hu' : u = 2 * L - 1 := by omega
      rw [if_pos (.inl (by rw [hu']; omega)), if_pos (.inl c1)]
    · have h2 : u * h + h + h ≤ 2 * L * h := by
        have := Nat.mul_le_mul_right h (show u + 2 ≤ 2 * L by omega)
        rw [Nat.add_mul] at this
        omega
      by_cases c2 : u % 2 = 0
      · rw [if_pos (.inr c2), if_pos (.inr c2)]
      · rw [if_neg (show ¬ (2 * L * h - h ≤ u * h + r ∨ u % 2 = 0) by omega), if_neg (show ¬ (u + 1 = 2 * L ∨ u % 2 = 0) by omega), Nat.succ_mul u h]; omega
  have up1 : ∀ u, (u + 1) * h = u * h + h := fun u => Nat.succ_mul _ _
  have dn1 : ∀ u, 0 < u → (u - 1) * h + h = u * h := fun u hu => by rw [← Nat.succ_mul]; congr 1; omega
  refine ⟨fun p hp => ?_, fun p hp hu => ?_, fun p hp => ?_, fun p hp => ?_⟩ <;> obtain ⟨q, u, r, rfl, hq, hu2, hr⟩ := place h L N p hh hp
  · rw [hF q u r hu2 hr, odd_at hu2 hr]
    have := up1 u
    by_cases c0 : u = 0
    · subst c0; simp
    · have := dn1 u (by omega)
      by_cases c1 : u + 1 = 2 * L
      · rw [if_pos (.inl c1), if_pos (.inr c1)]
      · by_cases c2 : u % 2 = 0
        · rw [if_pos (.inr c2), if_neg (show ¬ (u = 0 ∨ u + 1 = 2 * L) by omega), if_neg (show ¬ u % 2 = 1 by omega)]; omega
        · rw [if_neg (show ¬ (u + 1 = 2 * L ∨ u % 2 = 0) by omega), if_neg (show ¬ (u = 0 ∨ u + 1 = 2 * L) by omega), if_pos (show u % 2 = 1 by omega)]
  · rw [hF q u r hu2 hr] at hu ⊢
    rw [odd_at hu2 hr]
    by_cases c : u + 1 = 2 * L ∨ u % 2 = 0
    · rw [if_pos c] at hu; omega
    · rw [if_neg c, if_neg (show ¬ (u = 0 ∨ u + 1 = 2 * L) by omega), if_pos (show u % 2 = 1 by omega)]
  · rw [odd_at hu2 hr]
    by_cases c0 : u = 0 ∨ u + 1 = 2 * L
    · rw [if_pos c0, odd_at hu2 hr, if_pos c0]
    · rw [if_neg c0]
      by_cases c2 : u % 2 = 1
      · rw [if_pos c2, odd_at (show u + 1 < 2 * L by omega) hr, if_neg (show ¬ (u + 1 = 0 ∨ u + 1 + 1 = 2 * L) by omega), if_neg (show ¬ (u + 1) % 2 = 1 by omega), show u + 1 - 1 = u from by omega]
      · rw [if_neg c2, odd_at (show u - 1 < 2 * L by omega) hr, if_neg (show ¬ (u - 1 = 0 ∨ u - 1 + 1 = 2 * L) by omega), if_pos (show (u - 1) % 2 = 1 by omega), show u - 1 + 1 = u from by omega]
  · rw [odd_at hu2 hr]
    by_cases c0 : u = 0 ∨ u + 1 = 2 * L
    · rw [if_pos c0]; exact lt_at hq (part_lt hu2 hr)
    · rw [if_neg c0]
      by_cases c2 : u % 2 = 1
      · rw [if_pos c2]; exact lt_at hq (part_lt (by omega) hr)
      · rw [if_neg c2]; exact lt_at hq (part_lt (by omega) hr)
/-- Behind the step of parts of h: in each class of places mod h the zeros come first, their numbers go down by 2 at most. -/
def OE (f : Nat → Bool) (b h L : Nat) : Prop := ∃ z : Nat → Nat, (∀ r, r < h → z r ≤ L) ∧ (∀ r t, r ≤ t → t < h → z t ≤ z r ∧ z r ≤ z t + 2) ∧ ∀ u r, u < L → r < h → (f (b + (u * h + r)) = true ↔ z r ≤ u)
theorem oe_step {h L q : Nat} {f : Nat → Bool} (hh : 0 < h) (hL : 0 < L) (H : OE f (q * (2 * L * h)) (2 * h) L) : OE (parB (oddP (2 * L * h) h) f) (q * (2 * L * h)) h (2 * L) := by
  obtain ⟨z, hz, hm, hf⟩ := H
  have ev : ∀ v r, v < L → r < h → (f (q * (2 * L * h) + (2 * v * h + r)) = true ↔ z r ≤ v) := fun v r hv hr => by
    have := hf v r hv (by omega)
    rwa [show v * (2 * h) + r = 2 * v * h + r from by rw [Nat.mul_comm 2 v, Nat.mul_assoc]] at this
  have od : ∀ v r, v < L → r < h → (f (q * (2 * L * h) + ((2 * v + 1) * h + r)) = true ↔ z (h + r) ≤ v) := fun v r hv hr => by
    have := hf v (h + r) hv (by omega)
    have e : (2 * v + 1) * h = v * (2 * h) + h := by rw [Nat.add_mul, Nat.one_mul, Nat.mul_comm 2 v, Nat.mul_assoc]
    rw [e, Nat.add_assoc (v * (2 * h)) h r]
    exact this
  refine ⟨fun r => z r + z (h + r), fun r hr => ?_, fun r t hrt ht => ?_, fun u r hu hr => ?_⟩
  · have := hz r (by omega); have := hz (h + r) (by omega); dsimp only; omega
  · have a := hm r t hrt (by omega)
    have b := hm (h + r) (h + t) (by omega) (by omega)
    have c := hm t (h + r) (by omega) (by omega)
    have d := hm r (h + t) (by omega) (by omega)
    dsimp only
    omega
  · show _ ↔ z r + z (h + r) ≤ u
    have hz1 := hz r (by omega)
    have hz2 := hz (h + r) (by omega)
    have hm1 := hm r (h + r) (by omega) (by omega)
    have up1 : (u + 1) * h = u * h + h := Nat.succ_mul _ _
    have dn1 : 0 < u → (u - 1) * h + h = u * h := fun hu => by rw [← Nat.succ_mul]; congr 1; omega
    unfold parB parF
    rw [odd_at hu hr]
    by_cases c0 : u = 0
    · subst c0
      have := ev 0 r hL hr
      simp only [Nat.mul_zero, Nat.zero_mul, Nat.zero_add] at this
      simp [this]
      omega
    · by_cases c1 : u + 1 = 2 * L
      · rw [if_pos (show u = 0 ∨ u + 1 = 2 * L from .inr c1), if_neg (Nat.lt_irrefl _), if_neg (Nat.lt_irrefl _)]
        have := od (L - 1) r (by omega) hr
        rw [show 2 * (L - 1) + 1 = u from by omega] at this
        rw [this]; omega
      · rw [if_neg (show ¬ (u = 0 ∨ u + 1 = 2 * L) by omega)]
        by_cases c2 : u % 2 = 1
        · have o := od (u / 2) r (by omega) hr
          have e := ev (u / 2 + 1) r (by omega) hr
          rw [show 2 * (u / 2) + 1 = u from by omega] at o
          rw [show 2 * (u / 2 + 1) = u + 1 from by omega] at e
          rw [if_pos c2, if_pos (show q * (2 * L * h) + (u * h + r) < q * (2 * L * h) + ((u + 1) * h + r) by omega)]
          simp only [Bool.and_eq_true, o, e]
          omega
        · have o := od (u / 2 - 1) r (by omega) hr
          have e := ev (u / 2) r (by omega) hr
          rw [show 2 * (u / 2 - 1) + 1 = u - 1 from by omega] at o
          rw [show 2 * (u / 2) = u from by omega] at e
          have := dn1 (by omega)
          rw [if_neg c2, if_neg (show ¬ q * (2 * L * h) + (u * h + r) < q * (2 * L * h) + ((u - 1) * h + r) by omega), if_pos (show q * (2 * L * h) + ((u - 1) * h + r) < q * (2 * L * h) + (u * h + r) by omega)]
          simp only [Bool.or_eq_true, o, e]
          omega
/-- Behind the last step: sorted. -/
theorem OE.sor {f : Nat → Bool} {b L : Nat} (h : OE f b 1 L) : Sor f b L := by
  obtain ⟨z, hz, _, hf⟩ := h
  refine ⟨z 0, hz 0 (by omega), fun r hr => ?_⟩
  have := hf r 0 hr (by omega)
  rwa [Nat.mul_one, Nat.add_zero] at this
theorem OE.ext {f g : Nat → Bool} {b h L : Nat} (H : OE f b h L) (e : ∀ i, i < L * h → g (b + i) = f (b + i)) : OE g b h L := by
  obtain ⟨z, h1, h2, h3⟩ := H
  exact ⟨z, h1, h2, fun u r hu hr => by rw [e _ (lt_at hu hr)]; exact h3 u r hu hr⟩
/-- The steps of parts of h, h / 2, .., 1 in blocks of s places. -/
theorem downs_odd (N K : Nat) : ∀ (k t : Nat) (f : Nat → Bool), k ≤ t → k < K → (∀ q, q < N → OE f (q * 2 ^ K) (2 ^ k) (2 ^ (K - k))) → ∀ q, q < N → Sor (runG AB OB (N * 2 ^ K) (downs (oddF (2 ^ K)) t (2 ^ k / 2)) f) (q * 2 ^ K) (2 ^ K)
  | 0, t, f, _, hK, h, q, hq => by
    have : (2 : Nat) ^ 0 / 2 = 0 := rfl
    rw [this, downs_nil]
    have := h q hq
    rw [Nat.pow_zero, Nat.sub_zero] at this
    exact this.sor
  | k + 1, t, f, ht, hK, h, q, hq => by
    obtain ⟨t', rfl⟩ : ∃ t', t = t' + 1 := ⟨t - 1, by omega⟩
    have hp : 0 < 2 ^ k := Nat.pow_pos (by omega)
    have e1 : 2 ^ (k + 1) / 2 = 2 ^ k := by rw [Nat.pow_succ]; omega
    have eS : 2 ^ K = 2 * 2 ^ (K - (k + 1)) * 2 ^ k := by
      rw [Nat.mul_comm 2, ← Nat.pow_succ, ← Nat.pow_add]; congr 1; omega
    have eL : 2 * 2 ^ (K - (k + 1)) = 2 ^ (K - k) := by rw [Nat.mul_comm, ← Nat.pow_succ]; congr 1; omega
    have P := odd_pairs (h := 2 ^ k) (L := 2 ^ (K - (k + 1))) (N := N) hp
    rw [← eS] at P
    rw [e1, downs_cons _ _ _ (by omega)]
    refine downs_odd N K k t' _ (by omega) (by omega) (fun q hq => ?_) q hq
    have H := h q hq
    have e2 : 2 ^ (k + 1) = 2 * 2 ^ k := by rw [Nat.pow_succ, Nat.mul_comm]
    rw [e2] at H
    have st := oe_step (h := 2 ^ k) (L := 2 ^ (K - (k + 1))) (q := q) hp (Nat.pow_pos (by omega)) (by rw [← eS]; exact H)
    rw [← eS, eL] at st
    refine st.ext (fun i hi => step_at P f _ ?_)
    refine lt_at hq ?_
    rw [← eL, ← eS] at hi
    exact hi
theorem oe_stage (N k : Nat) (f : Nat → Bool) (hk : k ≤ 6) (h : Blocks (N * 2 ^ (k + 1)) (2 ^ k) f) : Blocks (N * 2 ^ (k + 1)) (2 ^ (k + 1)) (runG AB OB (N * 2 ^ (k + 1)) (halF (2 ^ (k + 1) / 2) :: downs (oddF (2 ^ (k + 1))) 6 (2 ^ (k + 1) / 4)) f) := by
  have hp : 0 < 2 ^ k := Nat.pow_pos (by omega)
  have e0 : 2 ^ (k + 1) = 2 * 2 ^ k := by rw [Nat.pow_succ, Nat.mul_comm]
  have e1 : 2 ^ (k + 1) / 2 = 2 ^ k := by rw [e0]; omega
  have e4 : 2 ^ (k + 1) / 4 = 2 ^ k / 2 := by rw [e0]; omega
  have P := hal_pairs (h := 2 ^ k) (N := N) hp
  rw [← e0] at P
  intro q hq
  have hqN : q < N := Nat.le_of_mul_le_mul_right hq (Nat.pow_pos (by omega))
  rw [e1, e4, runG_cons]
  refine downs_odd N (k + 1) k 6 _ hk (by omega) (fun q hq => ?_) q hqN
  rw [show k + 1 - k = 1 from by omega, Nat.pow_one]
  have hq1 : (q + 1) * 2 ^ (k + 1) ≤ N * 2 ^ (k + 1) := Nat.mul_le_mul_right _ hq
  have qe : (q + 1) * 2 ^ (k + 1) = q * 2 ^ (k + 1) + 2 ^ (k + 1) := Nat.succ_mul _ _
  have i1 : 2 * q * 2 ^ k = q * 2 ^ (k + 1) := by rw [e0, Nat.mul_comm 2 q, Nat.mul_assoc]
  have i2 : (2 * q + 1) * 2 ^ k = q * 2 ^ (k + 1) + 2 ^ k := by rw [Nat.add_mul, i1, Nat.one_mul]
  obtain ⟨a, ha, fa⟩ := h (2 * q) (by rw [i2]; omega)
  obtain ⟨b, hb, fb⟩ := h (2 * q + 1) (by rw [Nat.succ_mul, i2]; omega)
  rw [i1] at fa
  rw [i2] at fb
  refine OE.ext (f := parB (halP (2 ^ k)) f) ?_ (fun i hi => step_at P f _ (lt_at hq (by rw [e0]; exact hi)))
  have lo : ∀ r, r < 2 ^ k → (parB (halP (2 ^ k)) f (q * 2 ^ (k + 1) + r) = true ↔ a ≤ r ∧ b ≤ r) := fun r hr => by
    have := par_lo (q := q) f hr
    rw [← e0] at this
    have h2 := fb r hr
    rw [Nat.add_assoc] at h2
    rw [this]
    simp only [Bool.and_eq_true, fa r hr, h2]
  have hi : ∀ r, r < 2 ^ k → (parB (halP (2 ^ k)) f (q * 2 ^ (k + 1) + (2 ^ k + r)) = true ↔ a ≤ r ∨ b ≤ r) := fun r hr => by
    have := par_hi (q := q) f hr
    rw [← e0] at this
    have h2 := fb r hr
    rw [Nat.add_assoc] at h2
    rw [this]
    simp only [Bool.or_eq_true, fa r hr, h2]
  refine ⟨fun r => (if r < a then 1 else 0) + (if r < b then 1 else 0), fun r hr => ?_, fun r t hrt ht => ?_, fun u r hu hr => ?_⟩
  · dsimp only; split <;> split <;> omega
  · dsimp only; split <;> split <;> split <;> split <;> omega
  · rcases (show u = 0 ∨ u = 1 from by omega) with rfl | rfl
    · rw [Nat.zero_mul, Nat.zero_add, lo r hr]; dsimp only; split <;> split <;> omega
    · rw [Nat.one_mul, hi r hr]; dsimp only; split <;> split <;> omega
theorem oe_sorts (K : Nat) (hK : K ≤ 6) (f : Nat → Bool) : leB (2 ^ K) (runG AB OB (2 ^ K) (oeS (2 ^ K)) f) :=
  blocks_le (ups_blocks K (fun s => halF (s / 2)) oddF (fun N k f hk _ h => oe_stage N k f hk h) 6 0 f hK (Nat.zero_le _) (by omega) (blocks_one _ f))

/-- One pass of Bubble. -/
theorem bub_pass (r : Nat) (f : Nat → Bool) : ∀ k, k ≤ r → (∀ i, k < i → stepG AB OB (neiF r) k f i = f i) ∧ (∀ i, i ≤ k → stepG AB OB (neiF r) k f i = true → stepG AB OB (neiF r) k f k = true) ∧ (∀ i, i ≤ k → stepG AB OB (neiF r) k f i = true → ∃ t, t ≤ k ∧ f t = true)
  | 0, _ => ⟨fun i _ => rfl, fun i hi h => by obtain rfl : i = 0 := by omega
                                              exact h, fun i hi h => ⟨i, hi, h⟩⟩
  | k + 1, hk => by
    obtain ⟨h1, h2, h3⟩ := bub_pass r f k (by omega)
    have e : neiF r k = k + 1 := by unfold neiF; rw [if_neg (by omega)]
    have es : stepG AB OB (neiF r) (k + 1) f = wireF AB OB (stepG AB OB (neiF r) k f) k (k + 1) := by simp [stepG, e]
    rw [es]
    have hk1 := h1 (k + 1) (by omega)
    generalize stepG AB OB (neiF r) k f = g at *
    have a1 : wireF AB OB g k (k + 1) (k + 1) = (g k || g (k + 1)) := by simp [wireF]
    have a0 : wireF AB OB g k (k + 1) k = (g k && g (k + 1)) := by simp [wireF]
    have ai : ∀ i, i ≠ k → i ≠ k + 1 → wireF AB OB g k (k + 1) i = g i := fun i c1 c2 => by simp [wireF, c1, c2]
    refine ⟨fun i hi => by rw [ai i (by omega) (by omega)]; exact h1 i (by omega), fun i hi h => ?_, fun i hi h => ?_⟩
    · rw [a1]
      by_cases c1 : i = k + 1
      · subst c1; rw [a1] at h; exact h
      · by_cases c0 : i = k
        · subst c0; rw [a0] at h; simp at h; simp [h]
        · rw [ai i c0 c1] at h; simp [h2 i (by omega) h]
    · by_cases c1 : i = k + 1
      · subst c1
        rw [a1] at h
        simp only [Bool.or_eq_true] at h
        rcases h with h | h
        · obtain ⟨t, ht, hf⟩ := h3 k (Nat.le_refl _) h; exact ⟨t, by omega, hf⟩
        · rw [hk1] at h; exact ⟨k + 1, Nat.le_refl _, h⟩
      · by_cases c0 : i = k
        · subst c0
          rw [a0] at h
          simp at h
          obtain ⟨t, ht, hf⟩ := h3 i (Nat.le_refl _) h.1; exact ⟨t, by omega, hf⟩
        · rw [ai i c0 c1] at h
          obtain ⟨t, ht, hf⟩ := h3 i (by omega) h; exact ⟨t, by omega, hf⟩
theorem bub_stop (r : Nat) (f : Nat → Bool) : ∀ k, r ≤ k → stepG AB OB (neiF r) k f = stepG AB OB (neiF r) r f
  | 0, h => by obtain rfl : r = 0 := by omega
               rfl
  | k + 1, h => by
    by_cases c : r = k + 1
    · rw [c]
    · have e : neiF r k = k := by unfold neiF; rw [if_pos (by omega)]
      have : stepG AB OB (neiF r) (k + 1) f = stepG AB OB (neiF r) k f := by simp [stepG, e]
      rw [this]; exact bub_stop r f k (by omega)
theorem bub_all (n : Nat) : ∀ (r : Nat) (f : Nat → Bool), r < n → (∀ i j, i ≤ j → r < j → j < n → f i = true → f j = true) → leB n (runG AB OB n (bubS r) f)
  | 0, f, _, h => fun i j hij hj hi => by
    by_cases c : j = 0
    · obtain rfl : i = j := by omega
      exact hi
    · exact h i j hij (by omega) hj hi
  | r + 1, f, hr, h => by
    obtain ⟨p1, p2, p3⟩ := bub_pass (r + 1) f (r + 1) (Nat.le_refl _)
    rw [bubS, runG_cons, bub_stop (r + 1) f n (by omega)]
    generalize stepG AB OB (neiF (r + 1)) (r + 1) f = g at *
    refine bub_all n r g (by omega) (fun i j hij hrj hj hi => ?_)
    by_cases c : j = r + 1
    · subst c; exact p2 i hij hi
    · rw [p1 j (by omega)]
      by_cases c2 : i ≤ r + 1
      · obtain ⟨t, ht, hf⟩ := p3 i c2 hi
        exact h t j (by omega) (by omega) hj hf
      · rw [p1 i (by omega)] at hi
        exact h i j hij (by omega) hj hi
theorem bub_sorts (n : Nat) (hn : 1 ≤ n) (f : Nat → Bool) : leB n (runG AB OB n (bubS (n - 1)) f) := bub_all n (n - 1) f (by omega) (fun i j _ h1 h2 _ => by omega)
end Go.Proofs.Ytaedamnhobcdlaa
end

section
namespace Go.Proofs.Ytaedamnhobcdlaa
set_option linter.unusedVariables false
set_option linter.unusedSimpArgs false

def atF (l : List Int) : Nat → Int := fun i => l.getD i 0
theorem wireRun_at {n : Nat} {l : List Int} {t : WireM} (hl : l.length = n) (ht : WireOk n t) : atF (wireRun l t) = wireF min max (atF l) t.a.toNat t.b.toNat := by
  obtain ⟨p, q, e1, e2, h1, h2⟩ := ht
  funext i
  unfold atF wireRun wireF
  rw [e1, e2]
  simp only [Int.toNat_natCast, List.getD_eq_getElem?_getD, List.getElem?_set, List.length_set]
  by_cases c1 : i = q
  · subst c1
    simp [hl, h2]
  · by_cases c2 : i = p
    · subst c2
      have : ¬ q = i := fun e => c1 e.symm
      have h3 : i < n := by omega
      simp [this, c1, hl, h3]
    · have a1 : ¬ q = i := fun e => c1 e.symm
      have a2 : ¬ p = i := fun e => c2 e.symm
      simp [a1, a2, c1, c2]
theorem stepW_at {n : Nat} (σ : Nat → Nat) : ∀ (k : Nat) (l : List Int), l.length = n → k ≤ n → (∀ t ∈ stepW σ k, WireOk n t) → atF (runW (stepW σ k) l) = stepG min max σ k (atF l)
  | 0, l, hl, hk, h => rfl
  | k + 1, l, hl, hk, h => by
    rw [stepW_succ] at h ⊢
    have ih := stepW_at σ k l hl (by omega) (fun t ht => h t (List.mem_append_left _ ht))
    rw [runW_app]
    by_cases c : k < σ k
    · have hw := h ⟨(k : Int), (σ k : Int)⟩ (List.mem_append_right _ (by rw [wireAt_yes c]; simp))
      rw [wireAt_yes c]
      show atF (wireRun (runW (stepW σ k) l) ⟨(k : Int), (σ k : Int)⟩) = _
      rw [wireRun_at (by rw [runW_length]; exact hl) hw, ih]
      simp [stepG, c]
    · rw [wireAt_no c, runW_nil, ih]
      simp [stepG, c]
theorem allW_at {n : Nat} : ∀ (σs : List (Nat → Nat)) (l : List Int), l.length = n → (∀ t ∈ allW n σs, WireOk n t) → atF (runW (allW n σs) l) = runG min max n σs (atF l)
  | [], l, hl, h => rfl
  | σ :: σs, l, hl, h => by
    unfold allW at h ⊢
    rw [runW_app, allW_at σs _ (by rw [runW_length]; exact hl) (fun t ht => h t (List.mem_append_right _ ht)), stepW_at σ n l hl (Nat.le_refl _) (fun t ht => h t (List.mem_append_left _ ht))]
    rfl
/-- Steps that sort all lists of two values: their wires sort. -/
theorem allW_sorts {n : Nat} {σs : List (Nat → Nat)} (hs : ∀ f : Nat → Bool, leB n (runG (fun a b => a && b) (fun a b => a || b) n σs f)) (h : ∀ t ∈ allW n σs, WireOk n t) {l : List Int} (hl : l.length = n) : sortedB (runW (allW n σs) l) = true := by
  rw [sortedB_true]
  intro i hi
  rw [runW_length, hl] at hi
  have e := allW_at σs l hl h
  have h1 := zero_one n σs hs (atF l) i (i + 1) (by omega) hi
  rw [← e] at h1
  exact h1
theorem wireRun_count {n : Nat} {l : List Int} {t : WireM} (hl : l.length = n) (ht : WireOk n t) (x : Int) : (wireRun l t).count x = l.count x := by
  obtain ⟨p, q, e1, e2, h1, h2⟩ := ht
  unfold wireRun
  rw [e1, e2]
  simp only [Int.toNat_natCast]
  have hp : p < l.length := by omega
  have hq : q < l.length := by omega
  have gp : l.getD p 0 = l[p] := by simp [List.getD_eq_getElem?_getD, hp]
  have gq : l.getD q 0 = l[q] := by simp [List.getD_eq_getElem?_getD, hq]
  rw [gp, gq]
  have hs : ∀ u v : Int, ((l.set p u).set q v).count x = l.count x - (if l[p] == x then 1 else 0) + (if u == x then 1 else 0) - (if l[q] == x then 1 else 0) + (if v == x then 1 else 0) := fun u v => by
    rw [List.count_set (by simpa using hq), List.count_set hp, List.getElem_set_ne (by omega)]
  rw [hs]
  have hpos : ∀ (k : Nat) (hk : k < l.length), (if l[k] == x then 1 else 0) ≤ l.count x := fun k hk => by
    split
    · rename_i c
      have : l[k] = x := by simpa using c
      have h3 : x ∈ l := by rw [← this]; exact List.getElem_mem hk
      have := List.count_pos_iff.2 h3
      omega
    · omega
  have b1 := hpos p hp
  have b2 := hpos q hq
  by_cases c : l[p] ≤ l[q]
  · rw [Int.min_eq_left c, Int.max_eq_right c]
    omega
  · rw [Int.min_eq_right (by omega), Int.max_eq_left (by omega)]
    omega
theorem runW_count {n : Nat} : ∀ (ws : List WireM) (l : List Int), l.length = n → (∀ t ∈ ws, WireOk n t) → ∀ x, (runW ws l).count x = l.count x
  | [], l, hl, h, x => rfl
  | t :: ws, l, hl, h, x => by
    show (runW ws (wireRun l t)).count x = _
    rw [runW_count ws _ (by rw [wireRun_length]; exact hl) (fun u hu => h u (List.mem_cons_of_mem _ hu)), wireRun_count hl (h t (List.mem_cons_self ..))]
theorem bit_ok : ∀ n ∈ [1, 2, 4, 8, 16, 32, 64], netOkB (bitonicM n) = true := by decide +kernel
theorem oe_ok : ∀ n ∈ [1, 2, 4, 8, 16, 32, 64], netOkB (oddEvenM n) = true := by decide +kernel
theorem bub_ok : ∀ n ∈ List.range 40, netOkB (bubbleM ((n + 1 : Nat) : Int)) = true := by decide +kernel
theorem isTwo_pow {n : Nat} (h : isTwo n) : ∃ K, K ≤ 6 ∧ n = 2 ^ K := by
  unfold isTwo at h
  rcases h with rfl | rfl | rfl | rfl | rfl | rfl | rfl
  · exact ⟨0, by omega, rfl⟩
  · exact ⟨1, by omega, rfl⟩
  · exact ⟨2, by omega, rfl⟩
  · exact ⟨3, by omega, rfl⟩
  · exact ⟨4, by omega, rfl⟩
  · exact ⟨5, by omega, rfl⟩
  · exact ⟨6, by omega, rfl⟩
/-- A net that is valid, of n places, and sorts every list of n numbers. -/
structure GoodNet (m : NetM) (n : Nat) : Prop where
  ok : netOkB m = true
  size : m.n = (n : Int)
  sort : ∀ l : List Int, l.length = n → sortedB (runW m.ws l) = true
  count : ∀ (l : List Int) (x : Int), l.length = n → (runW m.ws l).count x = l.count x
theorem good_of {n : Nat} {σs : List (Nat → Nat)} (hok : netOkB ⟨(n : Int), allW n σs⟩ = true) (hs : ∀ f : Nat → Bool, leB n (runG (fun a b => a && b) (fun a b => a || b) n σs f)) : GoodNet ⟨(n : Int), allW n σs⟩ n := by
  obtain ⟨n', e, _, _, _, hw⟩ := netOkB_ok hok
  have : n = n' := by have := e; simp only [] at this; omega
  subst this
  exact ⟨hok, rfl, fun l hl => allW_sorts hs hw hl, fun l x hl => runW_count _ l hl hw x⟩
theorem bitonic_good {n : Nat} (h : isTwo n) : GoodNet (bitonicM n) n := by
  have hok : netOkB (bitonicM n) = true := bit_ok n (by unfold isTwo at h; rcases h with rfl | rfl | rfl | rfl | rfl | rfl | rfl <;> simp)
  have ht : twoZ (n : Int) = true := by unfold twoZ; simp only [decide_eq_true_eq]; exact ⟨by omega, by simpa using h⟩
  have e : bitonicM n = ⟨(n : Int), allW n (bitS n)⟩ := by unfold bitonicM; rw [if_pos ht]; simp
  rw [e] at hok ⊢
  obtain ⟨K, hK, rfl⟩ := isTwo_pow h
  exact good_of hok (bit_sorts K hK)
theorem oddEven_good {n : Nat} (h : isTwo n) : GoodNet (oddEvenM n) n := by
  have hok : netOkB (oddEvenM n) = true := oe_ok n (by unfold isTwo at h; rcases h with rfl | rfl | rfl | rfl | rfl | rfl | rfl <;> simp)
  have ht : twoZ (n : Int) = true := by unfold twoZ; simp only [decide_eq_true_eq]; exact ⟨by omega, by simpa using h⟩
  have e : oddEvenM n = ⟨(n : Int), allW n (oeS n)⟩ := by unfold oddEvenM; rw [if_pos ht]; simp
  rw [e] at hok ⊢
  obtain ⟨K, hK, rfl⟩ := isTwo_pow h
  exact good_of hok (oe_sorts K hK)
theorem bubble_good {n : Nat} (h : n < 40) : GoodNet (bubbleM ((n + 1 : Nat) : Int)) (n + 1) := by
  have hok : netOkB (bubbleM ((n + 1 : Nat) : Int)) = true := bub_ok n (by simpa using h)
  have e : bubbleM ((n + 1 : Nat) : Int) = ⟨((n + 1 : Nat) : Int), allW (n + 1) (bubS (n + 1 - 1))⟩ := by unfold bubbleM; rw [if_pos (by omega)]; simp
  rw [e] at hok ⊢
  exact good_of hok (bub_sorts (n + 1) (by omega))
end Go.Proofs.Ytaedamnhobcdlaa
end
