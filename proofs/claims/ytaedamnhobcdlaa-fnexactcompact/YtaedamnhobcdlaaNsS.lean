/- Bitonic, OddEven and Bubble sort every list, plain. No program in it. -/
import Derived.Test.YtaedamnhobcdlaaNsR
namespace Go.Proofs.Ytaedamnhobcdlaa
set_option linter.unusedVariables false
set_option linter.unusedSimpArgs false

theorem runG_cons {α : Type} (lo hi : α → α → α) (n : Nat) (σ : Nat → Nat) (l : List (Nat → Nat)) (f : Nat → α) : runG lo hi n (σ :: l) f = runG lo hi n l (stepG lo hi σ n f) := rfl
theorem ups_blocks (K : Nat) (g : Nat → Nat → Nat) (F : Nat → Nat → Nat → Nat) (hst : ∀ (N k : Nat) (f : Nat → Bool), k ≤ 6 → N * 2 ^ (k + 1) = 2 ^ K → Blocks (N * 2 ^ (k + 1)) (2 ^ k) f → Blocks (N * 2 ^ (k + 1)) (2 ^ (k + 1)) (runG AB OB (N * 2 ^ (k + 1)) (g (2 ^ (k + 1)) :: downs (F (2 ^ (k + 1))) 6 (2 ^ (k + 1) / 4)) f)) :
    ∀ (j k : Nat) (f : Nat → Bool), K ≤ 6 → k ≤ K → K ≤ k + j → Blocks (2 ^ K) (2 ^ k) f → Blocks (2 ^ K) (2 ^ K) (runG AB OB (2 ^ K) (ups g F (2 ^ K) j (2 ^ (k + 1))) f)
  | 0, k, f, h6, hk, hj, h => by
    obtain rfl : k = K := by omega
    exact h
  | j + 1, k, f, h6, hk, hj, h => by
    by_cases e : k = K
    · subst e
      rw [ups, if_neg (by rw [Nat.pow_succ]; have := Nat.pow_pos (n := k) (show 0 < 2 by omega); omega)]
      exact h
    · have hle : 2 ^ (k + 1) ≤ 2 ^ K := Nat.pow_le_pow_right (by omega) (by omega)
      rw [ups, if_pos hle, runG_app]
      have e2 : 2 * 2 ^ (k + 1) = 2 ^ (k + 1 + 1) := by rw [Nat.pow_succ 2 (k + 1), Nat.mul_comm]
      rw [e2]
      refine ups_blocks K g F hst j (k + 1) _ h6 (by omega) (by omega) ?_
      have eN : 2 ^ (K - (k + 1)) * 2 ^ (k + 1) = 2 ^ K := by rw [← Nat.pow_add]; congr 1; omega
      have := hst (2 ^ (K - (k + 1))) k f (by omega) eN (by rw [eN]; exact h)
      rw [eN] at this
      exact this
theorem blocks_le {n : Nat} {f : Nat → Bool} (h : Blocks n n f) : leB n f := fun i j hij hj hi => by
  obtain ⟨c, hc, hf⟩ := h 0 (by omega)
  have h1 := hf i (by omega)
  have h2 := hf j hj
  rw [Nat.zero_mul, Nat.zero_add] at h1 h2
  exact h2.2 (by have := h1.1 hi; omega)
theorem bit_sorts (K : Nat) (hK : K ≤ 6) (f : Nat → Bool) : leB (2 ^ K) (runG AB OB (2 ^ K) (bitS (2 ^ K)) f) :=
  blocks_le (ups_blocks K mirF (fun _ => halF) (fun N k f hk _ h => bit_stage N k 6 f hk h) 6 0 f hK (Nat.zero_le _) (by omega) (blocks_one _ f))

def oddP (s h p : Nat) : Nat := if p % s < h ∨ s - h ≤ p % s then p else if p % s / h % 2 = 1 then p + h else p - h
/-- A place in a block of 2L parts of h places. -/
theorem div_at {h u r : Nat} (hr : r < h) : (u * h + r) / h = u := by
  rw [Nat.mul_comm, Nat.mul_add_div (by omega), Nat.div_eq_of_lt hr, Nat.add_zero]
theorem part_lt {h L u r : Nat} (hu : u < 2 * L) (hr : r < h) : u * h + r < 2 * L * h := lt_at hu hr
theorem odd_at {h L q u r : Nat} (hu : u < 2 * L) (hr : r < h) : oddP (2 * L * h) h (q * (2 * L * h) + (u * h + r)) = q * (2 * L * h) + (if u = 0 ∨ u + 1 = 2 * L then u * h + r else if u % 2 = 1 then (u + 1) * h + r else (u - 1) * h + r) := by
  have hlt := part_lt hu hr
  have hL : (2 * L - 1) * h + h = 2 * L * h := by rw [← Nat.succ_mul]; congr 1; omega
  unfold oddP
  rw [mod_at hlt, div_at hr]
  by_cases c0 : u = 0
  · subst c0
    rw [if_pos (.inl (by omega)), if_pos (.inl rfl)]
  · have h1 : h ≤ u * h := Nat.le_mul_of_pos_left h (by omega)
    by_cases c1 : u + 1 = 2 * L
    · have hu' : u = 2 * L - 1 := by omega
      rw [if_pos (.inr (by rw [hu']; omega)), if_pos (.inr c1)]
    · have h2 : u * h + h + h ≤ 2 * L * h := by
        have := Nat.mul_le_mul_right h (show u + 2 ≤ 2 * L by omega)
        rw [Nat.add_mul] at this
        omega
      rw [if_neg (show ¬ (u * h + r < h ∨ 2 * L * h - h ≤ u * h + r) by omega), if_neg (show ¬ (u = 0 ∨ u + 1 = 2 * L) by omega)]
      by_cases c2 : u % 2 = 1
      · rw [if_pos c2, if_pos c2, Nat.succ_mul u h]; omega
      · rw [if_neg c2, if_neg c2]
        have : (u - 1) * h + h = u * h := by rw [← Nat.succ_mul]; congr 1; omega
        omega
theorem place (h L N p : Nat) (hh : 0 < h) (hp : p < N * (2 * L * h)) : ∃ q u r, p = q * (2 * L * h) + (u * h + r) ∧ q < N ∧ u < 2 * L ∧ r < h := by
  have hpos : 0 < 2 * L * h := by
    rcases Nat.eq_zero_or_pos (2 * L * h) with e | e
    · rw [e] at hp; omega
    · exact e
  obtain ⟨q, y, e, hy⟩ := at_mod (2 * L * h) p hpos
  obtain ⟨u, r, e2, hr⟩ := at_mod h y hh
  exact ⟨q, u, r, by rw [e, e2], at_lt (by rw [← e]; exact hp), at_lt (by rw [← e2]; exact hy), hr⟩
theorem odd_pairs {h L N : Nat} (hh : 0 < h) : Pairs (N * (2 * L * h)) (oddF (2 * L * h) h) (oddP (2 * L * h) h) := by
  have hF : ∀ q u r, u < 2 * L → r < h → oddF (2 * L * h) h (q * (2 * L * h) + (u * h + r)) = if u + 1 = 2 * L ∨ u % 2 = 0 then q * (2 * L * h) + (u * h + r) else q * (2 * L * h) + ((u + 1) * h + r) := fun q u r hu hr => by
    have hlt := part_lt hu hr
    have hL : (2 * L - 1) * h + h = 2 * L * h := by rw [← Nat.succ_mul]; congr 1; omega
    unfold oddF
    rw [mod_at hlt, div_at hr]
    by_cases c1 : u + 1 = 2 * L
    · have hu' : u = 2 * L - 1 := by omega
      rw [if_pos (.inl (by rw [hu']; omega)), if_pos (.inl c1)]
    · have h2 : u * h + h + h ≤ 2 * L * h := by
        have := Nat.mul_le_mul_right h (show u + 2 ≤ 2 * L by omega)
        rw [Nat.add_mul] at this
        omega
      by_cases c2 : u % 2 = 0
      · rw [if_pos (.inr c2), if_pos (.inr c2)]
      · rw [if_neg (show ¬ (2 * L * h - h ≤ u * h + r ∨ u % 2 = 0) by omega), if_neg (show ¬ (u + 1 = 2 * L ∨ u % 2 = 0) by omega), Nat.succ_mul u h]; omega
  have up1 : ∀ u, (u + 1) * h = u * h + h := fun u => Nat.succ_mul _ _
  have dn1 : ∀ u, 0 < u → (u - 1) * h + h = u * h := fun u hu => by rw [← Nat.succ_mul]; congr 1; omega
  refine ⟨fun p hp => ?_, fun p hp hu => ?_, fun p hp => ?_, fun p hp => ?_⟩ <;> obtain ⟨q, u, r, rfl, hq, hu2, hr⟩ := place h L N p hh hp
  · rw [hF q u r hu2 hr, odd_at hu2 hr]
    have := up1 u
    by_cases c0 : u = 0
    · subst c0; simp
    · have := dn1 u (by omega)
      by_cases c1 : u + 1 = 2 * L
      · rw [if_pos (.inl c1), if_pos (.inr c1)]
      · by_cases c2 : u % 2 = 0
        · rw [if_pos (.inr c2), if_neg (show ¬ (u = 0 ∨ u + 1 = 2 * L) by omega), if_neg (show ¬ u % 2 = 1 by omega)]; omega
        · rw [if_neg (show ¬ (u + 1 = 2 * L ∨ u % 2 = 0) by omega), if_neg (show ¬ (u = 0 ∨ u + 1 = 2 * L) by omega), if_pos (show u % 2 = 1 by omega)]
  · rw [hF q u r hu2 hr] at hu ⊢
    rw [odd_at hu2 hr]
    by_cases c : u + 1 = 2 * L ∨ u % 2 = 0
    · rw [if_pos c] at hu; omega
    · rw [if_neg c, if_neg (show ¬ (u = 0 ∨ u + 1 = 2 * L) by omega), if_pos (show u % 2 = 1 by omega)]
  · rw [odd_at hu2 hr]
    by_cases c0 : u = 0 ∨ u + 1 = 2 * L
    · rw [if_pos c0, odd_at hu2 hr, if_pos c0]
    · rw [if_neg c0]
      by_cases c2 : u % 2 = 1
      · rw [if_pos c2, odd_at (show u + 1 < 2 * L by omega) hr, if_neg (show ¬ (u + 1 = 0 ∨ u + 1 + 1 = 2 * L) by omega), if_neg (show ¬ (u + 1) % 2 = 1 by omega), show u + 1 - 1 = u from by omega]
      · rw [if_neg c2, odd_at (show u - 1 < 2 * L by omega) hr, if_neg (show ¬ (u - 1 = 0 ∨ u - 1 + 1 = 2 * L) by omega), if_pos (show (u - 1) % 2 = 1 by omega), show u - 1 + 1 = u from by omega]
  · rw [odd_at hu2 hr]
    by_cases c0 : u = 0 ∨ u + 1 = 2 * L
    · rw [if_pos c0]; exact lt_at hq (part_lt hu2 hr)
    · rw [if_neg c0]
      by_cases c2 : u % 2 = 1
      · rw [if_pos c2]; exact lt_at hq (part_lt (by omega) hr)
      · rw [if_neg c2]; exact lt_at hq (part_lt (by omega) hr)
/-- Behind the step of parts of h: in each class of places mod h the zeros come first, their numbers go down by 2 at most. -/
def OE (f : Nat → Bool) (b h L : Nat) : Prop := ∃ z : Nat → Nat, (∀ r, r < h → z r ≤ L) ∧ (∀ r t, r ≤ t → t < h → z t ≤ z r ∧ z r ≤ z t + 2) ∧ ∀ u r, u < L → r < h → (f (b + (u * h + r)) = true ↔ z r ≤ u)
theorem oe_step {h L q : Nat} {f : Nat → Bool} (hh : 0 < h) (hL : 0 < L) (H : OE f (q * (2 * L * h)) (2 * h) L) : OE (parB (oddP (2 * L * h) h) f) (q * (2 * L * h)) h (2 * L) := by
  obtain ⟨z, hz, hm, hf⟩ := H
  have ev : ∀ v r, v < L → r < h → (f (q * (2 * L * h) + (2 * v * h + r)) = true ↔ z r ≤ v) := fun v r hv hr => by
    have := hf v r hv (by omega)
    rwa [show v * (2 * h) + r = 2 * v * h + r from by rw [Nat.mul_comm 2 v, Nat.mul_assoc]] at this
  have od : ∀ v r, v < L → r < h → (f (q * (2 * L * h) + ((2 * v + 1) * h + r)) = true ↔ z (h + r) ≤ v) := fun v r hv hr => by
    have := hf v (h + r) hv (by omega)
    have e : (2 * v + 1) * h = v * (2 * h) + h := by rw [Nat.add_mul, Nat.one_mul, Nat.mul_comm 2 v, Nat.mul_assoc]
    rw [e, Nat.add_assoc (v * (2 * h)) h r]
    exact this
  refine ⟨fun r => z r + z (h + r), fun r hr => ?_, fun r t hrt ht => ?_, fun u r hu hr => ?_⟩
  · have := hz r (by omega); have := hz (h + r) (by omega); dsimp only; omega
  · have a := hm r t hrt (by omega)
    have b := hm (h + r) (h + t) (by omega) (by omega)
    have c := hm t (h + r) (by omega) (by omega)
    have d := hm r (h + t) (by omega) (by omega)
    dsimp only
    omega
  · show _ ↔ z r + z (h + r) ≤ u
    have hz1 := hz r (by omega)
    have hz2 := hz (h + r) (by omega)
    have hm1 := hm r (h + r) (by omega) (by omega)
    have up1 : (u + 1) * h = u * h + h := Nat.succ_mul _ _
    have dn1 : 0 < u → (u - 1) * h + h = u * h := fun hu => by rw [← Nat.succ_mul]; congr 1; omega
    unfold parB parF
    rw [odd_at hu hr]
    by_cases c0 : u = 0
    · subst c0
      have := ev 0 r hL hr
      simp only [Nat.mul_zero, Nat.zero_mul, Nat.zero_add] at this
      simp [this]
      omega
    · by_cases c1 : u + 1 = 2 * L
      · rw [if_pos (show u = 0 ∨ u + 1 = 2 * L from .inr c1), if_neg (Nat.lt_irrefl _), if_neg (Nat.lt_irrefl _)]
        have := od (L - 1) r (by omega) hr
        rw [show 2 * (L - 1) + 1 = u from by omega] at this
        rw [this]; omega
      · rw [if_neg (show ¬ (u = 0 ∨ u + 1 = 2 * L) by omega)]
        by_cases c2 : u % 2 = 1
        · have o := od (u / 2) r (by omega) hr
          have e := ev (u / 2 + 1) r (by omega) hr
          rw [show 2 * (u / 2) + 1 = u from by omega] at o
          rw [show 2 * (u / 2 + 1) = u + 1 from by omega] at e
          rw [if_pos c2, if_pos (show q * (2 * L * h) + (u * h + r) < q * (2 * L * h) + ((u + 1) * h + r) by omega)]
          simp only [Bool.and_eq_true, o, e]
          omega
        · have o := od (u / 2 - 1) r (by omega) hr
          have e := ev (u / 2) r (by omega) hr
          rw [show 2 * (u / 2 - 1) + 1 = u - 1 from by omega] at o
          rw [show 2 * (u / 2) = u from by omega] at e
          have := dn1 (by omega)
          rw [if_neg c2, if_neg (show ¬ q * (2 * L * h) + (u * h + r) < q * (2 * L * h) + ((u - 1) * h + r) by omega), if_pos (show q * (2 * L * h) + ((u - 1) * h + r) < q * (2 * L * h) + (u * h + r) by omega)]
          simp only [Bool.or_eq_true, o, e]
          omega
/-- Behind the last step: sorted. -/
theorem OE.sor {f : Nat → Bool} {b L : Nat} (h : OE f b 1 L) : Sor f b L := by
  obtain ⟨z, hz, _, hf⟩ := h
  refine ⟨z 0, hz 0 (by omega), fun r hr => ?_⟩
  have := hf r 0 hr (by omega)
  rwa [Nat.mul_one, Nat.add_zero] at this
theorem OE.ext {f g : Nat → Bool} {b h L : Nat} (H : OE f b h L) (e : ∀ i, i < L * h → g (b + i) = f (b + i)) : OE g b h L := by
  obtain ⟨z, h1, h2, h3⟩ := H
  exact ⟨z, h1, h2, fun u r hu hr => by rw [e _ (lt_at hu hr)]; exact h3 u r hu hr⟩
/-- The steps of parts of h, h / 2, .., 1 in blocks of s places. -/
theorem downs_odd (N K : Nat) : ∀ (k t : Nat) (f : Nat → Bool), k ≤ t → k < K → (∀ q, q < N → OE f (q * 2 ^ K) (2 ^ k) (2 ^ (K - k))) → ∀ q, q < N → Sor (runG AB OB (N * 2 ^ K) (downs (oddF (2 ^ K)) t (2 ^ k / 2)) f) (q * 2 ^ K) (2 ^ K)
  | 0, t, f, _, hK, h, q, hq => by
    have : (2 : Nat) ^ 0 / 2 = 0 := rfl
    rw [this, downs_nil]
    have := h q hq
    rw [Nat.pow_zero, Nat.sub_zero] at this
    exact this.sor
  | k + 1, t, f, ht, hK, h, q, hq => by
    obtain ⟨t', rfl⟩ : ∃ t', t = t' + 1 := ⟨t - 1, by omega⟩
    have hp : 0 < 2 ^ k := Nat.pow_pos (by omega)
    have e1 : 2 ^ (k + 1) / 2 = 2 ^ k := by rw [Nat.pow_succ]; omega
    have eS : 2 ^ K = 2 * 2 ^ (K - (k + 1)) * 2 ^ k := by
      rw [Nat.mul_comm 2, ← Nat.pow_succ, ← Nat.pow_add]; congr 1; omega
    have eL : 2 * 2 ^ (K - (k + 1)) = 2 ^ (K - k) := by rw [Nat.mul_comm, ← Nat.pow_succ]; congr 1; omega
    have P := odd_pairs (h := 2 ^ k) (L := 2 ^ (K - (k + 1))) (N := N) hp
    rw [← eS] at P
    rw [e1, downs_cons _ _ _ (by omega)]
    refine downs_odd N K k t' _ (by omega) (by omega) (fun q hq => ?_) q hq
    have H := h q hq
    have e2 : 2 ^ (k + 1) = 2 * 2 ^ k := by rw [Nat.pow_succ, Nat.mul_comm]
    rw [e2] at H
    have st := oe_step (h := 2 ^ k) (L := 2 ^ (K - (k + 1))) (q := q) hp (Nat.pow_pos (by omega)) (by rw [← eS]; exact H)
    rw [← eS, eL] at st
    refine st.ext (fun i hi => step_at P f _ ?_)
    refine lt_at hq ?_
    rw [← eL, ← eS] at hi
    exact hi
theorem oe_stage (N k : Nat) (f : Nat → Bool) (hk : k ≤ 6) (h : Blocks (N * 2 ^ (k + 1)) (2 ^ k) f) : Blocks (N * 2 ^ (k + 1)) (2 ^ (k + 1)) (runG AB OB (N * 2 ^ (k + 1)) (halF (2 ^ (k + 1) / 2) :: downs (oddF (2 ^ (k + 1))) 6 (2 ^ (k + 1) / 4)) f) := by
  have hp : 0 < 2 ^ k := Nat.pow_pos (by omega)
  have e0 : 2 ^ (k + 1) = 2 * 2 ^ k := by rw [Nat.pow_succ, Nat.mul_comm]
  have e1 : 2 ^ (k + 1) / 2 = 2 ^ k := by rw [e0]; omega
  have e4 : 2 ^ (k + 1) / 4 = 2 ^ k / 2 := by rw [e0]; omega
  have P := hal_pairs (h := 2 ^ k) (N := N) hp
  rw [← e0] at P
  intro q hq
  have hqN : q < N := Nat.le_of_mul_le_mul_right hq (Nat.pow_pos (by omega))
  rw [e1, e4, runG_cons]
  refine downs_odd N (k + 1) k 6 _ hk (by omega) (fun q hq => ?_) q hqN
  rw [show k + 1 - k = 1 from by omega, Nat.pow_one]
  have hq1 : (q + 1) * 2 ^ (k + 1) ≤ N * 2 ^ (k + 1) := Nat.mul_le_mul_right _ hq
  have qe : (q + 1) * 2 ^ (k + 1) = q * 2 ^ (k + 1) + 2 ^ (k + 1) := Nat.succ_mul _ _
  have i1 : 2 * q * 2 ^ k = q * 2 ^ (k + 1) := by rw [e0, Nat.mul_comm 2 q, Nat.mul_assoc]
  have i2 : (2 * q + 1) * 2 ^ k = q * 2 ^ (k + 1) + 2 ^ k := by rw [Nat.add_mul, i1, Nat.one_mul]
  obtain ⟨a, ha, fa⟩ := h (2 * q) (by rw [i2]; omega)
  obtain ⟨b, hb, fb⟩ := h (2 * q + 1) (by rw [Nat.succ_mul, i2]; omega)
  rw [i1] at fa
  rw [i2] at fb
  refine OE.ext (f := parB (halP (2 ^ k)) f) ?_ (fun i hi => step_at P f _ (lt_at hq (by rw [e0]; exact hi)))
  have lo : ∀ r, r < 2 ^ k → (parB (halP (2 ^ k)) f (q * 2 ^ (k + 1) + r) = true ↔ a ≤ r ∧ b ≤ r) := fun r hr => by
    have := par_lo (q := q) f hr
    rw [← e0] at this
    have h2 := fb r hr
    rw [Nat.add_assoc] at h2
    rw [this]
    simp only [Bool.and_eq_true, fa r hr, h2]
  have hi : ∀ r, r < 2 ^ k → (parB (halP (2 ^ k)) f (q * 2 ^ (k + 1) + (2 ^ k + r)) = true ↔ a ≤ r ∨ b ≤ r) := fun r hr => by
    have := par_hi (q := q) f hr
    rw [← e0] at this
    have h2 := fb r hr
    rw [Nat.add_assoc] at h2
    rw [this]
    simp only [Bool.or_eq_true, fa r hr, h2]
  refine ⟨fun r => (if r < a then 1 else 0) + (if r < b then 1 else 0), fun r hr => ?_, fun r t hrt ht => ?_, fun u r hu hr => ?_⟩
  · dsimp only; split <;> split <;> omega
  · dsimp only; split <;> split <;> split <;> split <;> omega
  · rcases (show u = 0 ∨ u = 1 from by omega) with rfl | rfl
    · rw [Nat.zero_mul, Nat.zero_add, lo r hr]; dsimp only; split <;> split <;> omega
    · rw [Nat.one_mul, hi r hr]; dsimp only; split <;> split <;> omega
theorem oe_sorts (K : Nat) (hK : K ≤ 6) (f : Nat → Bool) : leB (2 ^ K) (runG AB OB (2 ^ K) (oeS (2 ^ K)) f) :=
  blocks_le (ups_blocks K (fun s => halF (s / 2)) oddF (fun N k f hk _ h => oe_stage N k f hk h) 6 0 f hK (Nat.zero_le _) (by omega) (blocks_one _ f))

/-- One pass of Bubble. -/
theorem bub_pass (r : Nat) (f : Nat → Bool) : ∀ k, k ≤ r → (∀ i, k < i → stepG AB OB (neiF r) k f i = f i) ∧ (∀ i, i ≤ k → stepG AB OB (neiF r) k f i = true → stepG AB OB (neiF r) k f k = true) ∧ (∀ i, i ≤ k → stepG AB OB (neiF r) k f i = true → ∃ t, t ≤ k ∧ f t = true)
  | 0, _ => ⟨fun i _ => rfl, fun i hi h => by obtain rfl : i = 0 := by omega
                                              exact h, fun i hi h => ⟨i, hi, h⟩⟩
  | k + 1, hk => by
    obtain ⟨h1, h2, h3⟩ := bub_pass r f k (by omega)
    have e : neiF r k = k + 1 := by unfold neiF; rw [if_neg (by omega)]
    have es : stepG AB OB (neiF r) (k + 1) f = wireF AB OB (stepG AB OB (neiF r) k f) k (k + 1) := by simp [stepG, e]
    rw [es]
    have hk1 := h1 (k + 1) (by omega)
    generalize stepG AB OB (neiF r) k f = g at *
    have a1 : wireF AB OB g k (k + 1) (k + 1) = (g k || g (k + 1)) := by simp [wireF]
    have a0 : wireF AB OB g k (k + 1) k = (g k && g (k + 1)) := by simp [wireF]
    have ai : ∀ i, i ≠ k → i ≠ k + 1 → wireF AB OB g k (k + 1) i = g i := fun i c1 c2 => by simp [wireF, c1, c2]
    refine ⟨fun i hi => by rw [ai i (by omega) (by omega)]; exact h1 i (by omega), fun i hi h => ?_, fun i hi h => ?_⟩
    · rw [a1]
      by_cases c1 : i = k + 1
      · subst c1; rw [a1] at h; exact h
      · by_cases c0 : i = k
        · subst c0; rw [a0] at h; simp at h; simp [h]
        · rw [ai i c0 c1] at h; simp [h2 i (by omega) h]
    · by_cases c1 : i = k + 1
      · subst c1
        rw [a1] at h
        simp only [Bool.or_eq_true] at h
        rcases h with h | h
        · obtain ⟨t, ht, hf⟩ := h3 k (Nat.le_refl _) h; exact ⟨t, by omega, hf⟩
        · rw [hk1] at h; exact ⟨k + 1, Nat.le_refl _, h⟩
      · by_cases c0 : i = k
        · subst c0
          rw [a0] at h
          simp at h
          obtain ⟨t, ht, hf⟩ := h3 i (Nat.le_refl _) h.1; exact ⟨t, by omega, hf⟩
        · rw [ai i c0 c1] at h
          obtain ⟨t, ht, hf⟩ := h3 i (by omega) h; exact ⟨t, by omega, hf⟩
theorem bub_stop (r : Nat) (f : Nat → Bool) : ∀ k, r ≤ k → stepG AB OB (neiF r) k f = stepG AB OB (neiF r) r f
  | 0, h => by obtain rfl : r = 0 := by omega
               rfl
  | k + 1, h => by
    by_cases c : r = k + 1
    · rw [c]
    · have e : neiF r k = k := by unfold neiF; rw [if_pos (by omega)]
      have : stepG AB OB (neiF r) (k + 1) f = stepG AB OB (neiF r) k f := by simp [stepG, e]
      rw [this]; exact bub_stop r f k (by omega)
theorem bub_all (n : Nat) : ∀ (r : Nat) (f : Nat → Bool), r < n → (∀ i j, i ≤ j → r < j → j < n → f i = true → f j = true) → leB n (runG AB OB n (bubS r) f)
  | 0, f, _, h => fun i j hij hj hi => by
    by_cases c : j = 0
    · obtain rfl : i = j := by omega
      exact hi
    · exact h i j hij (by omega) hj hi
  | r + 1, f, hr, h => by
    obtain ⟨p1, p2, p3⟩ := bub_pass (r + 1) f (r + 1) (Nat.le_refl _)
    rw [bubS, runG_cons, bub_stop (r + 1) f n (by omega)]
    generalize stepG AB OB (neiF (r + 1)) (r + 1) f = g at *
    refine bub_all n r g (by omega) (fun i j hij hrj hj hi => ?_)
    by_cases c : j = r + 1
    · subst c; exact p2 i hij hi
    · rw [p1 j (by omega)]
      by_cases c2 : i ≤ r + 1
      · obtain ⟨t, ht, hf⟩ := p3 i c2 hi
        exact h t j (by omega) (by omega) hj hf
      · rw [p1 i (by omega)] at hi
        exact h i j hij (by omega) hj hi
theorem bub_sorts (n : Nat) (hn : 1 ≤ n) (f : Nat → Bool) : leB n (runG AB OB n (bubS (n - 1)) f) := bub_all n (n - 1) f (by omega) (fun i j _ h1 h2 _ => by omega)
end Go.Proofs.Ytaedamnhobcdlaa
