/- Plain facts for chapter 3: the lowest bit that is 1: no program in it. -/
import Derived.Test.YtigigmffigjpeaaDoorBitsP
namespace Go.Proofs.YtigigmffigjpeaaDoor
set_option linter.unusedVariables false
/-- The index of the lowest bit that is 1 of the f lowest ones, or f. -/
def tzN : Nat → Nat → Nat
  | 0, _ => 0
  | f + 1, x => if x % 2 = 1 then 0 else 1 + tzN f (x / 2)
theorem tzN_at (x k : Nat) (h : k < 64) : tzN (64 - k) (x / 2 ^ k) = if x.testBit k then 0 else 1 + tzN (64 - (k + 1)) (x / 2 ^ (k + 1)) := by
  rw [show 64 - k = (64 - (k + 1)) + 1 from by omega, tzN, Nat.div_div_eq_div_mul, ← Nat.pow_succ, Nat.testBit_eq_decide_div_mod_eq]
  by_cases hb : x / 2 ^ k % 2 = 1 <;> simp [hb]
theorem and_compl (q : Nat) : ∀ k, q < 2 ^ k → q &&& (2 ^ k - 1 - q) = 0 := by
  intro k hk
  apply Nat.eq_of_testBit_eq
  intro i
  rw [Nat.testBit_and, show 2 ^ k - 1 - q = 2 ^ k - (q + 1) from by omega, Nat.testBit_two_pow_sub_succ hk, Nat.zero_testBit]
  cases q.testBit i <;> simp
theorem and_double (a b c d : Nat) (hc : c < 2) (hd : d < 2) : (2 * a + c) &&& (2 * b + d) = 2 * (a &&& b) + (c &&& d) := by
  have h1 := Nat.and_mod_two_pow (a := 2 * a + c) (b := 2 * b + d) (n := 1)
  have h2 := Nat.and_div_two_pow (a := 2 * a + c) (b := 2 * b + d) (n := 1)
  rw [show (2 : Nat) ^ 1 = 2 from rfl] at h1 h2
  rw [show (2 * a + c) % 2 = c from by omega, show (2 * b + d) % 2 = d from by omega] at h1
  rw [show (2 * a + c) / 2 = a from by omega, show (2 * b + d) / 2 = b from by omega] at h2
  omega
theorem low_and : ∀ (f x : Nat), 0 < x → x < 2 ^ f → tzN f x < f ∧ x &&& (2 ^ f - x) = 2 ^ tzN f x
  | 0, x, h0, h => by simp at h; omega
  | f + 1, x, h0, h => by
    rw [Nat.pow_succ] at h
    rw [tzN]
    by_cases hb : x % 2 = 1
    · rw [if_pos hb]
      refine ⟨by omega, ?_⟩
      have e1 : x = 2 * (x / 2) + 1 := by omega
      have e2 : 2 ^ (f + 1) - x = 2 * (2 ^ f - 1 - x / 2) + 1 := by rw [Nat.pow_succ]; omega
      rw [e2]
      conv => lhs; lhs; rw [e1]
      rw [and_double _ _ _ _ (by omega) (by omega), and_compl (x / 2) f (by omega)]
      rfl
    · rw [if_neg hb]
      have ih := low_and f (x / 2) (by omega) (by omega)
      refine ⟨by omega, ?_⟩
      have e1 : x = 2 * (x / 2) + 0 := by omega
      have e2 : 2 ^ (f + 1) - x = 2 * (2 ^ f - x / 2) + 0 := by rw [Nat.pow_succ]; omega
      rw [e2]
      conv => lhs; lhs; rw [e1]
      rw [and_double _ _ _ _ (by omega) (by omega), ih.2, Nat.add_comm 1, Nat.pow_succ]
      simp; omega
theorem tz_zero : tzN 64 0 = 64 := by decide +kernel
theorem tz_pow : ∀ n : Fin 64, tzN 64 (2 ^ n.val) = n.val := by decide +kernel
end Go.Proofs.YtigigmffigjpeaaDoor
