/- Powers of two in the model. -/
import Derived.Test.YtfdlmpjccoaejaaBase
import Derived.Test.YtfdlmpjccoaejaaPlain1
namespace Go.Proofs.Ytfdlmpjccoaejaa
open Go.RowKit
set_option linter.unusedVariables false

set_option maxHeartbeats 400000 in
theorem specPower (i : Nat) (w : World) (hi : i ≤ 63) :
    Calls Try.prog 87 #[.int .i64 i] w fun e w' => e = .returned (.int .u64 ((2 ^ i : Nat) : Int)) ∧ w = w' := by
  obtain ⟨X, hX⟩ : ∃ X, X = 2 ^ i := ⟨_, rfl⟩
  rw [← hX]
  have HX := Lib.hid hX
  clear hX
  go_enter Try.func87, Try.ntmps87
  go_wp2
  go_loop [0, 3] (fun j x => ∃ k y : Nat, k ≤ i ∧ j = .int .i64 k ∧ x = .int .u64 (y : Int) ∧ Hid (y * 2 ^ k = X) ∧ y ≤ 9223372036854775808) (fun j _ => (intOf j).toNat)
  case atStart => exact ⟨i, 1, Nat.le_refl _, rfl, rfl, Lib.hid (by rw [HX.out]; omega), by omega⟩
  case round =>
    obtain ⟨k, y, hk, rfl, rfl, HY, hy⟩ := hrel
    cases k with
    | zero =>
      have HE : Hid (y = X) := Lib.hid (by have := HY.out; simpa using this)
      clear HY
      go_wp2
      go_ret
      exact ⟨ret_int (by rw [HE.out]), rfl⟩
    | succ k =>
      have HY2 : Hid (2 * y * 2 ^ k = X) := Lib.hid (by have := HY.out; rw [Nat.pow_succ] at this; rw [← this, Nat.mul_comm 2 y, Nat.mul_assoc, Nat.mul_comm 2 (2 ^ k)])
      have hy2 : 2 * y ≤ 9223372036854775808 := by
        have h1 := HY2.out
        have h2 : X ≤ 9223372036854775808 := by rw [HX.out]; exact Nat.pow_le_pow_right (n := 2) (by omega) (show i ≤ 63 by omega)
        have h3 : 0 < 2 ^ k := Nat.pow_pos (by omega)
        have h4 : 2 * y * 1 ≤ 2 * y * 2 ^ k := Nat.mul_le_mul_left _ h3
        omega
      clear HY
      go_wp2
      go_round
      case rel => exact ⟨k, 2 * y, by omega, by go_num, by go_num, HY2, hy2⟩
      case measure => simp [intOf]
set_option maxHeartbeats 400000 in
theorem specPow16 (n : Nat) (w : World) (hn : n ≤ 16) :
    Calls Try.prog 77 #[.int .i64 n] w fun e w' => e = .returned (.int .i64 ((2 ^ n : Nat) : Int)) ∧ w = w' := by
  go_enter Try.func77, Try.ntmps77
  go_wp2
  go_loop [0, 3] (fun i o => ∃ k : Nat, k ≤ n ∧ i = .int .i64 k ∧ o = .int .i64 ((2 ^ (n - k) : Nat) : Int)) (fun i _ => (intOf i).toNat)
  case atStart => exact ⟨n, Nat.le_refl _, rfl, by simp⟩
  case round =>
    obtain ⟨k, hk, rfl, rfl⟩ := hrel
    have hp : 2 ^ (n - k) ≤ 65536 := Nat.pow_le_pow_right (n := 2) (by omega) (show n - k ≤ 16 by omega)
    by_cases hlt : 0 < k
    · have HP : Hid (2 ^ (n - (k - 1)) = 2 * 2 ^ (n - k)) := Lib.hid (by rw [show n - (k - 1) = n - k + 1 from by omega, Nat.pow_succ, Nat.mul_comm])
      generalize 2 ^ (n - k) = x at *
      go_wp2
      go_round
      case rel => exact ⟨k - 1, by omega, by congr 1; omega, by rw [HP.out]; congr 1⟩
      case measure => simp [intOf]; omega
    · have hk0 : k = 0 := by omega
      subst hk0
      go_wp2
      go_ret
      exact ⟨rfl, rfl⟩
end Go.Proofs.Ytfdlmpjccoaejaa
