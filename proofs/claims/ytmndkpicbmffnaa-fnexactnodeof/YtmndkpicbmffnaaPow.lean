/- Powers of two in the model. -/
import Derived.Test.YtmndkpicbmffnaaBase
import Derived.Test.YtmndkpicbmffnaaPlain1
namespace Go.Proofs.Ytmndkpicbmffnaa
open Go.RowKit
set_option linter.unusedVariables false

set_option maxHeartbeats 400000 in
theorem specPow16 (n : Nat) (w : World) (hn : n ≤ 16) :
    Calls Try.prog 67 #[.int .i64 n] w fun e w' => e = .returned (.int .i64 ((2 ^ n : Nat) : Int)) ∧ w = w' := by
  go_enter Try.func67, Try.ntmps67
  go_wp2
  go_loop [0, 3] (fun i o => ∃ k : Nat, k ≤ n ∧ i = .int .i64 k ∧ o = .int .i64 ((2 ^ (n - k) : Nat) : Int)) (fun i _ => (intOf i).toNat)
  case atStart => exact ⟨n, Nat.le_refl _, rfl, by simp⟩
  case round =>
    obtain ⟨k, hk, rfl, rfl⟩ := hrel
    have hp : 2 ^ (n - k) ≤ 65536 := Nat.pow_le_pow_right (n := 2) (by omega) (show n - k ≤ 16 by omega)
    by_cases hlt : 0 < k
    · have HP : Hid (2 ^ (n - (k - 1)) = 2 * 2 ^ (n - k)) := Lib.hid (by rw [show n - (k - 1) = n - k + 1 from by omega, Nat.pow_succ, Nat.mul_comm])
      generalize 2 ^ (n - k) = x at *
      go_wp2
      go_round
      case rel => exact ⟨k - 1, by omega, by congr 1; omega, by rw [HP.out]; congr 1⟩
      case measure => simp [intOf]; omega
    · have hk0 : k = 0 := by omega
      subst hk0
      go_wp2
      go_ret
      exact ⟨rfl, rfl⟩
end Go.Proofs.Ytmndkpicbmffnaa
