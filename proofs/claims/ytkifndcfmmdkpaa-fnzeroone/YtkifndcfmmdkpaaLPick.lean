/- The laws' own draw of a number out of a code. -/
import Derived.Test.YtkifndcfmmdkpaaBigIs
namespace Go.Proofs.Ytkifndcfmmdkpaa
open Go.RowKit
set_option linter.unusedVariables false
set_option maxHeartbeats 800000 in
/-- A number from 0 to n - 1. -/
theorem lawsPick (a : Option Addr) (cap : Nat) (l : List UInt8) (at_ n : Nat) (w : World) (hl : l.length ≤ maxLen) (ha : at_ ≤ 1000000) (hn : n ≤ 1000000) (h1 : 1 ≤ n) (r : Row w a (l.map bval)) :
    Calls Try.prog 21 #[.slice a l.length cap, .int .i64 at_, .int .i64 n] w fun e w' => (∃ z : Nat, e = .returned (.int .i64 z) ∧ z < n) ∧ w = w' := by
  unfold maxLen at hl
  have R := Lib.hid r
  clear r
  by_cases h0 : l.length = 0
  · have hB : ((l.length : Int) == 0) = true := beq_iff_eq.2 (by omega)
    go_enter Try.func21, Try.ntmps21
    go_wp2
    go_ret
    exact ⟨⟨0, rfl, by omega⟩, rfl⟩
  have hB : ((l.length : Int) == 0) = false := beq_eq_false_iff_ne.2 (by omega)
  have hp : 0 < l.length := by omega
  clear h0
  by_cases h2 : n < 2
  · go_enter Try.func21, Try.ntmps21
    go_wp2
    go_ret
    exact ⟨⟨0, rfl, by omega⟩, rfl⟩
  go_enter Try.func21, Try.ntmps21
  go_wp2
  go_loop [7, 8] (fun x k => ∃ i s : Nat, i ≤ 3 ∧ Hid (s ≤ 255 * 32 ^ i) ∧ k = .int .i64 i ∧ x = .int .i64 s) (fun _ k => 3 - (intOf k).toNat)
  case atStart => exact ⟨0, 0, by omega, Lib.hid (by omega), rfl, rfl⟩
  case round =>
    obtain ⟨i, s, hi, HS, rfl, rfl⟩ := hrel
    have hs : s ≤ 8355840 := Nat.le_trans HS.out (Nat.mul_le_mul_left 255 (Nat.pow_le_pow_right (n := 32) (by omega) hi))
    by_cases hlt : i < 3
    · have hm : (at_ + i) % l.length < l.length := Nat.mod_lt _ hp
      obtain ⟨b1, o1, rfl, q1⟩ := R.out.at (i := (at_ + i) % l.length) (by simpa using hm)
      rw [bval_at hm] at q1
      have hc := UInt8.toNat_lt l[(at_ + i) % l.length]
      generalize l[(at_ + i) % l.length].toNat = c at *
      have HS2 : Hid (31 * s + c ≤ 255 * 32 ^ (i + 1)) := Lib.hid (by
        have := HS.out
        have h1 : 1 ≤ 32 ^ i := Nat.pow_pos (by omega)
        rw [Nat.pow_succ]; omega)
      clear HS
      have hE : ((at_ : Int) + (i : Int)) % (l.length : Int) = (((at_ + i) % l.length : Nat) : Int) := by simp
      have hmt : ((at_ : Int) + (i : Int)).tmod (l.length : Int) = (((at_ + i) % l.length : Nat) : Int) := by rw [Int.tmod_eq_emod_of_nonneg (by omega), hE]
      have hm1 : 0 ≤ ((at_ : Int) + (i : Int)) % (l.length : Int) := by rw [hE]; omega
      have hm2 : ((at_ : Int) + (i : Int)) % (l.length : Int) < (l.length : Int) := by rw [hE]; omega
      have hmi : (((at_ : Int) + (i : Int)) % (l.length : Int)).toNat = (at_ + i) % l.length := by rw [hE]; omega
      clear hE
      go_wp2
      go_round
      case rel => exact ⟨i + 1, 31 * s + c, by omega, HS2, by go_num, by go_num⟩
      case measure => simp [intOf]; omega
    · clear HS
      go_wp2
      go_ret
      exact ⟨⟨(s + at_) % n, ret_int (by simp), Nat.mod_lt _ (by omega)⟩, rfl⟩
end Go.Proofs.Ytkifndcfmmdkpaa
