/- Chapter 3 (masks): BitCount in the program and in the model. -/
import Derived.Test.YtigigmffigjpeaaMask
import Derived.Test.YtigigmffigjpeaaBitsPop
namespace Go.Proofs.Ytigigmffigjpeaa
open Go.RowKit
set_option linter.unusedVariables false
theorem rep85 : repB 85 8 = 6148914691236517205 := by decide
theorem rep51 : repB 51 8 = 3689348814741910323 := by decide
theorem rep15 : repB 15 8 = 1085102592571150095 := by decide
set_option maxHeartbeats 1000000 in
theorem onesCount (x : Nat) (w : World) (hx : x < 18446744073709551616) :
    Calls Try.prog 48 #[.int .u64 x] w fun e w' => e = .returned (.int .i64 ((popN 64 x : Nat) : Int)) ∧ w = w' := by
  obtain ⟨p0, p1, p2, p3, p4, p5, p6, p7, hp, hP, hN⟩ := popP_sum x
  rw [← popFGH 8 x] at hP
  have HE := pop_end hp hP
  rw [← hN] at HE
  clear hp hP hN
  obtain ⟨he, HE0⟩ := HE
  unfold popH popG popF at he HE0
  rw [rep85, rep51, rep15] at he HE0
  have hA : bits .and .u64 ((x : Int) / 2) 6148914691236517205 = ((x / 2 &&& 6148914691236517205 : Nat) : Int) := by
    rw [show (x : Int) / 2 = ((x / 2 : Nat) : Int) from by simp]; exact u64_and_nat _ 6148914691236517205 (by omega) (by omega)
  have hB : bits .and .u64 (x : Int) 6148914691236517205 = ((x &&& 6148914691236517205 : Nat) : Int) := u64_and_nat _ 6148914691236517205 (by omega) (by omega)
  have bA : x / 2 &&& 6148914691236517205 ≤ 6148914691236517205 := Nat.and_le_right
  have bB : x &&& 6148914691236517205 ≤ 6148914691236517205 := Nat.and_le_right
  generalize x / 2 &&& 6148914691236517205 = A at *
  generalize x &&& 6148914691236517205 = B at *
  have hC : bits .and .u64 (((A : Int) + (B : Int)) / 4) 3689348814741910323 = (((A + B) / 4 &&& 3689348814741910323 : Nat) : Int) := by
    rw [show ((A : Int) + (B : Int)) / 4 = (((A + B) / 4 : Nat) : Int) from by simp]; exact u64_and_nat _ 3689348814741910323 (by omega) (by omega)
  have hD : bits .and .u64 ((A : Int) + (B : Int)) 3689348814741910323 = ((A + B &&& 3689348814741910323 : Nat) : Int) := by
    rw [show (A : Int) + (B : Int) = ((A + B : Nat) : Int) from by simp]; exact u64_and_nat _ 3689348814741910323 (by omega) (by omega)
  have bC : (A + B) / 4 &&& 3689348814741910323 ≤ 3689348814741910323 := Nat.and_le_right
  have bD : A + B &&& 3689348814741910323 ≤ 3689348814741910323 := Nat.and_le_right
  generalize (A + B) / 4 &&& 3689348814741910323 = C at *
  generalize A + B &&& 3689348814741910323 = D at *
  have hE : bits .and .u64 (((C : Int) + (D : Int)) / 16 + ((C : Int) + (D : Int))) 1085102592571150095 = (((C + D) / 16 + (C + D) &&& 1085102592571150095 : Nat) : Int) := by
    rw [show ((C : Int) + (D : Int)) / 16 + ((C : Int) + (D : Int)) = (((C + D) / 16 + (C + D) : Nat) : Int) from by simp]; exact u64_and_nat _ 1085102592571150095 (by omega) (by omega)
  generalize (C + D) / 16 + (C + D) &&& 1085102592571150095 = E at *
  have HE := Lib.hid HE0
  clear HE0
  have hF : bits .and .i64 ((E : Int) + (E : Int) / 256 + ((E : Int) + (E : Int) / 256) / 65536 + ((E : Int) + (E : Int) / 256 + ((E : Int) + (E : Int) / 256) / 65536) / 4294967296) 127 = ((popN 64 x : Nat) : Int) := by
    rw [← HE.out, ← i64_and127 _ (by omega)]; simp
  go_enter Try.func48, Try.ntmps48
  go_wp2
  go_ret
  exact ⟨rfl, rfl⟩
set_option maxHeartbeats 400000 in
theorem implBitCount (x : Nat) (w : World) (hx : x < 18446744073709551616) :
    Calls Try.prog 31 #[.int .u64 x] w fun e w' => e = .returned (.int .i64 ((popN 64 x : Nat) : Int)) ∧ w = w' := by
  go_enter Try.func31, Try.ntmps31
  go_wp2_with fail
  refine (onesCount x _ hx).mono ?_
  rintro e w' ⟨rfl, rfl⟩
  go_wp2
  go_ret
  exact ⟨rfl, rfl⟩
theorem pop_step (n x : Nat) : popN (n + 1) x = (x.testBit 0).toNat + popN n (x / 2) := by
  rw [popN, Nat.testBit_zero]
  rcases Nat.mod_two_eq_zero_or_one x with h | h <;> simp [h]
theorem pop_at (x k : Nat) (h : k < 64) : popN (64 - k) (x / 2 ^ k) = (x.testBit k).toNat + popN (64 - (k + 1)) (x / 2 ^ (k + 1)) := by
  rw [show 64 - k = (64 - (k + 1)) + 1 from by omega, pop_step, Nat.testBit_div_two_pow, Nat.zero_add, Nat.div_div_eq_div_mul, Nat.pow_succ]
set_option maxHeartbeats 400000 in
theorem specBitCount (x : Nat) (w : World) (hx : x < 18446744073709551616) :
    Calls Try.prog 30 #[.int .u64 x] w fun e w' => e = .returned (.int .i64 ((popN 64 x : Nat) : Int)) ∧ w = w' := by
  go_enter Try.func30, Try.ntmps30
  go_wp2
  go_loop [3, 4] (fun n i => ∃ k s : Nat, k ≤ 64 ∧ s ≤ k ∧ i = .int .i64 k ∧ n = .int .i64 s ∧ Hid (s + popN (64 - k) (x / 2 ^ k) = popN 64 x)) (fun _ i => 64 - (intOf i).toNat)
  case atStart => exact ⟨0, 0, by omega, by omega, rfl, rfl, Lib.hid (by simp)⟩
  case round =>
    obtain ⟨k, s, hk, hs, rfl, rfl, H⟩ := hrel
    by_cases hlt : k < 64
    · have H2 := Lib.hid (pop_at x k hlt)
      have Bk : Hid (∀ w, Calls Try.prog 47 #[.int .u64 x, .int .i64 k] w fun e w' => e = .returned (.bool (x.testBit k)) ∧ w = w') := Lib.hid fun w => specBit x k w hx (by omega)
      cases hb : x.testBit k
      · rw [hb] at Bk H2
        have H3 : Hid (s + popN (64 - (k + 1)) (x / 2 ^ (k + 1)) = popN 64 x) := Lib.hid (by have h1 := H.out; have h2 := H2.out; rw [show (false).toNat = 0 from rfl] at h2; omega)
        clear hb H2 H
        go_wp2_with fail
        refine (Bk.out _).mono ?_
        rintro e w' ⟨rfl, rfl⟩
        go_wp2
        go_round
        case rel => exact ⟨k + 1, s, by omega, by omega, by go_num, rfl, H3⟩
        case measure => simp [intOf]; omega
      · rw [hb] at Bk H2
        have H3 : Hid (s + 1 + popN (64 - (k + 1)) (x / 2 ^ (k + 1)) = popN 64 x) := Lib.hid (by have h1 := H.out; have h2 := H2.out; rw [show (true).toNat = 1 from rfl] at h2; omega)
        clear hb H2 H
        go_wp2_with fail
        refine (Bk.out _).mono ?_
        rintro e w' ⟨rfl, rfl⟩
        go_wp2
        go_round
        case rel => exact ⟨k + 1, s + 1, by omega, by omega, by go_num, by go_num, H3⟩
        case measure => simp [intOf]; omega
    · have hk' : k = 64 := by omega
      subst hk'
      have H3 : Hid (s = popN 64 x) := Lib.hid (by have h1 := H.out; rw [Nat.sub_self] at h1; exact h1)
      clear H
      go_wp2
      go_ret
      exact ⟨ret_int (by rw [← H3.out]), rfl⟩
end Go.Proofs.Ytigigmffigjpeaa
