/- Chapter 3 (masks): what the program's and the model's functions over numbers answer. -/
import Derived.Test.YticfnhbjoaecjaaBase
import Derived.Test.YticfnhbjoaecjaaPlain1
import Derived.Test.YticfnhbjoaecjaaBitsP
import Derived.Laws.Externs
namespace Go.Proofs.Yticfnhbjoaecjaa
open Go.RowKit
set_option linter.unusedVariables false

theorem nat_u64 {z : Int} (h : (Lit.int .u64 z).wf = true) : ∃ n : Nat, z = n ∧ n < 18446744073709551616 := by
  have h2 : 0 ≤ z ∧ z ≤ 18446744073709551615 := by simpa using bounds_u64 h
  exact ⟨z.toNat, by omega, by omega⟩
theorem int_i64 {z : Int} (h : (Lit.int .i64 z).wf = true) : -9223372036854775808 ≤ z ∧ z ≤ 9223372036854775807 := by
  simpa using bounds_i64 h
set_option maxHeartbeats 400000 in
theorem implMaskEq (a b : Nat) (w : World) (ha : a < 18446744073709551616) (hb : b < 18446744073709551616) :
    Calls Try.prog 48 #[.int .u64 a, .int .u64 b] w fun e w' => e = .returned (.int .u64 ((maskN (decide (a = b)) : Nat) : Int)) ∧ w = w' := by
  have hx : a ^^^ b < 2 ^ 64 := Nat.xor_lt_two_pow ha hb
  have HX : Hid (bits .xor .u64 (a : Int) (b : Int) = ((a ^^^ b : Nat) : Int)) := Lib.hid (u64_xor_nat a b ha hb)
  by_cases h : a = b
  · have H1 : Hid (bits .or .u64 (0 : Int) (0 : Int) = 0) := Lib.hid (by simpa using u64_or_nat 0 0 (by omega) (by omega))
    have HM : Hid (maskN (decide (a = b)) = 18446744073709551615) := Lib.hid (by simp [h, maskN])
    have H0 : Hid (bits .xor .u64 (a : Int) (b : Int) = 0) := Lib.hid (by rw [HX.out, xor_zero.2 h]; rfl)
    clear HX hx h
    go_enter Try.func48, Try.ntmps48
    go_wp2
    go_ret
    refine ⟨ret_int ?_, rfl⟩
    rw [HM.out, H0.out, IntKind.wrap_u64, IntKind.wrap_u64, show (-(0 : Int)) % 18446744073709551616 = 0 from by decide, H1.out]
    rfl
  · have hd : 0 < a ^^^ b := Nat.pos_of_ne_zero (fun e => h (xor_zero.1 e))
    have HM : Hid (maskN (decide (a = b)) = 0) := Lib.hid (by simp [h, maskN])
    generalize a ^^^ b = d at *
    have H1 : Hid (bits .or .u64 (d : Int) ((18446744073709551616 - d : Nat) : Int) = ((d ||| (18446744073709551616 - d) : Nat) : Int)) := Lib.hid (u64_or_nat d _ (by omega) (by omega))
    have H2 := Lib.hid (top_one hd (by omega))
    have H3 : Hid ((-(d : Int)) % 18446744073709551616 = ((18446744073709551616 - d : Nat) : Int)) := Lib.hid (by omega)
    clear h
    go_enter Try.func48, Try.ntmps48
    go_wp2
    go_ret
    refine ⟨ret_int ?_, rfl⟩
    rw [HM.out, HX.out, IntKind.wrap_u64, IntKind.wrap_u64, H3.out, H1.out]
    have := H2.out
    omega
set_option maxHeartbeats 400000 in
theorem implMaskLow (n : Int) (w : World) (hn : -9223372036854775808 ≤ n ∧ n ≤ 9223372036854775807) :
    Calls Try.prog 45 #[.int .i64 n] w fun e w' => e = .returned (.int .u64 ((lowN n : Nat) : Int)) ∧ w = w' := by
  obtain ⟨hn1, hn2⟩ := hn
  by_cases h : 0 ≤ n
  · go_enter Try.func45, Try.ntmps45
    go_wp2
    go_ret
    refine ⟨ret_int ?_, rfl⟩
    rw [IntKind.wrap_u64, IntKind.wrap_u64]
    unfold lowN
    have h64 : min n.toNat 64 ≤ 64 := by omega
    generalize min n.toNat 64 = k at *
    have h1 : (2 : Int) ^ k = ((2 ^ k : Nat) : Int) := by simp
    have h2 := pow64 h64
    have h3 : 0 < 2 ^ k := Nat.pow_pos (by omega)
    rw [h1]
    omega
  · go_enter Try.func45, Try.ntmps45
    go_wp2
    go_ret
    refine ⟨ret_int ?_, rfl⟩
    unfold lowN
    rw [show n.toNat = 0 from by omega]
    rfl
set_option maxHeartbeats 400000 in
theorem specBit (x i : Nat) (w : World) (hx : x < 18446744073709551616) (hi : i ≤ 64) :
    Calls Try.prog 49 #[.int .u64 x, .int .i64 i] w fun e w' => e = .returned (.bool (x.testBit i)) ∧ w = w' := by
  have hd : x / 2 ^ i < 18446744073709551616 := Nat.lt_of_le_of_lt (Nat.div_le_self _ _) hx
  have H1 : Hid (bits .and .u64 ((x / 2 ^ i : Nat) : Int) (1 : Int) = ((x / 2 ^ i % 2 : Nat) : Int)) := Lib.hid (by rw [← bit_and1]; exact u64_and_nat _ 1 hd (by omega))
  have H2 := Lib.hid (bit_is x i)
  go_enter Try.func49, Try.ntmps49
  go_wp2
  go_ret
  refine ⟨ret_bool ?_, rfl⟩
  have e : (x : Int) / 2 ^ i = ((x / 2 ^ i : Nat) : Int) := by simp
  rw [e, H1.out, ← H2.out]
  generalize x / 2 ^ i % 2 = y
  rw [Bool.eq_iff_iff]
  simp
  omega
end Go.Proofs.Yticfnhbjoaecjaa
