/- Chapter 3 (masks): what the program's and the model's functions over numbers answer. -/
import Derived.Test.YtfdlmpjccoaejaaBase
import Derived.Test.YtfdlmpjccoaejaaPlain1
import Derived.Test.YtfdlmpjccoaejaaBitsP
import Derived.Laws.Externs
namespace Go.Proofs.Ytfdlmpjccoaejaa
open Go.RowKit
set_option linter.unusedVariables false

theorem nat_u64 {z : Int} (h : (Lit.int .u64 z).wf = true) : ∃ n : Nat, z = n ∧ n < 18446744073709551616 := by
  have h2 : 0 ≤ z ∧ z ≤ 18446744073709551615 := by simpa using bounds_u64 h
  exact ⟨z.toNat, by omega, by omega⟩
theorem int_i64 {z : Int} (h : (Lit.int .i64 z).wf = true) : -9223372036854775808 ≤ z ∧ z ≤ 9223372036854775807 := by
  simpa using bounds_i64 h
set_option maxHeartbeats 400000 in
theorem chooseU (m a b : Nat) (w : World) (hm : m < 18446744073709551616) (ha : a < 18446744073709551616) (hb : b < 18446744073709551616) :
    Calls Try.prog 98 #[.int .u64 m, .int .u64 a, .int .u64 b] w fun e w' => e = .returned (.int .u64 ((selN m a b : Nat) : Int)) ∧ w = w' := by
  have H : Hid (bits .xor .u64 (b : Int) (bits .and .u64 (m : Int) (bits .xor .u64 (a : Int) (b : Int))) = ((selN m a b : Nat) : Int)) := Lib.hid (by
    have hx : a ^^^ b < 2 ^ 64 := Nat.xor_lt_two_pow ha hb
    rw [u64_xor_nat a b ha hb, u64_and_nat m _ hm hx, u64_xor_nat b _ hb (Nat.and_lt_two_pow _ hx)]; rfl)
  go_enter Try.func98, Try.ntmps98
  go_wp2
  go_ret
  exact ⟨ret_int H.out, rfl⟩
set_option maxHeartbeats 400000 in
theorem implSelect (m a b : Nat) (w : World) (hm : m < 18446744073709551616) (ha : a < 18446744073709551616) (hb : b < 18446744073709551616) :
    Calls Try.prog 81 #[.int .u64 m, .int .u64 a, .int .u64 b] w fun e w' => e = .returned (.int .u64 ((selN m a b : Nat) : Int)) ∧ w = w' := by
  go_enter Try.func81, Try.ntmps81
  go_wp2_with fail
  refine (chooseU m a b _ hm ha hb).mono ?_
  rintro e w' ⟨rfl, rfl⟩
  go_wp2
  go_ret
  exact ⟨rfl, rfl⟩
set_option maxHeartbeats 400000 in
theorem specBit (x i : Nat) (w : World) (hx : x < 18446744073709551616) (hi : i ≤ 64) :
    Calls Try.prog 99 #[.int .u64 x, .int .i64 i] w fun e w' => e = .returned (.bool (x.testBit i)) ∧ w = w' := by
  have hd : x / 2 ^ i < 18446744073709551616 := Nat.lt_of_le_of_lt (Nat.div_le_self _ _) hx
  have H1 : Hid (bits .and .u64 ((x / 2 ^ i : Nat) : Int) (1 : Int) = ((x / 2 ^ i % 2 : Nat) : Int)) := Lib.hid (by rw [← bit_and1]; exact u64_and_nat _ 1 hd (by omega))
  have H2 := Lib.hid (bit_is x i)
  go_enter Try.func99, Try.ntmps99
  go_wp2
  go_ret
  refine ⟨ret_bool ?_, rfl⟩
  have e : (x : Int) / 2 ^ i = ((x / 2 ^ i : Nat) : Int) := by simp
  rw [e, H1.out, ← H2.out]
  generalize x / 2 ^ i % 2 = y
  rw [Bool.eq_iff_iff]
  simp
  omega
end Go.Proofs.Ytfdlmpjccoaejaa
