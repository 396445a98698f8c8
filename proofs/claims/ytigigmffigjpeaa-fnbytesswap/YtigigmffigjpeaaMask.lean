/- Chapter 3 (masks): what the program's and the model's functions over numbers answer. -/
import Derived.Test.YtigigmffigjpeaaBase
import Derived.Test.YtigigmffigjpeaaPlain1
import Derived.Test.YtigigmffigjpeaaBitsP
import Derived.Laws.Externs
namespace Go.Proofs.Ytigigmffigjpeaa
open Go.RowKit
set_option linter.unusedVariables false

theorem nat_u64 {z : Int} (h : (Lit.int .u64 z).wf = true) : ∃ n : Nat, z = n ∧ n < 18446744073709551616 := by
  have h2 : 0 ≤ z ∧ z ≤ 18446744073709551615 := by simpa using bounds_u64 h
  exact ⟨z.toNat, by omega, by omega⟩
theorem int_i64 {z : Int} (h : (Lit.int .i64 z).wf = true) : -9223372036854775808 ≤ z ∧ z ≤ 9223372036854775807 := by
  simpa using bounds_i64 h
set_option maxHeartbeats 400000 in
theorem chooseU (m a b : Nat) (w : World) (hm : m < 18446744073709551616) (ha : a < 18446744073709551616) (hb : b < 18446744073709551616) :
    Calls Try.prog 44 #[.int .u64 m, .int .u64 a, .int .u64 b] w fun e w' => e = .returned (.int .u64 ((selN m a b : Nat) : Int)) ∧ w = w' := by
  have H : Hid (bits .xor .u64 (b : Int) (bits .and .u64 (m : Int) (bits .xor .u64 (a : Int) (b : Int))) = ((selN m a b : Nat) : Int)) := Lib.hid (by
    have hx : a ^^^ b < 2 ^ 64 := Nat.xor_lt_two_pow ha hb
    rw [u64_xor_nat a b ha hb, u64_and_nat m _ hm hx, u64_xor_nat b _ hb (Nat.and_lt_two_pow _ hx)]; rfl)
  go_enter Try.func44, Try.ntmps44
  go_wp2
  go_ret
  exact ⟨ret_int H.out, rfl⟩
set_option maxHeartbeats 400000 in
theorem implSelect (m a b : Nat) (w : World) (hm : m < 18446744073709551616) (ha : a < 18446744073709551616) (hb : b < 18446744073709551616) :
    Calls Try.prog 20 #[.int .u64 m, .int .u64 a, .int .u64 b] w fun e w' => e = .returned (.int .u64 ((selN m a b : Nat) : Int)) ∧ w = w' := by
  go_enter Try.func20, Try.ntmps20
  go_wp2_with fail
  refine (chooseU m a b _ hm ha hb).mono ?_
  rintro e w' ⟨rfl, rfl⟩
  go_wp2
  go_ret
  exact ⟨rfl, rfl⟩
set_option maxHeartbeats 400000 in
theorem implSwapIf (m a b : Nat) (w : World) (hm : m < 18446744073709551616) (ha : a < 18446744073709551616) (hb : b < 18446744073709551616) :
    Calls Try.prog 17 #[.int .u64 m, .int .u64 a, .int .u64 b] w fun e w' => e = .returned (.tuple #[.int .u64 ((selN m b a : Nat) : Int), .int .u64 ((selN m a b : Nat) : Int)]) ∧ w = w' := by
  go_enter Try.func17, Try.ntmps17
  go_wp2_with fail
  refine (implSelect m b a _ hm hb ha).mono ?_
  rintro e w' ⟨rfl, rfl⟩
  go_wp2_with fail
  refine (implSelect m a b _ hm ha hb).mono ?_
  rintro e w' ⟨rfl, rfl⟩
  go_wp2
  go_ret2
  exact ⟨rfl, rfl⟩
set_option maxHeartbeats 400000 in
theorem implMaskEq (a b : Nat) (w : World) (ha : a < 18446744073709551616) (hb : b < 18446744073709551616) :
    Calls Try.prog 18 #[.int .u64 a, .int .u64 b] w fun e w' => e = .returned (.int .u64 ((maskN (decide (a = b)) : Nat) : Int)) ∧ w = w' := by
  have hx : a ^^^ b < 2 ^ 64 := Nat.xor_lt_two_pow ha hb
  have HX : Hid (bits .xor .u64 (a : Int) (b : Int) = ((a ^^^ b : Nat) : Int)) := Lib.hid (u64_xor_nat a b ha hb)
  by_cases h : a = b
  · have H1 : Hid (bits .or .u64 (0 : Int) (0 : Int) = 0) := Lib.hid (by simpa using u64_or_nat 0 0 (by omega) (by omega))
    have HM : Hid (maskN (decide (a = b)) = 18446744073709551615) := Lib.hid (by simp [h, maskN])
    have H0 : Hid (bits .xor .u64 (a : Int) (b : Int) = 0) := Lib.hid (by rw [HX.out, xor_zero.2 h]; rfl)
    clear HX hx h
    go_enter Try.func18, Try.ntmps18
    go_wp2
    go_ret
    refine ⟨ret_int ?_, rfl⟩
    rw [HM.out, H0.out, IntKind.wrap_u64, IntKind.wrap_u64, show (-(0 : Int)) % 18446744073709551616 = 0 from by decide, H1.out]
    rfl
  · have hd : 0 < a ^^^ b := Nat.pos_of_ne_zero (fun e => h (xor_zero.1 e))
    have HM : Hid (maskN (decide (a = b)) = 0) := Lib.hid (by simp [h, maskN])
    generalize a ^^^ b = d at *
    have H1 : Hid (bits .or .u64 (d : Int) ((18446744073709551616 - d : Nat) : Int) = ((d ||| (18446744073709551616 - d) : Nat) : Int)) := Lib.hid (u64_or_nat d _ (by omega) (by omega))
    have H2 := Lib.hid (top_one hd (by omega))
    have H3 : Hid ((-(d : Int)) % 18446744073709551616 = ((18446744073709551616 - d : Nat) : Int)) := Lib.hid (by omega)
    clear h
    go_enter Try.func18, Try.ntmps18
    go_wp2
    go_ret
    refine ⟨ret_int ?_, rfl⟩
    rw [HM.out, HX.out, IntKind.wrap_u64, IntKind.wrap_u64, H3.out, H1.out]
    have := H2.out
    omega
/-- The borrow of x - y: the model stands in for this function itself (a compiler's intrinsic). -/
theorem sub64 (x y : Nat) (w : World) :
    (callFunc 43 #[.int .u64 x, .int .u64 y, .int .u64 0]).run Try.prog w =
      .ok (.value (.tuple #[.int .u64 (((x + 18446744073709551616 - y) % 18446744073709551616 : Nat) : Int), .int .u64 ((if x < y then 1 else 0 : Nat) : Int)])) w := by
  rw [run_callFunc_extern Try.func43 (by kernel_rfl) (by kernel_rfl) (by kernel_rfl)
    (e := (Extern.MathBitsCarry.rows[1]'(by decide)).2) (by kernel_rfl)]
  rfl
set_option maxHeartbeats 400000 in
theorem implMaskLess (a b : Nat) (w : World) :
    Calls Try.prog 16 #[.int .u64 a, .int .u64 b] w fun e w' => e = .returned (.int .u64 ((maskN (decide (a < b)) : Nat) : Int)) ∧ w = w' := by
  by_cases h : a < b
  · have HM : Hid (maskN (decide (a < b)) = 18446744073709551615) := Lib.hid (by simp [h, maskN])
    have H := fun w => sub64 a b w
    simp only [h, ↓reduceIte] at H
    clear h
    go_enter Try.func16, Try.ntmps16
    go_wp2_with (simp only [H])
    go_ret
    exact ⟨by rw [HM.out]; rfl, rfl⟩
  · have HM : Hid (maskN (decide (a < b)) = 0) := Lib.hid (by simp [h, maskN])
    have H := fun w => sub64 a b w
    simp only [h, ↓reduceIte] at H
    clear h
    go_enter Try.func16, Try.ntmps16
    go_wp2_with (simp only [H])
    go_ret
    exact ⟨by rw [HM.out]; rfl, rfl⟩
set_option maxHeartbeats 400000 in
theorem implMaskLow (n : Int) (w : World) (hn : -9223372036854775808 ≤ n ∧ n ≤ 9223372036854775807) :
    Calls Try.prog 19 #[.int .i64 n] w fun e w' => e = .returned (.int .u64 ((lowN n : Nat) : Int)) ∧ w = w' := by
  obtain ⟨hn1, hn2⟩ := hn
  by_cases h : 0 ≤ n
  · go_enter Try.func19, Try.ntmps19
    go_wp2
    go_ret
    refine ⟨ret_int ?_, rfl⟩
    rw [IntKind.wrap_u64, IntKind.wrap_u64]
    unfold lowN
    have h64 : min n.toNat 64 ≤ 64 := by omega
    generalize min n.toNat 64 = k at *
    have h1 : (2 : Int) ^ k = ((2 ^ k : Nat) : Int) := by simp
    have h2 := pow64 h64
    have h3 : 0 < 2 ^ k := Nat.pow_pos (by omega)
    rw [h1]
    omega
  · go_enter Try.func19, Try.ntmps19
    go_wp2
    go_ret
    refine ⟨ret_int ?_, rfl⟩
    unfold lowN
    rw [show n.toNat = 0 from by omega]
    rfl
set_option maxHeartbeats 400000 in
theorem specMaskEq (a b : Nat) (w : World) :
    Calls Try.prog 25 #[.int .u64 a, .int .u64 b] w fun e w' => e = .returned (.int .u64 ((maskN (decide (a = b)) : Nat) : Int)) ∧ w = w' := by
  by_cases h : a = b
  · have HM : Hid (maskN (decide (a = b)) = 18446744073709551615) := Lib.hid (by simp [h, maskN])
    have hB : ((a : Int) == (b : Int)) = true := by simp; omega
    clear h
    go_enter Try.func25, Try.ntmps25
    go_wp2
    go_ret
    exact ⟨by rw [HM.out]; rfl, rfl⟩
  · have HM : Hid (maskN (decide (a = b)) = 0) := Lib.hid (by simp [h, maskN])
    have hB : ((a : Int) == (b : Int)) = false := by simp; omega
    go_enter Try.func25, Try.ntmps25
    go_wp2
    go_ret
    exact ⟨by rw [HM.out]; rfl, rfl⟩
set_option maxHeartbeats 400000 in
theorem specMaskLess (a b : Nat) (w : World) :
    Calls Try.prog 26 #[.int .u64 a, .int .u64 b] w fun e w' => e = .returned (.int .u64 ((maskN (decide (a < b)) : Nat) : Int)) ∧ w = w' := by
  by_cases h : a < b
  · have HM : Hid (maskN (decide (a < b)) = 18446744073709551615) := Lib.hid (by simp [h, maskN])
    go_enter Try.func26, Try.ntmps26
    go_wp2
    go_ret
    exact ⟨by rw [HM.out]; rfl, rfl⟩
  · have HM : Hid (maskN (decide (a < b)) = 0) := Lib.hid (by simp [h, maskN])
    go_enter Try.func26, Try.ntmps26
    go_wp2
    go_ret
    exact ⟨by rw [HM.out]; rfl, rfl⟩
set_option maxHeartbeats 400000 in
theorem specMaskLow (n : Int) (w : World) (hn : -9223372036854775808 ≤ n ∧ n ≤ 9223372036854775807) :
    Calls Try.prog 27 #[.int .i64 n] w fun e w' => e = .returned (.int .u64 ((lowN n : Nat) : Int)) ∧ w = w' := by
  obtain ⟨hn1, hn2⟩ := hn
  go_enter Try.func27, Try.ntmps27
  go_wp2
  go_loop [3, 4] (fun x i => ∃ k : Nat, k ≤ min n.toNat 64 ∧ i = .int .i64 k ∧ x = .int .u64 ((2 ^ k - 1 : Nat) : Int)) (fun _ i => 64 - (intOf i).toNat)
  case atStart => exact ⟨0, Nat.zero_le _, rfl, rfl⟩
  case round =>
    obtain ⟨k, hk, rfl, rfl⟩ := hrel
    by_cases hlt : k < min n.toNat 64
    · have HP : Hid (2 ^ (k + 1) - 1 = 2 * (2 ^ k - 1) + 1) := Lib.hid (by have := Nat.pow_pos (a := 2) (n := k) (by omega); rw [Nat.pow_succ]; omega)
      have hp : 2 ^ k - 1 < 9223372036854775808 := by have := Nat.pow_le_pow_right (n := 2) (by omega) (show k ≤ 63 by omega); omega
      have hlt2 : (k : Int) < min n 64 := by omega
      generalize 2 ^ k - 1 = x at *
      go_wp2
      all_goals
        go_round
        case rel => exact ⟨k + 1, by omega, by go_num, by rw [HP.out]; go_num⟩
        case measure => simp [intOf]; omega
    · have hlt2 : ¬ (k : Int) < min n 64 := by omega
      have HL : Hid (lowN n = 2 ^ k - 1) := Lib.hid (by unfold lowN; congr 2; omega)
      generalize 2 ^ k - 1 = x at *
      go_wp2
      all_goals
        go_ret
        exact ⟨ret_int (by rw [HL.out]), rfl⟩
set_option maxHeartbeats 400000 in
theorem specBit (x i : Nat) (w : World) (hx : x < 18446744073709551616) (hi : i ≤ 64) :
    Calls Try.prog 47 #[.int .u64 x, .int .i64 i] w fun e w' => e = .returned (.bool (x.testBit i)) ∧ w = w' := by
  have hd : x / 2 ^ i < 18446744073709551616 := Nat.lt_of_le_of_lt (Nat.div_le_self _ _) hx
  have H1 : Hid (bits .and .u64 ((x / 2 ^ i : Nat) : Int) (1 : Int) = ((x / 2 ^ i % 2 : Nat) : Int)) := Lib.hid (by rw [← bit_and1]; exact u64_and_nat _ 1 hd (by omega))
  have H2 := Lib.hid (bit_is x i)
  go_enter Try.func47, Try.ntmps47
  go_wp2
  go_ret
  refine ⟨ret_bool ?_, rfl⟩
  have e : (x : Int) / 2 ^ i = ((x / 2 ^ i : Nat) : Int) := by simp
  rw [e, H1.out, ← H2.out]
  generalize x / 2 ^ i % 2 = y
  rw [Bool.eq_iff_iff]
  simp
  omega
set_option maxHeartbeats 1000000 in
theorem specSelect (m a b : Nat) (w : World) (hm : m < 18446744073709551616) (ha : a < 18446744073709551616) (hb : b < 18446744073709551616) :
    Calls Try.prog 28 #[.int .u64 m, .int .u64 a, .int .u64 b] w fun e w' => e = .returned (.int .u64 ((selN m a b : Nat) : Int)) ∧ w = w' := by
  have HS := Lib.hid (selN_lt (m := m) ha hb)
  go_enter Try.func28, Try.ntmps28
  go_wp2
  go_loop [7, 8] (fun x i => ∃ k : Nat, k ≤ 64 ∧ i = .int .i64 ((k : Int) - 1) ∧ x = .int .u64 ((selN m a b / 2 ^ k : Nat) : Int)) (fun _ i => (intOf i + 1).toNat)
  case atStart => exact ⟨64, Nat.le_refl _, rfl, by rw [Nat.div_eq_of_lt (show selN m a b < 2 ^ 64 from HS.out)]; rfl⟩
  case round =>
    obtain ⟨k, hk, rfl, rfl⟩ := hrel
    by_cases hlt : 0 < k
    · obtain ⟨j, rfl⟩ : ∃ j, k = j + 1 := ⟨k - 1, by omega⟩
      have HH := Lib.hid (half_bit (selN m a b) j)
      have hx : selN m a b / 2 ^ (j + 1) < 9223372036854775808 := by
        have := HS.out
        rw [Nat.pow_succ, Nat.mul_comm, ← Nat.div_div_eq_div_mul]
        exact Nat.lt_of_le_of_lt (Nat.div_le_self _ _) (by omega)
      have hn : Hid (selN m a b / 2 ^ j < 18446744073709551616) := Lib.hid (Nat.lt_of_le_of_lt (Nat.div_le_self _ _) HS.out)
      have HB := Lib.hid (selN_bit m a b j)
      generalize selN m a b / 2 ^ (j + 1) = x at *
      have hj : ((j + 1 : Nat) : Int) - 1 = (j : Int) := by omega
      rw [hj]
      have BM : Hid (∀ w, Calls Try.prog 47 #[.int .u64 m, .int .i64 j] w fun e w' => e = .returned (.bool (m.testBit j)) ∧ w = w') := Lib.hid fun w => specBit m j w hm (by omega)
      have BA : Hid (∀ w, Calls Try.prog 47 #[.int .u64 a, .int .i64 j] w fun e w' => e = .returned (.bool (a.testBit j)) ∧ w = w') := Lib.hid fun w => specBit a j w ha (by omega)
      have BB : Hid (∀ w, Calls Try.prog 47 #[.int .u64 b, .int .i64 j] w fun e w' => e = .returned (.bool (b.testBit j)) ∧ w = w') := Lib.hid fun w => specBit b j w hb (by omega)
      cases hM : m.testBit j
      · cases hBj : b.testBit j
        · rw [hM] at BM; rw [hBj] at BB
          rw [hM, hBj] at HB
          have HV : Hid (selN m a b / 2 ^ j = 2 * x) := Lib.hid (by rw [HH.out, HB.out]; simp)
          clear hM hBj HB HH
          go_wp2_with fail
          refine (BM.out _).mono ?_
          rintro e w' ⟨rfl, rfl⟩
          go_wp2_with fail
          refine (BM.out _).mono ?_
          rintro e w' ⟨rfl, rfl⟩
          go_wp2_with fail
          refine (BB.out _).mono ?_
          rintro e w' ⟨rfl, rfl⟩
          go_wp2
          go_round
          case rel => exact ⟨j, by omega, by go_num, by rw [HV.out]; go_num⟩
          case measure => simp [intOf]
        · rw [hM] at BM; rw [hBj] at BB
          rw [hM, hBj] at HB
          have HV : Hid (selN m a b / 2 ^ j = 2 * x + 1) := Lib.hid (by rw [HH.out, HB.out]; simp)
          clear hM hBj HB HH
          go_wp2_with fail
          refine (BM.out _).mono ?_
          rintro e w' ⟨rfl, rfl⟩
          go_wp2_with fail
          refine (BM.out _).mono ?_
          rintro e w' ⟨rfl, rfl⟩
          go_wp2_with fail
          refine (BB.out _).mono ?_
          rintro e w' ⟨rfl, rfl⟩
          go_wp2
          go_round
          case rel => exact ⟨j, by omega, by go_num, by rw [HV.out]; go_num⟩
          case measure => simp [intOf]
      · cases hAj : a.testBit j
        · rw [hM] at BM; rw [hAj] at BA
          rw [hM, hAj] at HB
          have HV : Hid (selN m a b / 2 ^ j = 2 * x) := Lib.hid (by rw [HH.out, HB.out]; simp)
          clear hM hAj HB HH
          go_wp2_with fail
          refine (BM.out _).mono ?_
          rintro e w' ⟨rfl, rfl⟩
          go_wp2_with fail
          refine (BA.out _).mono ?_
          rintro e w' ⟨rfl, rfl⟩
          go_wp2_with fail
          refine (BM.out _).mono ?_
          rintro e w' ⟨rfl, rfl⟩
          go_wp2
          go_round
          case rel => exact ⟨j, by omega, by go_num, by rw [HV.out]; go_num⟩
          case measure => simp [intOf]
        · rw [hM] at BM; rw [hAj] at BA
          rw [hM, hAj] at HB
          have HV : Hid (selN m a b / 2 ^ j = 2 * x + 1) := Lib.hid (by rw [HH.out, HB.out]; simp)
          clear hM hAj HB HH
          go_wp2_with fail
          refine (BM.out _).mono ?_
          rintro e w' ⟨rfl, rfl⟩
          go_wp2_with fail
          refine (BA.out _).mono ?_
          rintro e w' ⟨rfl, rfl⟩
          go_wp2
          go_round
          case rel => exact ⟨j, by omega, by go_num, by rw [HV.out]; go_num⟩
          case measure => simp [intOf]
    · have hk0 : k = 0 := by omega
      subst hk0
      have HV : Hid (selN m a b / 2 ^ 0 = selN m a b) := Lib.hid (by simp)
      rw [HV.out]
      go_wp2
      go_ret
      exact ⟨rfl, rfl⟩
set_option maxHeartbeats 400000 in
theorem specSwapIf (m a b : Nat) (w : World) (hm : m < 18446744073709551616) (ha : a < 18446744073709551616) (hb : b < 18446744073709551616) :
    Calls Try.prog 29 #[.int .u64 m, .int .u64 a, .int .u64 b] w fun e w' => e = .returned (.tuple #[.int .u64 ((selN m b a : Nat) : Int), .int .u64 ((selN m a b : Nat) : Int)]) ∧ w = w' := by
  go_enter Try.func29, Try.ntmps29
  go_wp2_with fail
  refine (specSelect m b a _ hm hb ha).mono ?_
  rintro e w' ⟨rfl, rfl⟩
  go_wp2_with fail
  refine (specSelect m a b _ hm ha hb).mono ?_
  rintro e w' ⟨rfl, rfl⟩
  go_wp2
  go_ret2
  exact ⟨rfl, rfl⟩
end Go.Proofs.Ytigigmffigjpeaa
