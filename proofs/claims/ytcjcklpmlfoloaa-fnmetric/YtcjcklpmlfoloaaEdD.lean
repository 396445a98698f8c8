/- Capped and Within, in the model of the document and in the program. -/
import Derived.Test.YtcjcklpmlfoloaaEdJ
import Derived.Test.YtcjcklpmlfoloaaEdS
namespace Go.Proofs.Ytcjcklpmlfoloaa
open Go.RowKit
set_option linter.unusedVariables false

def capZ (a b : List UInt8) : Int := if distZ a b < 7 then distZ a b else 7
def withinB (a b : List UInt8) (d : Int) : Bool := decide (0 ≤ distZ a b) && decide (distZ a b ≤ d)
theorem distZ_neg {a b : List UInt8} : distZ a b = -1 ∨ (0 ≤ distZ a b ∧ distZ a b ≤ 32) := by
  unfold distZ
  by_cases h : 32 < a.length ∨ 32 < b.length
  · rw [if_pos h]; exact .inl rfl
  · rw [if_neg h]; have := dist_max a b; omega
set_option maxHeartbeats 800000 in
theorem implCapped (a b : ByteArray) (w : World) (ha : a.size ≤ maxLen) (hb : b.size ≤ maxLen) :
    Calls Try.prog 22 #[.string a, .string b] w fun r w' => r = .returned (.int .i64 (capZ a.data.toList b.data.toList)) ∧ Below w.heap.size w w' := by
  have HC : Hid (capZ a.data.toList b.data.toList = if distZ a.data.toList b.data.toList < 7 then distZ a.data.toList b.data.toList else 7) := Lib.hid rfl
  go_enter Try.func22, Try.ntmps22
  go_wp2_with fail
  refine (implDistance a b _ ha hb).mono ?_
  rintro r w1 ⟨rfl, hb1⟩
  generalize distZ a.data.toList b.data.toList = z at *
  by_cases hz : z < 7
  · go_wp2
    go_ret
    exact ⟨ret_int (by rw [HC.out, if_pos hz]), hb1⟩
  · go_wp2
    go_ret
    exact ⟨ret_int (by rw [HC.out, if_neg (by omega)]), hb1⟩
set_option maxHeartbeats 800000 in
theorem specCapped (a b : ByteArray) (w : World) (ha : a.size ≤ maxLen) (hb : b.size ≤ maxLen) :
    Calls Try.prog 21 #[.string a, .string b] w fun r w' => r = .returned (.int .i64 (capZ a.data.toList b.data.toList)) ∧ Below w.heap.size w w' := by
  have HC : Hid (capZ a.data.toList b.data.toList = if distZ a.data.toList b.data.toList < 7 then distZ a.data.toList b.data.toList else 7) := Lib.hid rfl
  go_enter Try.func21, Try.ntmps21
  go_wp2_with fail
  refine (specDistance a b _ ha hb).mono ?_
  rintro r w1 ⟨rfl, hb1⟩
  generalize distZ a.data.toList b.data.toList = z at *
  by_cases hz : z < 7
  · go_wp2
    go_ret
    exact ⟨ret_int (by rw [HC.out, if_pos hz]), hb1⟩
  · go_wp2
    go_ret
    exact ⟨ret_int (by rw [HC.out, if_neg (by omega)]), hb1⟩
set_option maxHeartbeats 800000 in
theorem implWithin (a b : ByteArray) (d : Int) (w : World) (ha : a.size ≤ maxLen) (hb : b.size ≤ maxLen) :
    Calls Try.prog 24 #[.string a, .string b, .int .i64 d] w fun r w' => r = .returned (.bool (withinB a.data.toList b.data.toList d)) ∧ Below w.heap.size w w' := by
  have HC : Hid (withinB a.data.toList b.data.toList d = (decide (0 ≤ distZ a.data.toList b.data.toList) && decide (distZ a.data.toList b.data.toList ≤ d))) := Lib.hid rfl
  go_enter Try.func24, Try.ntmps24
  go_wp2_with fail
  refine (implDistance a b _ ha hb).mono ?_
  rintro r w1 ⟨rfl, hb1⟩
  generalize distZ a.data.toList b.data.toList = z at *
  by_cases hz : 0 ≤ z
  · go_wp2
    go_ret
    exact ⟨ret_bool (by rw [HC.out]; simp [hz]), hb1⟩
  · go_wp2
    go_ret
    exact ⟨ret_bool (by rw [HC.out]; simp; omega), hb1⟩
set_option maxHeartbeats 800000 in
theorem specWithin (a b : ByteArray) (d : Int) (w : World) (ha : a.size ≤ maxLen) (hb : b.size ≤ maxLen) :
    Calls Try.prog 23 #[.string a, .string b, .int .i64 d] w fun r w' => r = .returned (.bool (withinB a.data.toList b.data.toList d)) ∧ Below w.heap.size w w' := by
  have CE := fun w => Lib.hid (specLong a b w ha hb)
  have CD := fun w => Lib.hid (specDistance a b w ha hb)
  have HC : Hid (withinB a.data.toList b.data.toList d = (decide (0 ≤ distZ a.data.toList b.data.toList) && decide (distZ a.data.toList b.data.toList ≤ d))) := Lib.hid rfl
  have HN := Lib.hid (distZ_neg (a := a.data.toList) (b := b.data.toList))
  cases hk : (decide (a.size ≤ 32) && decide (b.size ≤ 32))
  · have HZ : Hid (distZ a.data.toList b.data.toList = -1) := Lib.hid (by unfold distZ; rw [if_pos (by rw [len_data, len_data]; simp at hk; omega)])
    rw [hk] at CE
    go_enter Try.func23, Try.ntmps23
    go_wp2_with fail
    refine (CE _).out.mono ?_
    rintro r w' ⟨rfl, rfl⟩
    go_wp2
    go_ret
    exact ⟨ret_bool (by rw [HC.out, HZ.out]; rfl), Below.refl _ _⟩
  rw [hk] at CE
  simp only [Bool.and_eq_true, decide_eq_true_eq] at hk
  have HZ : Hid (0 ≤ distZ a.data.toList b.data.toList) := Lib.hid (by unfold distZ; rw [if_neg (by rw [len_data, len_data]; omega)]; omega)
  generalize distZ a.data.toList b.data.toList = z at *
  by_cases hd : 0 ≤ d
  · go_enter Try.func23, Try.ntmps23
    go_wp2_with fail
    refine (CE _).out.mono ?_
    rintro r w' ⟨rfl, rfl⟩
    go_wp2_with fail
    refine (CD _).out.mono ?_
    rintro r w1 ⟨rfl, hb1⟩
    go_wp2
    go_ret
    exact ⟨ret_bool (by rw [HC.out]; simp [HZ.out]), hb1⟩
  · go_enter Try.func23, Try.ntmps23
    go_wp2_with fail
    refine (CE _).out.mono ?_
    rintro r w' ⟨rfl, rfl⟩
    go_wp2
    go_ret
    exact ⟨ret_bool (by rw [HC.out]; have := HZ.out; simp; omega), Below.refl _ _⟩
end Go.Proofs.Ytcjcklpmlfoloaa
