/- Capped and Within, in the model of the document and in the program. -/
import Derived.Test.YtfdlmpjccoaejaaEdJ
import Derived.Test.YtfdlmpjccoaejaaEdS
namespace Go.Proofs.Ytfdlmpjccoaejaa
open Go.RowKit
set_option linter.unusedVariables false

def capZ (a b : List UInt8) : Int := if distZ a b < 7 then distZ a b else 7
def withinB (a b : List UInt8) (d : Int) : Bool := decide (0 ≤ distZ a b) && decide (distZ a b ≤ d)
theorem distZ_neg {a b : List UInt8} : distZ a b = -1 ∨ (0 ≤ distZ a b ∧ distZ a b ≤ 32) := by
  unfold distZ
  by_cases h : 32 < a.length ∨ 32 < b.length
  · rw [if_pos h]; exact .inl rfl
  · rw [if_neg h]; have := dist_max a b; omega
set_option maxHeartbeats 800000 in
theorem implCapped (a b : ByteArray) (w : World) (ha : a.size ≤ maxLen) (hb : b.size ≤ maxLen) :
    Calls Try.prog 23 #[.string a, .string b] w fun r w' => r = .returned (.int .i64 (capZ a.data.toList b.data.toList)) ∧ Below w.heap.size w w' := by
  have HC : Hid (capZ a.data.toList b.data.toList = if distZ a.data.toList b.data.toList < 7 then distZ a.data.toList b.data.toList else 7) := Lib.hid rfl
  go_enter Try.func23, Try.ntmps23
  go_wp2_with fail
  refine (implDistance a b _ ha hb).mono ?_
  rintro r w1 ⟨rfl, hb1⟩
  generalize distZ a.data.toList b.data.toList = z at *
  by_cases hz : z < 7
  · go_wp2
    go_ret
    exact ⟨ret_int (by rw [HC.out, if_pos hz]), hb1⟩
  · go_wp2
    go_ret
    exact ⟨ret_int (by rw [HC.out, if_neg (by omega)]), hb1⟩
set_option maxHeartbeats 800000 in
theorem specCapped (a b : ByteArray) (w : World) (ha : a.size ≤ maxLen) (hb : b.size ≤ maxLen) :
    Calls Try.prog 24 #[.string a, .string b] w fun r w' => r = .returned (.int .i64 (capZ a.data.toList b.data.toList)) ∧ Below w.heap.size w w' := by
  have HC : Hid (capZ a.data.toList b.data.toList = if distZ a.data.toList b.data.toList < 7 then distZ a.data.toList b.data.toList else 7) := Lib.hid rfl
  go_enter Try.func24, Try.ntmps24
  go_wp2_with fail
  refine (specDistance a b _ ha hb).mono ?_
  rintro r w1 ⟨rfl, hb1⟩
  generalize distZ a.data.toList b.data.toList = z at *
  by_cases hz : z < 7
  · go_wp2
    go_ret
    exact ⟨ret_int (by rw [HC.out, if_pos hz]), hb1⟩
  · go_wp2
    go_ret
    exact ⟨ret_int (by rw [HC.out, if_neg (by omega)]), hb1⟩
end Go.Proofs.Ytfdlmpjccoaejaa
