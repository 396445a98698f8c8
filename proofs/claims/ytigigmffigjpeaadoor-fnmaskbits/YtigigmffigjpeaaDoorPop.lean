/- Chapter 3 (masks): BitCount in the program and in the model. -/
import Derived.Test.YtigigmffigjpeaaDoorMask
import Derived.Test.YtigigmffigjpeaaDoorBitsPop
namespace Go.Proofs.YtigigmffigjpeaaDoor
open Go.RowKit
set_option linter.unusedVariables false
theorem rep85 : repB 85 8 = 6148914691236517205 := by decide
theorem rep51 : repB 51 8 = 3689348814741910323 := by decide
theorem rep15 : repB 15 8 = 1085102592571150095 := by decide
set_option maxHeartbeats 1000000 in
theorem onesCount (x : Nat) (w : World) (hx : x < 18446744073709551616) :
    Calls Tryd.prog 12 #[.int .u64 x] w fun e w' => e = .returned (.int .i64 ((popN 64 x : Nat) : Int)) ∧ w = w' := by
  obtain ⟨p0, p1, p2, p3, p4, p5, p6, p7, hp, hP, hN⟩ := popP_sum x
  rw [← popFGH 8 x] at hP
  have HE := pop_end hp hP
  rw [← hN] at HE
  clear hp hP hN
  obtain ⟨he, HE0⟩ := HE
  unfold popH popG popF at he HE0
  rw [rep85, rep51, rep15] at he HE0
  have hA : bits .and .u64 ((x : Int) / 2) 6148914691236517205 = ((x / 2 &&& 6148914691236517205 : Nat) : Int) := by
    rw [show (x : Int) / 2 = ((x / 2 : Nat) : Int) from by simp]; exact u64_and_nat _ 6148914691236517205 (by omega) (by omega)
  have hB : bits .and .u64 (x : Int) 6148914691236517205 = ((x &&& 6148914691236517205 : Nat) : Int) := u64_and_nat _ 6148914691236517205 (by omega) (by omega)
  have bA : x / 2 &&& 6148914691236517205 ≤ 6148914691236517205 := Nat.and_le_right
  have bB : x &&& 6148914691236517205 ≤ 6148914691236517205 := Nat.and_le_right
  generalize x / 2 &&& 6148914691236517205 = A at *
  generalize x &&& 6148914691236517205 = B at *
  have hC : bits .and .u64 (((A : Int) + (B : Int)) / 4) 3689348814741910323 = (((A + B) / 4 &&& 3689348814741910323 : Nat) : Int) := by
    rw [show ((A : Int) + (B : Int)) / 4 = (((A + B) / 4 : Nat) : Int) from by simp]; exact u64_and_nat _ 3689348814741910323 (by omega) (by omega)
  have hD : bits .and .u64 ((A : Int) + (B : Int)) 3689348814741910323 = ((A + B &&& 3689348814741910323 : Nat) : Int) := by
    rw [show (A : Int) + (B : Int) = ((A + B : Nat) : Int) from by simp]; exact u64_and_nat _ 3689348814741910323 (by omega) (by omega)
  have bC : (A + B) / 4 &&& 3689348814741910323 ≤ 3689348814741910323 := Nat.and_le_right
  have bD : A + B &&& 3689348814741910323 ≤ 3689348814741910323 := Nat.and_le_right
  generalize (A + B) / 4 &&& 3689348814741910323 = C at *
  generalize A + B &&& 3689348814741910323 = D at *
  have hE : bits .and .u64 (((C : Int) + (D : Int)) / 16 + ((C : Int) + (D : Int))) 1085102592571150095 = (((C + D) / 16 + (C + D) &&& 1085102592571150095 : Nat) : Int) := by
    rw [show ((C : Int) + (D : Int)) / 16 + ((C : Int) + (D : Int)) = (((C + D) / 16 + (C + D) : Nat) : Int) from by simp]; exact u64_and_nat _ 1085102592571150095 (by omega) (by omega)
  generalize (C + D) / 16 + (C + D) &&& 1085102592571150095 = E at *
  have HE := Lib.hid HE0
  clear HE0
  have hF : bits .and .i64 ((E : Int) + (E : Int) / 256 + ((E : Int) + (E : Int) / 256) / 65536 + ((E : Int) + (E : Int) / 256 + ((E : Int) + (E : Int) / 256) / 65536) / 4294967296) 127 = ((popN 64 x : Nat) : Int) := by
    rw [← HE.out, ← i64_and127 _ (by omega)]; simp
  go_enter Tryd.func12, Tryd.ntmps12
  go_wp2
  go_ret
  exact ⟨rfl, rfl⟩
set_option maxHeartbeats 400000 in
theorem implBitCount (x : Nat) (w : World) (hx : x < 18446744073709551616) :
    Calls Tryd.prog 8 #[.int .u64 x] w fun e w' => e = .returned (.int .i64 ((popN 64 x : Nat) : Int)) ∧ w = w' := by
  go_enter Tryd.func8, Tryd.ntmps8
  go_wp2_with fail
  refine (onesCount x _ hx).mono ?_
  rintro e w' ⟨rfl, rfl⟩
  go_wp2
  go_ret
  exact ⟨rfl, rfl⟩
end Go.Proofs.YtigigmffigjpeaaDoor
