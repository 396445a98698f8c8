/- The laws' comparison of two lists of words. -/
import Derived.Test.YtfdlmpjccoaejaaStrs
namespace Go.Proofs.Ytfdlmpjccoaejaa
open Go.RowKit
set_option linter.unusedVariables false

set_option maxHeartbeats 800000 in
theorem lawsSameWords (a1 a2 : Option Addr) (c1 c2 : Nat) (l1 l2 : List (List UInt8)) (w : World) (h1 : l1.length ≤ maxLen) (h2 : l2.length ≤ maxLen) (r1 : Row w a1 (l1.map sval)) (r2 : Row w a2 (l2.map sval)) :
    Calls Try.prog 19 #[.slice a1 l1.length c1, .slice a2 l2.length c2] w fun e w' => e = .returned (.bool (l1 == l2)) ∧ ∃ n, w' = w.drewN n := by
  unfold maxLen at h1 h2
  by_cases hl : l1.length = l2.length
  · have hlB : ((l1.length : Int) != (l2.length : Int)) = false := by simp [hl]
    have HL := Lib.hid hl
    have hll : l1.length ≤ l2.length := by omega
    clear hl
    have R1 := Lib.hid r1
    have R2 := Lib.hid r2
    clear r1 r2
    go_enter Try.func19, Try.ntmps19
    go_wp2
    go_loopw [5] (fun i wr => ∃ k n : Nat, k ≤ l1.length ∧ i = .int .i64 k ∧ wr = w.drewN n ∧ Hid (l1.take k = l2.take k)) (fun i _ => l1.length - (intOf i).toNat)
    case atStart => exact ⟨0, 0, Nat.zero_le _, rfl, rfl, Lib.hid rfl⟩
    case round =>
      obtain ⟨k, n, hk, rfl, rfl, H⟩ := hrel
      by_cases hlt : k < l1.length
      · have hlt2 : k < l2.length := by omega
        obtain ⟨b1, o1, rfl, q1⟩ := R1.out.at (i := k) (by simpa using hlt)
        obtain ⟨b2, o2, rfl, q2⟩ := R2.out.at (i := k) (by simpa using hlt2)
        rw [sval_at hlt] at q1
        rw [sval_at hlt2] at q2
        have E1 := Lib.hid (seq_at hlt hlt2)
        have E2 := Lib.hid (seq_both hlt hlt2 H.out)
        have e1 : (strL l1[k]).toList = l1[k] := ByteArray.toList_mk _
        have e2 : (strL l2[k]).toList = l2[k] := ByteArray.toList_mk _
        by_cases hxy : l1[k] = l2[k]
        · have hB : ((strL l1[k]).toList == (strL l2[k]).toList) = true := by rw [e1, e2]; simpa using hxy
          have E3 := Lib.hid (E2.out hxy)
          clear hxy e1 e2
          generalize strL l1[k] = x at *
          generalize strL l2[k] = y at *
          go_wp2
          go_quiet (fail)
          go_wp2
          go_roundw
          case rel => exact ⟨k + 1, _, by omega, by go_num, rfl, E3⟩
          case measure => simp [intOf]; omega
        · have hB : ((strL l1[k]).toList == (strL l2[k]).toList) = false := by rw [e1, e2]; simpa using hxy
          have E3 := Lib.hid (E1.out hxy)
          clear hxy e1 e2
          generalize strL l1[k] = x at *
          generalize strL l2[k] = y at *
          go_wp2
          go_quiet (fail)
          go_wp2
          go_ret
          exact ⟨ret_bool E3.out.symm, _, World.drewN_drewN _ _ _⟩
      · have E3 := Lib.hid (seq_take HL.out k (by omega) H.out)
        go_wp2
        go_ret
        exact ⟨ret_bool E3.out.symm, n, rfl⟩
  · have HE : Hid ((l1 == l2) = false) := Lib.hid (by rw [beq_eq_false_iff_ne]; intro e; subst e; exact hl rfl)
    have hlB : ((l1.length : Int) != (l2.length : Int)) = true := by simp; omega
    clear hl
    go_enter Try.func19, Try.ntmps19
    go_wp2
    go_ret
    exact ⟨ret_bool HE.out.symm, 0, rfl⟩

end Go.Proofs.Ytfdlmpjccoaejaa
