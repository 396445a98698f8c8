/- The laws' helpers over rows of numbers: sorted, counts, same. -/
import Derived.Test.YtkifndcfmmdkpaaNeG
import Derived.BigQuiet
namespace Go.Proofs.Ytkifndcfmmdkpaa
open Go.RowKit
set_option linter.unusedVariables false
set_option maxRecDepth 100000

set_option maxHeartbeats 2000000 in
theorem lawsSorted (c : Value) (l : List Int) (w : World) (h : IntSIn [c] l w) (hl : l.length ≤ 1000000) : Calls Try.prog 23 #[c] w fun e w' => e = .returned (.bool (sortedB l)) ∧ ∃ n, w' = w.drewN n := by
  obtain ⟨a, cap, rfl, _, _, r⟩ := intSIn_shape h
  have R := Lib.hid r
  clear h r
  go_enter Try.func23, Try.ntmps23
  go_wp2
  go_loopw [3] (fun i wr => ∃ j n : Nat, 1 ≤ j ∧ (j ≤ l.length ∨ j = 1) ∧ i = .int .i64 j ∧ wr = w.drewN n ∧ Hid (∀ t, t + 1 < j → t + 1 < l.length → l.getD t 0 ≤ l.getD (t + 1) 0)) (fun i _ => l.length - (intOf i).toNat)
  case atStart => exact ⟨1, 0, by omega, .inr rfl, rfl, rfl, Lib.hid (fun t ht => absurd ht (by omega))⟩
  case round =>
    obtain ⟨j, n, hj1, hj, rfl, rfl, H⟩ := hrel
    by_cases hlt : j < l.length
    · obtain ⟨t, rfl⟩ : ∃ t, j = t + 1 := ⟨j - 1, by omega⟩
      have r := R.out
      obtain ⟨b, off, rfl, hc⟩ : ∃ b off, a = some ⟨b, off, none⟩ ∧ ∀ i, i < (l.map ival).length → w.cell? ⟨b, off + i, none⟩ = (l.map ival)[i]? := by
        rcases r with r | ⟨b, off, rfl, hc⟩
        · simp at r; subst r; simp at hlt
        · exact ⟨b, off, rfl, hc⟩
      have q0 : w.cell? ⟨b, off + t, none⟩ = some (.int .i64 (l.getD t 0)) := (hc t (by simp; omega)).trans (by simp [List.getD, show t < l.length from by omega, ival])
      have q1 : w.cell? ⟨b, off + (t + 1), none⟩ = some (.int .i64 (l.getD (t + 1) 0)) := (hc (t + 1) (by simp; omega)).trans (by simp [List.getD, hlt, ival])
      have SF : Hid (l.getD (t + 1) 0 < l.getD t 0 → sortedB l = false) := Lib.hid (fun h => sortedB_false hlt h)
      have NX : Hid (¬ l.getD (t + 1) 0 < l.getD t 0 → ∀ u, u + 1 < t + 1 + 1 → u + 1 < l.length → l.getD u 0 ≤ l.getD (u + 1) 0) := Lib.hid (fun h u hu hu2 => by
        by_cases e : u = t
        · subst e; omega
        · exact H.out u (by omega) hu2)
      have i1 : (0 : Int) ≤ (t : Int) + 1 := by omega
      have i2 : (t : Int) + 1 < (l.length : Int) := by omega
      have i3 : (0 : Int) ≤ (t : Int) := by omega
      have i4 : (t : Int) < (l.length : Int) := by omega
      have i5 : IntKind.i64.wrap ((t : Int) + 1 - 1) = t := by rw [show (t : Int) + 1 - 1 = t from by omega]; exact wrap_small _ (by omega) (by omega)
      have i6 : IntKind.i64.wrap (t : Int) = t := wrap_small _ (by omega) (by omega)
      have i7 : t < l.length := by omega
      clear hc r H
      generalize l.getD (t + 1) 0 = x at *
      generalize l.getD t 0 = y at *
      by_cases hxy : x < y
      · have dx : decide (x < y) = true := decide_eq_true hxy
        go_wp2_with fail
        go_quiet (fail)
        go_wp2
        go_ret
        exact ⟨by rw [SF.out hxy]; rfl, _, World.drewN_drewN _ _ _⟩
      · have dx : decide (x < y) = false := decide_eq_false hxy
        go_wp2_with fail
        go_quiet (fail)
        go_wp2
        go_roundw
        case rel => exact ⟨t + 1 + 1, _, by omega, .inl (by omega), by go_num, rfl, Lib.hid (NX.out hxy)⟩
        case measure => simp [intOf]; omega
    · have E : Hid (sortedB l = true) := Lib.hid (sortedB_true.2 (fun i hi => H.out i (by omega) hi))
      go_wp2
      go_ret
      exact ⟨by rw [E.out]; rfl, _, rfl⟩
theorem count_take {l : List Int} {k : Nat} (x : Int) (h : k < l.length) : (l.take (k + 1)).count x = (l.take k).count x + (if l[k] = x then 1 else 0) := by
  rw [List.take_succ_eq_append_getElem h, List.count_append]
  by_cases e : l[k] = x
  · simp [e]
  · simp [e]
set_option maxHeartbeats 2000000 in
theorem lawsCounts (c : Value) (l : List Int) (x : Int) (w : World) (h : IntSIn [c] l w) (hl : l.length ≤ 1000000) : Calls Try.prog 28 #[c, .int .i64 x] w fun e w' => e = .returned (.int .i64 (l.count x : Nat)) ∧ w = w' := by
  obtain ⟨a, cap, rfl, _, _, r⟩ := intSIn_shape h
  have R := Lib.hid r
  clear h r
  go_enter Try.func28, Try.ntmps28
  go_wp2
  go_loop [6, 5] (fun i s => ∃ j y : Nat, j ≤ l.length ∧ i = .int .i64 j ∧ s = .int .i64 y ∧ y ≤ j ∧ Hid (y = (l.take j).count x)) (fun i _ => l.length - (intOf i).toNat)
  case atStart => exact ⟨0, 0, Nat.zero_le _, rfl, rfl, Nat.zero_le _, Lib.hid (by simp)⟩
  case round =>
    obtain ⟨j, y, hj, rfl, rfl, hy, H⟩ := hrel
    by_cases hlt : j < l.length
    · obtain ⟨b1, o1, rfl, q1⟩ := R.out.at (i := j) (by simpa using hlt)
      rw [ival_at hlt] at q1
      have N := Lib.hid (count_take x hlt)
      generalize l[j] = z at *
      by_cases e : z = x
      · have hB : (z == x) = true := by simpa using e
        go_wp2
        go_round
        case rel => exact ⟨j + 1, y + 1, by omega, by go_num, by go_num, by omega, Lib.hid (by rw [N.out, if_pos e, H.out])⟩
        case measure => simp [intOf]; omega
      · have hB : (z == x) = false := by simpa using e
        go_wp2
        go_round
        case rel => exact ⟨j + 1, y, by omega, by go_num, by go_num, by omega, Lib.hid (by rw [N.out, if_neg e, H.out]; rfl)⟩
        case measure => simp [intOf]; omega
    · have E : Hid (y = l.count x) := Lib.hid (by rw [H.out, List.take_of_length_le (by omega)])
      go_wp2
      go_ret
      exact ⟨by rw [← E.out]; rfl, rfl⟩
theorem zeq_take {l m : List Int} (hl : l.length = m.length) (k : Nat) (hk : l.length ≤ k) (h : l.take k = m.take k) : (l == m) = true := by
  rw [List.take_of_length_le hk, List.take_of_length_le (by omega)] at h; simpa using h
theorem zeq_at {l m : List Int} {k : Nat} (h1 : k < l.length) (h2 : k < m.length) (h : l[k] ≠ m[k]) : (l == m) = false := by
  rw [beq_eq_false_iff_ne]; intro e; subst e; exact h rfl
theorem zeq_both {l m : List Int} {k : Nat} (h1 : k < l.length) (h2 : k < m.length) (e : l.take k = m.take k) (h : l[k] = m[k]) : l.take (k + 1) = m.take (k + 1) := by
  rw [List.take_succ_eq_append_getElem h1, List.take_succ_eq_append_getElem h2, e, h]
set_option maxHeartbeats 2000000 in
theorem lawsSame (d1 d2 : Value) (l1 l2 : List Int) (w : World) (h1 : IntSIn [d1] l1 w) (h2 : IntSIn [d2] l2 w) :
    Calls Try.prog 32 #[d1, d2] w fun e w' => e = .returned (.bool (l1 == l2)) ∧ ∃ n, w' = w.drewN n := by
  obtain ⟨a1, c1, rfl, _, m1, r1⟩ := intSIn_shape h1
  obtain ⟨a2, c2, rfl, _, m2, r2⟩ := intSIn_shape h2
  clear h1 h2
  unfold maxLen at m1 m2
  by_cases hl : l1.length = l2.length
  · have hlB : ((l1.length : Int) != (l2.length : Int)) = false := by simp [hl]
    have HL := Lib.hid hl
    have hll : l1.length ≤ l2.length := by omega
    clear hl
    have R1 := Lib.hid r1
    have R2 := Lib.hid r2
    clear r1 r2
    go_enter Try.func32, Try.ntmps32
    go_wp2
    go_loopw [5] (fun i wr => ∃ k n : Nat, k ≤ l1.length ∧ i = .int .i64 k ∧ wr = w.drewN n ∧ Hid (l1.take k = l2.take k)) (fun i _ => l1.length - (intOf i).toNat)
    case atStart => exact ⟨0, 0, Nat.zero_le _, rfl, rfl, Lib.hid rfl⟩
    case round =>
      obtain ⟨k, n, hk, rfl, rfl, H⟩ := hrel
      by_cases hlt : k < l1.length
      · have hlt2 : k < l2.length := by omega
        obtain ⟨b1, o1, rfl, q1⟩ := R1.out.at (i := k) (by simpa using hlt)
        obtain ⟨b2, o2, rfl, q2⟩ := R2.out.at (i := k) (by simpa using hlt2)
        rw [ival_at hlt] at q1
        rw [ival_at hlt2] at q2
        have E1 := Lib.hid (zeq_at hlt hlt2)
        have E2 := Lib.hid (zeq_both hlt hlt2 H.out)
        by_cases hxy : l1[k] = l2[k]
        · have hB : (l1[k] != l2[k]) = false := by simpa using hxy
          have E3 := Lib.hid (E2.out hxy)
          clear hxy E1 E2
          generalize l1[k] = x at *
          generalize l2[k] = y at *
          go_wp2
          go_quiet (fail)
          go_wp2
          go_roundw
          case rel => exact ⟨k + 1, _, by omega, by go_num, rfl, E3⟩
          case measure => simp [intOf]; omega
        · have hB : (l1[k] != l2[k]) = true := by simpa using hxy
          have E3 := Lib.hid (E1.out hxy)
          clear hxy E1 E2
          generalize l1[k] = x at *
          generalize l2[k] = y at *
          go_wp2
          go_quiet (fail)
          go_wp2
          go_ret
          exact ⟨ret_bool E3.out.symm, _, World.drewN_drewN _ _ _⟩
      · have E3 := Lib.hid (zeq_take HL.out k (by omega) H.out)
        go_wp2
        go_ret
        exact ⟨ret_bool E3.out.symm, n, rfl⟩
  · have hlB : ((l1.length : Int) != (l2.length : Int)) = true := by rw [bne_iff_ne]; omega
    have E : Hid ((l1 == l2) = false) := Lib.hid (beq_eq_false_iff_ne.2 (fun e => hl (by rw [e])))
    clear r1 r2 hl
    go_enter Try.func32, Try.ntmps32
    go_wp2
    go_ret
    exact ⟨ret_bool E.out.symm, 0, rfl⟩
end Go.Proofs.Ytkifndcfmmdkpaa
