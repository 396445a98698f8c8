/- The laws' own helpers over slices of integers: counted, compared, marked, held, copied. -/
import Derived.Test.YtabldmhjkggmjaaBase
import Derived.Test.YtabldmhjkggmjaaVals
import Derived.Deep.QuietTactic
import Derived.BigQuiet
namespace Go.Proofs.Ytabldmhjkggmjaa
open Go.RowKit
set_option linter.unusedVariables false

theorem ibeq_take {l m : List Int} (hl : l.length = m.length) (k : Nat) (hk : l.length ≤ k) (h : l.take k = m.take k) : (l == m) = true := by
  rw [List.take_of_length_le hk, List.take_of_length_le (by omega)] at h; simp [h]
theorem ibeq_at {l m : List Int} {k : Nat} (h1 : k < l.length) (h2 : k < m.length) (h : l[k] ≠ m[k]) : (l == m) = false := by
  rw [beq_eq_false_iff_ne]; intro e; subst e; exact h rfl
theorem itake_both {l m : List Int} {k : Nat} (h1 : k < l.length) (h2 : k < m.length) (e : l.take k = m.take k) (h : l[k] = m[k]) : l.take (k + 1) = m.take (k + 1) := by
  rw [List.take_succ_eq_append_getElem h1, List.take_succ_eq_append_getElem h2, e, h]

/-- What is left of a bound behind n more: -1 where it is passed. -/
def szI (left : Int) (n : Nat) : Int := if left - n < 0 then -1 else left - n
theorem szI_no {left : Int} {n : Nat} (h : left - n < 0) : szI left n = -1 := if_pos h
theorem szI_yes {left : Int} {n : Nat} (h : ¬ left - n < 0) : szI left n = left - n := if_neg h
set_option maxHeartbeats 800000 in
theorem lawsEqIntS (a1 a2 : Option Addr) (c1 c2 : Nat) (l1 l2 : List Int) (w : World) (h1 : l1.length ≤ maxLen) (h2 : l2.length ≤ maxLen) (r1 : Row w a1 (l1.map ival)) (r2 : Row w a2 (l2.map ival)) :
    Calls Try.prog 27 #[.slice a1 l1.length c1, .slice a2 l2.length c2] w fun e w' => e = .returned (.bool (l1 == l2)) ∧ ∃ n, w' = w.drewN n := by
  unfold maxLen at h1 h2
  by_cases hl : l1.length = l2.length
  · have hlB : ((l1.length : Int) != (l2.length : Int)) = false := by simp [hl]
    have HL := Lib.hid hl
    have hll : l1.length ≤ l2.length := by omega
    clear hl
    have R1 := Lib.hid r1
    have R2 := Lib.hid r2
    clear r1 r2
    go_enter Try.func27, Try.ntmps27
    go_wp2
    go_loopw [5] (fun i wr => ∃ k n : Nat, k ≤ l1.length ∧ i = .int .i64 k ∧ wr = w.drewN n ∧ Hid (l1.take k = l2.take k)) (fun i _ => l1.length - (intOf i).toNat)
    case atStart => exact ⟨0, 0, Nat.zero_le _, rfl, rfl, Lib.hid rfl⟩
    case round =>
      obtain ⟨k, n, hk, rfl, rfl, H⟩ := hrel
      by_cases hlt : k < l1.length
      · have hlt2 : k < l2.length := by omega
        obtain ⟨b1, o1, rfl, q1⟩ := R1.out.at (i := k) (by simpa using hlt)
        obtain ⟨b2, o2, rfl, q2⟩ := R2.out.at (i := k) (by simpa using hlt2)
        rw [ival_at hlt] at q1
        rw [ival_at hlt2] at q2
        have hc1 := q1
        have hc2 := q2
        clear q1 q2
        have E1 := Lib.hid (ibeq_at hlt hlt2)
        have E2 := Lib.hid (itake_both hlt hlt2 H.out)
        generalize l1[k] = x at *
        generalize l2[k] = y at *
        by_cases hxy : x = y
        · subst hxy
          have E3 := Lib.hid (E2.out rfl)
          go_wp2
          go_quiet (fail)
          go_wp2
          go_roundw
          case rel => exact ⟨k + 1, _, by omega, by go_num, rfl, E3⟩
          case measure => simp [intOf]; omega
        · have hB : (x != y) = true := by simp; omega
          have E3 := Lib.hid (E1.out hxy)
          go_wp2
          go_quiet (fail)
          go_wp2
          go_ret
          exact ⟨ret_bool E3.out.symm, _, World.drewN_drewN _ _ _⟩
      · have E3 := Lib.hid (ibeq_take HL.out k (by omega) H.out)
        go_wp2
        go_ret
        exact ⟨ret_bool E3.out.symm, n, rfl⟩
  · have HE : Hid ((l1 == l2) = false) := Lib.hid (by rw [beq_eq_false_iff_ne]; intro e; subst e; exact hl rfl)
    have hlB : ((l1.length : Int) != (l2.length : Int)) = true := by simp; omega
    clear hl
    go_enter Try.func27, Try.ntmps27
    go_wp2
    go_ret
    exact ⟨ret_bool HE.out.symm, 0, rfl⟩

/-- The marks k, k+1, .. (as integers). -/
def marksI (k n : Nat) : List Int := (List.range n).map fun i => ((k + i : Nat) : Int)
theorem marksI_length (k n : Nat) : (marksI k n).length = n := by simp [marksI]
theorem marksI_succ (k n : Nat) : marksI k (n + 1) = marksI k n ++ [((k + n : Nat) : Int)] := by simp [marksI, List.range_succ]
def markRowI (k j : Nat) (xs : List Value) : List Value := (marksI k j).map ival ++ xs.drop j
theorem markRowI_zero (k : Nat) (xs : List Value) : markRowI k 0 xs = xs := by simp [markRowI, marksI]
theorem markRowI_set (k j : Nat) (xs : List Value) (h : j < xs.length) : (markRowI k j xs).set j (.int .i64 ((k + j : Nat) : Int)) = markRowI k (j + 1) xs := by
  unfold markRowI
  rw [marksI_succ, List.set_append_right _ _ (by simp [marksI_length])]
  rw [show j - ((marksI k j).map ival).length = 0 from by simp [marksI_length], List.drop_eq_getElem_cons h, List.set_cons_zero]
  simp [ival]
theorem marksI_at {k n i : Nat} (h : i < n) : ((marksI k n).map ival)[i]? = some (.int .i64 ((k + i : Nat) : Int)) := by
  simp [marksI, h, ival]
theorem markRowI_done (k : Nat) (xs : List Value) : markRowI k xs.length xs = (marksI k xs.length).map ival := by simp [markRowI]
theorem markRowI_length (k j : Nat) (xs : List Value) (h : j ≤ xs.length) : (markRowI k j xs).length = xs.length := by simp [markRowI, marksI_length]; omega

set_option maxHeartbeats 800000 in
theorem lawsMarkIntSome (base g n cap k : Nat) (xs : List Value) (w : World) (hk : k + n ≤ 4611686018427387904) (hown : w.ownsRow base 3 1 (.slice (some ⟨g, 0, none⟩) n cap) n xs) :
    Calls Try.prog 28 #[.slice (some ⟨g, 0, none⟩) n cap, .int .i64 k] w fun e w' => e = .returned (.int .i64 ((k + n : Nat) : Int)) ∧ w'.ownsRow base 3 1 (.slice (some ⟨g, 0, none⟩) n cap) n ((marksI k n).map ival) ∧ w.grownBy w' (some g) := by
  have hx : xs.length = n := by simpa using hown.1
  subst hx
  have H0 := Lib.hid hown
  clear hown
  go_enter Try.func28, Try.ntmps28
  go_wp2
  go_loopw [1, 5] (fun kv i wr => ∃ j : Nat, j ≤ xs.length ∧ kv = .int .i64 ((k + j : Nat) : Int) ∧ i = .int .i64 j ∧ wr.ownsRow base 3 1 (.slice (some ⟨g, 0, none⟩) xs.length cap) xs.length (markRowI k j xs) ∧ w.grownBy wr (some g)) (fun _ i _ => xs.length - (intOf i).toNat)
  case atStart => exact ⟨0, Nat.zero_le _, rfl, rfl, by rw [markRowI_zero]; exact H0.out, World.grownBy.refl _ _⟩
  case round =>
    obtain ⟨j, hj, rfl, rfl, hown, hg⟩ := hrel
    by_cases hlt : j < xs.length
    · have hf := hown.frozenAt j
      have hc : wr.cell? ⟨g, j, none⟩ = some ((markRowI k j xs)[j]'(by rw [markRowI_length _ _ _ hj]; exact hlt)) := by
        rw [hown.cellAt j (by omega), List.getElem?_eq_getElem]
      have st := hown.stored j (.int .i64 ((k + j : Nat) : Int))
      rw [markRowI_set k j xs hlt] at st
      have R := Lib.hid (And.intro st.1 (grown_trans hg st.2))
      clear st hown hg
      go_wp2
      go_roundw
      case rel => exact ⟨j + 1, by omega, by go_num, by go_num, R.out.1, R.out.2⟩
      case measure => simp [intOf]; omega
    · have hj' : j = xs.length := by omega
      subst hj'
      rw [markRowI_done] at hown
      have R := Lib.hid (And.intro hown hg)
      clear hown hg
      go_wp2
      go_ret
      exact ⟨rfl, R.out.1, R.out.2⟩
set_option maxHeartbeats 800000 in
theorem lawsMarkIntNil (c k : Nat) (w : World) (hk : k ≤ 4611686018427387904) :
    Calls Try.prog 28 #[.slice none 0 c, .int .i64 k] w fun e w' => e = .returned (.int .i64 k) ∧ w = w' := by
  go_enter Try.func28, Try.ntmps28
  go_wp2
  go_loop [1, 5] (fun kv i => kv = .int .i64 k ∧ i = .int .i64 0) (fun _ _ => 0)
  case atStart => exact ⟨rfl, rfl⟩
  case round =>
    obtain ⟨rfl, rfl⟩ := hrel
    go_wp2
    go_ret
    exact ⟨rfl, rfl⟩
/-- Whatever the call owns is marked: its own block alone turns. -/
theorem lawsMarkIntS (base n cap k : Nat) (a : Option Addr) (xs : List Value) (w : World) (hk : k + n ≤ 4611686018427387904) (hown : w.ownsRow base 3 1 (.slice a n cap) n xs) :
    Calls Try.prog 28 #[.slice a n cap, .int .i64 k] w fun e w' => e = .returned (.int .i64 ((k + n : Nat) : Int)) ∧ w'.ownsRow base 3 1 (.slice a n cap) n ((marksI k n).map ival) ∧ w.grownBy w' (Value.ownBlock (.slice a n cap)) := by
  rcases hown.2 with ⟨hv, hn⟩ | ⟨g, cap', cur, hv, _⟩
  · simp at hv
    obtain ⟨rfl, rfl, rfl⟩ := hv
    refine (lawsMarkIntNil 0 k w (by omega)).mono ?_
    rintro e w' ⟨rfl, rfl⟩
    exact ⟨rfl, ⟨rfl, .inl ⟨rfl, rfl⟩⟩, World.grownBy.refl _ _⟩
  · simp at hv
    obtain ⟨rfl, rfl⟩ := hv
    exact lawsMarkIntSome base g n cap k xs w hk hown

set_option maxHeartbeats 800000 in
theorem lawsHeldIntS (a : Option Addr) (n cap k : Nat) (w : World) (hk : k + n ≤ 4611686018427387904) (r : Row w a ((marksI k n).map ival)) :
    Calls Try.prog 29 #[.slice a n cap, .int .i64 k] w fun e w' => e = .returned (.int .i64 ((k + n : Nat) : Int)) ∧ w = w' := by
  have R := Lib.hid r
  clear r
  go_enter Try.func29, Try.ntmps29
  go_wp2
  go_loop [1, 5] (fun kv i => ∃ j : Nat, j ≤ n ∧ kv = .int .i64 ((k + j : Nat) : Int) ∧ i = .int .i64 j) (fun _ i => n - (intOf i).toNat)
  case atStart => exact ⟨0, Nat.zero_le _, rfl, rfl⟩
  case round =>
    obtain ⟨j, hj, rfl, rfl⟩ := hrel
    by_cases hlt : j < n
    · obtain ⟨b1, o1, rfl, q1⟩ := R.out.at (i := j) (by simpa [marksI_length] using hlt)
      rw [marksI_at hlt] at q1
      go_wp2
      go_round
      case rel => exact ⟨j + 1, by omega, by go_num, by go_num⟩
      case measure => simp [intOf]; omega
    · have hj' : j = n := by omega
      subst hj'
      go_wp2
      go_ret
      exact ⟨rfl, rfl⟩

def copyRowI (l : List Int) (k : Nat) : List Value := (l.take k).map ival ++ List.replicate (l.length - k) (.int .i64 0)
theorem copyRowI_length (l : List Int) (k : Nat) (h : k ≤ l.length) : (copyRowI l k).length = l.length := by unfold copyRowI; simp; omega
theorem copyRowI_zero (l : List Int) : copyRowI l 0 = List.replicate l.length (.int .i64 0) := by simp [copyRowI]
theorem copyRowI_set (l : List Int) (k : Nat) (h : k < l.length) : (copyRowI l k).set k (.int .i64 l[k]) = copyRowI l (k + 1) := by
  unfold copyRowI
  rw [List.take_succ_eq_append_getElem h, List.set_append_right _ _ (by simp; omega)]
  obtain ⟨m, hm⟩ : ∃ m, l.length - k = m + 1 := ⟨l.length - k - 1, by omega⟩
  rw [hm, show l.length - (k + 1) = m from by omega, List.replicate_succ]
  rw [show k - ((l.take k).map ival).length = 0 from by simp; omega]
  rw [List.set_cons_zero, List.map_append, List.append_assoc]; rfl
theorem copyRowI_done (l : List Int) : copyRowI l l.length = l.map ival := by unfold copyRowI; simp

end Go.Proofs.Ytabldmhjkggmjaa
