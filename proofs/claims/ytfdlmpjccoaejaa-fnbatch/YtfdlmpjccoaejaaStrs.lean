/- The laws' own helpers over slices of strings: compared, marked, held. -/
import Derived.Test.YtfdlmpjccoaejaaBase
import Derived.Test.YtfdlmpjccoaejaaOwn
import Derived.Test.YtfdlmpjccoaejaaVals
import Derived.Deep.QuietTactic
import Derived.BigQuiet
import Derived.Deep.RegionWith
namespace Go.Proofs.Ytfdlmpjccoaejaa
open Go.RowKit
set_option linter.unusedVariables false

/-- The decimal digits of k ahead of acc. -/
def decF : Nat → Nat → List UInt8 → List UInt8
  | 0, _, acc => acc
  | f + 1, k, acc => if k = 0 then acc else decF f (k / 10) (UInt8.ofNat (48 + k % 10) :: acc)
def markL (k : Nat) : List UInt8 := if k = 0 then [109, 48] else 109 :: decF k k []
def mval (k : Nat) : Value := .string (strL (markL k))
theorem decF_zero (f : Nat) (acc : List UInt8) : decF f 0 acc = acc := by cases f <;> simp [decF]
theorem decF_step (f k : Nat) (acc : List UInt8) (h : 0 < k) : decF (f + 1) k acc = decF f (k / 10) (UInt8.ofNat (48 + k % 10) :: acc) := by
  simp [decF]; omega

theorem strL_cons (c : UInt8) (l : List UInt8) : strL [c] ++ strL l = strL (c :: l) := by
  unfold strL; apply ByteArray.ext; simp [ByteArray.data_append]
theorem digit_conv (w : World) (j : Nat) :
    (convert 22 9 (.slice (some ⟨w.heap.size, 0, none⟩) 1 1)).run Try.prog (w.alloc (.cells #[.int .u8 (48 + (j : Int) % 10)] 5)) = .ok (.string (strL [UInt8.ofNat (48 + j % 10)])) (w.alloc (.cells #[.int .u8 (48 + (j : Int) % 10)] 5)) := by
  have h := World.ownsRow_lit (base := 0) (e := 5) (size := 1) w #[.int .u8 (48 + (j : Int) % 10)] 1 (Nat.zero_le _) (by unfold maxLen; omega) rfl
  refine conv_own (base := 0) (l := [UInt8.ofNat (48 + j % 10)]) 1 rfl ?_
  have e : [UInt8.ofNat (48 + j % 10)].map bval = [.int .u8 (48 + (j : Int) % 10)] := by
    simp [bval]; omega
  rw [e]; exact h

set_option maxHeartbeats 800000 in
theorem lawsMarkText (k : Nat) (w : World) (hk : k ≤ 4611686018427387904) :
    Calls Try.prog 82 #[.int .i64 k] w fun e w' => e = .returned (mval k) ∧ Below w.heap.size w w' := by
  by_cases h0 : 0 < k
  · have HM : Hid (markL k = 109 :: decF k k []) := Lib.hid (by unfold markL; rw [if_neg (by omega)])
    go_enter Try.func82, Try.ntmps82
    go_wp2
    go_loopw [0, 3] (fun kv ov wr => ∃ (j f : Nat) (acc : List UInt8), j ≤ k ∧ j ≤ f ∧ acc.length + j ≤ k + 1000 ∧ kv = .int .i64 j ∧ ov = .string (strL acc) ∧ Hid (decF f j acc = decF k k []) ∧ Below w.heap.size w wr) (fun kv _ _ => (intOf kv).toNat)
    case atStart => exact ⟨k, k, [], Nat.le_refl _, Nat.le_refl _, by simp, rfl, rfl, Lib.hid rfl, Below.refl _ _⟩
    case round =>
      obtain ⟨j, f, acc, hj, hf, hac, rfl, rfl, H, hb⟩ := hrel
      by_cases hlt : 0 < j
      · obtain ⟨f', rfl⟩ : ∃ f', f = f' + 1 := ⟨f - 1, by omega⟩
        have H2 := H.out
        rw [decF_step f' j acc hlt] at H2
        have HD := Lib.hid H2
        clear H2
        have hcv := digit_conv wr j
        have hsz := hb.size
        obtain ⟨c, hc⟩ : ∃ c, c = UInt8.ofNat (48 + j % 10) := ⟨_, rfl⟩
        rw [← hc] at hcv HD
        have HA := Lib.hid (strL_cons c acc)
        have hs1 : (strL [c]).size + (strL acc).size ≤ 9223372036854775807 := by rw [strL_size, strL_size, List.length_singleton]; omega
        have B2 := Lib.hid (hb.alloc hsz (.cells #[.int .u8 (48 + (j : Int) % 10)] 5))
        clear hc H hb
        go_wp2
        go_roundw
        case rel => exact ⟨j / 10, f', c :: acc, by omega, by omega, by simp; omega, by go_num, by rw [HA.out], HD, B2.out⟩
        case measure => simp [intOf]; omega
      · have hj0 : j = 0 := by omega
        subst hj0
        have H2 := H.out
        rw [decF_zero] at H2
        have HD := Lib.hid H2
        have hs1 : (strL acc).size ≤ 5000000000000000000 := by rw [strL_size]; omega
        clear H2 H
        go_wp2
        go_ret
        exact ⟨ret_str (by rw [HM.out, ← HD.out]; exact strL_cons 109 acc), hb⟩
  · have hk0 : k = 0 := by omega
    subst hk0
    go_enter Try.func82, Try.ntmps82
    go_wp2
    go_ret
    exact ⟨rfl, Below.refl _ _⟩

theorem sval_at {l : List (List UInt8)} {k : Nat} (h : k < l.length) : (l.map sval)[k]? = some (.string (strL l[k])) := by simp [h, sval]
theorem seq_take {l m : List (List UInt8)} (hl : l.length = m.length) (k : Nat) (hk : l.length ≤ k) (h : l.take k = m.take k) : (l == m) = true := by
  rw [List.take_of_length_le hk, List.take_of_length_le (by omega)] at h; simp [h]
theorem seq_at {l m : List (List UInt8)} {k : Nat} (h1 : k < l.length) (h2 : k < m.length) (h : l[k] ≠ m[k]) : (l == m) = false := by
  rw [beq_eq_false_iff_ne]; intro e; subst e; exact h rfl
theorem seq_both {l m : List (List UInt8)} {k : Nat} (h1 : k < l.length) (h2 : k < m.length) (e : l.take k = m.take k) (h : l[k] = m[k]) : l.take (k + 1) = m.take (k + 1) := by
  rw [List.take_succ_eq_append_getElem h1, List.take_succ_eq_append_getElem h2, e, h]

set_option maxHeartbeats 800000 in
theorem lawsEqStringS (a1 a2 : Option Addr) (c1 c2 : Nat) (l1 l2 : List (List UInt8)) (w : World) (h1 : l1.length ≤ maxLen) (h2 : l2.length ≤ maxLen) (r1 : Row w a1 (l1.map sval)) (r2 : Row w a2 (l2.map sval)) :
    Calls Try.prog 35 #[.slice a1 l1.length c1, .slice a2 l2.length c2] w fun e w' => e = .returned (.bool (l1 == l2)) ∧ ∃ n, w' = w.drewN n := by
  unfold maxLen at h1 h2
  by_cases hl : l1.length = l2.length
  · have hlB : ((l1.length : Int) != (l2.length : Int)) = false := by simp [hl]
    have HL := Lib.hid hl
    have hll : l1.length ≤ l2.length := by omega
    clear hl
    have R1 := Lib.hid r1
    have R2 := Lib.hid r2
    clear r1 r2
    go_enter Try.func35, Try.ntmps35
    go_wp2
    go_loopw [5] (fun i wr => ∃ k n : Nat, k ≤ l1.length ∧ i = .int .i64 k ∧ wr = w.drewN n ∧ Hid (l1.take k = l2.take k)) (fun i _ => l1.length - (intOf i).toNat)
    case atStart => exact ⟨0, 0, Nat.zero_le _, rfl, rfl, Lib.hid rfl⟩
    case round =>
      obtain ⟨k, n, hk, rfl, rfl, H⟩ := hrel
      by_cases hlt : k < l1.length
      · have hlt2 : k < l2.length := by omega
        obtain ⟨b1, o1, rfl, q1⟩ := R1.out.at (i := k) (by simpa using hlt)
        obtain ⟨b2, o2, rfl, q2⟩ := R2.out.at (i := k) (by simpa using hlt2)
        rw [sval_at hlt] at q1
        rw [sval_at hlt2] at q2
        have E1 := Lib.hid (seq_at hlt hlt2)
        have E2 := Lib.hid (seq_both hlt hlt2 H.out)
        have e1 : (strL l1[k]).toList = l1[k] := ByteArray.toList_mk _
        have e2 : (strL l2[k]).toList = l2[k] := ByteArray.toList_mk _
        by_cases hxy : l1[k] = l2[k]
        · have hB : ((strL l1[k]).toList == (strL l2[k]).toList) = true := by rw [e1, e2]; simpa using hxy
          have E3 := Lib.hid (E2.out hxy)
          clear hxy e1 e2
          generalize strL l1[k] = x at *
          generalize strL l2[k] = y at *
          go_wp2
          go_quiet (fail)
          go_wp2
          go_roundw
          case rel => exact ⟨k + 1, _, by omega, by go_num, rfl, E3⟩
          case measure => simp [intOf]; omega
        · have hB : ((strL l1[k]).toList == (strL l2[k]).toList) = false := by rw [e1, e2]; simpa using hxy
          have E3 := Lib.hid (E1.out hxy)
          clear hxy e1 e2
          generalize strL l1[k] = x at *
          generalize strL l2[k] = y at *
          go_wp2
          go_quiet (fail)
          go_wp2
          go_ret
          exact ⟨ret_bool E3.out.symm, _, World.drewN_drewN _ _ _⟩
      · have E3 := Lib.hid (seq_take HL.out k (by omega) H.out)
        go_wp2
        go_ret
        exact ⟨ret_bool E3.out.symm, n, rfl⟩
  · have HE : Hid ((l1 == l2) = false) := Lib.hid (by rw [beq_eq_false_iff_ne]; intro e; subst e; exact hl rfl)
    have hlB : ((l1.length : Int) != (l2.length : Int)) = true := by simp; omega
    clear hl
    go_enter Try.func35, Try.ntmps35
    go_wp2
    go_ret
    exact ⟨ret_bool HE.out.symm, 0, rfl⟩

/-- The marks k, k+1, .. (as texts). -/
def marksS (k n : Nat) : List Value := (List.range n).map fun i => mval (k + i)
theorem marksS_length (k n : Nat) : (marksS k n).length = n := by simp [marksS]
theorem marksS_succ (k n : Nat) : marksS k (n + 1) = marksS k n ++ [mval (k + n)] := by simp [marksS, List.range_succ]
theorem marksS_at {k n i : Nat} (h : i < n) : (marksS k n)[i]? = some (mval (k + i)) := by simp [marksS, h]
def markRowS (k j : Nat) (xs : List Value) : List Value := marksS k j ++ xs.drop j
theorem markRowS_zero (k : Nat) (xs : List Value) : markRowS k 0 xs = xs := by simp [markRowS, marksS]
theorem markRowS_set (k j : Nat) (xs : List Value) (h : j < xs.length) : (markRowS k j xs).set j (mval (k + j)) = markRowS k (j + 1) xs := by
  unfold markRowS
  rw [marksS_succ, List.set_append_right _ _ (by simp [marksS_length])]
  rw [show j - (marksS k j).length = 0 from by simp [marksS_length], List.drop_eq_getElem_cons h, List.set_cons_zero]
  simp
theorem markRowS_done (k : Nat) (xs : List Value) : markRowS k xs.length xs = marksS k xs.length := by simp [markRowS]
theorem markRowS_length (k j : Nat) (xs : List Value) (h : j ≤ xs.length) : (markRowS k j xs).length = xs.length := by simp [markRowS, marksS_length]; omega

set_option maxHeartbeats 800000 in
theorem lawsMarkStringS (base g n cap k : Nat) (xs : List Value) (w : World) (hk : k + n ≤ 4611686018427387904) (hown : w.ownsRow base 9 1 (.slice (some ⟨g, 0, none⟩) n cap) n xs) :
    Calls Try.prog 36 #[.slice (some ⟨g, 0, none⟩) n cap, .int .i64 k] w fun e w' => e = .returned (.int .i64 ((k + n : Nat) : Int)) ∧ w'.ownsRow base 9 1 (.slice (some ⟨g, 0, none⟩) n cap) n (marksS k n) ∧ w.grownBy w' (some g) := by
  have hx : xs.length = n := by simpa using hown.1
  subst hx
  have H0 := Lib.hid hown
  clear hown
  go_enter Try.func36, Try.ntmps36
  go_wp2
  go_loopw [1, 5] (fun kv i wr => ∃ j : Nat, j ≤ xs.length ∧ kv = .int .i64 ((k + j : Nat) : Int) ∧ i = .int .i64 j ∧ wr.ownsRow base 9 1 (.slice (some ⟨g, 0, none⟩) xs.length cap) xs.length (markRowS k j xs) ∧ w.grownBy wr (some g)) (fun _ i _ => xs.length - (intOf i).toNat)
  case atStart => exact ⟨0, Nat.zero_le _, rfl, rfl, by rw [markRowS_zero]; exact H0.out, World.grownBy.refl _ _⟩
  case round =>
    obtain ⟨j, hj, rfl, rfl, hown, hg⟩ := hrel
    by_cases hlt : j < xs.length
    · have C := Lib.hid (lawsMarkText (k + j) wr (by omega))
      have hadd : ((k + j : Nat) : Int) = (k : Int) + (j : Int) := by omega
      go_wp2_with fail
      rw [← hadd]
      refine C.out.mono ?_
      rintro e w2 ⟨rfl, hb2⟩
      rw [hadd]
      have O2 := own_below hown hb2
      have hf := O2.frozenAt j
      have hc : w2.cell? ⟨g, j, none⟩ = some ((markRowS k j xs)[j]'(by rw [markRowS_length _ _ _ hj]; exact hlt)) := by
        rw [O2.cellAt j (by omega), List.getElem?_eq_getElem]
      have st := O2.stored j (mval (k + j))
      rw [markRowS_set k j xs hlt] at st
      have R := Lib.hid (And.intro st.1 (grown_trans (grown_trans hg (below_grown hb2 (some g))) st.2))
      clear st hown hg O2 hb2 C
      unfold mval at R ⊢
      generalize strL (markL (k + j)) = y at *
      go_wp2
      go_roundw
      case rel => exact ⟨j + 1, by omega, by go_num, by go_num, R.out.1, R.out.2⟩
      case measure => simp [intOf]; omega
    · have hj' : j = xs.length := by omega
      subst hj'
      rw [markRowS_done] at hown
      have R := Lib.hid (And.intro hown hg)
      clear hown hg
      go_wp2
      go_ret
      exact ⟨rfl, R.out.1, R.out.2⟩

theorem cell_below {w w' : World} {a : Addr} {v : Value} (h : w.cell? a = some v) (hb : Below w.heap.size w w') : w'.cell? a = some v := (hb.cell (block_lt_of_cell h)).trans h

set_option maxHeartbeats 800000 in
theorem lawsHeldStringS (a : Option Addr) (n cap k : Nat) (w : World) (hk : k + n ≤ 4611686018427387904) (r : Row w a (marksS k n)) :
    Calls Try.prog 43 #[.slice a n cap, .int .i64 k] w fun e w' => e = .returned (.int .i64 ((k + n : Nat) : Int)) ∧ Below w.heap.size w w' := by
  have R := Lib.hid r
  clear r
  go_enter Try.func43, Try.ntmps43
  go_wp2
  go_loopw [1, 5] (fun kv i wr => ∃ j : Nat, j ≤ n ∧ kv = .int .i64 ((k + j : Nat) : Int) ∧ i = .int .i64 j ∧ Below w.heap.size w wr) (fun _ i _ => n - (intOf i).toNat)
  case atStart => exact ⟨0, Nat.zero_le _, rfl, rfl, Below.refl _ _⟩
  case round =>
    obtain ⟨j, hj, rfl, rfl, hb⟩ := hrel
    by_cases hlt : j < n
    · obtain ⟨b1, o1, rfl, q1⟩ := (R.out.below hb).at (i := j) (by simpa [marksS_length] using hlt)
      rw [marksS_at hlt] at q1
      have C : Hid (∀ w, Calls Try.prog 82 #[.int .i64 ((k : Int) + (j : Int))] w fun e w' => e = .returned (mval (k + j)) ∧ Below w.heap.size w w') := Lib.hid (fun w => by
        have := lawsMarkText (k + j) w (by omega)
        rw [show ((k + j : Nat) : Int) = (k : Int) + (j : Int) from by omega] at this
        exact this)
      have hsz := hb.size
      have HB := Lib.hid hb
      clear hb
      unfold mval at q1 C
      generalize strL (markL (k + j)) = y at *
      have hB : (y.toList == y.toList) = true := by simp
      have hq0 : wr.drew.cell? ⟨b1, o1 + j, none⟩ = some (.string y) := q1
      go_wp2
      go_region_with (go_at_call 82; refine (C.out _).mono ?_; rintro e w2 ⟨rfl, hb2⟩; have hq2 := cell_below hq0 hb2)
      all_goals
        go_wp2
        go_roundw
        case rel => exact ⟨j + 1, by omega, by go_num, by go_num, below_seq HB.out ((Below.refl _ _).drew.trans hb2)⟩
        case measure => simp [intOf]; omega
    · have hj' : j = n := by omega
      subst hj'
      go_wp2
      go_ret
      exact ⟨rfl, hb⟩

set_option maxHeartbeats 400000 in
theorem lawsMarkStringSNil (k : Nat) (w : World) :
    Calls Try.prog 36 #[.slice none 0 0, .int .i64 k] w fun e w' => e = .returned (.int .i64 k) ∧ w = w' := by
  go_enter Try.func36, Try.ntmps36
  go_wp2
  go_loop [1, 5] (fun kv i => kv = .int .i64 k ∧ i = .int .i64 0) (fun _ _ => 0)
  case atStart => exact ⟨rfl, rfl⟩
  case round =>
    obtain ⟨rfl, rfl⟩ := hrel
    go_wp2
    go_ret
    exact ⟨rfl, rfl⟩
end Go.Proofs.Ytfdlmpjccoaejaa
