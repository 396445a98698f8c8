/- Bytes in one. Written by tools/join2.py. -/
import Derived.Test.YtmkgddbdkpkgpaaJS1
import Derived.Test.YtmkgddbdkpkgpaaJS2
import Derived.Deep.QuietTactic
import Derived.BigQuiet
section
namespace Go.Proofs.Ytmkgddbdkpkgpaa
open Go.RowKit
set_option linter.unusedVariables false

theorem beq_take {l m : List UInt8} (hl : l.length = m.length) (k : Nat) (hk : l.length ≤ k) (h : l.take k = m.take k) : (l == m) = true := by
  rw [List.take_of_length_le hk, List.take_of_length_le (by omega)] at h; simp [h]
theorem beq_at {l m : List UInt8} {k : Nat} (h1 : k < l.length) (h2 : k < m.length) (h : l[k].toNat ≠ m[k].toNat) : (l == m) = false := by
  rw [beq_eq_false_iff_ne]; intro e; subst e; exact h rfl
theorem take_both {l m : List UInt8} {k : Nat} (h1 : k < l.length) (h2 : k < m.length) (e : l.take k = m.take k) (h : l[k].toNat = m[k].toNat) : l.take (k + 1) = m.take (k + 1) := by
  rw [List.take_succ_eq_append_getElem h1, List.take_succ_eq_append_getElem h2, e, UInt8.toNat_inj.1 h]

set_option maxHeartbeats 800000 in
theorem lawsEqByteS (a1 a2 : Option Addr) (c1 c2 : Nat) (l1 l2 : List UInt8) (w : World) (h1 : l1.length ≤ maxLen) (h2 : l2.length ≤ maxLen) (r1 : Row w a1 (l1.map bval)) (r2 : Row w a2 (l2.map bval)) :
    Calls Try.prog 66 #[.slice a1 l1.length c1, .slice a2 l2.length c2] w fun e w' => e = .returned (.bool (l1 == l2)) ∧ ∃ n, w' = w.drewN n := by
  unfold maxLen at h1 h2
  by_cases hl : l1.length = l2.length
  · have hlB : ((l1.length : Int) != (l2.length : Int)) = false := by simp [hl]
    have HL := Lib.hid hl
    have hll : l1.length ≤ l2.length := by omega
    clear hl
    have R1 := Lib.hid r1
    have R2 := Lib.hid r2
    clear r1 r2
    go_enter Try.func66, Try.ntmps66
    go_wp2
    go_loopw [5] (fun i wr => ∃ k n : Nat, k ≤ l1.length ∧ i = .int .i64 k ∧ wr = w.drewN n ∧ Hid (l1.take k = l2.take k)) (fun i _ => l1.length - (intOf i).toNat)
    case atStart => exact ⟨0, 0, Nat.zero_le _, rfl, rfl, Lib.hid rfl⟩
    case round =>
      obtain ⟨k, n, hk, rfl, rfl, H⟩ := hrel
      by_cases hlt : k < l1.length
      · have hlt2 : k < l2.length := by omega
        obtain ⟨b1, o1, rfl, q1⟩ := R1.out.at (i := k) (by simpa using hlt)
        obtain ⟨b2, o2, rfl, q2⟩ := R2.out.at (i := k) (by simpa using hlt2)
        rw [bval_at hlt] at q1
        rw [bval_at hlt2] at q2
        have hc1 := q1
        have hc2 := q2
        clear q1 q2
        have E1 := Lib.hid (beq_at hlt hlt2)
        have E2 := Lib.hid (take_both hlt hlt2 H.out)
        generalize l1[k].toNat = x at *
        generalize l2[k].toNat = y at *
        by_cases hxy : x = y
        · subst hxy
          have E3 := Lib.hid (E2.out rfl)
          go_wp2
          go_quiet (fail)
          go_wp2
          go_roundw
          case rel => exact ⟨k + 1, _, by omega, by go_num, rfl, E3⟩
          case measure => simp [intOf]; omega
        · have hB : ((x : Int) != (y : Int)) = true := by simp; omega
          have E3 := Lib.hid (E1.out hxy)
          go_wp2
          go_quiet (fail)
          go_wp2
          go_ret
          exact ⟨ret_bool E3.out.symm, _, World.drewN_drewN _ _ _⟩
      · have E3 := Lib.hid (beq_take HL.out k (by omega) H.out)
        go_wp2
        go_ret
        exact ⟨ret_bool E3.out.symm, n, rfl⟩
  · have HE : Hid ((l1 == l2) = false) := Lib.hid (by rw [beq_eq_false_iff_ne]; intro e; subst e; exact hl rfl)
    have hlB : ((l1.length : Int) != (l2.length : Int)) = true := by simp; omega
    clear hl
    go_enter Try.func66, Try.ntmps66
    go_wp2
    go_ret
    exact ⟨ret_bool HE.out.symm, 0, rfl⟩

/-- The marks k, k+1, .. (as bytes). -/
def marks (k n : Nat) : List UInt8 := (List.range n).map fun i => UInt8.ofNat (k + i)
theorem marks_length (k n : Nat) : (marks k n).length = n := by simp [marks]
theorem marks_succ (k n : Nat) : marks k (n + 1) = marks k n ++ [UInt8.ofNat (k + n)] := by simp [marks, List.range_succ]
def markRow (k j : Nat) (xs : List Value) : List Value := (marks k j).map bval ++ xs.drop j
theorem markRow_zero (k : Nat) (xs : List Value) : markRow k 0 xs = xs := by simp [markRow, marks]
theorem markRow_set (k j : Nat) (xs : List Value) (h : j < xs.length) : (markRow k j xs).set j (.int .u8 (((k : Int) + (j : Int)) % 256)) = markRow k (j + 1) xs := by
  unfold markRow
  rw [marks_succ, List.set_append_right _ _ (by simp [marks_length])]
  rw [show j - ((marks k j).map bval).length = 0 from by simp [marks_length], List.drop_eq_getElem_cons h, List.set_cons_zero]
  simp [bval]
theorem marks_at {k n i : Nat} (h : i < n) : ((marks k n).map bval)[i]? = some (.int .u8 (((k : Int) + (i : Int)) % 256)) := by
  simp [marks, h, bval]
theorem markRow_done (k : Nat) (xs : List Value) : markRow k xs.length xs = (marks k xs.length).map bval := by simp [markRow]
theorem markRow_length (k j : Nat) (xs : List Value) (h : j ≤ xs.length) : (markRow k j xs).length = xs.length := by simp [markRow, marks_length]; omega

set_option maxHeartbeats 800000 in
theorem lawsMarkByteS (base g n cap k : Nat) (xs : List Value) (w : World) (hk : k + n ≤ 4611686018427387904) (hown : w.ownsRow base 5 1 (.slice (some ⟨g, 0, none⟩) n cap) n xs) :
    Calls Try.prog 67 #[.slice (some ⟨g, 0, none⟩) n cap, .int .i64 k] w fun e w' => e = .returned (.int .i64 ((k + n : Nat) : Int)) ∧ w'.ownsRow base 5 1 (.slice (some ⟨g, 0, none⟩) n cap) n ((marks k n).map bval) ∧ w.grownBy w' (some g) := by
  have hx : xs.length = n := by simpa using hown.1
  subst hx
  have H0 := Lib.hid hown
  clear hown
  go_enter Try.func67, Try.ntmps67
  go_wp2
  go_loopw [1, 5] (fun kv i wr => ∃ j : Nat, j ≤ xs.length ∧ kv = .int .i64 ((k + j : Nat) : Int) ∧ i = .int .i64 j ∧ wr.ownsRow base 5 1 (.slice (some ⟨g, 0, none⟩) xs.length cap) xs.length (markRow k j xs) ∧ w.grownBy wr (some g)) (fun _ i _ => xs.length - (intOf i).toNat)
  case atStart => exact ⟨0, Nat.zero_le _, rfl, rfl, by rw [markRow_zero]; exact H0.out, World.grownBy.refl _ _⟩
  case round =>
    obtain ⟨j, hj, rfl, rfl, hown, hg⟩ := hrel
    by_cases hlt : j < xs.length
    · have hf := hown.frozenAt j
      have hc : wr.cell? ⟨g, j, none⟩ = some ((markRow k j xs)[j]'(by rw [markRow_length _ _ _ hj]; exact hlt)) := by
        rw [hown.cellAt j (by omega), List.getElem?_eq_getElem]
      have st := hown.stored j (.int .u8 (((k : Int) + (j : Int)) % 256))
      rw [markRow_set k j xs hlt] at st
      have R := Lib.hid (And.intro st.1 (grown_trans hg st.2))
      clear st hown hg
      go_wp2
      go_roundw
      case rel => exact ⟨j + 1, by omega, by go_num, by go_num, R.out.1, R.out.2⟩
      case measure => simp [intOf]; omega
    · have hj' : j = xs.length := by omega
      subst hj'
      rw [markRow_done] at hown
      have R := Lib.hid (And.intro hown hg)
      clear hown hg
      go_wp2
      go_ret
      exact ⟨rfl, R.out.1, R.out.2⟩
set_option maxHeartbeats 800000 in
theorem lawsMarkByteNil (c k : Nat) (w : World) (hk : k ≤ 4611686018427387904) :
    Calls Try.prog 67 #[.slice none 0 c, .int .i64 k] w fun e w' => e = .returned (.int .i64 k) ∧ w = w' := by
  go_enter Try.func67, Try.ntmps67
  go_wp2
  go_loop [1, 5] (fun kv i => kv = .int .i64 k ∧ i = .int .i64 0) (fun _ _ => 0)
  case atStart => exact ⟨rfl, rfl⟩
  case round =>
    obtain ⟨rfl, rfl⟩ := hrel
    go_wp2
    go_ret
    exact ⟨rfl, rfl⟩
/-- Whatever the call owns is marked: its own block alone turns. -/
theorem lawsMarkByteAny (base n cap k : Nat) (a : Option Addr) (xs : List Value) (w : World) (hk : k + n ≤ 4611686018427387904) (hown : w.ownsRow base 5 1 (.slice a n cap) n xs) :
    Calls Try.prog 67 #[.slice a n cap, .int .i64 k] w fun e w' => e = .returned (.int .i64 ((k + n : Nat) : Int)) ∧ w'.ownsRow base 5 1 (.slice a n cap) n ((marks k n).map bval) ∧ w.grownBy w' (Value.ownBlock (.slice a n cap)) := by
  rcases hown.2 with ⟨hv, hn⟩ | ⟨g, cap', cur, hv, _⟩
  · simp at hv
    obtain ⟨rfl, rfl, rfl⟩ := hv
    refine (lawsMarkByteNil 0 k w (by omega)).mono ?_
    rintro e w' ⟨rfl, rfl⟩
    exact ⟨rfl, ⟨rfl, .inl ⟨rfl, rfl⟩⟩, World.grownBy.refl _ _⟩
  · simp at hv
    obtain ⟨rfl, rfl⟩ := hv
    exact lawsMarkByteS base g n cap k xs w hk hown

set_option maxHeartbeats 800000 in
theorem lawsHeldByteS (a : Option Addr) (n cap k : Nat) (w : World) (hk : k + n ≤ 4611686018427387904) (r : Row w a ((marks k n).map bval)) :
    Calls Try.prog 68 #[.slice a n cap, .int .i64 k] w fun e w' => e = .returned (.int .i64 ((k + n : Nat) : Int)) ∧ w = w' := by
  have R := Lib.hid r
  clear r
  go_enter Try.func68, Try.ntmps68
  go_wp2
  go_loop [1, 5] (fun kv i => ∃ j : Nat, j ≤ n ∧ kv = .int .i64 ((k + j : Nat) : Int) ∧ i = .int .i64 j) (fun _ i => n - (intOf i).toNat)
  case atStart => exact ⟨0, Nat.zero_le _, rfl, rfl⟩
  case round =>
    obtain ⟨j, hj, rfl, rfl⟩ := hrel
    by_cases hlt : j < n
    · obtain ⟨b1, o1, rfl, q1⟩ := R.out.at (i := j) (by simpa [marks_length] using hlt)
      rw [marks_at hlt] at q1
      go_wp2
      go_round
      case rel => exact ⟨j + 1, by omega, by go_num, by go_num⟩
      case measure => simp [intOf]; omega
    · have hj' : j = n := by omega
      subst hj'
      go_wp2
      go_ret
      exact ⟨rfl, rfl⟩

def copyRow (l : List UInt8) (k : Nat) : List Value := (l.take k).map bval ++ List.replicate (l.length - k) (.int .u8 0)
theorem copyRow_length (l : List UInt8) (k : Nat) (h : k ≤ l.length) : (copyRow l k).length = l.length := by unfold copyRow; simp; omega
theorem copyRow_zero (l : List UInt8) : copyRow l 0 = List.replicate l.length (.int .u8 0) := by simp [copyRow]
theorem copyRow_set (l : List UInt8) (k : Nat) (h : k < l.length) : (copyRow l k).set k (.int .u8 (l[k].toNat : Int)) = copyRow l (k + 1) := by
  unfold copyRow
  rw [List.take_succ_eq_append_getElem h, List.set_append_right _ _ (by simp; omega)]
  obtain ⟨m, hm⟩ : ∃ m, l.length - k = m + 1 := ⟨l.length - k - 1, by omega⟩
  rw [hm, show l.length - (k + 1) = m from by omega, List.replicate_succ]
  rw [show k - ((l.take k).map bval).length = 0 from by simp; omega]
  rw [List.set_cons_zero, List.map_append, List.append_assoc]; rfl
theorem copyRow_done (l : List UInt8) : copyRow l l.length = l.map bval := by unfold copyRow; simp

set_option maxHeartbeats 800000 in
theorem lawsToByteS (a : Option Addr) (cap : Nat) (l : List UInt8) (w : World) (hl : l.length ≤ 281474976710656) (r : Row w a (l.map bval)) :
    Calls Try.prog 65 #[.slice a l.length cap] w fun e w' => e = .returned (.slice (some ⟨w.heap.size, 0, none⟩) l.length l.length) ∧
      w'.ownsRow w.heap.size 5 1 (.slice (some ⟨w.heap.size, 0, none⟩) l.length l.length) l.length (l.map bval) ∧ Below w.heap.size w w' := by
  have R := Lib.hid r
  clear r
  obtain ⟨i0, hi, hz0, hz1, hz2⟩ := info_parts Try.info5
  go_enter Try.func65, Try.ntmps65
  go_wp2_with (at_make; refine wpList_make_full _ rfl _ _ 22 rfl w.heap.size 5 i0 (.int .u8 0) 1 Try.underlying22 hi hz0 hz1 .i64 .i64 _ _ l.length rfl rfl rfl rfl (by rw [hz2]; omega) (by unfold maxLen; omega) (Nat.le_refl _) ?_)
  clear hi hz0 hz1 hz2
  intro w1 hown hgr
  have hb1 : Below w.heap.size w w1 := grown_below hgr
  rw [toList_madeCells_one, ← copyRow_zero] at hown
  clear hgr
  go_wp2
  go_loopw [4] (fun i wr => ∃ k : Nat, k ≤ l.length ∧ i = .int .i64 k ∧ wr.ownsRow w.heap.size 5 1 (.slice (some ⟨w.heap.size, 0, none⟩) l.length l.length) l.length (copyRow l k) ∧ Below w.heap.size w wr) (fun i _ => l.length - (intOf i).toNat)
  case atStart => exact ⟨0, Nat.zero_le _, rfl, hown, hb1⟩
  case round =>
    clear hown hb1
    obtain ⟨k, hk, rfl, hown, hb⟩ := hrel
    by_cases hlt : k < l.length
    · obtain ⟨b1, o1, rfl, q1⟩ := (R.out.below hb).at (i := k) (by simpa using hlt)
      rw [bval_at hlt] at q1
      have hf := hown.frozenAt k
      have hc : wr.cell? ⟨w.heap.size, k, none⟩ = some ((copyRow l k)[k]'(by rw [copyRow_length _ _ hk]; exact hlt)) := by
        rw [hown.cellAt k (by omega), List.getElem?_eq_getElem]
      have st := hown.stored k (.int .u8 (l[k].toNat : Int))
      rw [copyRow_set l k hlt] at st
      have R2 := Lib.hid (And.intro st.1 (hb.setCell (p := ⟨w.heap.size, k, none⟩) (Nat.le_refl _) (.int .u8 (l[k].toNat : Int))))
      clear st hown hb
      go_wp2
      go_roundw
      case rel => exact ⟨k + 1, by omega, by go_num, R2.out.1, R2.out.2⟩
      case measure => simp [intOf]; omega
    · have hk' : k = l.length := by omega
      subst hk'
      rw [copyRow_done] at hown
      have R2 := Lib.hid (And.intro hown hb)
      clear hown hb
      go_wp2
      go_ret
      exact ⟨rfl, R2.out.1, R2.out.2⟩

end Go.Proofs.Ytmkgddbdkpkgpaa
end
