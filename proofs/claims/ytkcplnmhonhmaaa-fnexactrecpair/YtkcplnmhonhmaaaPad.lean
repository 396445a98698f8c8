/- What 'Pad' answers, in the model of the document and in the program: a new row of 33 bytes. -/
import Derived.Test.YtkcplnmhonhmaaaWord
import Derived.Test.YtkcplnmhonhmaaaBase
import Derived.Test.YtkcplnmhonhmaaaBytes
import Derived.Lib.BufferWrite
namespace Go.Proofs.Ytkcplnmhonhmaaa
open Go.RowKit
set_option linter.unusedVariables false

def padL (l : List UInt8) : List UInt8 := if wordB l then UInt8.ofNat l.length :: (l ++ List.replicate (32 - l.length) 0) else List.replicate 33 0
/-- 33 zero bytes, as cells. -/
def zero33 : List Value := List.replicate 33 (.int .u8 0)
def padRow (l : List UInt8) (k : Nat) : List Value := .int .u8 (l.length : Int) :: ((l.take k).map bval ++ List.replicate (32 - k) (.int .u8 0))
theorem zero33_pad (l : List UInt8) (h : wordB l = false) : zero33 = (padL l).map bval := by
  unfold padL; rw [h]; rfl
theorem word_len {l : List UInt8} (h : wordB l = true) : 1 ≤ l.length ∧ l.length ≤ 32 := by
  unfold wordB at h; simp only [Bool.and_eq_true, decide_eq_true_eq] at h; exact h.1
theorem padL_length (l : List UInt8) : (padL l).length = 33 := by
  unfold padL
  cases h : wordB l
  · simp
  · have := word_len h; simp; omega
theorem zero33_set (l : List UInt8) : zero33.set 0 (.int .u8 (l.length : Int)) = padRow l 0 := by simp [zero33, padRow, List.replicate_succ]
theorem padRow_length (l : List UInt8) (k : Nat) (h : k ≤ l.length) (h2 : l.length ≤ 32) : (padRow l k).length = 33 := by simp [padRow]; omega
theorem padRow_set (s : ByteArray) (k : Nat) (h : k < s.size) (h2 : s.size ≤ 32) : (padRow s.data.toList k).set (k + 1) (.int .u8 (s[k].toNat : Int)) = padRow s.data.toList (k + 1) := by
  have hl := len_data s
  unfold padRow
  rw [take_snoc s k h, List.set_cons_succ, List.set_append_right _ _ (by simp; omega)]
  obtain ⟨m, hm⟩ : ∃ m, 32 - k = m + 1 := ⟨32 - k - 1, by omega⟩
  rw [hm, show 32 - (k + 1) = m from by omega, List.replicate_succ]
  rw [show k - ((s.data.toList.take k).map bval).length = 0 from by simp; omega]
  rw [List.set_cons_zero, List.map_append, List.append_assoc]; rfl
theorem padRow_done (l : List UInt8) (h : wordB l = true) : padRow l l.length = (padL l).map bval := by
  have := word_len h
  unfold padRow padL; rw [h]
  simp [bval]; omega

set_option maxHeartbeats 800000 in
theorem specPad (s : ByteArray) (w : World) (hs : s.size ≤ maxLen) :
    Calls Try.prog 49 #[.string s] w fun e w' => e = .returned (.slice (some ⟨w.heap.size, 0, none⟩) 33 33) ∧
      w'.ownsRow w.heap.size 5 1 (.slice (some ⟨w.heap.size, 0, none⟩) 33 33) 33 ((padL s.data.toList).map bval) ∧ Below w.heap.size w w' := by
  have hs' := hs
  unfold maxLen at hs
  have HL := Lib.hid (len_data s)
  obtain ⟨i0, hi, hz0, hz1, hz2⟩ := info_parts Try.info5
  go_enter Try.func49, Try.ntmps49
  go_wp2_with (at_make; refine wpList_make_full _ rfl _ _ 22 rfl w.heap.size 5 i0 (.int .u8 0) 1 Try.underlying22 hi hz0 hz1 .i64 .i64 _ _ 33 rfl rfl rfl rfl (by rw [hz2]; decide) (by unfold maxLen; decide) (Nat.le_refl _) ?_)
  clear hi hz0 hz1 hz2
  intro w1 hown hgr
  have hb1 : Below w.heap.size w w1 := grown_below hgr
  have hown : w1.ownsRow w.heap.size 5 1 (.slice (some ⟨w.heap.size, 0, none⟩) 33 33) 33 zero33 := by
    have e := toList_madeCells_one (.int .u8 0) 33
    unfold zero33; rw [← e]; exact hown
  clear hgr
  cases hw : wordB s.data.toList
  · have W := Lib.hid hw
    clear hw
    rw [zero33_pad _ W.out] at hown
    have R := Lib.hid (And.intro hown hb1)
    clear hown hb1
    go_wp2_with fail
    refine (specWordOk s _ hs').mono ?_
    rintro e w' ⟨rfl, rfl⟩
    rw [W.out]
    go_wp2
    go_ret
    exact ⟨rfl, R.out.1, R.out.2⟩
  · have W := Lib.hid hw
    clear hw
    have hwl := word_len W.out
    rw [HL.out] at hwl
    obtain ⟨hw1, hw2⟩ := hwl
    have hf := hown.frozenAt 0
    have hc : w1.cell? ⟨w.heap.size, 0, none⟩ = some (.int .u8 0) := hown.cellAt 0 (by decide)
    have st := hown.stored 0 (.int .u8 (s.size : Int))
    rw [← HL.out, zero33_set, HL.out] at st
    have R := Lib.hid (And.intro st.1 (hb1.setCell (p := ⟨w.heap.size, 0, none⟩) (Nat.le_refl _) (.int .u8 (s.size : Int))))
    clear st hown hb1
    go_wp2_with fail
    refine (specWordOk s _ hs').mono ?_
    rintro e w' ⟨rfl, rfl⟩
    rw [W.out]
    go_wp2
    go_loopw [4] (fun i wr => ∃ k : Nat, k ≤ s.size ∧ i = .int .i64 k ∧ wr.ownsRow w.heap.size 5 1 (.slice (some ⟨w.heap.size, 0, none⟩) 33 33) 33 (padRow s.data.toList k) ∧ Below w.heap.size w wr) (fun i _ => s.size - (intOf i).toNat)
    case atStart => exact ⟨0, Nat.zero_le _, rfl, R.out.1, R.out.2⟩
    case round =>
      clear hf hc R
      obtain ⟨k, hk, rfl, hown, hb⟩ := hrel
      by_cases hlt : k < s.size
      · have hf := hown.frozenAt (k + 1)
        have hc : wr.cell? ⟨w.heap.size, k + 1, none⟩ = some ((padRow s.data.toList k)[k + 1]'(by rw [padRow_length _ _ (by rw [HL.out]; omega) (by rw [HL.out]; omega)]; omega)) := by
          rw [hown.cellAt (k + 1) (by omega), List.getElem?_eq_getElem]
        have st := hown.stored (k + 1) (.int .u8 (s[k].toNat : Int))
        rw [padRow_set s k hlt hw2] at st
        have R := Lib.hid (And.intro st.1 (hb.setCell (p := ⟨w.heap.size, k + 1, none⟩) (Nat.le_refl _) (.int .u8 (s[k].toNat : Int))))
        clear st hown hb
        go_wp2
        go_roundw
        case rel => exact ⟨k + 1, by omega, by go_num, R.out.1, R.out.2⟩
        case measure => simp [intOf]; omega
      · have hk' : k = s.size := by omega
        subst hk'
        have e := padRow_done _ W.out
        rw [HL.out] at e
        rw [e] at hown
        have R := Lib.hid (And.intro hown hb)
        clear hown hb e
        go_wp2
        go_ret
        exact ⟨rfl, R.out.1, R.out.2⟩

/-- 'copy(data[off:], s)' into a row that the call owns. -/
theorem copy_own {w : World} {base g n cap : Nat} {xs : List Value} (h : w.ownsRow base 5 1 (.slice (some ⟨g, 0, none⟩) n cap) n xs) (hcap : n = cap) (s : ByteArray) (off m c : Nat) (hm : s.size ≤ m) (hf : off + s.size ≤ n) :
    ∃ w', (∀ ty, (Builtin.copy_ #[22, 9] ty #[.slice (some ⟨g, off, none⟩) m c, .string s]).run Try.prog w = .ok (goInt s.size) w') ∧
      w'.ownsRow base 5 1 (.slice (some ⟨g, 0, none⟩) n cap) n (xs.take off ++ (s.data.toList.map bval ++ xs.drop (off + s.size))) ∧ w.grownBy w' (some g) := by
  subst hcap
  obtain ⟨hx, hr⟩ := h
  rcases hr with ⟨hv, _⟩ | ⟨g', cap', cur, hv, hbg, hg, h1, h2, h3, h4⟩
  · simp at hv
  simp at hv
  obtain ⟨rfl, rfl⟩ := hv
  have hcur : cur.toList = xs := by rw [← h4, List.take_of_length_le (by simp [h3])]
  have hsz : cur.size = n := by simpa using h3
  refine ⟨_, fun ty => Lib.run_copy_row_string w 22 9 ty 5 g off m c s cur 5 Try.underlying22 (by kernel_rfl) hg hm (by omega), ?_, ?_⟩
  · refine ⟨?_, .inr ⟨g, n, _, rfl, hbg, setRow_heap w g cur _ _ _ hg, h1, h2, ?_, ?_⟩⟩
    · have := len_data s
      have hx' : xs.length = n := by simpa using hx
      simp; omega
    · have := len_data s
      have hx' : xs.length = n := by simpa using hx
      rw [hcur]
      simp [Lib.byteCells_length, this]; omega
    · have := len_data s
      have hx' : xs.length = n := by simpa using hx
      rw [hcur, List.take_of_length_le (by simp [Lib.byteCells_length, this]; omega)]
      simp; rfl
  · exact ⟨rfl, rfl, rfl, by simp, fun k _ hk => setRow_other w g k _ (by intro e; subst e; exact hk rfl)⟩
theorem padRow_copy (s : ByteArray) (h2 : s.size ≤ 32) : (padRow s.data.toList 0).take 1 ++ (s.data.toList.map bval ++ (padRow s.data.toList 0).drop (1 + s.size)) = padRow s.data.toList s.size := by
  have hl := len_data s
  unfold padRow
  rw [show s.data.toList.take s.size = s.data.toList from List.take_of_length_le (by omega), Nat.add_comm 1 s.size]
  simp only [List.take_succ_cons, List.take_zero, List.drop_succ_cons, List.map_nil, List.nil_append, List.drop_replicate, Nat.sub_zero, List.cons_append]

set_option maxHeartbeats 800000 in
theorem implPad (s : ByteArray) (w : World) (hs : s.size ≤ maxLen) :
    Calls Try.prog 39 #[.string s] w fun e w' => e = .returned (.slice (some ⟨w.heap.size, 0, none⟩) 33 33) ∧
      w'.ownsRow w.heap.size 5 1 (.slice (some ⟨w.heap.size, 0, none⟩) 33 33) 33 ((padL s.data.toList).map bval) ∧ Below w.heap.size w w' := by
  have hs' := hs
  unfold maxLen at hs
  have HL := Lib.hid (len_data s)
  obtain ⟨i0, hi, hz0, hz1, hz2⟩ := info_parts Try.info5
  go_enter Try.func39, Try.ntmps39
  go_wp2_with (at_make; refine wpList_make_full _ rfl _ _ 22 rfl w.heap.size 5 i0 (.int .u8 0) 1 Try.underlying22 hi hz0 hz1 .i64 .i64 _ _ 33 rfl rfl rfl rfl (by rw [hz2]; decide) (by unfold maxLen; decide) (Nat.le_refl _) ?_)
  clear hi hz0 hz1 hz2
  intro w1 hown hgr
  have hb1 : Below w.heap.size w w1 := grown_below hgr
  have hown : w1.ownsRow w.heap.size 5 1 (.slice (some ⟨w.heap.size, 0, none⟩) 33 33) 33 zero33 := by
    have e := toList_madeCells_one (.int .u8 0) 33
    unfold zero33; rw [← e]; exact hown
  clear hgr
  cases hw : wordB s.data.toList
  · have W := Lib.hid hw
    clear hw
    rw [zero33_pad _ W.out] at hown
    have R := Lib.hid (And.intro hown hb1)
    clear hown hb1
    go_wp2_with fail
    refine (implWordOk s _ hs').mono ?_
    rintro e w' ⟨rfl, rfl⟩
    rw [W.out]
    go_wp2
    go_ret
    exact ⟨rfl, R.out.1, R.out.2⟩
  · have W := Lib.hid hw
    clear hw
    have hwl := word_len W.out
    rw [HL.out] at hwl
    obtain ⟨hw1, hw2⟩ := hwl
    have hf := hown.frozenAt 0
    have hc : w1.cell? ⟨w.heap.size, 0, none⟩ = some (.int .u8 0) := hown.cellAt 0 (by decide)
    have st := hown.stored 0 (.int .u8 (s.size : Int))
    rw [← HL.out, zero33_set, HL.out] at st
    have hb2 := hb1.setCell (p := ⟨w.heap.size, 0, none⟩) (Nat.le_refl _) (.int .u8 (s.size : Int))
    obtain ⟨w3, hcp, hown3, hg3⟩ := copy_own st.1 rfl s 1 32 32 hw2 (by omega)
    rw [padRow_copy s hw2] at hown3
    have e := padRow_done _ W.out
    rw [HL.out] at e
    rw [e] at hown3
    have R := Lib.hid (And.intro hown3 (below_write hb2 hg3 (Nat.le_refl _)))
    clear st hown hb1 hb2 hown3 hg3 e
    go_wp2_with fail
    refine (implWordOk s _ hs').mono ?_
    rintro e w' ⟨rfl, rfl⟩
    rw [W.out]
    go_wp2
    go_ret
    exact ⟨rfl, R.out.1, R.out.2⟩
end Go.Proofs.Ytkcplnmhonhmaaa
