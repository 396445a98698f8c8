/- Pad in one. Written by tools/join2.py. -/
import Derived.Test.YtmndkpicbmffnaaJN25
import Derived.Test.YtmndkpicbmffnaaJN1
import Derived.Test.YtmndkpicbmffnaaJN11
import Derived.Lib.BufferWrite
section
namespace Go.Proofs.Ytmndkpicbmffnaa
open Go.RowKit
set_option linter.unusedVariables false

def padL (l : List UInt8) : List UInt8 := if wordB l then UInt8.ofNat l.length :: (l ++ List.replicate (32 - l.length) 0) else List.replicate 33 0
/-- 33 zero bytes, as cells. -/
def zero33 : List Value := List.replicate 33 (.int .u8 0)
def padRow (l : List UInt8) (k : Nat) : List Value := .int .u8 (l.length : Int) :: ((l.take k).map bval ++ List.replicate (32 - k) (.int .u8 0))
theorem zero33_pad (l : List UInt8) (h : wordB l = false) : zero33 = (padL l).map bval := by
  unfold padL; rw [h]; rfl
theorem word_len {l : List UInt8} (h : wordB l = true) : 1 ≤ l.length ∧ l.length ≤ 32 := by
  unfold wordB at h; simp only [Bool.and_eq_true, decide_eq_true_eq] at h; exact h.1
theorem padL_length (l : List UInt8) : (padL l).length = 33 := by
  unfold padL
  cases h : wordB l
  · simp
  · have := word_len h; simp; omega
theorem zero33_set (l : List UInt8) : zero33.set 0 (.int .u8 (l.length : Int)) = padRow l 0 := by simp [zero33, padRow, List.replicate_succ]
theorem padRow_length (l : List UInt8) (k : Nat) (h : k ≤ l.length) (h2 : l.length ≤ 32) : (padRow l k).length = 33 := by simp [padRow]; omega
theorem padRow_set (s : ByteArray) (k : Nat) (h : k < s.size) (h2 : s.size ≤ 32) : (padRow s.data.toList k).set (k + 1) (.int .u8 (s[k].toNat : Int)) = padRow s.data.toList (k + 1) := by
  have hl := len_data s
  unfold padRow
  rw [take_snoc s k h, List.set_cons_succ, List.set_append_right _ _ (by simp; omega)]
  obtain ⟨m, hm⟩ : ∃ m, 32 - k = m + 1 := ⟨32 - k - 1, by omega⟩
  rw [hm, show 32 - (k + 1) = m from by omega, List.replicate_succ]
  rw [show k - ((s.data.toList.take k).map bval).length = 0 from by simp; omega]
  rw [List.set_cons_zero, List.map_append, List.append_assoc]; rfl
theorem padRow_done (l : List UInt8) (h : wordB l = true) : padRow l l.length = (padL l).map bval := by
  have := word_len h
  unfold padRow padL; rw [h]
  simp [bval]; omega


/-- 'copy(data[off:], s)' into a row that the call owns. -/
theorem copy_own {w : World} {base g n cap : Nat} {xs : List Value} (h : w.ownsRow base 5 1 (.slice (some ⟨g, 0, none⟩) n cap) n xs) (hcap : n = cap) (s : ByteArray) (off m c : Nat) (hm : s.size ≤ m) (hf : off + s.size ≤ n) :
    ∃ w', (∀ ty, (Builtin.copy_ #[22, 9] ty #[.slice (some ⟨g, off, none⟩) m c, .string s]).run Try.prog w = .ok (goInt s.size) w') ∧
      w'.ownsRow base 5 1 (.slice (some ⟨g, 0, none⟩) n cap) n (xs.take off ++ (s.data.toList.map bval ++ xs.drop (off + s.size))) ∧ w.grownBy w' (some g) := by
  subst hcap
  obtain ⟨hx, hr⟩ := h
  rcases hr with ⟨hv, _⟩ | ⟨g', cap', cur, hv, hbg, hg, h1, h2, h3, h4⟩
  · simp at hv
  simp at hv
  obtain ⟨rfl, rfl⟩ := hv
  have hcur : cur.toList = xs := by rw [← h4, List.take_of_length_le (by simp [h3])]
  have hsz : cur.size = n := by simpa using h3
  refine ⟨_, fun ty => Lib.run_copy_row_string w 22 9 ty 5 g off m c s cur 5 Try.underlying22 (by kernel_rfl) hg hm (by omega), ?_, ?_⟩
  · refine ⟨?_, .inr ⟨g, n, _, rfl, hbg, setRow_heap w g cur _ _ _ hg, h1, h2, ?_, ?_⟩⟩
    · have := len_data s
      have hx' : xs.length = n := by simpa using hx
      simp; omega
    · have := len_data s
      have hx' : xs.length = n := by simpa using hx
      rw [hcur]
      simp [Lib.byteCells_length, this]; omega
    · have := len_data s
      have hx' : xs.length = n := by simpa using hx
      rw [hcur, List.take_of_length_le (by simp [Lib.byteCells_length, this]; omega)]
      simp; rfl
  · exact ⟨rfl, rfl, rfl, by simp, fun k _ hk => setRow_other w g k _ (by intro e; subst e; exact hk rfl)⟩
theorem padRow_copy (s : ByteArray) (h2 : s.size ≤ 32) : (padRow s.data.toList 0).take 1 ++ (s.data.toList.map bval ++ (padRow s.data.toList 0).drop (1 + s.size)) = padRow s.data.toList s.size := by
  have hl := len_data s
  unfold padRow
  rw [show s.data.toList.take s.size = s.data.toList from List.take_of_length_le (by omega), Nat.add_comm 1 s.size]
  simp only [List.take_succ_cons, List.take_zero, List.drop_succ_cons, List.map_nil, List.nil_append, List.drop_replicate, Nat.sub_zero, List.cons_append]

end Go.Proofs.Ytmndkpicbmffnaa
end
