/- Pad, Unpad, Cmp in one. Written by tools/join.py. -/
import Derived.Test.YtaedamnhobcdlaaJBase
import Derived.Test.YtaedamnhobcdlaaJSeg
import Derived.Lib.BufferWrite
import Derived.Deep.RegionWith
import Derived.Deep.QuietTactic
import Derived.BigQuiet
import Derived.Laws.Externs
import Derived.Lib.Bytealg
section
namespace Go.Proofs.Ytaedamnhobcdlaa
open Go.RowKit
set_option linter.unusedVariables false

def padL (l : List UInt8) : List UInt8 := if wordB l then UInt8.ofNat l.length :: (l ++ List.replicate (32 - l.length) 0) else List.replicate 33 0
/-- 33 zero bytes, as cells. -/
def zero33 : List Value := List.replicate 33 (.int .u8 0)
def padRow (l : List UInt8) (k : Nat) : List Value := .int .u8 (l.length : Int) :: ((l.take k).map bval ++ List.replicate (32 - k) (.int .u8 0))
theorem zero33_pad (l : List UInt8) (h : wordB l = false) : zero33 = (padL l).map bval := by
  unfold padL; rw [h]; rfl
theorem word_len {l : List UInt8} (h : wordB l = true) : 1 ≤ l.length ∧ l.length ≤ 32 := by
  unfold wordB at h; simp only [Bool.and_eq_true, decide_eq_true_eq] at h; exact h.1
theorem padL_length (l : List UInt8) : (padL l).length = 33 := by
  unfold padL
  cases h : wordB l
  · simp
  · have := word_len h; simp; omega
theorem zero33_set (l : List UInt8) : zero33.set 0 (.int .u8 (l.length : Int)) = padRow l 0 := by simp [zero33, padRow, List.replicate_succ]
theorem padRow_length (l : List UInt8) (k : Nat) (h : k ≤ l.length) (h2 : l.length ≤ 32) : (padRow l k).length = 33 := by simp [padRow]; omega
theorem padRow_set (s : ByteArray) (k : Nat) (h : k < s.size) (h2 : s.size ≤ 32) : (padRow s.data.toList k).set (k + 1) (.int .u8 (s[k].toNat : Int)) = padRow s.data.toList (k + 1) := by
  have hl := len_data s
  unfold padRow
  rw [take_snoc s k h, List.set_cons_succ, List.set_append_right _ _ (by simp; omega)]
  obtain ⟨m, hm⟩ : ∃ m, 32 - k = m + 1 := ⟨32 - k - 1, by omega⟩
  rw [hm, show 32 - (k + 1) = m from by omega, List.replicate_succ]
  rw [show k - ((s.data.toList.take k).map bval).length = 0 from by simp; omega]
  rw [List.set_cons_zero, List.map_append, List.append_assoc]; rfl
theorem padRow_done (l : List UInt8) (h : wordB l = true) : padRow l l.length = (padL l).map bval := by
  have := word_len h
  unfold padRow padL; rw [h]
  simp [bval]; omega


/-- 'copy(data[off:], s)' into a row that the call owns. -/
theorem copy_own {w : World} {base g n cap : Nat} {xs : List Value} (h : w.ownsRow base 5 1 (.slice (some ⟨g, 0, none⟩) n cap) n xs) (hcap : n = cap) (s : ByteArray) (off m c : Nat) (hm : s.size ≤ m) (hf : off + s.size ≤ n) :
    ∃ w', (∀ ty, (Builtin.copy_ #[22, 9] ty #[.slice (some ⟨g, off, none⟩) m c, .string s]).run Try.prog w = .ok (goInt s.size) w') ∧
      w'.ownsRow base 5 1 (.slice (some ⟨g, 0, none⟩) n cap) n (xs.take off ++ (s.data.toList.map bval ++ xs.drop (off + s.size))) ∧ w.grownBy w' (some g) := by
  subst hcap
  obtain ⟨hx, hr⟩ := h
  rcases hr with ⟨hv, _⟩ | ⟨g', cap', cur, hv, hbg, hg, h1, h2, h3, h4⟩
  · simp at hv
  simp at hv
  obtain ⟨rfl, rfl⟩ := hv
  have hcur : cur.toList = xs := by rw [← h4, List.take_of_length_le (by simp [h3])]
  have hsz : cur.size = n := by simpa using h3
  refine ⟨_, fun ty => Lib.run_copy_row_string w 22 9 ty 5 g off m c s cur 5 Try.underlying22 (by kernel_rfl) hg hm (by omega), ?_, ?_⟩
  · refine ⟨?_, .inr ⟨g, n, _, rfl, hbg, setRow_heap w g cur _ _ _ hg, h1, h2, ?_, ?_⟩⟩
    · have := len_data s
      have hx' : xs.length = n := by simpa using hx
      simp; omega
    · have := len_data s
      have hx' : xs.length = n := by simpa using hx
      rw [hcur]
      simp [Lib.byteCells_length, this]; omega
    · have := len_data s
      have hx' : xs.length = n := by simpa using hx
      rw [hcur, List.take_of_length_le (by simp [Lib.byteCells_length, this]; omega)]
      simp; rfl
  · exact ⟨rfl, rfl, rfl, by simp, fun k _ hk => setRow_other w g k _ (by intro e; subst e; exact hk rfl)⟩
theorem padRow_copy (s : ByteArray) (h2 : s.size ≤ 32) : (padRow s.data.toList 0).take 1 ++ (s.data.toList.map bval ++ (padRow s.data.toList 0).drop (1 + s.size)) = padRow s.data.toList s.size := by
  have hl := len_data s
  unfold padRow
  rw [show s.data.toList.take s.size = s.data.toList from List.take_of_length_le (by omega), Nat.add_comm 1 s.size]
  simp only [List.take_succ_cons, List.take_zero, List.drop_succ_cons, List.map_nil, List.nil_append, List.drop_replicate, Nat.sub_zero, List.cons_append]

end Go.Proofs.Ytaedamnhobcdlaa
end

section
namespace Go.Proofs.Ytaedamnhobcdlaa
open Go.RowKit
set_option linter.unusedVariables false

/-- string(b) of a slice of bytes that lies in memory, cut or not. -/
theorem conv_row {w : World} {b off n cap : Nat} {l : List UInt8} (hn : l.length = n) (h : ∀ i, i < l.length → w.cell? ⟨b, off + i, none⟩ = (l.map bval)[i]?) :
    (convert 22 9 (.slice (some ⟨b, off, none⟩) n cap)).run Try.prog w = .ok (.string (strL l)) w := by
  have e : strL l = strOfNums (l.map fun c => (c.toNat : Int)) := by
    unfold strL strOfNums; congr 1; simp [Function.comp_def]
  rw [e]
  refine run_convert_bytes_arg w 22 5 Try.underlying22 Try.underlying5 b off n cap _ (by simpa using hn) ?_ 9 Try.underlying9
  intro i hi
  rw [h i (by omega)]
  have hl : i < l.length := by omega
  simp [bval, hl]

theorem strL_toList (l : List UInt8) : (strL l).toList = l := ByteArray.toList_mk l


/-- The word that a padded form tells of. -/
def inner (d : List UInt8) : List UInt8 := (d.drop 1).take (d.getD 0 0).toNat
def unpB (d : List UInt8) : Bool := decide (d.length = 33) && decide ((d.getD 0 0).toNat ≤ 32) && wordB (inner d) && (padL (inner d) == d)
def unpL (d : List UInt8) : List UInt8 := if unpB d then inner d else []
theorem ret_pair {a b : ByteArray} {c d : Bool} (h : a = b) (k : c = d) : Ending.returned (.tuple #[.string a, .bool c]) = .returned (.tuple #[.string b, .bool d]) := by rw [h, k]
theorem unp_no {d : List UInt8} (h : unpB d = false) : unpL d = [] := by unfold unpL; rw [h]; rfl
theorem unp_yes {d : List UInt8} (h : unpB d = true) : unpL d = inner d := by unfold unpL; rw [h]; rfl
theorem unp_len {d : List UInt8} (h : d.length ≠ 33) : unpB d = false := by unfold unpB; simp [h]
theorem unp_big {d : List UInt8} (h : ¬ (d.getD 0 0).toNat ≤ 32) : unpB d = false := by unfold unpB; simp only [h, decide_false, Bool.and_false, Bool.false_and]
theorem unp_small {d : List UInt8} (h : (d.getD 0 0).toNat < 1) : unpB d = false := by
  have e : inner d = [] := by unfold inner; rw [show (d.getD 0 0).toNat = 0 from by omega, List.take_zero]
  unfold unpB; rw [e]; simp [wordB]
theorem unp_word {d : List UInt8} (h : wordB (inner d) = false) : unpB d = false := by unfold unpB; simp only [h, Bool.and_false, Bool.false_and]
theorem unp_at {d : List UInt8} (h1 : d.length = 33) (h2 : (d.getD 0 0).toNat ≤ 32) (h3 : wordB (inner d) = true) : unpB d = (padL (inner d) == d) := by
  unfold unpB; simp only [h1, h2, h3, decide_true, Bool.true_and]
theorem inner_length {d : List UInt8} (h1 : d.length = 33) (h2 : (d.getD 0 0).toNat ≤ 32) : (inner d).length = (d.getD 0 0).toNat := by
  unfold inner; rw [List.length_take, List.length_drop, h1]; omega
theorem inner_row {w : World} {b off : Nat} {d : List UInt8} (h1 : d.length = 33) (h : ∀ i, i < (d.map bval).length → w.cell? ⟨b, off + i, none⟩ = (d.map bval)[i]?) :
    ∀ i, i < (inner d).length → w.cell? ⟨b, off + 1 + i, none⟩ = ((inner d).map bval)[i]? := by
  intro i hi
  have hi' : i < (d.getD 0 0).toNat ∧ 1 + i < d.length := by
    unfold inner at hi; rw [List.length_take, List.length_drop] at hi; omega
  rw [Nat.add_assoc, h (1 + i) (by simpa using hi'.2)]
  unfold inner
  rw [List.map_take, List.map_drop, List.getElem?_take_of_lt hi'.1, List.getElem?_drop]

theorem own_cells {w : World} {base g n cap : Nat} {l : List UInt8} (h : w.ownsRow base 5 1 (.slice (some ⟨g, 0, none⟩) n cap) n (l.map bval)) (hn : l.length = n) :
    ∀ i, i < l.length → w.cell? ⟨g, 0 + i, none⟩ = (l.map bval)[i]? := by
  intro i hi; rw [Nat.zero_add]; exact h.cellAt i (by omega)
theorem cells_below {w w' : World} {b off : Nat} {l : List UInt8} (h : ∀ i, i < l.length → w.cell? ⟨b, off + i, none⟩ = (l.map bval)[i]?) (hb : Below w.heap.size w w') :
    ∀ i, i < l.length → w'.cell? ⟨b, off + i, none⟩ = (l.map bval)[i]? := by
  intro i hi
  have h1 := h i hi
  rw [← h1]
  refine hb.cell ?_
  rw [List.getElem?_eq_getElem (by simpa using hi)] at h1
  exact block_lt_of_cell h1


end Go.Proofs.Ytaedamnhobcdlaa
end

section
namespace Go.Proofs.Ytaedamnhobcdlaa
open Go.RowKit
open Go.Lib (compareBytes)

theorem drop_at (s : ByteArray) (k : Nat) (h : k < s.size) : s.data.toList.drop k = s[k] :: s.data.toList.drop (k + 1) := by
  rw [List.drop_eq_getElem_cons (by simpa using h)]; rfl
theorem drop_end (s : ByteArray) (k : Nat) (h : s.size ≤ k) : s.data.toList.drop k = [] := by
  rw [List.drop_eq_nil_iff]; simpa using h
theorem cmp_lt (a b : ByteArray) (k : Nat) (ha : k < a.size) (hb : k < b.size) (h : (a[k].toNat : Int) < b[k].toNat) :
    compareBytes (a.data.toList.drop k) (b.data.toList.drop k) = -1 := by
  rw [drop_at a k ha, drop_at b k hb]
  have : a[k] < b[k] := by rw [UInt8.lt_iff_toNat_lt]; omega
  simp [compareBytes, this]
theorem cmp_gt (a b : ByteArray) (k : Nat) (ha : k < a.size) (hb : k < b.size) (h : (b[k].toNat : Int) < a[k].toNat) :
    compareBytes (a.data.toList.drop k) (b.data.toList.drop k) = 1 := by
  rw [drop_at a k ha, drop_at b k hb]
  have h1 : b[k] < a[k] := by rw [UInt8.lt_iff_toNat_lt]; omega
  have h2 : ¬ a[k] < b[k] := by rw [UInt8.lt_iff_toNat_lt]; omega
  simp [compareBytes, h1, h2]
theorem cmp_eq (a b : ByteArray) (k : Nat) (ha : k < a.size) (hb : k < b.size) (h1 : ¬ (a[k].toNat : Int) < b[k].toNat) (h2 : ¬ (b[k].toNat : Int) < a[k].toNat) :
    compareBytes (a.data.toList.drop k) (b.data.toList.drop k) = compareBytes (a.data.toList.drop (k + 1)) (b.data.toList.drop (k + 1)) := by
  rw [drop_at a k ha, drop_at b k hb]
  have h1 : ¬ b[k] < a[k] := by rw [UInt8.lt_iff_toNat_lt]; omega
  have h2 : ¬ a[k] < b[k] := by rw [UInt8.lt_iff_toNat_lt]; omega
  simp [compareBytes, h1, h2]
theorem cmp_end (a b : ByteArray) (k : Nat) (ha : k ≤ a.size) (hb : k ≤ b.size) (h : a.size ≤ k ∨ b.size ≤ k) :
    compareBytes (a.data.toList.drop k) (b.data.toList.drop k) = if a.size < b.size then -1 else if b.size < a.size then 1 else 0 := by
  by_cases e1 : a.size ≤ k
  · rw [drop_end a k e1]
    by_cases e2 : b.size ≤ k
    · rw [drop_end b k e2, if_neg (by omega), if_neg (by omega)]; simp [compareBytes]
    · rw [drop_at b k (by omega), if_pos (by omega)]; simp [compareBytes]
  · rw [drop_end b k (by omega), drop_at a k (by omega), if_neg (by omega), if_pos (by omega)]; simp [compareBytes]

set_option maxHeartbeats 800000 in
theorem specWordCmp (a b : ByteArray) (w : World) (ha : a.size ≤ maxLen) :
    Calls Try.prog 47 #[.string a, .string b] w fun e w' => e = .returned (.int .i64 (compareBytes a.data.toList b.data.toList)) ∧ ∃ n, w' = w.drewN n := by
  unfold maxLen at ha
  go_enter Try.func47, Try.ntmps47
  go_wp2
  go_loopw [5] (fun i wr => ∃ k n : Nat, k ≤ a.size ∧ k ≤ b.size ∧ i = .int .i64 k ∧ wr = w.drewN n ∧ Hid (compareBytes a.data.toList b.data.toList = compareBytes (a.data.toList.drop k) (b.data.toList.drop k))) (fun i _ => a.size - (intOf i).toNat)
  case atStart => exact ⟨0, 0, Nat.zero_le _, Nat.zero_le _, rfl, rfl, Lib.hid (by simp)⟩
  case round =>
    obtain ⟨k, n, hka, hkb, rfl, rfl, H⟩ := hrel
    by_cases h1 : k < a.size
    · by_cases h2 : k < b.size
      · have E1 := Lib.hid (cmp_lt a b k h1 h2)
        have E2 := Lib.hid (cmp_gt a b k h1 h2)
        have E3 := Lib.hid (cmp_eq a b k h1 h2)
        by_cases c1 : (a[k].toNat : Int) < b[k].toNat
        · go_wp2
          go_quiet (fail)
          go_wp2
          go_ret
          exact ⟨ret_int (by rw [H.out, E1.out c1]), _, World.drewN_drewN _ _ _⟩
        · by_cases c2 : (b[k].toNat : Int) < a[k].toNat
          · go_wp2
            go_quiet (fail)
            go_wp2
            go_quiet (fail)
            go_wp2
            go_ret
            exact ⟨ret_int (by rw [H.out, E2.out c2]), _, by rw [World.drewN_drewN, World.drewN_drewN]⟩
          · go_wp2
            go_quiet (fail)
            go_wp2
            go_quiet (fail)
            go_wp2
            go_roundw
            case rel => exact ⟨k + 1, _, by omega, by omega, by go_num, rfl, Lib.hid (by rw [H.out, E3.out c1 c2])⟩
            case measure => simp [intOf]; omega
      · have HE := Lib.hid (cmp_end a b k hka hkb (.inr (by omega)))
        by_cases c1 : a.size < b.size
        · omega
        · by_cases c2 : b.size < a.size
          · go_wp2
            go_ret
            exact ⟨ret_int (by rw [H.out, HE.out, if_neg c1, if_pos c2]), _, rfl⟩
          · go_wp2
            go_ret
            exact ⟨ret_int (by rw [H.out, HE.out, if_neg c1, if_neg c2]), _, rfl⟩
    · have HE := Lib.hid (cmp_end a b k hka hkb (.inl (by omega)))
      by_cases c1 : a.size < b.size
      · go_wp2
        go_ret
        exact ⟨ret_int (by rw [H.out, HE.out, if_pos c1]), _, rfl⟩
      · by_cases c2 : b.size < a.size
        · omega
        · go_wp2
          go_ret
          exact ⟨ret_int (by rw [H.out, HE.out, if_neg c1, if_neg c2]), _, rfl⟩

set_option maxHeartbeats 400000 in
set_option maxRecDepth 100000 in
theorem bytealgCompareString (a b : ByteArray) (w : World) :
    Calls Try.prog 108 #[.string a, .string b] w fun e w' => e = .returned (.int .i64 (compareBytes a.data.toList b.data.toList)) ∧ w = w' := by
  go_enter Try.func108, Try.ntmps108
  go_wp2
  rw [run_callFunc_extern Try.func113 (by kernel_rfl) (by kernel_rfl) (by kernel_rfl) (e := Extern.BytealgCompare.compare) (by kernel_rfl), Lib.run_compareString]
  simp only [Result.andThen]
  rw [Oper.upon_value]
  go_wp2
  go_ret
  exact ⟨rfl, rfl⟩
theorem stringsCompare (a b : ByteArray) (w : World) :
    Calls Try.prog 105 #[.string a, .string b] w fun e w' => e = .returned (.int .i64 (compareBytes a.data.toList b.data.toList)) ∧ w = w' := by
  go_enter Try.func105, Try.ntmps105
  go_wp2_with fail
  refine (bytealgCompareString a b _).mono ?_
  rintro e w' ⟨rfl, rfl⟩
  go_wp2
  go_ret
  exact ⟨rfl, rfl⟩
theorem implWordCmp (a b : ByteArray) (w : World) :
    Calls Try.prog 96 #[.string a, .string b] w fun e w' => e = .returned (.int .i64 (compareBytes a.data.toList b.data.toList)) ∧ w = w' := by
  go_enter Try.func96, Try.ntmps96
  go_wp2_with fail
  refine (stringsCompare a b _).mono ?_
  rintro e w' ⟨rfl, rfl⟩
  go_wp2
  go_ret
  exact ⟨rfl, rfl⟩
end Go.Proofs.Ytaedamnhobcdlaa
end
