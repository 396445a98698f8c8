/- What 'Fold' answers, in the model of the document and in the program. -/
import Derived.Test.YtmdgigaplfbcpaaBase
import Derived.Test.YtmdgigaplfbcpaaWord
import Derived.Test.YtmdgigaplfbcpaaOwn
import Derived.Laws.BytesArg
namespace Go.Proofs.Ytmdgigaplfbcpaa
open Go.RowKit

/-- A to Z become a to z. -/
def lowerU (c : UInt8) : UInt8 := if 65 ≤ c.toNat ∧ c.toNat ≤ 90 then UInt8.ofNat (c.toNat + 32) else c
def bval (c : UInt8) : Value := .int .u8 c.toNat
def strL (l : List UInt8) : ByteArray := ⟨l.toArray⟩
def sval (l : List UInt8) : Value := .string (strL l)
def foldL (l : List UInt8) : List UInt8 := if 32 < l.length then [] else if wordB (l.map lowerU) then l.map lowerU else []

theorem lower_yes {c : UInt8} (h1 : 65 ≤ (c.toNat : Int)) (h2 : (c.toNat : Int) ≤ 90) : ((lowerU c).toNat : Int) = c.toNat + 32 := by
  unfold lowerU; rw [if_pos (by omega)]
  have : c.toNat + 32 < 256 := by omega
  simp [Nat.mod_eq_of_lt this]
theorem lower_no {c : UInt8} (h : ¬ (65 ≤ (c.toNat : Int) ∧ (c.toNat : Int) ≤ 90)) : lowerU c = c := by
  unfold lowerU; rw [if_neg (by omega)]

theorem Try.info5 : (Try.prog.info? 5).map (fun i => (i.zero, i.size, i.bytes)) = some (some (.int .u8 0), 1, 1) := by kernel_rfl

set_option maxHeartbeats 400000 in
theorem implLowerByte (c : UInt8) (w : World) :
    Calls Try.prog 44 #[.int .u8 c.toNat] w fun e w' => e = .returned (.int .u8 (lowerU c).toNat) ∧ w = w' := by
  have hc : c.toNat < 256 := c.toNat_lt
  by_cases h1 : 65 ≤ (c.toNat : Int)
  · by_cases h2 : (c.toNat : Int) ≤ 90
    · have H := Lib.hid (lower_yes h1 h2)
      go_enter Try.func44, Try.ntmps44
      go_wp2
      go_ret
      exact ⟨ret_int (by rw [H.out]; go_num), rfl⟩
    · have H := Lib.hid (lower_no (c := c) (by omega))
      go_enter Try.func44, Try.ntmps44
      go_wp2
      go_ret
      exact ⟨ret_int (by rw [H.out]), rfl⟩
  · have H := Lib.hid (lower_no (c := c) (by omega))
    go_enter Try.func44, Try.ntmps44
    go_wp2
    go_ret
    exact ⟨ret_int (by rw [H.out]), rfl⟩

/-- The row while it is being filled: k bytes are folded, the rest is zero. -/
def foldRow (l : List UInt8) (k : Nat) : List Value := (l.take k).map (fun c => bval (lowerU c)) ++ List.replicate (l.length - k) (.int .u8 0)
theorem foldRow_length (l : List UInt8) (k : Nat) (h : k ≤ l.length) : (foldRow l k).length = l.length := by
  unfold foldRow; simp; omega
theorem foldRow_zero (l : List UInt8) : foldRow l 0 = List.replicate l.length (.int .u8 0) := by simp [foldRow]
theorem foldRow_set (s : ByteArray) (k : Nat) (h : k < s.size) : (foldRow s.data.toList k).set k (bval (lowerU s[k])) = foldRow s.data.toList (k + 1) := by
  have hl := len_data s
  unfold foldRow
  rw [take_snoc s k h, List.set_append_right _ _ (by simp; omega)]
  obtain ⟨m, hm⟩ : ∃ m, s.data.toList.length - k = m + 1 := ⟨s.data.toList.length - k - 1, by omega⟩
  rw [hm, show s.data.toList.length - (k + 1) = m from by omega, List.replicate_succ]
  rw [show k - ((s.data.toList.take k).map (fun c => bval (lowerU c))).length = 0 from by simp; omega]
  simp
theorem foldRow_done (l : List UInt8) (k : Nat) (h : l.length ≤ k) : foldRow l k = (l.map lowerU).map bval := by
  unfold foldRow; rw [List.take_of_length_le h, show l.length - k = 0 from by omega]; simp

/-- The row of the model's loop: k bytes are folded. -/
def lowRow (l : List UInt8) (k : Nat) : List Value := ((l.take k).map lowerU).map bval
theorem lowRow_snoc (s : ByteArray) (k : Nat) (h : k < s.size) : lowRow s.data.toList (k + 1) = lowRow s.data.toList k ++ [bval (lowerU s[k])] := by
  unfold lowRow; rw [take_snoc s k h]; simp
theorem lowRow_done (s : ByteArray) : lowRow s.data.toList s.size = (s.data.toList.map lowerU).map bval := by
  unfold lowRow; rw [List.take_of_length_le (by rw [len_data]; omega)]
/-- string(b) of a row of bytes that the call owns. -/
theorem conv_own {w : World} {base g cap : Nat} {l : List UInt8} (n : Nat) (hn : l.length = n) (h : w.ownsRow base 5 1 (.slice (some ⟨g, 0, none⟩) n cap) n (l.map bval)) :
    (convert 22 9 (.slice (some ⟨g, 0, none⟩) n cap)).run Try.prog w = .ok (.string (strL l)) w := by
  have e : strL l = strOfNums (l.map fun c => (c.toNat : Int)) := by
    unfold strL strOfNums; congr 1; simp [Function.comp_def]
  rw [e]
  refine run_convert_bytes_arg w 22 5 Try.underlying22 Try.underlying5 g 0 n cap _ (by simpa using hn) ?_ 9 Try.underlying9
  intro i hi
  have := h.cellAt i (by omega)
  rw [Nat.zero_add, this]
  have hl : i < l.length := by omega
  simp [bval, hl]

/-- string(b) of whatever the call owns. -/
theorem conv_any {w : World} {base n : Nat} {v : Value} {l : List UInt8} (h : w.ownsRow base 5 1 v n (l.map bval)) :
    (convert 22 9 v).run Try.prog w = .ok (.string (strL l)) w := by
  have hl : l.length = n := by simpa using h.1
  rcases h.2 with ⟨rfl, hn⟩ | ⟨g, cap, cur, rfl, _⟩
  · have : l = [] := List.eq_nil_of_length_eq_zero (by omega)
    subst this
    exact run_convert_bytes_nil w 22 5 Try.underlying22 Try.underlying5 0 0 9 Try.underlying9
  · exact conv_own n hl h
theorem fold_word (l : List UInt8) (h : ¬ 32 < l.length) (hw : wordB (l.map lowerU) = true) : foldL l = l.map lowerU := by
  unfold foldL; rw [if_neg h, hw]; rfl
theorem fold_none (l : List UInt8) (h : ¬ 32 < l.length) (hw : wordB (l.map lowerU) = false) : foldL l = [] := by
  unfold foldL; rw [if_neg h, hw]; rfl
theorem strL_empty : strL [] = ⟨#[]⟩ := rfl
theorem strL_data (l : List UInt8) : (strL l).data.toList = l := rfl
theorem strL_size (l : List UInt8) : (strL l).size = l.length := rfl

set_option maxHeartbeats 800000 in
theorem implFold (s : ByteArray) (w : World) (hs : s.size ≤ maxLen) :
    Calls Try.prog 23 #[.string s] w fun e w' => e = .returned (.string (strL (foldL s.data.toList))) ∧ Below w.heap.size w w' := by
  have hs' := hs
  unfold maxLen at hs
  by_cases h1 : 32 < s.size
  · have H : Hid (foldL s.data.toList = []) := Lib.hid (by unfold foldL; rw [if_pos (by rw [len_data]; exact h1)])
    go_enter Try.func23, Try.ntmps23
    go_wp2
    go_ret
    exact ⟨ret_str (by rw [H.out]; rfl), Below.refl _ _⟩
  have HL := Lib.hid (len_data s)
  obtain ⟨i0, hi, hz0, hz1, hz2⟩ := info_parts Try.info5
  go_enter Try.func23, Try.ntmps23
  go_wp2_with (at_make; refine wpList_make_full _ rfl _ _ 22 rfl w.heap.size 5 i0 (.int .u8 0) 1 Try.underlying22 hi hz0 hz1 .i64 .i64 _ _ s.size rfl rfl rfl rfl (by rw [hz2]; omega) (by unfold maxLen; omega) (Nat.le_refl _) ?_)
  clear hi hz0 hz1 hz2
  intro w1 hown hgr
  have hb1 : Below w.heap.size w w1 := (Below.refl _ _).grown hgr (Nat.le_refl _) (by intro k hk; cases hk)
  rw [toList_madeCells_one, ← HL.out, ← foldRow_zero] at hown
  rw [HL.out] at hown
  clear hgr
  go_wp2
  go_loopw [14] (fun i wr => ∃ k : Nat, k ≤ s.size ∧ i = .int .i64 k ∧ wr.ownsRow w.heap.size 5 1 (.slice (some ⟨w.heap.size, 0, none⟩) s.size s.size) s.size (foldRow s.data.toList k) ∧ Below w.heap.size w wr) (fun i _ => s.size - (intOf i).toNat)
  case atStart => exact ⟨0, Nat.zero_le _, rfl, hown, hb1⟩
  case round =>
    clear hown hb1
    obtain ⟨k, hk, rfl, hown, hb⟩ := hrel
    by_cases hlt : k < s.size
    · have hf := hown.frozenAt k
      have hc : wr.cell? ⟨w.heap.size, k, none⟩ = some ((foldRow s.data.toList k)[k]'(by rw [foldRow_length _ _ (by rw [len_data]; omega), len_data]; exact hlt)) := by
        rw [hown.cellAt k (by omega), List.getElem?_eq_getElem]
      have st := hown.stored k (bval (lowerU s[k]))
      rw [foldRow_set s k hlt] at st
      have R := Lib.hid (And.intro st.1 (hb.setCell (p := ⟨w.heap.size, k, none⟩) (Nat.le_refl _) (bval (lowerU s[k]))))
      clear st hown hb
      go_wp2_with (go_at_call 44; refine (implLowerByte _ _).mono ?_; rintro e w' ⟨rfl, rfl⟩)
      go_roundw
      case rel => exact ⟨k + 1, by omega, by go_num, R.out.1, R.out.2⟩
      case measure => simp [intOf]; omega
    · have hk' : k = s.size := by omega
      subst hk'
      rw [foldRow_done _ _ (by rw [len_data]; omega)] at hown
      have hcv := conv_own s.size (by rw [List.length_map, len_data]) hown
      clear hown
      have hlen : ¬ 32 < s.data.toList.length := by rw [HL.out]; exact h1
      have F1 := Lib.hid (fold_word s.data.toList hlen)
      have F2 := Lib.hid (fold_none s.data.toList hlen)
      clear hlen
      go_wp2_with fail
      refine (implWordOk _ _ (by rw [strL_size, List.length_map, HL.out]; exact hs')).mono ?_
      rintro e w' ⟨rfl, rfl⟩
      rw [strL_data]
      cases hw : wordB (List.map lowerU s.data.toList)
      · have F := Lib.hid (F2.out hw)
        clear hw
        go_wp2
        go_ret
        exact ⟨ret_str (by rw [F.out]; rfl), hb⟩
      · have F := Lib.hid (F1.out hw)
        clear hw
        go_wp2
        go_ret
        exact ⟨ret_str (by rw [F.out]), hb⟩

set_option maxHeartbeats 800000 in
theorem specFold (s : ByteArray) (w : World) (hs : s.size ≤ maxLen) :
    Calls Try.prog 22 #[.string s] w fun e w' => e = .returned (.string (strL (foldL s.data.toList))) ∧ Below w.heap.size w w' := by
  have hs' := hs
  unfold maxLen at hs
  by_cases h1 : 32 < s.size
  · have H : Hid (foldL s.data.toList = []) := Lib.hid (by unfold foldL; rw [if_pos (by rw [len_data]; exact h1)])
    go_enter Try.func22, Try.ntmps22
    go_wp2
    go_ret
    exact ⟨ret_str (by rw [H.out]; rfl), Below.refl _ _⟩
  have HL := Lib.hid (len_data s)
  go_enter Try.func22, Try.ntmps22
  go_wp2
  go_loopw [3, 4] (fun v i wr => ∃ k : Nat, k ≤ s.size ∧ i = .int .i64 k ∧ wr.ownsRow w.heap.size 5 1 v k (lowRow s.data.toList k) ∧ Below w.heap.size w wr) (fun _ i _ => s.size - (intOf i).toNat)
  case atStart => exact ⟨0, Nat.zero_le _, rfl, World.ownsRow_made w #[] 0 (Nat.le_refl _) (by unfold maxLen; omega) rfl, (Below.refl _ _).alloc (Nat.le_refl _) _⟩
  case round =>
    obtain ⟨k, hk, rfl, hown, hb⟩ := hrel
    by_cases hlt : k < s.size
    · have hc : s[k].toNat < 256 := s[k].toNat_lt
      have hsz := hb.size
      have HT := Lib.hid (lowRow_snoc s k hlt)
      obtain ⟨u, hu⟩ : ∃ u, u = bval (lowerU s[k]) := ⟨_, rfl⟩
      have h1u : u.oneCell' = true := by rw [hu]; rfl
      have HU := Lib.hid hu
      clear hu
      by_cases c1 : 65 ≤ (s[k].toNat : Int) ∧ (s[k].toNat : Int) ≤ 90
      · have HC : Hid (Value.int .u8 ((s[k].toNat : Int) + 32) = u) := Lib.hid (by rw [HU.out]; unfold bval; rw [lower_yes c1.1 c1.2])
        obtain ⟨c1, c2⟩ := c1
        go_wp2_with (at_builtin; rw [HC.out]; refine wp_app1 w wr u rfl _ _ 22 rfl w.heap.size 5 (.int .u8 0) 1 Try.underlying22 Try.info5 rfl _ _ _ (by rfl) hown (by rfl) h1u (by unfold maxLen; omega) (by omega) hsz hb ?_; clear hown hb; intro v' w' hown hb)
        go_roundw
        case rel => exact ⟨k + 1, by omega, by go_num, by rw [HT.out, ← HU.out]; exact hown, hb⟩
        case measure => simp [intOf]; omega
      · have HC : Hid (Value.int .u8 (s[k].toNat : Int) = u) := Lib.hid (by rw [HU.out]; unfold bval; rw [lower_no c1])
        by_cases c2 : 65 ≤ (s[k].toNat : Int)
        all_goals
          go_wp2_with (at_builtin; rw [HC.out]; refine wp_app1 w wr u rfl _ _ 22 rfl w.heap.size 5 (.int .u8 0) 1 Try.underlying22 Try.info5 rfl _ _ _ (by rfl) hown (by rfl) h1u (by unfold maxLen; omega) (by omega) hsz hb ?_; clear hown hb; intro v' w' hown hb)
          go_roundw
          case rel => exact ⟨k + 1, by omega, by go_num, by rw [HT.out, ← HU.out]; exact hown, hb⟩
          case measure => simp [intOf]; omega
    · have hk' : k = s.size := by omega
      subst hk'
      rw [lowRow_done] at hown
      have hcv := conv_any hown
      clear hown
      have hlen : ¬ 32 < s.data.toList.length := by rw [HL.out]; exact h1
      have F1 := Lib.hid (fold_word s.data.toList hlen)
      have F2 := Lib.hid (fold_none s.data.toList hlen)
      clear hlen
      go_wp2_with fail
      refine (specWordOk _ _ (by rw [strL_size, List.length_map, HL.out]; exact hs')).mono ?_
      rintro e w' ⟨rfl, rfl⟩
      rw [strL_data]
      cases hw : wordB (List.map lowerU s.data.toList)
      · have F := Lib.hid (F2.out hw)
        clear hw
        go_wp2
        go_ret
        exact ⟨ret_str (by rw [F.out]; rfl), hb⟩
      · have F := Lib.hid (F1.out hw)
        clear hw
        go_wp2
        go_ret
        exact ⟨ret_str (by rw [F.out]), hb⟩
end Go.Proofs.Ytmdgigaplfbcpaa
