/- What 'WordCmp' answers, in the model of the document and in the program: the comparison byte by byte. -/
import Derived.Test.YtaedamnhobcdlaaBase
import Derived.Test.YtaedamnhobcdlaaPlain1
import Derived.Deep.QuietTactic
import Derived.BigQuiet
import Derived.Laws.Externs
import Derived.Lib.Bytealg
namespace Go.Proofs.Ytaedamnhobcdlaa
open Go.RowKit
open Go.Lib (compareBytes)

theorem drop_at (s : ByteArray) (k : Nat) (h : k < s.size) : s.data.toList.drop k = s[k] :: s.data.toList.drop (k + 1) := by
  rw [List.drop_eq_getElem_cons (by simpa using h)]; rfl
theorem drop_end (s : ByteArray) (k : Nat) (h : s.size ≤ k) : s.data.toList.drop k = [] := by
  rw [List.drop_eq_nil_iff]; simpa using h
theorem cmp_lt (a b : ByteArray) (k : Nat) (ha : k < a.size) (hb : k < b.size) (h : (a[k].toNat : Int) < b[k].toNat) :
    compareBytes (a.data.toList.drop k) (b.data.toList.drop k) = -1 := by
  rw [drop_at a k ha, drop_at b k hb]
  have : a[k] < b[k] := by rw [UInt8.lt_iff_toNat_lt]; omega
  simp [compareBytes, this]
theorem cmp_gt (a b : ByteArray) (k : Nat) (ha : k < a.size) (hb : k < b.size) (h : (b[k].toNat : Int) < a[k].toNat) :
    compareBytes (a.data.toList.drop k) (b.data.toList.drop k) = 1 := by
  rw [drop_at a k ha, drop_at b k hb]
  have h1 : b[k] < a[k] := by rw [UInt8.lt_iff_toNat_lt]; omega
  have h2 : ¬ a[k] < b[k] := by rw [UInt8.lt_iff_toNat_lt]; omega
  simp [compareBytes, h1, h2]
theorem cmp_eq (a b : ByteArray) (k : Nat) (ha : k < a.size) (hb : k < b.size) (h1 : ¬ (a[k].toNat : Int) < b[k].toNat) (h2 : ¬ (b[k].toNat : Int) < a[k].toNat) :
    compareBytes (a.data.toList.drop k) (b.data.toList.drop k) = compareBytes (a.data.toList.drop (k + 1)) (b.data.toList.drop (k + 1)) := by
  rw [drop_at a k ha, drop_at b k hb]
  have h1 : ¬ b[k] < a[k] := by rw [UInt8.lt_iff_toNat_lt]; omega
  have h2 : ¬ a[k] < b[k] := by rw [UInt8.lt_iff_toNat_lt]; omega
  simp [compareBytes, h1, h2]
theorem cmp_end (a b : ByteArray) (k : Nat) (ha : k ≤ a.size) (hb : k ≤ b.size) (h : a.size ≤ k ∨ b.size ≤ k) :
    compareBytes (a.data.toList.drop k) (b.data.toList.drop k) = if a.size < b.size then -1 else if b.size < a.size then 1 else 0 := by
  by_cases e1 : a.size ≤ k
  · rw [drop_end a k e1]
    by_cases e2 : b.size ≤ k
    · rw [drop_end b k e2, if_neg (by omega), if_neg (by omega)]; simp [compareBytes]
    · rw [drop_at b k (by omega), if_pos (by omega)]; simp [compareBytes]
  · rw [drop_end b k (by omega), drop_at a k (by omega), if_neg (by omega), if_pos (by omega)]; simp [compareBytes]

set_option maxHeartbeats 800000 in
theorem specWordCmp (a b : ByteArray) (w : World) (ha : a.size ≤ maxLen) :
    Calls Try.prog 47 #[.string a, .string b] w fun e w' => e = .returned (.int .i64 (compareBytes a.data.toList b.data.toList)) ∧ ∃ n, w' = w.drewN n := by
  unfold maxLen at ha
  go_enter Try.func47, Try.ntmps47
  go_wp2
  go_loopw [5] (fun i wr => ∃ k n : Nat, k ≤ a.size ∧ k ≤ b.size ∧ i = .int .i64 k ∧ wr = w.drewN n ∧ Hid (compareBytes a.data.toList b.data.toList = compareBytes (a.data.toList.drop k) (b.data.toList.drop k))) (fun i _ => a.size - (intOf i).toNat)
  case atStart => exact ⟨0, 0, Nat.zero_le _, Nat.zero_le _, rfl, rfl, Lib.hid (by simp)⟩
  case round =>
    obtain ⟨k, n, hka, hkb, rfl, rfl, H⟩ := hrel
    by_cases h1 : k < a.size
    · by_cases h2 : k < b.size
      · have E1 := Lib.hid (cmp_lt a b k h1 h2)
        have E2 := Lib.hid (cmp_gt a b k h1 h2)
        have E3 := Lib.hid (cmp_eq a b k h1 h2)
        by_cases c1 : (a[k].toNat : Int) < b[k].toNat
        · go_wp2
          go_quiet (fail)
          go_wp2
          go_ret
          exact ⟨ret_int (by rw [H.out, E1.out c1]), _, World.drewN_drewN _ _ _⟩
        · by_cases c2 : (b[k].toNat : Int) < a[k].toNat
          · go_wp2
            go_quiet (fail)
            go_wp2
            go_quiet (fail)
            go_wp2
            go_ret
            exact ⟨ret_int (by rw [H.out, E2.out c2]), _, by rw [World.drewN_drewN, World.drewN_drewN]⟩
          · go_wp2
            go_quiet (fail)
            go_wp2
            go_quiet (fail)
            go_wp2
            go_roundw
            case rel => exact ⟨k + 1, _, by omega, by omega, by go_num, rfl, Lib.hid (by rw [H.out, E3.out c1 c2])⟩
            case measure => simp [intOf]; omega
      · have HE := Lib.hid (cmp_end a b k hka hkb (.inr (by omega)))
        by_cases c1 : a.size < b.size
        · omega
        · by_cases c2 : b.size < a.size
          · go_wp2
            go_ret
            exact ⟨ret_int (by rw [H.out, HE.out, if_neg c1, if_pos c2]), _, rfl⟩
          · go_wp2
            go_ret
            exact ⟨ret_int (by rw [H.out, HE.out, if_neg c1, if_neg c2]), _, rfl⟩
    · have HE := Lib.hid (cmp_end a b k hka hkb (.inl (by omega)))
      by_cases c1 : a.size < b.size
      · go_wp2
        go_ret
        exact ⟨ret_int (by rw [H.out, HE.out, if_pos c1]), _, rfl⟩
      · by_cases c2 : b.size < a.size
        · omega
        · go_wp2
          go_ret
          exact ⟨ret_int (by rw [H.out, HE.out, if_neg c1, if_neg c2]), _, rfl⟩

set_option maxHeartbeats 400000 in
set_option maxRecDepth 100000 in
theorem bytealgCompareString (a b : ByteArray) (w : World) :
    Calls Try.prog 108 #[.string a, .string b] w fun e w' => e = .returned (.int .i64 (compareBytes a.data.toList b.data.toList)) ∧ w = w' := by
  go_enter Try.func108, Try.ntmps108
  go_wp2
  rw [run_callFunc_extern Try.func113 (by kernel_rfl) (by kernel_rfl) (by kernel_rfl) (e := Extern.BytealgCompare.compare) (by kernel_rfl), Lib.run_compareString]
  simp only [Result.andThen]
  rw [Oper.upon_value]
  go_wp2
  go_ret
  exact ⟨rfl, rfl⟩
theorem stringsCompare (a b : ByteArray) (w : World) :
    Calls Try.prog 105 #[.string a, .string b] w fun e w' => e = .returned (.int .i64 (compareBytes a.data.toList b.data.toList)) ∧ w = w' := by
  go_enter Try.func105, Try.ntmps105
  go_wp2_with fail
  refine (bytealgCompareString a b _).mono ?_
  rintro e w' ⟨rfl, rfl⟩
  go_wp2
  go_ret
  exact ⟨rfl, rfl⟩
theorem implWordCmp (a b : ByteArray) (w : World) :
    Calls Try.prog 96 #[.string a, .string b] w fun e w' => e = .returned (.int .i64 (compareBytes a.data.toList b.data.toList)) ∧ w = w' := by
  go_enter Try.func96, Try.ntmps96
  go_wp2_with fail
  refine (stringsCompare a b _).mono ?_
  rintro e w' ⟨rfl, rfl⟩
  go_wp2
  go_ret
  exact ⟨rfl, rfl⟩
end Go.Proofs.Ytaedamnhobcdlaa
