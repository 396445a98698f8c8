/- What 'EditCost' answers, in the model of the document and in the program: the cost of the edits, one by one. -/
import Derived.Test.YtfdlmpjccoaejaaBase
import Derived.Test.YtfdlmpjccoaejaaPlain1
import Derived.Test.YtfdlmpjccoaejaaEdP
import Derived.Test.YtfdlmpjccoaejaaVals
import Derived.Deep.QuietTactic
import Derived.BigQuiet
namespace Go.Proofs.Ytfdlmpjccoaejaa
open Go.RowKit
set_option linter.unusedVariables false

set_option maxHeartbeats 400000 in
theorem implEditsOk (a b : ByteArray) (w : World) (ha : a.size ≤ maxLen) (hb : b.size ≤ maxLen) :
    Calls Try.prog 94 #[.string a, .string b] w fun e w' => e = .returned (.bool (decide (a.size ≤ 32) && decide (b.size ≤ 32))) ∧ w = w' := by
  unfold maxLen at ha hb
  by_cases h1 : a.size ≤ 32
  · by_cases h2 : b.size ≤ 32
    · have H : Hid ((decide (a.size ≤ 32) && decide (b.size ≤ 32)) = true) := Lib.hid (by simp [h1, h2])
      go_enter Try.func94, Try.ntmps94
      go_wp2
      go_ret
      exact ⟨ret_bool (by first | rfl | (rw [H.out]; first | rfl | (simp; omega))), rfl⟩
    · have H : Hid ((decide (a.size ≤ 32) && decide (b.size ≤ 32)) = false) := Lib.hid (by simp [h1, h2])
      go_enter Try.func94, Try.ntmps94
      go_wp2
      go_ret
      exact ⟨ret_bool (by first | rfl | (rw [H.out]; first | rfl | (simp; omega))), rfl⟩
  · have H : Hid ((decide (a.size ≤ 32) && decide (b.size ≤ 32)) = false) := Lib.hid (by simp [h1])
    go_enter Try.func94, Try.ntmps94
    go_wp2
    go_ret
    exact ⟨ret_bool (by first | rfl | (rw [H.out]; first | rfl | (simp; omega))), rfl⟩
set_option maxHeartbeats 400000 in
theorem specLong (a b : ByteArray) (w : World) (ha : a.size ≤ maxLen) (hb : b.size ≤ maxLen) :
    Calls Try.prog 96 #[.string a, .string b] w fun e w' => e = .returned (.bool (!(decide (a.size ≤ 32) && decide (b.size ≤ 32)))) ∧ w = w' := by
  unfold maxLen at ha hb
  by_cases h1 : a.size ≤ 32
  · by_cases h2 : b.size ≤ 32
    · have H : Hid ((!(decide (a.size ≤ 32) && decide (b.size ≤ 32))) = false) := Lib.hid (by simp [h1, h2])
      go_enter Try.func96, Try.ntmps96
      go_wp2
      go_ret
      exact ⟨ret_bool (by first | rfl | (rw [H.out]; first | rfl | (simp; omega))), rfl⟩
    · have H : Hid ((!(decide (a.size ≤ 32) && decide (b.size ≤ 32))) = true) := Lib.hid (by simp [h1, h2])
      go_enter Try.func96, Try.ntmps96
      go_wp2
      go_ret
      exact ⟨ret_bool (by first | rfl | (rw [H.out]; first | rfl | (simp; omega))), rfl⟩
  · have H : Hid ((!(decide (a.size ≤ 32) && decide (b.size ≤ 32))) = true) := Lib.hid (by simp [h1])
    go_enter Try.func96, Try.ntmps96
    go_wp2
    go_ret
    exact ⟨ret_bool (by first | rfl | (rw [H.out]; first | rfl | (simp; omega))), rfl⟩
theorem byte_beq (x y : UInt8) : ((x.toNat : Int) == (y.toNat : Int)) = (x == y) := by
  by_cases h : x = y
  · subst h; simp
  · have h' : ¬ x.toNat = y.toNat := fun e => h (UInt8.toNat_inj.1 e)
    rw [beq_eq_false_iff_ne.2 h, beq_eq_false_iff_ne.2 (fun e => h' (by omega))]
theorem byte_bne (x y : UInt8) : ((x.toNat : Int) != (y.toNat : Int)) = (x != y) := by unfold bne; rw [byte_beq]
/-- A text is empty, or it has a first byte. -/
theorem str_cases (s : ByteArray) : (s.size = 0 ∧ s.toList.isEmpty = true ∧ s.data.toList = []) ∨ ∃ h : 0 < s.size, s.toList.isEmpty = false ∧ ∃ r, s.data.toList = s[0] :: r := by
  have e : s.toList = s.data.toList := by simpa using ByteArray.toList_mk s.data.toList
  by_cases h : s.size = 0
  · have : s.data.toList = [] := List.eq_nil_of_length_eq_zero (by rw [len_data]; exact h)
    exact .inl ⟨h, by rw [e, this]; rfl, this⟩
  · have h' : 0 < s.size := by omega
    have hl : 0 < s.data.toList.length := by rw [len_data]; exact h'
    refine .inr ⟨h', ?_, s.data.toList.drop 1, ?_⟩
    · rw [e]; cases hs : s.data.toList with
      | nil => rw [hs] at hl; simp at hl
      | cons => rfl
    · have := List.drop_eq_getElem_cons (l := s.data.toList) (i := 0) hl
      rw [List.drop_zero] at this
      exact this

theorem pass_le {x : Nat} {a b : List UInt8} (h : (passL x a b).2.2 = true) : (passL x a b).1 ≤ a.length ∧ (passL x a b).2.1 ≤ b.length := by
  unfold passL at h ⊢
  by_cases h1 : x = 100
  · simp only [h1, if_true] at h ⊢
    cases a with
    | nil => simp at h
    | cons p a => simp
  · by_cases h2 : x = 105
    · simp only [h2] at h ⊢
      cases b with
      | nil => simp at h
      | cons q b => simp
    · by_cases h3 : x = 107
      · simp only [h3] at h ⊢
        cases a with
        | nil => simp at h
        | cons p a =>
          cases b with
          | nil => simp at h
          | cons q b => simp
      · by_cases h4 : x = 115
        · simp only [h4] at h ⊢
          cases a with
          | nil => simp at h
          | cons p a =>
            cases b with
            | nil => simp at h
            | cons q b => simp
        · simp [h1, h2, h3, h4] at h
theorem price_le (x : Nat) : priceL x ≤ 1 := by unfold priceL; split <;> omega
theorem ext_drop (s : ByteArray) (m : Nat) : (s.extract m s.size).data.toList = s.data.toList.drop m := by
  simp [ByteArray.data_extract]
  exact List.take_of_length_le (by simp)
theorem ext_size (s : ByteArray) (m : Nat) : (s.extract m s.size).size ≤ s.size := by simp
/-- One edit more is possible. -/
theorem cost_go {E A B es la lb : List UInt8} {x : UInt8} {c : Nat} (h : costL E A B = (costL (x :: es) la lb).map (· + c)) (hp : (passL x.toNat la lb).2.2 = true) :
    costL E A B = (costL es (la.drop (passL x.toNat la lb).1) (lb.drop (passL x.toNat la lb).2.1)).map (· + (c + priceL x.toNat)) := by
  rw [h]
  conv => lhs; unfold costL
  rw [hp]
  simp only [if_true, Option.map_map]
  congr 1
  funext z
  simp; omega
theorem cost_no {E A B es la lb : List UInt8} {x : UInt8} {c : Nat} (h : costL E A B = (costL (x :: es) la lb).map (· + c)) (hp : (passL x.toNat la lb).2.2 = false) : costL E A B = none := by
  rw [h]
  unfold costL
  rw [hp]; rfl
theorem cost_done {E A B la lb : List UInt8} {c : Nat} (h : costL E A B = (costL [] la lb).map (· + c)) : costL E A B = if la.isEmpty && lb.isEmpty then some c else none := by
  rw [h]
  unfold costL
  split <;> simp
theorem costZ_none {e a b : List UInt8} (h : costL e a b = none) : costZ e a b = -1 := by unfold costZ; rw [h]; split <;> rfl
theorem costZ_some {e a b : List UInt8} {c : Nat} (ha : a.length ≤ 32) (hb : b.length ≤ 32) (he : e.length ≤ 64) (h : costL e a b = some c) : costZ e a b = (c : Int) := by unfold costZ; rw [h, if_neg (by omega)]
theorem costZ_far {e a b : List UInt8} (h : 32 < a.length ∨ 32 < b.length ∨ 64 < e.length) : costZ e a b = -1 := by unfold costZ; rw [if_pos h]
theorem drop_byte (s : ByteArray) (k : Nat) (h : k < s.size) : s.data.toList.drop k = s[k] :: s.data.toList.drop (k + 1) := by
  rw [List.drop_eq_getElem_cons (by simpa using h)]; rfl
theorem drop_past (s : ByteArray) (k : Nat) (h : s.size ≤ k) : s.data.toList.drop k = [] := by
  rw [List.drop_eq_nil_iff]; simpa using h

end Go.Proofs.Ytfdlmpjccoaejaa
