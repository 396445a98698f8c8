/- Base, Plain1 in one. Written by tools/join2.py. -/
import Derived.Test.YtmndkpicbmffnaaRows
import Derived.WalkKit
import Derived.ProofKit
import Derived.OpenShut
import Derived.ShutString
import Derived.ChangeOld
import Derived.Below
import Derived.Lib.Hide
section
namespace Go.Proofs.Ytmndkpicbmffnaa
theorem own : ownKnob Try.prog.godebug = none := by kernel_rfl
theorem laidOut : laidOutB Try.prog = true := by kernel_rfl
/-- A slice of integers that came in: it is nil; or it leads to a row of 'cap' cells, the numbers 'zs'. -/
def IsRow (k : IntKind) (w : World) (a : Option Addr) (len cap : Nat) (zs : List Int) : Prop :=
  (a = none ∧ len = 0 ∧ cap = 0 ∧ zs = []) ∨
  ∃ x, a = some x ∧ len ≤ cap ∧ cap ≤ maxLen ∧ zs.length = cap ∧ (∀ i, i < zs.length → w.cell? (x.add i) = some (.int k (zs.getD i 0))) ∧ ∀ n ∈ zs, (Lit.int k n).wf = true
end Go.Proofs.Ytmndkpicbmffnaa
end

section
namespace Go.Proofs.Ytmndkpicbmffnaa
/-- A letter a to z. -/
def lowB (c : UInt8) : Bool := decide (97 ≤ c.toNat) && decide (c.toNat ≤ 122)
/-- 1 to 32 letters a to z. -/
def wordB (l : List UInt8) : Bool := decide (1 ≤ l.length) && decide (l.length ≤ 32) && l.all lowB

theorem take_snoc (s : ByteArray) (k : Nat) (h : k < s.size) : s.data.toList.take (k + 1) = s.data.toList.take k ++ [s[k]] := by
  rw [List.take_succ_eq_append_getElem (by simpa using h)]; rfl
theorem all_snoc (s : ByteArray) (k : Nat) (h : k < s.size) : (s.data.toList.take (k + 1)).all lowB = ((s.data.toList.take k).all lowB && lowB s[k]) := by
  rw [take_snoc s k h]; simp
theorem len_data (s : ByteArray) : s.data.toList.length = s.size := by simp
theorem word_short (s : ByteArray) (h : s.size < 1) : wordB s.data.toList = false := by
  have := len_data s
  unfold wordB; simp only [this]; simp; omega
theorem word_long (s : ByteArray) (h : 32 < s.size) : wordB s.data.toList = false := by
  have := len_data s
  unfold wordB; simp only [this]; simp; omega
theorem word_mid (s : ByteArray) (h1 : 1 ≤ s.size) (h2 : s.size ≤ 32) : wordB s.data.toList = s.data.toList.all lowB := by
  have := len_data s
  unfold wordB; simp only [this]; simp [h1, h2]
theorem all_bad (s : ByteArray) (k : Nat) (h : k < s.size) (hb : lowB s[k] = false) : s.data.toList.all lowB = false := by
  rw [List.all_eq_false]
  exact ⟨s[k], by simp [ByteArray.getElem_eq_getElem_data], by simp [hb]⟩
theorem low_no {c : UInt8} (h : (c.toNat : Int) < 97 ∨ 122 < (c.toNat : Int)) : lowB c = false := by
  unfold lowB; rcases h with h | h
  · have : ¬ 97 ≤ c.toNat := by omega
    simp [this]
  · have : ¬ c.toNat ≤ 122 := by omega
    simp [this]
theorem low_yes {c : UInt8} (h : 97 ≤ (c.toNat : Int) ∧ (c.toNat : Int) ≤ 122) : lowB c = true := by
  unfold lowB; have h1 : 97 ≤ c.toNat := by omega
  have h2 : c.toNat ≤ 122 := by omega
  simp [h1, h2]
theorem ret_int {k : IntKind} {a b : Int} (h : a = b) : Ending.returned (.int k a) = .returned (.int k b) := by rw [h]
theorem ret_str {a b : ByteArray} (h : a = b) : Ending.returned (.string a) = .returned (.string b) := by rw [h]
theorem ret_bool {a b : Bool} (h : a = b) : Ending.returned (.bool a) = .returned (.bool b) := by rw [h]
end Go.Proofs.Ytmndkpicbmffnaa
end
