/- Chapter 7, plain: what the law of numbers in planes compares. -/
import Derived.Test.YtfdlmpjccoaejaaDrN
import Derived.Test.YtfdlmpjccoaejaaPlJ
import Derived.Test.YtfdlmpjccoaejaaBaP
namespace Go.Proofs.Ytfdlmpjccoaejaa
open Go.RowKit
set_option linter.unusedVariables false

theorem tmod_range (z : Int) {P : Nat} (hP : 0 < P) : -(P : Int) < z.tmod P ∧ z.tmod P < P := ⟨Int.lt_tmod_of_pos z (by omega), Int.tmod_lt_of_pos z (by omega)⟩
theorem tmod_mod (z : Int) {P : Nat} (hP : 0 < P) : (0 ≤ z.tmod P → z % (P : Int) = z.tmod P) ∧ (z.tmod P < 0 → z % (P : Int) = z.tmod P + P) := by
  obtain ⟨h1, h2⟩ := tmod_range z hP
  have e : z % (P : Int) = (z.tmod P) % (P : Int) := by
    have := Int.tmod_add_mul_tdiv z P
    rw [← this, Int.add_mul_emod_self_left, this]
  constructor
  · intro h
    rw [e, Int.emod_eq_of_lt h h2]
  · intro h
    rw [e, ← Int.add_emod_right, Int.emod_eq_of_lt (by omega) (by omega)]
/-- The numbers of a list, cut to k bits. -/
def cutN (P : Nat) (b : List Int) : Nat → Nat := fun i => (b.getD i 0 % (P : Int)).toNat
theorem cutN_lt (P : Nat) (hP : 0 < P) (b : List Int) (i : Nat) : cutN P b i < P := by
  unfold cutN
  have := Int.emod_lt_of_pos (b.getD i 0) (show (0 : Int) < P by omega)
  have := Int.emod_nonneg (b.getD i 0) (show (P : Int) ≠ 0 by omega)
  omega
def atN (n : Nat) (F : Nat → Nat) (l : Nat) : Nat := if l < n then F l else 0
theorem put_at {n k l : Nat} {F : Nat → Nat} (h : ∀ i, i < n → F i < 2 ^ k) : getN (putN (listN n F) k) l = atN n F l := by
  rw [get_put_small]
  · unfold atN
    by_cases hl : l < n
    · rw [if_pos hl, listN_getD _ hl]
    · rw [if_neg hl]
      unfold List.getD
      rw [List.getElem?_eq_none (by rw [listN_length]; omega)]; rfl
  · intro x hx
    unfold listN at hx
    obtain ⟨i, hi, rfl⟩ := List.mem_map.1 hx
    exact h i (by simpa using hi)
theorem add_at {x y : List Nat} (ht : twinsB x y = true) {l : Nat} (hl : l < 64) : getN (addM x y) l = (getN x l + getN y l) % 2 ^ x.length := by
  unfold addM
  rw [if_pos ht, get_put, listN_getD _ hl, Nat.mod_mod]
theorem less_at {x y : List Nat} (ht : twinsB x y = true) {l : Nat} (hl : l < 64) : (lessM x y).testBit l = decide (getN x l < getN y l) := by
  unfold lessM lessL
  rw [if_pos ht, bitsUp_bit]
  simp [hl]
def natF (b : List Int) : Nat → Nat := fun i => (b.getD i 0).toNat
theorem map_natF (b : List Int) : b.map Int.toNat = listN b.length (natF b) := by
  apply List.ext_getElem
  · simp [listN]
  intro i h1 h2
  have hi : i < b.length := by simpa using h1
  simp [listN, natF, List.getD, hi]
theorem natF_lt {b : List Int} {k : Nat} (h : ∀ i (hi : i < b.length), inB k b[i] = true) : ∀ i, i < b.length → natF b i < 2 ^ k := by
  intro i hi
  have := inB_of.1 (h i hi)
  unfold natF
  have e : b.getD i 0 = b[i] := by simp [List.getD, hi]
  rw [e]
  have h2 : b[i] < ((2 ^ k : Nat) : Int) := by simpa using this.2
  omega
/-- A row of integers read at a place. -/
theorem int_at {a : Option Addr} {cap : Nat} {l : List Int} {w : World} (h : IntSIn [.slice a l.length cap] l w) {i : Nat} (hi : i < l.length) : ∃ b off, a = some ⟨b, off, none⟩ ∧ w.cell? ⟨b, off + i, none⟩ = some (.int .i64 (l.getD i 0)) := by
  obtain ⟨a', cap', e, _, _, hr⟩ := intSIn_shape h
  simp at e
  obtain ⟨rfl, rfl⟩ := e
  obtain ⟨b, off, rfl, q⟩ := hr.at (i := i) (by simpa using hi)
  refine ⟨b, off, rfl, q.trans ?_⟩
  simp [hi, ival]
theorem cutN_int {P : Nat} (hP : 0 < P) (b : List Int) (i : Nat) : ((cutN P b i : Nat) : Int) = b.getD i 0 % (P : Int) := by
  unfold cutN
  exact Int.toNat_of_nonneg (Int.emod_nonneg _ (by omega))
theorem natF_int {b : List Int} {i : Nat} (h : 0 ≤ b.getD i 0) : ((natF b i : Nat) : Int) = b.getD i 0 := by
  unfold natF
  exact Int.toNat_of_nonneg h
theorem atN_in {n l : Nat} (F : Nat → Nat) (h : l < n) : atN n F l = F l := by unfold atN; rw [if_pos h]
theorem atN_out {n l : Nat} (F : Nat → Nat) (h : ¬ l < n) : atN n F l = 0 := by unfold atN; rw [if_neg h]
theorem and_bitN (n i : Nat) (hn : n < 18446744073709551616) : bits .and .u64 ((n : Int) / 2 ^ i) 1 = (((n.testBit i).toNat : Nat) : Int) := by
  rw [show (n : Int) / 2 ^ i = ((n / 2 ^ i : Nat) : Int) from by simp, ← bitN, ← bit_and1]
  exact u64_and_nat _ 1 (Nat.lt_of_le_of_lt (Nat.div_le_self _ _) hn) (by omega)
end Go.Proofs.Ytfdlmpjccoaejaa
