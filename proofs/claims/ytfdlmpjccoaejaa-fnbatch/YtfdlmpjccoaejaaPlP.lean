/- Numbers in planes, plain: read off a lane, put into planes; no program in it. -/
import Derived.Test.YtfdlmpjccoaejaaMyP
namespace Go.Proofs.Ytfdlmpjccoaejaa
set_option linter.unusedVariables false

/-- The number of a lane. -/
def getN : List Nat → Nat → Nat
  | [], _ => 0
  | x :: xs, l => (x.testBit l).toNat + 2 * getN xs l
theorem getN_cons (x : Nat) (xs : List Nat) (l : Nat) : getN (x :: xs) l = (x.testBit l).toNat + 2 * getN xs l := rfl
theorem getN_lt : ∀ (nums : List Nat) (l : Nat), getN nums l < 2 ^ nums.length
  | [], l => by simp [getN]
  | x :: xs, l => by
    have h := getN_lt xs l
    rw [getN_cons, List.length_cons, Nat.pow_succ]
    cases x.testBit l <;> simp <;> omega
theorem getN_drop (nums : List Nat) (l k : Nat) (h : k < nums.length) : getN (nums.drop k) l = (nums[k].testBit l).toNat + 2 * getN (nums.drop (k + 1)) l := by
  rw [List.drop_eq_getElem_cons h, getN_cons]
/-- Bit j of a lane's number is the lane's bit in plane j. -/
theorem getN_bit : ∀ (nums : List Nat) (l j : Nat), (getN nums l).testBit j = (nums.getD j 0).testBit l
  | [], l, j => by simp [getN]
  | x :: xs, l, 0 => by
    rw [getN_cons, Nat.testBit_zero]
    cases h : x.testBit l <;> simp [h]
  | x :: xs, l, j + 1 => by
    rw [getN_cons, Nat.testBit_succ]
    have : ((x.testBit l).toNat + 2 * getN xs l) / 2 = getN xs l := by cases x.testBit l <;> simp <;> omega
    rw [this, getN_bit xs l j]
    simp
/-- k planes of the numbers of a list. -/
def putN (list : List Nat) (k : Nat) : List Nat := (List.range k).map fun j => bitsUp (fun i => (list.getD i 0).testBit j) list.length
theorem putN_length (list : List Nat) (k : Nat) : (putN list k).length = k := by simp [putN]
theorem putN_at (list : List Nat) (k j : Nat) (h : j < k) : (putN list k).getD j 0 = bitsUp (fun i => (list.getD i 0).testBit j) list.length := by simp [putN, List.getD, h]
theorem putN_lt (list : List Nat) (k : Nat) (hl : list.length ≤ 64) : ∀ x ∈ putN list k, x < 18446744073709551616 := by
  intro x hx
  unfold putN at hx
  obtain ⟨j, _, rfl⟩ := List.mem_map.1 hx
  exact Nat.lt_of_lt_of_le (bitsUp_lt _ _) (Nat.pow_le_pow_right (n := 2) (by omega) hl)
/-- Read back: the numbers, cut to k bits; 0 behind the last. -/
theorem get_put (list : List Nat) (k l : Nat) : getN (putN list k) l = (list.getD l 0) % 2 ^ k := by
  apply Nat.eq_of_testBit_eq
  intro j
  rw [getN_bit, Nat.testBit_mod_two_pow]
  by_cases h : j < k
  · rw [putN_at _ _ _ h, bitsUp_bit]
    by_cases hl : l < list.length
    · simp [h, hl]
    · simp [h, hl, List.getD]
  · have : (putN list k).getD j 0 = 0 := by
      unfold List.getD
      rw [List.getElem?_eq_none (by rw [putN_length]; omega)]
      rfl
    rw [this]
    simp [h]
theorem get_put_small {list : List Nat} {k l : Nat} (h : ∀ x ∈ list, x < 2 ^ k) : getN (putN list k) l = list.getD l 0 := by
  rw [get_put]
  refine Nat.mod_eq_of_lt ?_
  unfold List.getD
  cases e : list[l]? with
  | none => simp; exact Nat.pow_pos (by omega)
  | some x => exact h x (List.mem_of_getElem? e)
/-- Planes whose lanes 0 to 63 read as the list's numbers are its planes. -/
theorem put_get {nums list : List Nat} (hx : ∀ x ∈ nums, x < 18446744073709551616) (hl : list.length = 64) (h : ∀ l, l < 64 → getN nums l = list.getD l 0) : nums = putN list nums.length := by
  apply List.ext_getElem
  · rw [putN_length]
  intro j h1 h2
  have e2 := putN_at list nums.length j h1
  have e1 : (putN list nums.length)[j] = (putN list nums.length).getD j 0 := by simp [List.getD, h2]
  rw [e1, e2]
  refine bitsUp_is fun l => ?_
  have g : nums[j].testBit l = (nums.getD j 0).testBit l := by simp [List.getD, h1]
  rw [g, ← getN_bit, hl]
  by_cases hl64 : l < 64
  · rw [h l hl64]; simp [hl64]
  · rw [getN_bit, ← g, bits_of_lt (n := 64) (hx _ (List.getElem_mem h1)) (by omega)]
    simp [hl64]
/-- One plane more above the others. -/
theorem getN_snoc : ∀ (xs : List Nat) (x l : Nat), getN (xs ++ [x]) l = getN xs l + 2 ^ xs.length * (x.testBit l).toNat
  | [], x, l => by simp [getN]
  | y :: xs, x, l => by
    rw [List.cons_append, getN_cons, getN_cons, getN_snoc xs x l, List.length_cons, Nat.pow_succ, Nat.mul_add, Nat.mul_comm (2 ^ xs.length) 2, Nat.mul_assoc]
    omega
theorem getN_take (nums : List Nat) (l k : Nat) (h : k < nums.length) : getN (nums.take (k + 1)) l = getN (nums.take k) l + 2 ^ k * (nums[k].testBit l).toNat := by
  rw [List.take_succ_eq_append_getElem h, getN_snoc, List.length_take, Nat.min_eq_left (by omega)]
/-- A sum from the lowest plane up: the planes so far and the carry make the sum of what was added. -/
theorem sum_step {P S A B : Nat} {c x y : Bool} (h : S + P * c.toNat = A + B) :
    (S + P * (x ^^ (y ^^ c)).toNat) + 2 * P * ((x && y) || (c && (x || y))).toNat = (A + P * x.toNat) + (B + P * y.toNat) := by
  cases c <;> cases x <;> cases y <;> simp at h ⊢ <;> omega
/-- Less, from the lowest plane up. -/
theorem less_step {P A B : Nat} {x y : Bool} (ha : A < P) (hb : B < P) :
    decide (A + P * x.toNat < B + P * y.toNat) = ((!x && y) || (!(x ^^ y) && decide (A < B))) := by
  cases x <;> cases y <;> simp <;> omega
end Go.Proofs.Ytfdlmpjccoaejaa
