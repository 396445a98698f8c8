/- Chapter 7, plain: rows of distances of all lanes, one byte more, the distance at the own length. No program in it. -/
import Derived.Test.YtfdlmpjccoaejaaPlR
import Derived.Test.YtfdlmpjccoaejaaEdP
namespace Go.Proofs.Ytfdlmpjccoaejaa
set_option linter.unusedVariables false

theorem minM_get {a b : List Nat} (ht : twinsB a b = true) {l : Nat} (hl : l < 64) : getN (minM a b) l = min (getN a l) (getN b l) := by
  unfold minM
  rw [if_pos ht, get_put_small, listN_getD _ hl]
  intro x hx
  unfold listN at hx
  obtain ⟨i, _, rfl⟩ := List.mem_map.1 hx
  exact Nat.lt_of_le_of_lt (Nat.min_le_left _ _) (getN_lt a i)
theorem minM_len {a b : List Nat} (ht : twinsB a b = true) : (minM a b).length = a.length := by unfold minM; rw [if_pos ht, putN_length]
theorem twins6 {a b : List Nat} (ha : a.length = 6) (hb : b.length = 6) : twinsB a b = true := twins_iff.2 ⟨by omega, by omega⟩
/-- 1 in the lanes whose letter at a place is another, else 0. -/
def diffN (m : PlanesM) (num j : Nat) : List Nat := notN (withN ((m.lts.drop (5 * j)).take 5) num) :: zerosN 5
theorem diffN_length (m : PlanesM) (num j : Nat) : (diffN m num j).length = 6 := by simp [diffN, zerosN]
theorem diffN_lt (m : PlanesM) (num j : Nat) : ∀ x ∈ diffN m num j, x < 18446744073709551616 := by
  intro x hx
  unfold diffN at hx
  rcases List.mem_cons.1 hx with rfl | hx
  · exact notN_lt _
  · exact zerosN_lt 5 x hx
theorem diffN_get {m : PlanesM} {num j l : Nat} (h160 : m.lts.length = 160) (hb : ∀ x ∈ m.lts, x < 18446744073709551616) (hn : num < 32) (hj : j < 32) (hl : l < 64) : getN (diffN m num j) l = if laneN m l j = num then 0 else 1 := by
  unfold diffN
  have LL : ((m.lts.drop (5 * j)).take 5).length = 5 := by rw [List.length_take, List.length_drop]; omega
  rw [getN_cons, zerosN_get, not_bit (withN_lt _ _), withN_bit (fun x hx => hb x (List.mem_of_mem_drop (List.mem_of_mem_take hx))) (by rw [LL]; exact hn) hl]
  unfold laneN
  by_cases e : getN ((m.lts.drop (5 * j)).take 5) l = num
  · simp [e, hl]
  · simp [e, hl]
def nextR (N : Nat → List Nat) (m : PlanesM) (num : Nat) : Nat → List Nat
  | 0 => addTwo 6 (N 0) (allN 1)
  | j + 1 => minM (addTwo 6 (N j) (diffN m num j)) (addTwo 6 (minM (N (j + 1)) (nextR N m num j)) (allN 1))
theorem nextR_length {N : Nat → List Nat} (m : PlanesM) (num : Nat) (j : Nat) : (nextR N m num j).length = 6 := by
  cases j with
  | zero => exact addTwo_length _ _ _
  | succ j => rw [nextR, minM_len (twins6 (addTwo_length _ _ _) (addTwo_length _ _ _)), addTwo_length]
theorem nextR_lt {N : Nat → List Nat} (m : PlanesM) (num : Nat) (h : ∀ x ∈ N 0, x < 18446744073709551616) (j : Nat) : ∀ x ∈ nextR N m num j, x < 18446744073709551616 := by
  cases j with
  | zero => exact addTwo_lt h (allN_lt 1)
  | succ j => exact minM_lt _ _
theorem add6_get {a b : List Nat} (ha : a.length = 6) (hb : b.length = 6) (l : Nat) : getN (addTwo 6 a b) l = (getN a l + getN b l) % 64 := by
  have := addTwo_get (a := a) (b := b) (by omega) l
  rw [ha] at this
  exact this
/-- The row of the pattern with one byte more. -/
theorem next_get {N : Nat → List Nat} {m : PlanesM} {p : List UInt8} {i : Nat} (h160 : m.lts.length = 160) (hb : ∀ x ∈ m.lts, x < 18446744073709551616) (hi : i < p.length) (hp : p.length ≤ 32)
    (h6 : ∀ j, j < 33 → (N j).length = 6) (hN : ∀ j, j < 33 → ∀ l, l < 64 → getN (N j) l = dN p m i j l) : ∀ j, j < 33 → ∀ l, l < 64 → getN (nextR N m (letN p[i]) j) l = dN p m (i + 1) j l
  | 0, _, l, hl => by
    rw [nextR, add6_get (h6 0 (by omega)) (allN_length 1), hN 0 (by omega) l hl, allN_get (by omega) hl, dN_left p m i l (by omega), dN_left p m (i + 1) l (by omega)]
    omega
  | j + 1, hj, l, hl => by
    have ih := next_get h160 hb hi hp h6 hN j (by omega) l hl
    have hnl := letN_lt p[i]
    have t2 : twinsB (N (j + 1)) (nextR N m (letN p[i]) j) = true := twins6 (h6 _ hj) (nextR_length _ _ _)
    have b1 := dN_le p m i j l hp
    have b2 := dN_le p m i (j + 1) l hp
    have b3 := dN_le p m (i + 1) j l hp
    rw [nextR, minM_get (twins6 (addTwo_length _ _ _) (addTwo_length _ _ _)) hl, add6_get (h6 j (by omega)) (diffN_length _ _ _), add6_get (by rw [minM_len t2]; exact h6 _ hj) (allN_length 1), minM_get t2 hl, hN j (by omega) l hl, hN (j + 1) hj l hl, ih, diffN_get h160 hb (by omega) (by omega) hl, allN_get (by omega) hl, dN_step p m i j l hi (by omega)]
    split <;> omega
/- The distance at the own length. -/
def atR (N : Nat → List Nat) (lens : List Nat) : Nat → Nat → Nat
  | 0 => fun _ => 0
  | k + 1 => fun i => atR N lens k i ||| ((N k).getD i 0 &&& withN lens k)
theorem atR_lt {N : Nat → List Nat} (lens : List Nat) : ∀ k i, atR N lens k i < 18446744073709551616
  | 0, i => by simp [atR]
  | k + 1, i => Nat.or_lt_two_pow (n := 64) (atR_lt lens k i) (Nat.and_lt_two_pow (n := 64) _ (withN_lt _ _))
theorem atR_bit {N : Nat → List Nat} {lens : List Nat} (h6 : lens.length = 6) (hb : ∀ x ∈ lens, x < 18446744073709551616) {l : Nat} (hl : l < 64) (i : Nat) : ∀ k, k ≤ 64 → (atR N lens k i).testBit l = (decide (getN lens l < k) && ((N (getN lens l)).getD i 0).testBit l)
  | 0, _ => by simp [atR]
  | k + 1, hk => by
    rw [atR, Nat.testBit_or, Nat.testBit_and, atR_bit h6 hb hl i k (by omega), withN_bit hb (by rw [h6]; omega) hl]
    by_cases e : getN lens l = k
    · simp [e]
    · by_cases h : getN lens l < k
      · simp [e, h, show getN lens l < k + 1 by omega]
      · simp [e, h, show ¬ getN lens l < k + 1 by omega]
def atL (N : Nat → List Nat) (lens : List Nat) : List Nat := listN 6 (atR N lens 33)
theorem atL_length (N : Nat → List Nat) (lens : List Nat) : (atL N lens).length = 6 := listN_length _ _
theorem atL_lt (N : Nat → List Nat) (lens : List Nat) : ∀ x ∈ atL N lens, x < 18446744073709551616 := by
  intro x hx
  unfold atL listN at hx
  obtain ⟨i, _, rfl⟩ := List.mem_map.1 hx
  exact atR_lt _ _ _
theorem atL_get {N : Nat → List Nat} {lens : List Nat} (h6 : lens.length = 6) (hb : ∀ x ∈ lens, x < 18446744073709551616) (hN : ∀ j, j < 33 → (N j).length = 6) {l : Nat} (hl : l < 64) (hle : getN lens l < 33) : getN (atL N lens) l = getN (N (getN lens l)) l := by
  apply Nat.eq_of_testBit_eq
  intro i
  rw [getN_bit, getN_bit]
  unfold atL
  by_cases hi : i < 6
  · rw [listN_getD _ hi, atR_bit h6 hb hl i 33 (by omega)]
    simp [hle]
  · have e1 : (listN 6 (atR N lens 33)).getD i 0 = 0 := by
      unfold List.getD
      rw [List.getElem?_eq_none (by rw [listN_length]; omega)]; rfl
    have e2 : (N (getN lens l)).getD i 0 = 0 := by
      unfold List.getD
      rw [List.getElem?_eq_none (by rw [hN _ hle]; omega)]; rfl
    rw [e1, e2]
/- What BatchCapped answers. -/
def capN (p w : List UInt8) : Int := if distZ p w < 7 then distZ p w else 7
def batchM (p : List UInt8) (m : PlanesM) : List Int := if planesOkB m && decide (p.length ≤ 32) then (wordsS m).map (capN p) else []
theorem batchM_len (p : List UInt8) (m : PlanesM) : (batchM p m).length ≤ 64 := by
  unfold batchM
  split
  · rename_i h
    simp only [Bool.and_eq_true] at h
    rw [List.length_map]
    exact (planesB_iff.1 (ok_words h.1).2.1).1
  · simp
theorem batch_no {p : List UInt8} {m : PlanesM} (h : planesOkB m = false ∨ 32 < p.length) : batchM p m = [] := by
  unfold batchM
  rw [if_neg]
  intro c
  simp only [Bool.and_eq_true, decide_eq_true_eq] at c
  rcases h with h | h
  · rw [h] at c; exact absurd c.1 (by simp)
  · omega
theorem batch_yes {p : List UInt8} {m : PlanesM} (h : planesOkB m = true) (hp : p.length ≤ 32) : batchM p m = (wordsS m).map (capN p) := by
  unfold batchM
  rw [if_pos]
  simp [h, hp]
/-- The answer's lane. -/
theorem lane_cap {p : List UInt8} {m : PlanesM} {N : Nat → List Nat} (h : planesOkB m = true) (hp : p.length ≤ 32) (hm6 : m.len.length = 6) (hb : ∀ x ∈ m.len, x < 18446744073709551616) (h6 : ∀ j, j < 33 → (N j).length = 6) (hN : ∀ j, j < 33 → ∀ l, l < 64 → getN (N j) l = dN p m p.length j l)
    {l : Nat} (hl : l < (wordsS m).length) : ((getN (minM (atL N m.len) (allN 7)) l : Nat) : Int) = capN p (wordsS m)[l] := by
  obtain ⟨_, hw, hs⟩ := ok_words h
  have hws := (planesB_iff.1 hw).1
  have hstr := (planesB_iff.1 hw).2 _ (List.getElem_mem hl)
  have h32 := str_len hstr
  have hlen : getN m.len l = (wordsS m)[l].length := by
    have := len_of hw hl
    have e : m.len = lensN (wordsS m) := congrArg PlanesM.len hs
    rw [e]; exact this
  have hl64 : l < 64 := by omega
  rw [minM_get (twins6 (atL_length _ _) (allN_length 7)) hl64, allN_get (by omega) hl64, atL_get hm6 hb h6 hl64 (by omega), hlen, hN _ (by omega) l hl64]
  have hd : dN p m p.length (wordsS m)[l].length l = dist p (wordsS m)[l] := by
    have := dN_word hw hl p
    rw [← hs] at this
    exact this
  rw [hd]
  have hz : distZ p (wordsS m)[l] = (dist p (wordsS m)[l] : Int) := by unfold distZ; rw [if_neg (by omega)]
  unfold capN
  rw [hz]
  split <;> omega
end Go.Proofs.Ytfdlmpjccoaejaa
