/- Chapter 7, plain: words in planes, there and back; the distances of all lanes at once. No program in it. -/
import Derived.Test.YtfdlmpjccoaejaaPlQ
import Derived.Test.YtfdlmpjccoaejaaMyQ
import Derived.Test.YtfdlmpjccoaejaaEdP
namespace Go.Proofs.Ytfdlmpjccoaejaa
set_option linter.unusedVariables false

structure PlanesM where
  n : Int
  len : List Nat
  lts : List Nat
/-- The letter of a word at a place, 1 to 26; 0 behind the end. -/
def letAt (p : Nat) (w : List UInt8) : Nat := if p < w.length then (w.getD p 0).toNat - 96 else 0
def lettersN (ws : List (List UInt8)) (p : Nat) : List Nat := ((List.range p).map fun p => putN (ws.map (letAt p)) 5).flatten
def lensN (ws : List (List UInt8)) : List Nat := putN (ws.map List.length) 6
def planesOf (ws : List (List UInt8)) : PlanesM := ⟨ws.length, lensN ws, lettersN ws 32⟩
def strB (w : List UInt8) : Bool := w.isEmpty || wordB w
def planesB (ws : List (List UInt8)) : Bool := decide (ws.length ≤ 64) && ws.all strB
theorem lettersN_succ (ws : List (List UInt8)) (p : Nat) : lettersN ws (p + 1) = lettersN ws p ++ putN (ws.map (letAt p)) 5 := by
  unfold lettersN; rw [List.range_succ, List.map_append, List.flatten_append]; simp
theorem lettersN_length (ws : List (List UInt8)) : ∀ p, (lettersN ws p).length = 5 * p
  | 0 => by simp [lettersN]
  | p + 1 => by rw [lettersN_succ, List.length_append, lettersN_length ws p, putN_length]; omega
theorem lettersN_part (ws : List (List UInt8)) (p : Nat) : ∀ q, p < q → ((lettersN ws q).drop (5 * p)).take 5 = putN (ws.map (letAt p)) 5
  | 0, h => by omega
  | q + 1, h => by
    rw [lettersN_succ]
    by_cases e : p = q
    · subst e
      rw [← lettersN_length ws p, List.drop_left, List.take_of_length_le (by rw [putN_length]; omega)]
    · have hl := lettersN_length ws q
      rw [List.drop_append_of_le_length (by omega), List.take_append_of_le_length (by rw [List.length_drop]; omega)]
      exact lettersN_part ws p q (by omega)
theorem lettersN_lt (ws : List (List UInt8)) (h : ws.length ≤ 64) : ∀ p, ∀ x ∈ lettersN ws p, x < 18446744073709551616
  | 0, x, hx => by simp [lettersN] at hx
  | p + 1, x, hx => by
    rw [lettersN_succ] at hx
    rcases List.mem_append.1 hx with hx | hx
    · exact lettersN_lt ws h p x hx
    · exact putN_lt _ _ (by simpa using h) x hx
theorem lensN_lt (ws : List (List UInt8)) (h : ws.length ≤ 64) : ∀ x ∈ lensN ws, x < 18446744073709551616 := putN_lt _ _ (by simpa using h)
/-- What a lane has at a place. -/
def laneN (s : PlanesM) (l p : Nat) : Nat := getN ((s.lts.drop (5 * p)).take 5) l
def wordI (s : PlanesM) (l : Nat) : List UInt8 := (List.range (min (getN s.len l) 32)).map fun p => UInt8.ofNat (96 + laneN s l p)
def wordS (s : PlanesM) (l : Nat) : Nat → List UInt8
  | 0 => []
  | p + 1 => wordS s l p ++ if 0 < laneN s l p then [UInt8.ofNat (96 + laneN s l p)] else []
def wordsI (s : PlanesM) : List (List UInt8) := (List.range s.n.toNat).map (wordI s)
def wordsS (s : PlanesM) : List (List UInt8) := (List.range s.n.toNat).map (fun l => wordS s l 32)
theorem laneN_lt (s : PlanesM) (l p : Nat) : laneN s l p < 32 := by
  refine Nat.lt_of_lt_of_le (getN_lt _ _) ?_
  exact Nat.pow_le_pow_right (n := 2) (by omega) (Nat.le_trans (List.length_take_le _ _) (by omega) : _ ≤ 5)
def fitsB (s : PlanesM) : Bool := decide (0 ≤ s.n) && decide (s.n ≤ 64) && decide (s.len.length = 6) && decide (s.lts.length = 160)
def okOf (s : PlanesM) (ws : List (List UInt8)) : Bool := fitsB s && planesB ws && (lensN ws == s.len) && (lettersN ws 32 == s.lts)
def planesOkB (s : PlanesM) : Bool := okOf s (wordsS s)
theorem letAt_lt {w : List UInt8} (h : strB w = true) (p : Nat) : letAt p w < 32 := by
  unfold letAt
  split
  · rename_i hp
    unfold strB at h
    cases w with
    | nil => simp at hp
    | cons c r =>
      simp [wordB] at h
      have hm : (c :: r).getD p 0 ∈ c :: r := by
        have e : (c :: r).getD p 0 = (c :: r)[p] := by rw [List.getD_eq_getElem?_getD, List.getElem?_eq_getElem hp]; rfl
        rw [e]; exact List.getElem_mem hp
      have hlow : lowB ((c :: r).getD p 0) = true := by
        rcases List.mem_cons.1 hm with e | e
        · rw [e]; exact h.2.1
        · exact h.2.2 _ e
      simp [lowB] at hlow
      simp only [List.getD_eq_getElem?_getD] at *
      omega
  · omega
theorem str_len {w : List UInt8} (h : strB w = true) : w.length ≤ 32 := by
  unfold strB at h
  cases w with
  | nil => simp
  | cons c r => simp [wordB] at h; simp; omega
theorem str_low {w : List UInt8} (h : strB w = true) : ∀ c ∈ w, 97 ≤ c.toNat ∧ c.toNat ≤ 122 := by
  unfold strB at h
  cases w with
  | nil => simp
  | cons c r =>
    intro d hd
    simp only [List.isEmpty_cons, Bool.false_or] at h
    unfold wordB at h
    simp only [Bool.and_eq_true, List.all_eq_true] at h
    have := h.2 d hd
    simpa [lowB] using this
theorem planesB_iff {ws : List (List UInt8)} : planesB ws = true ↔ ws.length ≤ 64 ∧ ∀ w ∈ ws, strB w = true := by unfold planesB; simp
/-- What the planes of strings have in a lane. -/
theorem lane_of {ws : List (List UInt8)} (h : planesB ws = true) {l p : Nat} (hl : l < ws.length) (hp : p < 32) : laneN (planesOf ws) l p = letAt p ws[l] := by
  unfold laneN planesOf
  rw [lettersN_part ws p 32 hp, get_put_small]
  · simp [List.getD, hl]
  · intro x hx
    obtain ⟨w, hw, rfl⟩ := List.mem_map.1 hx
    exact letAt_lt ((planesB_iff.1 h).2 w hw) p
theorem len_of {ws : List (List UInt8)} (h : planesB ws = true) {l : Nat} (hl : l < ws.length) : getN (lensN ws) l = ws[l].length := by
  unfold lensN
  rw [get_put_small]
  · simp [List.getD, hl]
  · intro x hx
    obtain ⟨w, hw, rfl⟩ := List.mem_map.1 hx
    have := str_len ((planesB_iff.1 h).2 w hw)
    omega
theorem letAt_back {w : List UInt8} (h : strB w = true) {p : Nat} (hp : p < w.length) : 0 < letAt p w ∧ UInt8.ofNat (96 + letAt p w) = w[p] := by
  have hl := str_low h w[p] (List.getElem_mem hp)
  have e : w.getD p 0 = w[p] := by simp [List.getD, hp]
  unfold letAt
  rw [if_pos hp, e]
  refine ⟨by omega, ?_⟩
  rw [show 96 + (w[p].toNat - 96) = w[p].toNat from by omega]
  simp
theorem wordI_of {ws : List (List UInt8)} (h : planesB ws = true) {l : Nat} (hl : l < ws.length) : wordI (planesOf ws) l = ws[l] := by
  have hs := (planesB_iff.1 h).2 _ (List.getElem_mem hl)
  have h32 := str_len hs
  have hlen : getN (planesOf ws).len l = ws[l].length := len_of h hl
  unfold wordI
  rw [hlen, Nat.min_eq_left h32]
  apply List.ext_getElem
  · simp
  intro p h1 h2
  simp only [List.getElem_map, List.getElem_range]
  rw [lane_of h hl (by omega)]
  exact (letAt_back hs h2).2
theorem wordS_of {ws : List (List UInt8)} (h : planesB ws = true) {l : Nat} (hl : l < ws.length) : ∀ p, p ≤ 32 → wordS (planesOf ws) l p = ws[l].take p
  | 0, _ => by simp [wordS]
  | p + 1, hp => by
    have hs := (planesB_iff.1 h).2 _ (List.getElem_mem hl)
    rw [wordS, wordS_of h hl p (by omega), lane_of h hl (by omega)]
    by_cases hlt : p < ws[l].length
    · have hb := letAt_back hs hlt
      rw [if_pos hb.1, hb.2, List.take_succ_eq_append_getElem hlt]
    · have e : letAt p ws[l] = 0 := by unfold letAt; rw [if_neg hlt]
      rw [e, if_neg (by omega), List.take_of_length_le (by omega), List.take_of_length_le (by omega)]
      simp
theorem wordsI_of {ws : List (List UInt8)} (h : planesB ws = true) : wordsI (planesOf ws) = ws := by
  unfold wordsI
  apply List.ext_getElem
  · simp [planesOf]
  intro l h1 h2
  simp only [List.getElem_map, List.getElem_range]
  exact wordI_of h h2
theorem wordsS_of {ws : List (List UInt8)} (h : planesB ws = true) : wordsS (planesOf ws) = ws := by
  unfold wordsS
  apply List.ext_getElem
  · simp [planesOf]
  intro l h1 h2
  simp only [List.getElem_map, List.getElem_range]
  rw [wordS_of h h2 32 (Nat.le_refl _), List.take_of_length_le (str_len ((planesB_iff.1 h).2 _ (List.getElem_mem h2)))]
theorem wordsS_length (s : PlanesM) : (wordsS s).length = s.n.toNat := by simp [wordsS]
theorem wordsI_length (s : PlanesM) : (wordsI s).length = s.n.toNat := by simp [wordsI]
theorem okOf_is {s : PlanesM} {ws : List (List UInt8)} (hw : ws.length = s.n.toNat) (h : okOf s ws = true) : planesB ws = true ∧ s = planesOf ws := by
  unfold okOf fitsB at h
  simp only [Bool.and_eq_true, decide_eq_true_eq, beq_iff_eq] at h
  obtain ⟨⟨⟨⟨⟨⟨h1, h2⟩, h3⟩, h4⟩, h5⟩, h6⟩, h7⟩ := h
  refine ⟨h5, ?_⟩
  cases s
  simp only [planesOf, PlanesM.mk.injEq] at *
  exact ⟨by omega, h6.symm, h7.symm⟩
theorem ok_planes {ws : List (List UInt8)} (h : planesB ws = true) : okOf (planesOf ws) ws = true := by
  have h64 := (planesB_iff.1 h).1
  unfold okOf fitsB
  simp only [Bool.and_eq_true, decide_eq_true_eq, beq_iff_eq]
  refine ⟨⟨⟨⟨⟨⟨?_, ?_⟩, ?_⟩, ?_⟩, h⟩, rfl⟩, rfl⟩
  · simp [planesOf]
  · simp [planesOf]; omega
  · simp [planesOf, lensN, putN_length]
  · show (lettersN ws 32).length = 160
    rw [lettersN_length]
/-- Both ways of reading the strings off agree. -/
theorem okI_is (s : PlanesM) : okOf s (wordsI s) = planesOkB s := by
  unfold planesOkB
  rw [Bool.eq_iff_iff]
  constructor
  · intro h
    obtain ⟨h1, h2⟩ := okOf_is (wordsI_length s) h
    generalize wordsI s = ws at *
    subst h2
    rw [wordsS_of h1]
    exact ok_planes h1
  · intro h
    obtain ⟨h1, h2⟩ := okOf_is (wordsS_length s) h
    generalize wordsS s = ws at *
    subst h2
    rw [wordsI_of h1]
    exact ok_planes h1
theorem ok_words {s : PlanesM} (h : planesOkB s = true) : wordsI s = wordsS s ∧ planesB (wordsS s) = true ∧ s = planesOf (wordsS s) := by
  obtain ⟨h1, h2⟩ := okOf_is (wordsS_length s) h
  refine ⟨?_, h1, h2⟩
  have := wordsI_of h1
  rw [← h2] at this
  exact this
def wordsM (s : PlanesM) : List (List UInt8) := if planesOkB s then wordsS s else []
theorem wordsM_ok {ws : List (List UInt8)} (h : planesB ws = true) : planesOkB (planesOf ws) = true ∧ wordsM (planesOf ws) = ws := by
  have h1 : planesOkB (planesOf ws) = true := by unfold planesOkB; rw [wordsS_of h]; exact ok_planes h
  refine ⟨h1, ?_⟩
  unfold wordsM
  rw [if_pos h1, wordsS_of h]

/- Distances of all lanes. -/
/-- 1 for a to 26 for z, 0 for all other bytes. -/
def letN (c : UInt8) : Nat := if lowB c then c.toNat - 96 else 0
theorem letN_lt (c : UInt8) : letN c < 27 := by
  unfold letN
  split
  · rename_i h; simp [lowB] at h; omega
  · omega
theorem letN_same {c d : UInt8} (h : lowB d = true) : (letN c = letN d ↔ c = d) := by
  constructor
  · intro e
    unfold letN at e
    rw [if_pos h] at e
    have hd : 97 ≤ d.toNat ∧ d.toNat ≤ 122 := by simpa [lowB] using h
    by_cases hc : lowB c = true
    · rw [if_pos hc] at e
      have hc' : 97 ≤ c.toNat ∧ c.toNat ≤ 122 := by simpa [lowB] using hc
      exact UInt8.toNat.inj (by omega)
    · rw [if_neg hc] at e; omega
  · intro e; rw [e]
def u8 (n : Nat) : UInt8 := UInt8.ofNat n
theorem u8_inj {a b : Nat} (ha : a < 256) (hb : b < 256) : (u8 a = u8 b ↔ a = b) := by
  constructor
  · intro h
    have := congrArg UInt8.toNat h
    simp [u8] at this
    omega
  · intro h; rw [h]
theorem dist_map (f : UInt8 → UInt8) : ∀ (a b : List UInt8), (∀ x ∈ a, ∀ y ∈ b, (f x = f y ↔ x = y)) → dist (a.map f) (b.map f) = dist a b
  | [], b, _ => by simp [dist_nil]
  | x :: a, [], _ => by simp [dist_end]
  | x :: a, y :: b, h => by
    rw [List.map_cons, List.map_cons, dist_cons, dist_cons]
    have h1 := dist_map f a b (fun u hu v hv => h u (List.mem_cons_of_mem _ hu) v (List.mem_cons_of_mem _ hv))
    have h2 := dist_map f a (y :: b) (fun u hu v hv => h u (List.mem_cons_of_mem _ hu) v hv)
    have h3 := dist_map f (x :: a) b (fun u hu v hv => h u hu v (List.mem_cons_of_mem _ hv))
    rw [List.map_cons] at h2 h3
    rw [h1, h2, h3]
    have := h x List.mem_cons_self y List.mem_cons_self
    by_cases e : x = y
    · rw [if_pos e, if_pos (this.2 e)]
    · rw [if_neg e, if_neg (fun c => e (this.1 c))]
/-- The letters of a lane, as bytes. -/
def lineL (s : PlanesM) (l : Nat) : List UInt8 := (List.range 32).map fun p => u8 (laneN s l p)
theorem lineL_length (s : PlanesM) (l : Nat) : (lineL s l).length = 32 := by simp [lineL]
theorem lineL_at (s : PlanesM) (l p : Nat) (h : p < (lineL s l).length) : (lineL s l)[p] = u8 (laneN s l p) := by simp [lineL]
def numL (p : List UInt8) : List UInt8 := p.map fun c => u8 (letN c)
/-- The distance of the pattern's first i bytes from a lane's first j places. -/
def dN (p : List UInt8) (s : PlanesM) (i j l : Nat) : Nat := dist ((numL p).take i) ((lineL s l).take j)
theorem dN_zero (p : List UInt8) (s : PlanesM) (j l : Nat) (hj : j ≤ 32) : dN p s 0 j l = j := by
  unfold dN; rw [List.take_zero, dist_nil, List.length_take, lineL_length, Nat.min_eq_left hj]
theorem dN_left (p : List UInt8) (s : PlanesM) (i l : Nat) (hi : i ≤ p.length) : dN p s i 0 l = i := by
  unfold dN; rw [List.take_zero, dist_end, List.length_take]; simp [numL]; exact Nat.min_eq_left hi
theorem dN_le (p : List UInt8) (s : PlanesM) (i j l : Nat) (hp : p.length ≤ 32) : dN p s i j l ≤ 32 := by
  refine Nat.le_trans (dist_max _ _) (Nat.max_le.2 ⟨?_, ?_⟩)
  · exact Nat.le_trans (List.length_take_le' _ _) (by simp [numL]; exact hp)
  · exact Nat.le_trans (List.length_take_le' _ _) (by rw [lineL_length]; omega)
theorem dN_step (p : List UInt8) (s : PlanesM) (i j l : Nat) (hi : i < p.length) (hj : j < 32) :
    dN p s (i + 1) (j + 1) l = min (dN p s i j l + if laneN s l j = letN p[i] then 0 else 1) (min (dN p s i (j + 1) l) (dN p s (i + 1) j l) + 1) := by
  unfold dN
  have h1 : i < (numL p).length := by simp [numL]; exact hi
  have h2 : j < (lineL s l).length := by rw [lineL_length]; exact hj
  rw [List.take_succ_eq_append_getElem h1, List.take_succ_eq_append_getElem h2, dist_snoc, lineL_at]
  have e1 : (numL p)[i] = u8 (letN p[i]) := by simp [numL]
  rw [e1]
  have hb := u8_inj (a := letN p[i]) (b := laneN s l j) (by have := letN_lt p[i]; omega) (by have := laneN_lt s l j; omega)
  by_cases e : laneN s l j = letN p[i]
  · rw [if_pos (hb.2 e.symm), if_pos e]; omega
  · rw [if_neg (fun c => e (hb.1 c).symm), if_neg e]; omega
theorem dN_word {ws : List (List UInt8)} (h : planesB ws = true) {l : Nat} (hl : l < ws.length) (p : List UInt8) : dN p (planesOf ws) p.length ws[l].length l = dist p ws[l] := by
  have hs := (planesB_iff.1 h).2 _ (List.getElem_mem hl)
  have h32 := str_len hs
  have e1 : (numL p).take p.length = p.map fun c => u8 (letN c) := by rw [List.take_of_length_le (by simp [numL])]; rfl
  have e2 : (lineL (planesOf ws) l).take ws[l].length = ws[l].map fun c => u8 (letN c) := by
    apply List.ext_getElem
    · rw [List.length_take, lineL_length, List.length_map, Nat.min_eq_left h32]
    intro k h1 h2
    have hk : k < ws[l].length := by simpa using h2
    rw [List.getElem_take, lineL_at, List.getElem_map, lane_of h hl (by omega)]
    unfold letAt letN
    have hlow := str_low hs ws[l][k] (List.getElem_mem hk)
    have hB : lowB ws[l][k] = true := by simp [lowB, hlow.1, hlow.2]
    rw [if_pos hk, if_pos hB]
    simp [List.getD, hk]
  unfold dN
  rw [e1, e2]
  refine dist_map _ _ _ fun x hx y hy => ?_
  have hlow := str_low hs y hy
  have hB : lowB y = true := by simp [lowB, hlow.1, hlow.2]
  rw [u8_inj (by have := letN_lt x; omega) (by have := letN_lt y; omega)]
  exact letN_same hB
/- A number in all lanes; the lanes with a number. -/
def allOf (b : Bool) : Nat := if b then 18446744073709551615 else 0
theorem allOf_lt (b : Bool) : allOf b < 18446744073709551616 := by unfold allOf; split <;> omega
theorem allOf_bit (b : Bool) {l : Nat} (hl : l < 64) : (allOf b).testBit l = b := by
  cases b
  · simp [allOf]
  · have := Nat.testBit_two_pow_sub_one 64 l
    simp only [allOf, ↓reduceIte]
    rw [show 18446744073709551615 = 2 ^ 64 - 1 from rfl, this]
    simp [hl]
def allN (n : Nat) : List Nat := listN 6 (fun i => allOf (n.testBit i))
theorem allN_length (n : Nat) : (allN n).length = 6 := listN_length _ _
theorem allN_lt (n : Nat) : ∀ x ∈ allN n, x < 18446744073709551616 := by
  intro x hx
  unfold allN listN at hx
  obtain ⟨i, _, rfl⟩ := List.mem_map.1 hx
  exact allOf_lt _
theorem allN_get {n l : Nat} (hn : n < 64) (hl : l < 64) : getN (allN n) l = n := by
  apply Nat.eq_of_testBit_eq
  intro j
  rw [getN_bit]
  unfold allN
  by_cases hj : j < 6
  · rw [listN_getD _ hj, allOf_bit _ hl]
  · have e : (listN 6 fun i => allOf (n.testBit i)).getD j 0 = 0 := by
      unfold List.getD
      rw [List.getElem?_eq_none (by rw [listN_length]; omega)]; rfl
    have hb : n.testBit j = false := bits_of_lt (n := 6) (x := n) (by omega) (by omega)
    rw [e, hb]
    simp
def otherN (a : Nat → Nat) (n : Nat) : Nat → Nat
  | 0 => 0
  | i + 1 => otherN a n i ||| (a i ^^^ allOf (n.testBit i))
theorem otherN_lt {a : Nat → Nat} (ha : ∀ i, a i < 18446744073709551616) (n : Nat) : ∀ i, otherN a n i < 18446744073709551616
  | 0 => by simp [otherN]
  | i + 1 => Nat.or_lt_two_pow (n := 64) (otherN_lt ha n i) (Nat.xor_lt_two_pow (n := 64) (ha i) (allOf_lt _))
theorem otherN_bit (a : Nat → Nat) (n : Nat) {l : Nat} (hl : l < 64) : ∀ k, (otherN a n k).testBit l = false ↔ ∀ i, i < k → (a i).testBit l = n.testBit i
  | 0 => by simp [otherN]
  | k + 1 => by
    rw [otherN, Nat.testBit_or, Nat.testBit_xor, allOf_bit _ hl, Bool.or_eq_false_iff, otherN_bit a n hl k]
    constructor
    · rintro ⟨h1, h2⟩ i hi
      by_cases e : i = k
      · subst e; simpa using h2
      · exact h1 i (by omega)
    · intro h
      exact ⟨fun i hi => h i (by omega), by rw [h k (by omega)]; simp⟩
/-- The lanes whose number is n. -/
def withN (nums : List Nat) (n : Nat) : Nat := notN (otherN (fun i => nums.getD i 0) n nums.length)
theorem withN_lt (nums : List Nat) (n : Nat) : withN nums n < 18446744073709551616 := notN_lt _
theorem withN_bit {nums : List Nat} {n l : Nat} (h : ∀ x ∈ nums, x < 18446744073709551616) (hn : n < 2 ^ nums.length) (hl : l < 64) : (withN nums n).testBit l = decide (getN nums l = n) := by
  have hg := getD_lt (B := 18446744073709551616) (by omega) h
  unfold withN
  rw [not_bit (otherN_lt hg n _)]
  have hb := otherN_bit (fun i => nums.getD i 0) n hl nums.length
  have key : (∀ i, i < nums.length → (nums.getD i 0).testBit l = n.testBit i) ↔ getN nums l = n := by
    constructor
    · intro hi
      apply Nat.eq_of_testBit_eq
      intro j
      rw [getN_bit]
      by_cases hj : j < nums.length
      · exact hi j hj
      · have e : nums.getD j 0 = 0 := by
          unfold List.getD
          rw [List.getElem?_eq_none (by omega)]; rfl
        rw [e, bits_of_lt (n := nums.length) hn (by omega)]; simp
    · intro e i hi
      rw [← getN_bit, e]
  by_cases e : getN nums l = n
  · rw [hb.2 (key.2 e)]; simp [hl, e]
  · have : (otherN (fun i => nums.getD i 0) n nums.length).testBit l = true := by
      cases q : (otherN (fun i => nums.getD i 0) n nums.length).testBit l with
      | true => rfl
      | false => exact absurd (key.1 (hb.1 q)) e
    rw [this]; simp [e]
end Go.Proofs.Ytfdlmpjccoaejaa
