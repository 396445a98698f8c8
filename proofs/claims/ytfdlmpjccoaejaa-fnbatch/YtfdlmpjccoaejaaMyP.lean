/- Bit-parallel columns, plain: a column of distances as two numbers of bits; the step; no program in it. -/
import Derived.Test.YtfdlmpjccoaejaaBitsP
import Derived.Test.YtfdlmpjccoaejaaPlain1
namespace Go.Proofs.Ytfdlmpjccoaejaa
set_option linter.unusedVariables false

/-- The number whose bits below n are those of c. -/
def bitsUp (c : Nat → Bool) : Nat → Nat
  | 0 => 0
  | i + 1 => bitsUp c i + if c i then 2 ^ i else 0
theorem bitsUp_lt (c : Nat → Bool) : ∀ n, bitsUp c n < 2 ^ n
  | 0 => by simp [bitsUp]
  | n + 1 => by
    have := bitsUp_lt c n
    rw [bitsUp, Nat.pow_succ]
    split <;> omega
theorem bitsUp_or (c : Nat → Bool) (n : Nat) : bitsUp c (n + 1) = bitsUp c n ||| (if c n then 2 ^ n else 0) := by
  rw [bitsUp]
  cases c n
  · simp
  · have := Nat.two_pow_add_eq_or_of_lt (bitsUp_lt c n) 1
    simp only [Nat.mul_one] at this
    simp only [↓reduceIte]
    rw [Nat.add_comm, this, Nat.or_comm]
theorem bitsUp_bit (c : Nat → Bool) : ∀ n j, (bitsUp c n).testBit j = (decide (j < n) && c j)
  | 0, j => by simp [bitsUp]
  | n + 1, j => by
    rw [bitsUp_or, Nat.testBit_or, bitsUp_bit c n j]
    by_cases e : j = n
    · subst e
      cases c j <;> simp
    · have h2 : (if c n = true then 2 ^ n else 0).testBit j = false := by
        split
        · rw [Nat.testBit_two_pow]; simp; omega
        · simp
      rw [h2]
      by_cases h : j < n
      · simp [h, show j < n + 1 by omega]
      · simp [h, show ¬ j < n + 1 by omega]
theorem bitsUp_ext {c d : Nat → Bool} : ∀ n, (∀ i, i < n → c i = d i) → bitsUp c n = bitsUp d n
  | 0, _ => rfl
  | n + 1, h => by rw [bitsUp, bitsUp, bitsUp_ext n (fun i hi => h i (by omega)), h n (by omega)]
theorem bitsUp_is {x n : Nat} {c : Nat → Bool} (h : ∀ j, x.testBit j = (decide (j < n) && c j)) : x = bitsUp c n := by
  apply Nat.eq_of_testBit_eq
  intro i
  rw [h, bitsUp_bit]
theorem bitsUp_true (n : Nat) : bitsUp (fun _ => true) n = 2 ^ n - 1 := by
  induction n with
  | zero => rfl
  | succ n ih => rw [bitsUp, ih, Nat.pow_succ]; have := Nat.pow_pos (a := 2) (n := n) (by omega); simp only [↓reduceIte]; omega
theorem bitsUp_false (n : Nat) : bitsUp (fun _ => false) n = 0 := by
  induction n with
  | zero => rfl
  | succ n ih => rw [bitsUp, ih]; simp

/-- A bit as a number. -/
def bI (x i : Nat) : Int := if x.testBit i then 1 else 0
theorem bI_of (x i : Nat) : ((x / 2 ^ i % 2 : Nat) : Int) = bI x i := by
  unfold bI
  rw [Nat.testBit_eq_decide_div_mod_eq]
  rcases Nat.mod_two_eq_zero_or_one (x / 2 ^ i) with h | h <;> rw [h] <;> simp
theorem bI_range (x i : Nat) : 0 ≤ bI x i ∧ bI x i ≤ 1 := by unfold bI; split <;> omega
def sumB (pv mv : Nat) : Nat → Int
  | 0 => 0
  | i + 1 => sumB pv mv i + bI pv i - bI mv i
/-- The column's element at index i. -/
def colZ (pv mv : Nat) (sc : Int) (n i : Nat) : Int := sc - sumB pv mv n + sumB pv mv i
theorem colZ_last (pv mv : Nat) (sc : Int) (n : Nat) : colZ pv mv sc n n = sc := by unfold colZ; omega
theorem colZ_succ (pv mv : Nat) (sc : Int) (n i : Nat) : colZ pv mv sc n (i + 1) = colZ pv mv sc n i + bI pv i - bI mv i := by unfold colZ; rw [sumB]; omega
theorem sumB_near (pv mv i : Nat) : ∀ k : Nat, -(k : Int) ≤ sumB pv mv (i + k) - sumB pv mv i ∧ sumB pv mv (i + k) - sumB pv mv i ≤ k
  | 0 => by simp
  | k + 1 => by
    have h := sumB_near pv mv i k
    have h1 := bI_range pv (i + k)
    have h2 := bI_range mv (i + k)
    rw [show i + (k + 1) = (i + k) + 1 from by omega, sumB]
    push_cast
    omega
theorem colZ_near (pv mv : Nat) (sc : Int) (n i : Nat) (h : i ≤ n) : sc - n ≤ colZ pv mv sc n i ∧ colZ pv mv sc n i ≤ sc + n := by
  have := sumB_near pv mv i (n - i)
  rw [show i + (n - i) = n from by omega] at this
  unfold colZ
  omega

/-- A valid column. -/
structure BOk (pv mv : Nat) (sc : Int) (n : Nat) : Prop where
  len : n ≤ 32
  dis : ∀ j, pv.testBit j = true → mv.testBit j = true → False
  hp : pv < 2 ^ n
  hm : mv < 2 ^ n
  col : ∀ i, i ≤ n → 0 ≤ colZ pv mv sc n i ∧ colZ pv mv sc n i ≤ 64
/-- One bit place of a valid column of length ln. -/
def placeB (pv mv : Nat) (ln : Int) (j : Nat) : Bool := !(pv.testBit j && mv.testBit j) && (decide ((j : Int) < ln) || !(pv.testBit j || mv.testBit j))
def rangeB (z : Int) : Bool := decide (0 ≤ z) && decide (z ≤ 64)
def okB (pv mv : Nat) (sc ln : Int) : Bool := decide (0 ≤ ln) && decide (ln ≤ 32) && rangeB sc && (List.range 64).all (placeB pv mv ln) && (List.range (ln.toNat + 1)).all (fun i => rangeB (colZ pv mv sc ln.toNat i))
theorem rangeB_iff (z : Int) : rangeB z = true ↔ 0 ≤ z ∧ z ≤ 64 := by unfold rangeB; simp
theorem lt_of_bits {x n : Nat} (hx : x < 2 ^ 64) (h : ∀ j, j < 64 → n ≤ j → x.testBit j = false) : x < 2 ^ n := by
  apply Nat.lt_pow_two_of_testBit
  intro i hi
  by_cases h64 : i < 64
  · exact h i h64 hi
  · exact Nat.testBit_lt_two_pow (Nat.lt_of_lt_of_le hx (Nat.pow_le_pow_right (by omega) (by omega)))
theorem bits_of_lt {x n j : Nat} (h : x < 2 ^ n) (hj : n ≤ j) : x.testBit j = false := Nat.testBit_lt_two_pow (Nat.lt_of_lt_of_le h (Nat.pow_le_pow_right (by omega) hj))
theorem okB_of {pv mv : Nat} {sc ln : Int} (hpv : pv < 18446744073709551616) (hmv : mv < 18446744073709551616) (h : okB pv mv sc ln = true) : ∃ n : Nat, ln = n ∧ BOk pv mv sc n := by
  unfold okB at h
  simp only [Bool.and_eq_true, decide_eq_true_eq, List.all_eq_true, List.mem_range] at h
  obtain ⟨⟨⟨⟨h0, h1⟩, h2⟩, h3⟩, h4⟩ := h
  have e : ((ln.toNat : Nat) : Int) = ln := by omega
  have P : ∀ j, j < 64 → (pv.testBit j && mv.testBit j) = false ∧ (ln.toNat ≤ j → pv.testBit j = false ∧ mv.testBit j = false) := by
    intro j hj
    have := h3 j hj
    unfold placeB at this
    simp only [Bool.and_eq_true, Bool.not_eq_true', Bool.or_eq_true, decide_eq_true_eq] at this
    refine ⟨this.1, fun hl => ?_⟩
    rcases this.2 with h | h
    · omega
    · simpa using h
  refine ⟨ln.toNat, e.symm, by omega, ?_, ?_, ?_, ?_⟩
  · intro j hp hm
    by_cases hj : j < 64
    · have := (P j hj).1
      rw [hp, hm] at this
      simp at this
    · rw [bits_of_lt (n := 64) hpv (by omega)] at hp
      cases hp
  · exact lt_of_bits hpv fun j h1 h2 => ((P j h1).2 h2).1
  · exact lt_of_bits hmv fun j h1 h2 => ((P j h1).2 h2).2
  · intro i hi
    exact (rangeB_iff _).1 (h4 i (by omega))
theorem okB_is {pv mv n : Nat} {sc : Int} (h : BOk pv mv sc n) : okB pv mv sc n = true := by
  unfold okB
  simp only [Bool.and_eq_true, decide_eq_true_eq, List.all_eq_true, List.mem_range]
  have := h.len
  refine ⟨⟨⟨⟨by omega, by omega⟩, (rangeB_iff _).2 ?_⟩, ?_⟩, ?_⟩
  · have := h.col n (Nat.le_refl _)
    rw [colZ_last] at this
    exact this
  · intro j hj
    unfold placeB
    by_cases hl : j < n
    · have h1 : ((j : Int) < (n : Int)) := by omega
      have := h.dis j
      cases hp : pv.testBit j <;> cases hm : mv.testBit j <;> simp_all
    · rw [bits_of_lt h.hp (by omega), bits_of_lt h.hm (by omega)]; simp
  · intro i hi
    rw [show ((n : Int)).toNat = n from by simp] at hi ⊢
    exact (rangeB_iff _).2 (h.col i (by omega))

/-- The next column of d, by the table's own rule. -/
def eZ (d : Nat → Int) (eq : Nat) : Nat → Int
  | 0 => d 0 + 1
  | i + 1 => min (eZ d eq i + 1) (min (d (i + 1) + 1) (d i + if eq.testBit i then 0 else 1))
/-- An element that is one less than before makes the next one do so. -/
def carB (eq pv : Nat) : Nat → Bool
  | 0 => false
  | i + 1 => pv.testBit i && (eq.testBit i || carB eq pv i)
def sameB (eq pv mv i : Nat) : Bool := eq.testBit i || mv.testBit i || carB eq pv i
theorem add_div (eq pv : Nat) : ∀ i, ((eq &&& pv) + pv) / 2 ^ i = (eq &&& pv) / 2 ^ i + pv / 2 ^ i + (carB eq pv i).toNat
  | 0 => by simp [carB]
  | i + 1 => by
    have h := add_div eq pv i
    have e1 : ∀ x : Nat, x / 2 ^ (i + 1) = x / 2 ^ i / 2 := fun x => by rw [Nat.pow_succ, Nat.div_div_eq_div_mul]
    rw [e1, e1, e1, h, carB]
    have a1 := bit_is (eq &&& pv) i
    have a2 := bit_is pv i
    rw [Nat.testBit_and] at a1
    generalize (eq &&& pv) / 2 ^ i = A at *
    generalize pv / 2 ^ i = B at *
    cases he : eq.testBit i <;> cases hp : pv.testBit i <;> cases hc : carB eq pv i <;> rw [hp] at a1 a2 <;> rw [he] at a1 <;> simp at a1 a2 ⊢ <;> omega
theorem add_bit (eq pv i : Nat) : ((eq &&& pv) + pv).testBit i = ((eq.testBit i && pv.testBit i) ^^ (pv.testBit i ^^ carB eq pv i)) := by
  rw [← bit_is ((eq &&& pv) + pv), add_div]
  have a1 := bit_is (eq &&& pv) i
  have a2 := bit_is pv i
  rw [Nat.testBit_and] at a1
  generalize (eq &&& pv) / 2 ^ i = A at *
  generalize pv / 2 ^ i = B at *
  cases he : eq.testBit i <;> cases hp : pv.testBit i <;> cases hc : carB eq pv i <;> rw [hp] at a1 a2 <;> rw [he] at a1 <;> simp at a1 a2 ⊢ <;> omega

/-- The step's numbers, as the program has them. -/
def sameN (eq pv mv : Nat) : Nat := ((((eq &&& pv) + pv) ^^^ pv) ||| eq) ||| mv
def upN (x : Nat) : Nat := x * 2 % 18446744073709551616
def notN (x : Nat) : Nat := 18446744073709551615 - x
def moreN (eq pv mv : Nat) : Nat := upN (mv ||| notN (sameN eq pv mv ||| pv)) ||| 1
def lessN (eq pv mv : Nat) : Nat := upN (sameN eq pv mv &&& pv)
def stepP (eq pv mv n : Nat) : Nat := (lessN eq pv mv ||| notN (sameN eq pv mv ||| moreN eq pv mv)) &&& (2 ^ n - 1)
def stepM (eq pv mv n : Nat) : Nat := (sameN eq pv mv &&& moreN eq pv mv) &&& (2 ^ n - 1)
theorem same_bit (eq pv mv i : Nat) : (sameN eq pv mv).testBit i = sameB eq pv mv i := by
  unfold sameN sameB
  rw [Nat.testBit_or, Nat.testBit_or, Nat.testBit_xor, add_bit]
  cases eq.testBit i <;> cases pv.testBit i <;> cases mv.testBit i <;> cases carB eq pv i <;> rfl
theorem not_bit {x i : Nat} (hx : x < 18446744073709551616) : (notN x).testBit i = (decide (i < 64) && !x.testBit i) := by
  have := Nat.testBit_two_pow_sub_succ (n := 64) (x := x) hx i
  rw [← this]
  unfold notN
  congr 1
  omega
theorem notN_lt (x : Nat) : notN x < 18446744073709551616 := by unfold notN; omega
theorem upN_lt (x : Nat) : upN x < 18446744073709551616 := by unfold upN; omega
theorem up_zero (x : Nat) : (upN x).testBit 0 = false := by
  unfold upN; rw [Nat.testBit_zero]
  simp
theorem up_bit (x i : Nat) (hi : i + 1 < 64) : (upN x).testBit (i + 1) = x.testBit i := by
  unfold upN
  rw [show (18446744073709551616 : Nat) = 2 ^ 64 from by decide, Nat.testBit_mod_two_pow, Nat.testBit_succ]
  simp [hi]
theorem sameN_lt {eq pv mv : Nat} (he : eq < 18446744073709551616) (hp : pv < 4294967297) (hm : mv < 4294967297) : sameN eq pv mv < 18446744073709551616 := by
  unfold sameN
  have h1 : eq &&& pv ≤ pv := Nat.and_le_right
  exact Nat.or_lt_two_pow (n := 64) (Nat.or_lt_two_pow (Nat.xor_lt_two_pow (by omega) (by omega)) (by omega)) (by omega)
theorem moreN_lt {eq pv mv : Nat} : moreN eq pv mv < 18446744073709551616 := Nat.or_lt_two_pow (n := 64) (upN_lt _) (by decide)
theorem lessN_lt {eq pv mv : Nat} : lessN eq pv mv < 18446744073709551616 := upN_lt _

theorem core {eq pv mv n : Nat} {d : Nat → Int} (hd : ∀ i, i < n → d (i + 1) = d i + bI pv i - bI mv i) (dis : ∀ j, pv.testBit j = true → mv.testBit j = true → False) :
    ∀ i, i ≤ n → -1 ≤ eZ d eq i - d i ∧ eZ d eq i - d i ≤ 1 ∧ (carB eq pv i = true ↔ eZ d eq i = d i - 1)
  | 0, _ => by simp [eZ, carB]; omega
  | i + 1, h => by
    obtain ⟨h1, h2, h3⟩ := core hd dis i (by omega)
    have hi := hd i (by omega)
    have hx := dis i
    rw [eZ, carB, hi]
    unfold bI at hi ⊢
    generalize eZ d eq i = e at *
    cases he : eq.testBit i <;> cases hp : pv.testBit i <;> cases hm : mv.testBit i <;> cases hc : carB eq pv i <;> rw [hc] at h3 <;> simp_all <;> omega
theorem same_is {eq pv mv n : Nat} {d : Nat → Int} (hd : ∀ i, i < n → d (i + 1) = d i + bI pv i - bI mv i) (dis : ∀ j, pv.testBit j = true → mv.testBit j = true → False) (i : Nat) (h : i < n) :
    eZ d eq (i + 1) = d i + if sameB eq pv mv i then 0 else 1 := by
  obtain ⟨h1, h2, h3⟩ := core (eq := eq) hd dis i (by omega)
  have hi := hd i h
  have hx := dis i
  rw [eZ, hi]
  unfold bI sameB at *
  generalize eZ d eq i = e at *
  cases he : eq.testBit i <;> cases hp : pv.testBit i <;> cases hm : mv.testBit i <;> cases hc : carB eq pv i <;> rw [hc] at h3 <;> simp_all <;> omega
/-- The bits of more and less compare new and old at the same index. -/
theorem more_is {eq pv mv n : Nat} {d : Nat → Int} (he : eq < 18446744073709551616) (hpv : pv < 2 ^ n) (hmv : mv < 2 ^ n) (hn : n ≤ 32) (hd : ∀ i, i < n → d (i + 1) = d i + bI pv i - bI mv i) (dis : ∀ j, pv.testBit j = true → mv.testBit j = true → False) :
    ∀ i, i ≤ n → (moreN eq pv mv).testBit i = decide (eZ d eq i = d i + 1) ∧ (lessN eq pv mv).testBit i = decide (eZ d eq i = d i - 1)
  | 0, _ => by
    unfold moreN lessN
    rw [Nat.testBit_or, up_zero, up_zero, eZ]
    have : ¬ d 0 + 1 = d 0 - 1 := by omega
    simp [this]
  | i + 1, h => by
    have p32 : 2 ^ n ≤ 4294967296 := Nat.pow_le_pow_right (n := 2) (by omega) hn
    have hs := same_is (eq := eq) hd dis i (by omega)
    have hl := sameN_lt (eq := eq) (pv := pv) (mv := mv) he (by omega) (by omega)
    have hi := hd i (by omega)
    have hx := dis i
    unfold moreN lessN
    rw [Nat.testBit_or, up_bit _ _ (by omega), up_bit _ _ (by omega), Nat.testBit_or, not_bit (Nat.or_lt_two_pow (n := 64) hl (by omega)), Nat.testBit_or, Nat.testBit_and, same_bit, hs, hi]
    have h64 : i < 64 := by omega
    have hone : (1 : Nat).testBit (i + 1) = false := by simp [Nat.testBit_succ]
    rw [hone]
    simp only [h64, decide_true, Bool.true_and, Bool.or_false]
    unfold sameB bI at *
    cases hq : eq.testBit i <;> cases hp : pv.testBit i <;> cases hm : mv.testBit i <;> cases hc : carB eq pv i <;> simp_all <;> omega
theorem stepP_is {eq pv mv n : Nat} {d : Nat → Int} (he : eq < 18446744073709551616) (hpv : pv < 2 ^ n) (hmv : mv < 2 ^ n) (hn : n ≤ 32) (hd : ∀ i, i < n → d (i + 1) = d i + bI pv i - bI mv i) (dis : ∀ j, pv.testBit j = true → mv.testBit j = true → False) :
    stepP eq pv mv n = bitsUp (fun i => decide (eZ d eq (i + 1) = eZ d eq i + 1)) n ∧ stepM eq pv mv n = bitsUp (fun i => decide (eZ d eq (i + 1) = eZ d eq i - 1)) n := by
  have p32 : 2 ^ n ≤ 4294967296 := Nat.pow_le_pow_right (n := 2) (by omega) hn
  have hl := sameN_lt (eq := eq) (pv := pv) (mv := mv) he (by omega) (by omega)
  have K : ∀ j, j < n → (lessN eq pv mv).testBit j = decide (eZ d eq j = d j - 1) ∧ (moreN eq pv mv).testBit j = decide (eZ d eq j = d j + 1) ∧ (sameN eq pv mv).testBit j = sameB eq pv mv j ∧ eZ d eq (j + 1) = (d j + if sameB eq pv mv j then 0 else 1) ∧ -1 ≤ eZ d eq j - d j ∧ eZ d eq j - d j ≤ 1 ∧ (eZ d eq j = d j - 1 → sameB eq pv mv j = true) := by
    intro j hj
    have m := more_is he hpv hmv hn hd dis j (by omega)
    obtain ⟨c1, c2, c3⟩ := core (eq := eq) hd dis j (by omega)
    refine ⟨m.2, m.1, same_bit _ _ _ _, same_is hd dis j hj, c1, c2, fun h => ?_⟩
    unfold sameB
    rw [c3.2 h]
    simp
  constructor
  · refine bitsUp_is fun j => ?_
    unfold stepP
    rw [Nat.testBit_and, Nat.testBit_two_pow_sub_one]
    by_cases hj : j < n
    · obtain ⟨k1, k2, k3, k4, k5, k6, k7⟩ := K j hj
      rw [Nat.testBit_or, not_bit (Nat.or_lt_two_pow (n := 64) hl moreN_lt), Nat.testBit_or, k1, k2, k3, k4]
      have h64 : j < 64 := by omega
      simp only [hj, h64, decide_true, Bool.true_and, Bool.and_true]
      generalize eZ d eq j = e at *
      cases hs : sameB eq pv mv j
      · rw [hs] at k7
        have : ¬ e = d j - 1 := fun h => by simpa using k7 h
        rw [Bool.eq_iff_iff]
        simp
        omega
      · rw [Bool.eq_iff_iff]
        simp
        omega
    · simp [hj]
  · refine bitsUp_is fun j => ?_
    unfold stepM
    rw [Nat.testBit_and, Nat.testBit_two_pow_sub_one]
    by_cases hj : j < n
    · obtain ⟨k1, k2, k3, k4, k5, k6, k7⟩ := K j hj
      rw [Nat.testBit_and, k2, k3, k4]
      simp only [hj, decide_true, Bool.true_and, Bool.and_true]
      generalize eZ d eq j = e at *
      cases hs : sameB eq pv mv j
      · rw [Bool.eq_iff_iff]
        simp
        omega
      · rw [Bool.eq_iff_iff]
        simp
        omega
    · simp [hj]
theorem stepS_is {eq pv mv n : Nat} {d : Nat → Int} (he : eq < 18446744073709551616) (hpv : pv < 2 ^ n) (hmv : mv < 2 ^ n) (hn : n ≤ 32) (hd : ∀ i, i < n → d (i + 1) = d i + bI pv i - bI mv i) (dis : ∀ j, pv.testBit j = true → mv.testBit j = true → False) :
    d n + bI (moreN eq pv mv) n - bI (lessN eq pv mv) n = eZ d eq n := by
  have m := more_is he hpv hmv hn hd dis n (Nat.le_refl _)
  obtain ⟨c1, c2, c3⟩ := core (eq := eq) hd dis n (Nat.le_refl _)
  unfold bI
  rw [m.1, m.2]
  generalize eZ d eq n = e at *
  by_cases h1 : e = d n + 1
  · simp [h1]; omega
  · by_cases h2 : e = d n - 1
    · simp [h2]; omega
    · simp [h1, h2]; omega
/-- The next column: its bits and its last element. -/
def nextPv (pv mv : Nat) (sc : Int) (n eq : Nat) : Nat := bitsUp (fun i => decide (eZ (colZ pv mv sc n) eq (i + 1) = eZ (colZ pv mv sc n) eq i + 1)) n
def nextMv (pv mv : Nat) (sc : Int) (n eq : Nat) : Nat := bitsUp (fun i => decide (eZ (colZ pv mv sc n) eq (i + 1) = eZ (colZ pv mv sc n) eq i - 1)) n
def nextSc (pv mv : Nat) (sc : Int) (n eq : Nat) : Int := eZ (colZ pv mv sc n) eq n
theorem BOk.step {pv mv n eq : Nat} {sc : Int} (h : BOk pv mv sc n) (he : eq < 18446744073709551616) :
    stepP eq pv mv n = nextPv pv mv sc n eq ∧ stepM eq pv mv n = nextMv pv mv sc n eq ∧ sc + bI (moreN eq pv mv) n - bI (lessN eq pv mv) n = nextSc pv mv sc n eq := by
  have hd : ∀ i, i < n → colZ pv mv sc n (i + 1) = colZ pv mv sc n i + bI pv i - bI mv i := fun i _ => colZ_succ _ _ _ _ _
  have a := stepP_is he h.hp h.hm h.len hd h.dis
  have b := stepS_is he h.hp h.hm h.len hd h.dis
  rw [colZ_last] at b
  exact ⟨a.1, a.2, b⟩
theorem eZ_near {pv mv n eq : Nat} {sc : Int} (h : BOk pv mv sc n) (i : Nat) (hi : i ≤ n) : -1 ≤ eZ (colZ pv mv sc n) eq i ∧ eZ (colZ pv mv sc n) eq i ≤ 65 := by
  have c := core (eq := eq) (d := colZ pv mv sc n) (n := n) (fun i _ => colZ_succ _ _ _ _ _) h.dis i hi
  have := h.col i hi
  omega
end Go.Proofs.Ytfdlmpjccoaejaa
