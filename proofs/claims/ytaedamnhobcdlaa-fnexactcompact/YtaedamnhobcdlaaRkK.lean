/- Rankings, plain: a number for each record that tells its place; a sorting net over records. No function of the program in it. -/
import Derived.Test.YtaedamnhobcdlaaRkP
namespace Go.Proofs.Ytaedamnhobcdlaa
open Go.RowKit
open Go.Lib (compareBytes)
set_option linter.unusedVariables false

/-- A word as a number of n places. -/
def wkN : Nat → List UInt8 → Nat
  | 0, _ => 0
  | _ + 1, [] => 0
  | n + 1, x :: l => x.toNat * 256 ^ n + wkN n l
theorem wkN_lt : ∀ (n : Nat) (l : List UInt8), wkN n l < 256 ^ n
  | 0, l => by simp [wkN]
  | n + 1, [] => by simp only [wkN]; exact Nat.pow_pos (by omega)
  | n + 1, x :: l => by
    have h1 := wkN_lt n l
    have h2 := x.toNat_lt
    have h3 : x.toNat * 256 ^ n ≤ 255 * 256 ^ n := Nat.mul_le_mul_right _ (by omega)
    rw [wkN, Nat.pow_succ]; omega
theorem wkN_less : ∀ {n : Nat} {a b : List UInt8}, a.length ≤ n → b.length ≤ n → (∀ x ∈ a, 1 ≤ x.toNat) → (∀ x ∈ b, 1 ≤ x.toNat) → (compareBytes a b < 0 ↔ wkN n a < wkN n b)
  | 0, [], [], _, _, _, _ => by simp [compareBytes, wkN]
  | 0, x :: a, b, h, _, _, _ => by simp at h
  | 0, [], y :: b, _, h, _, _ => by simp at h
  | n + 1, [], [], _, _, _, _ => by simp [compareBytes, wkN]
  | n + 1, [], y :: b, _, _, _, hb => by
    have h1 := hb y (by simp)
    have h2 : 0 < y.toNat * 256 ^ n := Nat.mul_pos (by omega) (Nat.pow_pos (by omega))
    simp [compareBytes, wkN]; omega
  | n + 1, x :: a, [], _, _, ha, _ => by simp [compareBytes, wkN]
  | n + 1, x :: a, y :: b, h1, h2, ha, hb => by
    have ih := wkN_less (n := n) (a := a) (b := b) (by simpa using h1) (by simpa using h2) (fun t ht => ha t (List.mem_cons_of_mem _ ht)) (fun t ht => hb t (List.mem_cons_of_mem _ ht))
    have la := wkN_lt n a
    have lb := wkN_lt n b
    rw [wkN, wkN]
    simp only [compareBytes, UInt8.lt_iff_toNat_lt]
    rcases Nat.lt_trichotomy x.toNat y.toNat with h | h | h
    · have := Nat.mul_le_mul_right (256 ^ n) (show x.toNat + 1 ≤ y.toNat from h)
      rw [Nat.add_mul] at this
      rw [if_pos h]; simp; omega
    · rw [if_neg (by omega), if_neg (by omega), h, ih]; omega
    · have := Nat.mul_le_mul_right (256 ^ n) (show y.toNat + 1 ≤ x.toNat from h)
      rw [Nat.add_mul] at this
      rw [if_neg (by omega), if_pos h]; simp; omega
theorem word_pos {l : List UInt8} (h : wordB l = true) : l.length ≤ 32 ∧ ∀ x ∈ l, 1 ≤ x.toNat := by
  unfold wordB lowB at h
  simp only [Bool.and_eq_true, decide_eq_true_eq, List.all_eq_true] at h
  exact ⟨h.1.2, fun x hx => by have := (h.2 x hx).1; omega⟩
/-- The place of a record. -/
def keyZ (r : RecM) : Int := if r.live = true then (r.dist * 65536 + (65535 - r.weight)) * (256 ^ 32 : Nat) + (wkN 32 r.word.data.toList : Nat) else 8 * 65536 * (256 ^ 32 : Nat)
theorem keyZ_live {r : RecM} (h : liveB r = true) : keyZ r = (r.dist * 65536 + (65535 - r.weight)) * (256 ^ 32 : Nat) + (wkN 32 r.word.data.toList : Nat) := by unfold keyZ; rw [if_pos (liveB_ok h).1]
theorem keyZ_zero : keyZ zeroR = 8 * 65536 * (256 ^ 32 : Nat) := rfl
theorem key_less {x y : RecM} (hx : recOkB x = true) (hy : recOkB y = true) : aheadB x y = true ↔ keyZ x < keyZ y := by
  have P : (0 : Int) < ((256 ^ 32 : Nat) : Int) := by decide
  rcases recOkB_cases hx with rfl | hx
  · have : aheadB zeroR y = false := by unfold aheadB; simp [zeroR]
    rw [this, keyZ_zero]
    constructor
    · intro h; cases h
    · intro h
      exfalso
      rcases recOkB_cases hy with rfl | hy
      · rw [keyZ_zero] at h; omega
      · rw [keyZ_live hy] at h
        obtain ⟨_, h1, h2, _⟩ := liveB_ok hy
        have l1 := wkN_lt 32 y.word.data.toList
        generalize wkN 32 y.word.data.toList = k at *
        generalize (256 ^ 32 : Nat) = M at *
        have : (y.dist * 65536 + (65535 - y.weight)) * (M : Int) ≤ (8 * 65536 - 1) * (M : Int) := Int.mul_le_mul_of_nonneg_right (by omega) (by omega)
        rw [Int.sub_mul] at this
        omega
  · rcases recOkB_cases hy with rfl | hy
    · rw [(ahead_zero hx).1, keyZ_zero, keyZ_live hx]
      obtain ⟨_, h1, h2, _⟩ := liveB_ok hx
      have l1 := wkN_lt 32 x.word.data.toList
      generalize wkN 32 x.word.data.toList = k at *
      generalize (256 ^ 32 : Nat) = M at *
      have : (x.dist * 65536 + (65535 - x.weight)) * (M : Int) ≤ (8 * 65536 - 1) * (M : Int) := Int.mul_le_mul_of_nonneg_right (by omega) (by omega)
      rw [Int.sub_mul] at this
      simp; omega
    · rw [ahead_live hx hy, keyZ_live hx, keyZ_live hy]
      obtain ⟨_, a1, a2, a3⟩ := liveB_ok hx
      obtain ⟨_, b1, b2, b3⟩ := liveB_ok hy
      obtain ⟨c1, c2⟩ := word_pos a3
      obtain ⟨d1, d2⟩ := word_pos b3
      have W := wkN_less (n := 32) c1 d1 c2 d2
      have l1 := wkN_lt 32 x.word.data.toList
      have l2 := wkN_lt 32 y.word.data.toList
      unfold keyR
      rw [W]
      generalize wkN 32 x.word.data.toList = k at *
      generalize wkN 32 y.word.data.toList = j at *
      generalize (256 ^ 32 : Nat) = M at *
      generalize hu : x.dist * 65536 + (65535 - x.weight) = u at *
      generalize hv : y.dist * 65536 + (65535 - y.weight) = v at *
      have key : (x.dist < y.dist ∨ x.dist = y.dist ∧ (y.weight < x.weight ∨ x.weight = y.weight ∧ k < j)) ↔ (u < v ∨ u = v ∧ k < j) := by omega
      rw [key]
      rcases Int.lt_trichotomy u v with h | h | h
      · have := Int.mul_le_mul_of_nonneg_right (show u + 1 ≤ v from h) (show (0 : Int) ≤ (M : Int) by omega)
        rw [Int.add_mul] at this
        omega
      · subst h; omega
      · have := Int.mul_le_mul_of_nonneg_right (show v + 1 ≤ u from h) (show (0 : Int) ≤ (M : Int) by omega)
        rw [Int.add_mul] at this
        omega
theorem key_inj {x y : RecM} (hx : recOkB x = true) (hy : recOkB y = true) (h : keyZ x = keyZ y) : x = y := by
  rcases ahead_tri hx hy with ⟨e, _⟩ | ⟨_, e, _⟩ | ⟨_, _, e⟩
  · exact e
  · have := (key_less hx hy).1 e; omega
  · have := (key_less hy hx).1 e; omega
theorem key_max {x : RecM} (hx : recOkB x = true) : keyZ x ≤ keyZ zeroR := by
  rcases ahead_tri hx (show recOkB zeroR = true from rfl) with ⟨e, _⟩ | ⟨_, e, _⟩ | ⟨_, _, e⟩
  · rw [e]; exact Int.le_refl _
  · have := (key_less hx rfl).1 e; omega
  · have : aheadB zeroR x = false := by unfold aheadB; simp [zeroR]
    rw [this] at e; cases e
theorem pair_key {x y : RecM} (hx : recOkB x = true) (hy : recOkB y = true) : keyZ (pairA x y) = min (keyZ x) (keyZ y) ∧ keyZ (pairB x y) = max (keyZ x) (keyZ y) := by
  have h := key_less hy hx
  unfold pairA pairB
  cases e : aheadB y x
  · have : ¬ keyZ y < keyZ x := fun k => by rw [h.2 k] at e; cases e
    simp; omega
  · have := h.1 e
    simp; omega
end Go.Proofs.Ytaedamnhobcdlaa
