/- Plain facts on the tokens of a text: no program in it. -/
import Derived.Test.YtmdgigaplfbcpaaFold
import Derived.Lib.OthersKept
namespace Go.Proofs.Ytmdgigaplfbcpaa
open Go.RowKit

def gapU (c : UInt8) : Bool := c.toNat == 9 || c.toNat == 10 || c.toNat == 13 || c.toNat == 32
/-- The byte at k; behind the end a blank. -/
def byteAt (l : List UInt8) (k : Nat) : UInt8 := l.getD k 32
def startB (l : List UInt8) (k : Nat) : Bool := !gapU (byteAt l k) && (k == 0 || gapU (byteAt l (k - 1)))
def tokAt (l : List UInt8) (k : Nat) : List UInt8 := (l.drop k).takeWhile fun c => !gapU c
def form (t : List UInt8) : List UInt8 := if foldL t = [] then [63] else foldL t
def toks (l : List UInt8) : Nat → List (List UInt8)
  | 0 => []
  | k + 1 => toks l k ++ if startB l k then [form (tokAt l k)] else []

theorem toks_no {l : List UInt8} {k : Nat} (h : startB l k = false) : toks l (k + 1) = toks l k := by simp [toks, h]
theorem toks_yes {l : List UInt8} {k : Nat} (h : startB l k = true) : toks l (k + 1) = toks l k ++ [form (tokAt l k)] := by simp [toks, h]
theorem toks_mono {l : List UInt8} {a b : Nat} (h : a ≤ b) : (toks l a).length ≤ (toks l b).length := by
  induction b with
  | zero => rw [show a = 0 from by omega]; exact Nat.le_refl _
  | succ b ih =>
    by_cases e : a = b + 1
    · rw [e]; exact Nat.le_refl _
    · refine Nat.le_trans (ih (by omega)) ?_
      simp [toks]
theorem byteAt_end {l : List UInt8} {k : Nat} (h : l.length ≤ k) : byteAt l k = 32 := by simp [byteAt, List.getD, h]
theorem byteAt_in {l : List UInt8} {k : Nat} (h : k < l.length) : byteAt l k = l[k] := by simp [byteAt, List.getD, h]
theorem gap32 : gapU 32 = true := rfl
theorem start_end {l : List UInt8} {k : Nat} (h : l.length ≤ k) : startB l k = false := by simp [startB, byteAt_end h, gap32]
theorem toks_past (l : List UInt8) (k : Nat) (h : l.length ≤ k) : toks l k = toks l l.length := by
  induction k with
  | zero => rw [show l.length = 0 from by omega]
  | succ k ih =>
    by_cases e : l.length = k + 1
    · rw [e]
    · rw [toks_no (start_end (by omega)), ih (by omega)]
theorem toks_le (l : List UInt8) (k : Nat) : (toks l k).length ≤ k := by
  induction k with
  | zero => simp [toks]
  | succ k ih => simp only [toks, List.length_append]; split <;> simp <;> omega

/-- From bg on up to p no byte is a gap; ahead of bg lies a gap, or the text begins there. -/
def Seg (l : List UInt8) (bg p : Nat) : Prop := (∀ j, bg ≤ j → j < p → gapU (byteAt l j) = false) ∧ (bg = 0 ∨ gapU (byteAt l (bg - 1)) = true)
theorem Seg.zero (l : List UInt8) : Seg l 0 0 := ⟨fun _ _ h => absurd h (by omega), .inl rfl⟩
theorem Seg.more {l : List UInt8} {bg p q : Nat} (h : Seg l bg p) (hq : ∀ j, p ≤ j → j < q → gapU (byteAt l j) = false) : Seg l bg q :=
  ⟨fun j h1 h2 => if e : j < p then h.1 j h1 e else hq j (by omega) h2, h.2⟩
theorem Seg.next {l : List UInt8} {p : Nat} (h : gapU (byteAt l p) = true) : Seg l (p + 1) (p + 1) := ⟨fun _ h1 h2 => absurd h2 (by omega), .inr (by simpa using h)⟩
theorem Seg.start {l : List UInt8} {bg p : Nat} (h : Seg l bg p) (hlt : bg < p) : startB l bg = true := by
  unfold startB
  rw [h.1 bg (Nat.le_refl _) hlt]
  rcases h.2 with e | e
  · simp [e]
  · simp [e]
theorem Seg.mid {l : List UInt8} {bg p : Nat} (h : Seg l bg p) (j : Nat) (h1 : bg < j) (h2 : j < p) : startB l j = false := by
  have e1 := h.1 (j - 1) (by omega) (by omega)
  unfold startB
  rw [e1]
  simp; omega
theorem takeWhile_at (l : List UInt8) (n : Nat) (h : ∀ j, j < n → gapU (byteAt l j) = false) (hn : n ≤ l.length) (hg : gapU (byteAt l n) = true) : l.takeWhile (fun c => !gapU c) = l.take n := by
  induction n generalizing l with
  | zero =>
    cases l with
    | nil => rfl
    | cons c l =>
      have : gapU c = true := by simpa [byteAt] using hg
      simp [this]
  | succ n ih =>
    cases l with
    | nil => simp at hn
    | cons c l =>
      have h0 : gapU c = false := by simpa [byteAt] using h 0 (by omega)
      have := ih l (fun j hj => by simpa [byteAt] using h (j + 1) (by omega)) (by simpa using hn) (by simpa [byteAt] using hg)
      simp [h0, this]
theorem byteAt_drop (l : List UInt8) (k j : Nat) : byteAt (l.drop k) j = byteAt l (k + j) := by simp [byteAt, List.getD]
theorem Seg.tok {l : List UInt8} {bg p : Nat} (h : Seg l bg p) (hle : bg ≤ p) (hp : p ≤ l.length) (hg : gapU (byteAt l p) = true) : tokAt l bg = (l.drop bg).take (p - bg) := by
  unfold tokAt
  refine takeWhile_at _ _ (fun j hj => ?_) (by rw [List.length_drop]; omega) ?_
  · rw [byteAt_drop]; exact h.1 _ (by omega) (by omega)
  · rw [byteAt_drop, show bg + (p - bg) = p from by omega]; exact hg
theorem Seg.same {l : List UInt8} {bg p : Nat} (h : Seg l bg p) (j : Nat) (h1 : bg < j) (h2 : j ≤ p) : toks l j = toks l (bg + 1) := by
  induction j with
  | zero => omega
  | succ j ih =>
    by_cases e : bg = j
    · rw [e]
    · rw [toks_no (h.mid j (by omega) (by omega)), ih (by omega) (by omega)]
theorem Seg.close {l : List UInt8} {bg p : Nat} (h : Seg l bg p) (hlt : bg < p) (hp : p ≤ l.length) (hg : gapU (byteAt l p) = true) : toks l (p + 1) = toks l bg ++ [form ((l.drop bg).take (p - bg))] := by
  have e : startB l p = false := by simp [startB, hg]
  rw [toks_no e, h.same p hlt (Nat.le_refl _), toks_yes (h.start hlt), h.tok (by omega) hp hg]
theorem Seg.idle {l : List UInt8} {p : Nat} (hg : gapU (byteAt l p) = true) : toks l (p + 1) = toks l p := toks_no (by simp [startB, hg])
theorem Seg.full {l : List UInt8} {bg : Nat} (h : Seg l bg (l.length + 1)) (hb : bg ≤ l.length + 1) : bg = l.length + 1 := by
  by_cases e : bg = l.length + 1
  · exact e
  · have := h.1 l.length (by omega) (by omega)
    rw [byteAt_end (Nat.le_refl _), gap32] at this
    cases this

/-- Decoding one rune: a byte below 128 stands for itself; else every byte that is taken is 128 or more. -/
theorem get_at' (s : ByteArray) (j : Nat) (h : j < s.size) : s.get! j = s[j]'h := by
  simp [ByteArray.get!, getElem!_pos, h]; rfl
theorem cont_at {s : ByteArray} {j : Nat} (h : (decide (j < s.size) && (s.get! j).toNat / 64 == 2) = true) : ∃ hj : j < s.size, 128 ≤ (s[j]'hj).toNat := by
  simp at h
  obtain ⟨h1, h2⟩ := h
  refine ⟨h1, ?_⟩
  rw [get_at' s j h1] at h2
  omega
theorem decode_skips (s : ByteArray) (pos : Nat) (h : pos < s.size) (ha : 128 ≤ (s[pos]'h).toNat) :
    pos + (Utf8.decode s pos).2 ≤ s.size ∧ ∀ j, pos ≤ j → j < pos + (Utf8.decode s pos).2 → ∀ hj : j < s.size, 128 ≤ (s[j]'hj).toNat := by
  have hn : ¬ (s[pos]'h).toNat < 128 := by omega
  have one : pos + 1 ≤ s.size ∧ ∀ j, pos ≤ j → j < pos + 1 → ∀ hj : j < s.size, 128 ≤ (s[j]'hj).toNat := by
    refine ⟨by omega, fun j h1 h2 hj => ?_⟩
    have : j = pos := by omega
    subst this; exact ha
  simp only [Utf8.decode, get_at s pos h, hn, if_false]
  split
  · rename_i h1
    split
    · simp only [Bool.and_eq_true] at h1
      obtain ⟨k1, g1⟩ := cont_at (j := pos + 1) (by simpa using h1.2)
      refine ⟨by omega, fun j a b hj => ?_⟩
      rcases (show j = pos ∨ j = pos + 1 from by omega) with rfl | rfl
      · exact ha
      · exact g1
    · exact one
  · split
    · rename_i h1
      split
      · simp only [Bool.and_eq_true] at h1
        obtain ⟨k1, g1⟩ := cont_at (j := pos + 1) (by simpa using h1.1.2)
        obtain ⟨k2, g2⟩ := cont_at (j := pos + 2) (by simpa using h1.2)
        refine ⟨by omega, fun j a b hj => ?_⟩
        rcases (show j = pos ∨ j = pos + 1 ∨ j = pos + 2 from by omega) with rfl | rfl | rfl
        · exact ha
        · exact g1
        · exact g2
      · exact one
    · split
      · rename_i h1
        split
        · simp only [Bool.and_eq_true] at h1
          obtain ⟨k1, g1⟩ := cont_at (j := pos + 1) (by simpa using h1.1.1.2)
          obtain ⟨k2, g2⟩ := cont_at (j := pos + 2) (by simpa using h1.1.2)
          obtain ⟨k3, g3⟩ := cont_at (j := pos + 3) (by simpa using h1.2)
          refine ⟨by omega, fun j a b hj => ?_⟩
          rcases (show j = pos ∨ j = pos + 1 ∨ j = pos + 2 ∨ j = pos + 3 from by omega) with rfl | rfl | rfl | rfl
          · exact ha
          · exact g1
          · exact g2
          · exact g3
        · exact one
      · exact one
end Go.Proofs.Ytmdgigaplfbcpaa
