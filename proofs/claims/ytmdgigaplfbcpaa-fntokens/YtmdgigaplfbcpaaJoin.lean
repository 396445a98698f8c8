/- The tokens of words set with a blank ahead of each are these words: plain, no program in it. -/
import Derived.Test.YtmdgigaplfbcpaaToks
namespace Go.Proofs.Ytmdgigaplfbcpaa
open Go.RowKit

/-- A token's form: a word, or "?". -/
def isForm (t : List UInt8) : Prop := t = [63] ∨ wordB t = true
def joined (ts : List (List UInt8)) : List UInt8 := (ts.map fun t => 32 :: t).flatten
theorem joined_snoc (ts : List (List UInt8)) (t : List UInt8) : joined (ts ++ [t]) = joined ts ++ 32 :: t := by simp [joined]

theorem low_range {c : UInt8} (h : lowB c = true) : 97 ≤ c.toNat ∧ c.toNat ≤ 122 := by
  unfold lowB at h; simp only [Bool.and_eq_true, decide_eq_true_eq] at h; exact h
theorem low_gap {c : UInt8} (h : lowB c = true) : gapU c = false := by
  have := low_range h
  unfold gapU; simp; omega
theorem low_lower {c : UInt8} (h : lowB c = true) : lowerU c = c := by
  have := low_range h
  unfold lowerU; rw [if_neg (by omega)]
theorem word_all {t : List UInt8} (h : wordB t = true) : 1 ≤ t.length ∧ t.length ≤ 32 ∧ ∀ c ∈ t, lowB c = true := by
  unfold wordB at h
  simp only [Bool.and_eq_true, decide_eq_true_eq, List.all_eq_true] at h
  exact ⟨h.1.1, h.1.2, h.2⟩
theorem word_lower {t : List UInt8} (h : wordB t = true) : t.map lowerU = t := by
  have := (word_all h).2.2
  have e : t.map lowerU = t.map id := List.map_congr_left fun c hc => low_lower (this c hc)
  simpa using e
theorem form_form {t : List UInt8} (h : isForm t) : form t = t := by
  rcases h with rfl | h
  · decide
  · have hw := word_all h
    have e : foldL t = t := by unfold foldL; rw [if_neg (by omega), word_lower h, h]; rfl
    unfold form; rw [e, if_neg (by intro e; subst e; simp at hw)]
theorem form_len {t : List UInt8} (h : isForm t) : 1 ≤ t.length ∧ t.length ≤ 32 := by
  rcases h with rfl | h
  · decide
  · have := word_all h; omega
theorem form_nogap {t : List UInt8} (h : isForm t) : ∀ c ∈ t, gapU c = false := by
  rcases h with rfl | h
  · decide
  · exact fun c hc => low_gap ((word_all h).2.2 c hc)
theorem form_isForm (t : List UInt8) : isForm (form t) := by
  unfold form
  split
  · exact .inl rfl
  · rename_i h
    unfold foldL at h ⊢
    split
    · rename_i h1; rw [if_pos h1] at h; exact absurd rfl h
    · rename_i h1
      rw [if_neg h1] at h
      split
      · rename_i h2; exact .inr h2
      · rename_i h2; rw [if_neg h2] at h; exact absurd rfl h
theorem toks_forms (l : List UInt8) (k : Nat) : ∀ t ∈ toks l k, isForm t := by
  induction k with
  | zero => simp [toks]
  | succ k ih =>
    intro t ht
    simp only [toks, List.mem_append] at ht
    rcases ht with ht | ht
    · exact ih t ht
    · split at ht
      · simp at ht; subst ht; exact form_isForm _
      · simp at ht

theorem byteAt_left {l r : List UInt8} {j : Nat} (h : j < l.length) : byteAt (l ++ r) j = byteAt l j := by unfold byteAt List.getD; rw [List.getElem?_append_left h]
theorem byteAt_right {l r : List UInt8} {j : Nat} (h : l.length ≤ j) : byteAt (l ++ r) j = byteAt r (j - l.length) := by
  simp [byteAt, List.getD, List.getElem?_append_right h]
theorem takeWhile_stop (a r : List UInt8) : (a ++ 32 :: r).takeWhile (fun c => !gapU c) = a.takeWhile (fun c => !gapU c) := by
  induction a with
  | nil => rfl
  | cons c a ih =>
    cases h : gapU c
    · simp [h, ih]
    · simp [h]
theorem toks_left (l r : List UInt8) (k : Nat) (h : k ≤ l.length) : toks (l ++ 32 :: r) k = toks l k := by
  induction k with
  | zero => rfl
  | succ k ih =>
    have hk : k < l.length := by omega
    have e1 : startB (l ++ 32 :: r) k = startB l k := by
      unfold startB
      rw [byteAt_left hk]
      by_cases h0 : k = 0
      · simp [h0]
      · rw [byteAt_left (by omega)]
    have e2 : tokAt (l ++ 32 :: r) k = tokAt l k := by
      unfold tokAt
      rw [List.drop_append_of_le_length (by omega)]
      exact takeWhile_stop _ _
    simp only [toks]
    rw [ih (by omega), e1, e2]
theorem toks_add (l t : List UInt8) (h : isForm t) : toks (l ++ 32 :: t) (l ++ 32 :: t).length = toks l l.length ++ [t] := by
  have hf := form_len h
  have hlen : (l ++ 32 :: t).length = l.length + 1 + t.length := by simp; omega
  have hg : gapU (byteAt (l ++ 32 :: t) l.length) = true := by rw [byteAt_right (Nat.le_refl _), Nat.sub_self]; rfl
  have hsg : Seg (l ++ 32 :: t) (l.length + 1) (l.length + 1 + t.length) := by
    refine ⟨fun j h1 h2 => ?_, .inr (by simpa using hg)⟩
    rw [byteAt_right (by omega)]
    obtain ⟨i, hi⟩ : ∃ i, j - l.length = i + 1 := ⟨j - l.length - 1, by omega⟩
    rw [hi]
    have hit : i < t.length := by omega
    have e : byteAt (32 :: t) (i + 1) = t[i] := by simp [byteAt, List.getD, hit]
    rw [e]
    exact form_nogap h _ (List.getElem_mem hit)
  have hend : gapU (byteAt (l ++ 32 :: t) (l.length + 1 + t.length)) = true := by rw [byteAt_end (by omega)]; rfl
  have hc := hsg.close (by omega) (by omega) hend
  have hp := toks_past (l ++ 32 :: t) (l.length + 1 + t.length + 1) (by omega)
  rw [← hp, hc, Seg.idle hg, toks_left l t l.length (Nat.le_refl _)]
  have e1 : (l ++ 32 :: t).drop (l.length + 1) = t := by
    rw [List.drop_append, List.drop_of_length_le (by omega)]; simp
  rw [e1, show l.length + 1 + t.length - (l.length + 1) = t.length from by omega, List.take_length, form_form h]
theorem snoc_ind {α : Type} {P : List α → Prop} (h0 : P []) (h1 : ∀ l a, P l → P (l ++ [a])) (l : List α) : P l := by
  have h : ∀ r : List α, P r.reverse := by
    intro r
    induction r with
    | nil => exact h0
    | cons a r ih => rw [List.reverse_cons]; exact h1 _ _ ih
  simpa using h l.reverse
theorem toks_joined (ts : List (List UInt8)) (h : ∀ t ∈ ts, isForm t) : toks (joined ts) (joined ts).length = ts := by
  induction ts using snoc_ind with
  | h0 => rfl
  | h1 ts t ih =>
    rw [joined_snoc, toks_add _ _ (h t (by simp)), ih (fun x hx => h x (by simp [hx]))]
theorem joined_len (ts : List (List UInt8)) (h : ∀ t ∈ ts, isForm t) : (joined ts).length ≤ 33 * ts.length := by
  induction ts using snoc_ind with
  | h0 => simp [joined]
  | h1 ts t ih =>
    have := ih (fun x hx => h x (by simp [hx]))
    have := form_len (h t (by simp))
    rw [joined_snoc]; simp; omega
end Go.Proofs.Ytmdgigaplfbcpaa
