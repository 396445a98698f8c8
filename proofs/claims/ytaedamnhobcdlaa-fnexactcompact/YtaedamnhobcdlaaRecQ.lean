/- Records, plain: a record is what its bytes are read as; who is ahead of whom. No function of the program in it. -/
import Derived.Test.YtaedamnhobcdlaaRecP
namespace Go.Proofs.Ytaedamnhobcdlaa
open Go.RowKit
open Go.Lib (compareBytes)
set_option linter.unusedVariables false

theorem inner_padR {l : List UInt8} (h : wordB l = true) : inner (padL l) = l := by
  have hl := word_len h
  unfold inner padL
  rw [h]
  have e : (UInt8.ofNat l.length).toNat = l.length := by simp; omega
  simp only [if_true, List.drop_succ_cons, List.drop_zero, List.getD_cons_zero, e]
  rw [List.take_left]
theorem unp_padR {l : List UInt8} (h : wordB l = true) : unpL (padL l) = l := by
  have hl := word_len h
  have hb : unpB (padL l) = true := by
    unfold unpB
    rw [inner_padR h, padL_length, h]
    have e : ((padL l).getD 0 0).toNat ≤ 32 := by
      unfold padL; rw [h]
      have e : (UInt8.ofNat l.length).toNat = l.length := by simp; omega
      simp only [if_true, List.getD_cons_zero, e]; exact hl.2
    simp
    simpa using e
  rw [unp_yes hb, inner_padR h]
theorem cand_back {r : RecM} (h : recOkB r = true) : candR (bytesR r) = r := by
  rcases recOkB_cases h with rfl | h
  · unfold candR
    rw [if_neg (by decide)]
  · obtain ⟨h1, ⟨h2, h3⟩, ⟨h4, h5⟩, h6⟩ := liveB_ok h
    obtain ⟨lv, ds, wt, wd⟩ := r
    simp only at h1 h2 h3 h4 h5 h6
    subst h1
    unfold candR bytesR headR
    rw [if_pos (by simp)]
    have e1 : (UInt8.ofNat ds.toNat).toNat = ds.toNat := by simp; omega
    have e2 : (UInt8.ofNat (wt.toNat / 256)).toNat = wt.toNat / 256 := by simp; omega
    have e3 : (UInt8.ofNat (wt.toNat % 256)).toNat = wt.toNat % 256 := by simp
    have e4 : strL wd.data.toList = wd := rfl
    simp only [List.cons_append, List.nil_append, List.getD_cons_succ, List.getD_cons_zero, List.drop_succ_cons, List.drop_zero, e1, e2, e3, unp_padR h6, e4]
    congr 1 <;> omega
theorem rec_back {r : RecM} (h : recOkB r = true) : readB (recOfL r) = true ∧ readM (recOfL r) = r := by
  have e : recOfL r = bytesR r := by unfold recOfL; rw [if_pos h]
  rw [e]
  have hb : readB (bytesR r) = true := by
    rw [readB_at (bytesR_length r) (by rw [cand_back h]; exact h), cand_back h]; simp
  exact ⟨hb, by rw [readM_yes hb, cand_back h]⟩
/-- The comparison of bytes: which is less, an order. -/
theorem cmp_self : ∀ a : List UInt8, compareBytes a a = 0
  | [] => by simp [compareBytes]
  | x :: a => by
    have h : ¬ x < x := by rw [UInt8.lt_iff_toNat_lt]; omega
    simp [compareBytes, h, cmp_self a]
theorem cmp_swap : ∀ a b : List UInt8, compareBytes b a = - compareBytes a b
  | [], [] => by simp [compareBytes]
  | [], y :: b => by simp [compareBytes]
  | x :: a, [] => by simp [compareBytes]
  | x :: a, y :: b => by
    rcases Nat.lt_trichotomy x.toNat y.toNat with h | h | h
    · have h1 : x < y := by rw [UInt8.lt_iff_toNat_lt]; omega
      have h2 : ¬ y < x := by rw [UInt8.lt_iff_toNat_lt]; omega
      simp [compareBytes, h1, h2]
    · have h1 : ¬ x < y := by rw [UInt8.lt_iff_toNat_lt]; omega
      have h2 : ¬ y < x := by rw [UInt8.lt_iff_toNat_lt]; omega
      simp [compareBytes, h1, h2, cmp_swap a b]
    · have h1 : y < x := by rw [UInt8.lt_iff_toNat_lt]; omega
      have h2 : ¬ x < y := by rw [UInt8.lt_iff_toNat_lt]; omega
      simp [compareBytes, h1, h2]
theorem cmp_zero : ∀ {a b : List UInt8}, compareBytes a b = 0 → a = b
  | [], [], _ => rfl
  | [], y :: b, h => by simp [compareBytes] at h
  | x :: a, [], h => by simp [compareBytes] at h
  | x :: a, y :: b, h => by
    rcases Nat.lt_trichotomy x.toNat y.toNat with k | k | k
    · have h1 : x < y := by rw [UInt8.lt_iff_toNat_lt]; omega
      simp [compareBytes, h1] at h
    · have h1 : ¬ x < y := by rw [UInt8.lt_iff_toNat_lt]; omega
      have h2 : ¬ y < x := by rw [UInt8.lt_iff_toNat_lt]; omega
      simp [compareBytes, h1, h2] at h
      rw [UInt8.toNat_inj.1 k, cmp_zero h]
    · have h1 : y < x := by rw [UInt8.lt_iff_toNat_lt]; omega
      have h2 : ¬ x < y := by rw [UInt8.lt_iff_toNat_lt]; omega
      simp [compareBytes, h1, h2] at h
theorem cmp_trans : ∀ {a b c : List UInt8}, compareBytes a b < 0 → compareBytes b c < 0 → compareBytes a c < 0
  | [], [], c, h, _ => by simp [compareBytes] at h
  | x :: a, [], c, h, _ => by simp [compareBytes] at h
  | [], y :: b, [], _, k => by simp [compareBytes] at k
  | [], y :: b, z :: c, _, _ => by simp [compareBytes]
  | x :: a, y :: b, [], _, k => by simp [compareBytes] at k
  | x :: a, y :: b, z :: c, h, k => by
    simp only [compareBytes, UInt8.lt_iff_toNat_lt] at h k ⊢
    by_cases h1 : x.toNat < y.toNat
    · by_cases k1 : y.toNat < z.toNat
      · rw [if_pos (by omega)]; decide
      · by_cases k2 : z.toNat < y.toNat
        · rw [if_neg k1, if_pos k2] at k; exact absurd k (by decide)
        · rw [if_pos (by omega)]; decide
    · by_cases h2 : y.toNat < x.toNat
      · rw [if_neg h1, if_pos h2] at h; exact absurd h (by decide)
      · rw [if_neg h1, if_neg h2] at h
        by_cases k1 : y.toNat < z.toNat
        · rw [if_pos (by omega)]; decide
        · by_cases k2 : z.toNat < y.toNat
          · rw [if_neg k1, if_pos k2] at k; exact absurd k (by decide)
          · rw [if_neg k1, if_neg k2] at k
            rw [if_neg (by omega), if_neg (by omega)]
            exact cmp_trans h k
def DiffR (x y : RecM) : Prop := ¬ x.live = y.live ∨ (x.live = y.live ∧ ¬ x.dist = y.dist) ∨ (x.live = y.live ∧ x.dist = y.dist ∧ ¬ x.weight = y.weight) ∨ (x.live = y.live ∧ x.dist = y.dist ∧ x.weight = y.weight ∧ ¬ x.word.toList = y.word.toList)
def keyR (x y : RecM) : Prop := x.dist < y.dist ∨ (x.dist = y.dist ∧ (y.weight < x.weight ∨ (x.weight = y.weight ∧ compareBytes x.word.data.toList y.word.data.toList < 0)))
theorem ahead_live {x y : RecM} (hx : liveB x = true) (hy : liveB y = true) : aheadB x y = true ↔ keyR x y := by
  unfold aheadB keyR recOkB
  rw [hx, hy, Bool.or_true, Bool.or_true, (liveB_ok hx).1, (liveB_ok hy).1]
  simp only [Bool.true_and, Bool.not_true, Bool.false_or]
  by_cases h1 : x.dist = y.dist
  · by_cases h2 : x.weight = y.weight
    · simp [h1, h2]
    · simp [h1, h2]
  · simp [h1]
theorem ahead_ok {x y : RecM} (h : aheadB x y = true) : recOkB x = true ∧ recOkB y = true ∧ x.live = true := by
  unfold aheadB at h
  simp only [Bool.and_eq_true] at h
  exact ⟨h.1, h.2.1, h.2.2.1⟩
theorem ok_live {x : RecM} (h : recOkB x = true) (hl : x.live = true) : liveB x = true := by
  rcases recOkB_cases h with rfl | h
  · cases hl
  · exact h
theorem ahead_zero {x : RecM} (h : liveB x = true) : aheadB x zeroR = true ∧ aheadB zeroR x = false := by
  constructor
  · unfold aheadB recOkB; rw [h, (liveB_ok h).1]; simp [zeroR]; exact .inl rfl
  · unfold aheadB; simp [zeroR]
theorem ahead_tri {x y : RecM} (hx : recOkB x = true) (hy : recOkB y = true) : (x = y ∧ aheadB x y = false ∧ aheadB y x = false) ∨ (DiffR x y ∧ aheadB x y = true ∧ aheadB y x = false) ∨ (DiffR x y ∧ aheadB x y = false ∧ aheadB y x = true) := by
  rcases recOkB_cases hx with rfl | hx
  · rcases recOkB_cases hy with rfl | hy
    · exact .inl ⟨rfl, rfl, rfl⟩
    · exact .inr (.inr ⟨.inl (by rw [(liveB_ok hy).1]; decide), (ahead_zero hy).2, (ahead_zero hy).1⟩)
  · rcases recOkB_cases hy with rfl | hy
    · exact .inr (.inl ⟨.inl (by rw [(liveB_ok hx).1]; decide), (ahead_zero hx).1, (ahead_zero hx).2⟩)
    · have hl : x.live = y.live := by rw [(liveB_ok hx).1, (liveB_ok hy).1]
      have f : ∀ {p q : RecM}, liveB p = true → liveB q = true → ¬ keyR p q → aheadB p q = false := fun hp hq h => by
        cases e : aheadB _ _
        · rfl
        · exact absurd ((ahead_live hp hq).1 e) h
      have sw := cmp_swap x.word.data.toList y.word.data.toList
      by_cases h1 : x.dist = y.dist
      · by_cases h2 : x.weight = y.weight
        · rcases Int.lt_trichotomy (compareBytes x.word.data.toList y.word.data.toList) 0 with h3 | h3 | h3
          · exact .inr (.inl ⟨.inr (.inr (.inr ⟨hl, h1, h2, fun e => by rw [toList_data, toList_data] at e; rw [e, cmp_self] at h3; omega⟩)), (ahead_live hx hy).2 (.inr ⟨h1, .inr ⟨h2, h3⟩⟩), f hy hx (by unfold keyR; omega)⟩)
          · left
            have e := cmp_zero h3
            have : x = y := by
              obtain ⟨x0, x1, x2, ⟨x3⟩⟩ := x
              obtain ⟨y0, y1, y2, ⟨y3⟩⟩ := y
              simp only at hl h1 h2 e
              have e : x3 = y3 := Array.toList_inj.1 e
              subst hl h1 h2 e
              rfl
            subst this
            exact ⟨rfl, f hx hx (by unfold keyR; omega), f hx hx (by unfold keyR; omega)⟩
          · exact .inr (.inr ⟨.inr (.inr (.inr ⟨hl, h1, h2, fun e => by rw [toList_data, toList_data] at e; rw [e, cmp_self] at h3; omega⟩)), f hx hy (by unfold keyR; omega), (ahead_live hy hx).2 (.inr ⟨h1.symm, .inr ⟨h2.symm, by omega⟩⟩)⟩)
        · by_cases h3 : y.weight < x.weight
          · exact .inr (.inl ⟨.inr (.inr (.inl ⟨hl, h1, h2⟩)), (ahead_live hx hy).2 (.inr ⟨h1, .inl h3⟩), f hy hx (by unfold keyR; omega)⟩)
          · exact .inr (.inr ⟨.inr (.inr (.inl ⟨hl, h1, h2⟩)), f hx hy (by unfold keyR; omega), (ahead_live hy hx).2 (.inr ⟨h1.symm, .inl (by omega)⟩)⟩)
      · by_cases h3 : x.dist < y.dist
        · exact .inr (.inl ⟨.inr (.inl ⟨hl, h1⟩), (ahead_live hx hy).2 (.inl h3), f hy hx (by unfold keyR; omega)⟩)
        · exact .inr (.inr ⟨.inr (.inl ⟨hl, h1⟩), f hx hy (by unfold keyR; omega), (ahead_live hy hx).2 (.inl (by omega))⟩)
theorem ahead_trans {x y z : RecM} (h : aheadB x y = true) (k : aheadB y z = true) : aheadB x z = true := by
  obtain ⟨h1, h2, h3⟩ := ahead_ok h
  obtain ⟨_, k2, k3⟩ := ahead_ok k
  have hx := ok_live h1 h3
  have hy := ok_live h2 k3
  rcases recOkB_cases k2 with rfl | hz
  · exact (ahead_zero hx).1
  · have a := (ahead_live hx hy).1 h
    have b := (ahead_live hy hz).1 k
    refine (ahead_live hx hz).2 ?_
    unfold keyR at a b ⊢
    have t := @cmp_trans x.word.data.toList y.word.data.toList z.word.data.toList
    omega
end Go.Proofs.Ytaedamnhobcdlaa
