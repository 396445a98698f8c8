/- RecP, RecQ, RecS in one. Written by tools/join.py. -/
import Derived.Test.YtaedamnhobcdlaaJPad
import Derived.Test.YtaedamnhobcdlaaJBase
import Derived.Test.YtaedamnhobcdlaaJSeg
import Derived.Deep.RegionHeld3
import Derived.Deep.RegionLaw
import Derived.Deep.DeepCutAuto
import Derived.Deep.CutBlock
import Derived.Test.YtaedamnhobcdlaaJApp
section
namespace Go.Proofs.Ytaedamnhobcdlaa
open Go.RowKit
open Go.Lib (compareBytes)
set_option linter.unusedVariables false

structure RecM where
  live : Bool
  dist : Int
  weight : Int
  word : ByteArray
def RecM.cells (r : RecM) : Array Value := #[.bool r.live, .int .i64 r.dist, .int .i64 r.weight, .string r.word]
def zeroR : RecM := ⟨false, 0, 0, ⟨#[]⟩⟩
def emptyB (r : RecM) : Bool := !r.live && (decide (r.dist = 0) && (decide (r.weight = 0) && decide (r.word.size = 0)))
def liveB (r : RecM) : Bool := r.live && (decide (0 ≤ r.dist) && (decide (r.dist ≤ 7) && (decide (0 ≤ r.weight) && (decide (r.weight ≤ 65535) && wordB r.word.data.toList))))
def recOkB (r : RecM) : Bool := emptyB r || liveB r
theorem size_zero {s : ByteArray} (h : s.size = 0) : s = ⟨#[]⟩ := by
  obtain ⟨d⟩ := s
  have : d = #[] := Array.eq_empty_of_size_eq_zero h
  rw [this]
theorem emptyB_eq {r : RecM} (h : emptyB r = true) : r = zeroR := by
  unfold emptyB at h
  simp only [Bool.and_eq_true, Bool.not_eq_true', decide_eq_true_eq] at h
  obtain ⟨h1, h2, h3, h4⟩ := h
  obtain ⟨a, b, c, d⟩ := r
  simp only at h1 h2 h3 h4
  have := size_zero h4
  subst h1 h2 h3 this
  rfl
theorem emptyB_zero : emptyB zeroR = true := rfl
theorem liveB_ok {r : RecM} (h : liveB r = true) : r.live = true ∧ (0 ≤ r.dist ∧ r.dist ≤ 7) ∧ (0 ≤ r.weight ∧ r.weight ≤ 65535) ∧ wordB r.word.data.toList = true := by
  unfold liveB at h
  simp only [Bool.and_eq_true, decide_eq_true_eq] at h
  obtain ⟨h1, h2, h3, h4, h5, h6⟩ := h
  exact ⟨h1, ⟨h2, h3⟩, ⟨h4, h5⟩, h6⟩
theorem recOkB_cases {r : RecM} (h : recOkB r = true) : r = zeroR ∨ liveB r = true := by
  unfold recOkB at h
  rcases Bool.or_eq_true _ _ |>.mp h with h | h
  · exact .inl (emptyB_eq h)
  · exact .inr h
theorem toList_data (s : ByteArray) : s.toList = s.data.toList := ByteArray.toList_mk s.data.toList
theorem word_nil {s : ByteArray} : s.toList = [] ↔ s.size = 0 := by
  rw [toList_data]
  constructor
  · intro h
    have := congrArg List.length h
    simpa using this
  · intro h
    rw [size_zero h]
theorem emptyB_no {r : RecM} (h : ¬ (r.live = false ∧ r.dist = 0 ∧ r.weight = 0 ∧ r.word.toList = [])) : emptyB r = false := by
  cases he : emptyB r
  · rfl
  · exfalso
    apply h
    rw [emptyB_eq he]
    exact ⟨rfl, rfl, rfl, word_nil.2 rfl⟩
theorem liveB_no {r : RecM} (h : ¬ (r.live = true ∧ (0 ≤ r.dist ∧ r.dist ≤ 7) ∧ (0 ≤ r.weight ∧ r.weight ≤ 65535))) : liveB r = false := by
  cases he : liveB r
  · rfl
  · exfalso
    obtain ⟨h1, h2, h3, _⟩ := liveB_ok he
    exact h ⟨h1, h2, h3⟩
theorem liveB_at {r : RecM} (h : r.live = true ∧ (0 ≤ r.dist ∧ r.dist ≤ 7) ∧ (0 ≤ r.weight ∧ r.weight ≤ 65535)) : liveB r = wordB r.word.data.toList := by
  obtain ⟨h1, ⟨h2, h3⟩, h4, h5⟩ := h
  unfold liveB
  simp [h1, h2, h3, h4, h5]
theorem recOkB_live {r : RecM} (h : emptyB r = false) : recOkB r = liveB r := by unfold recOkB; rw [h]; rfl
theorem recOkB_empty {r : RecM} (h : emptyB r = true) : recOkB r = true := by unfold recOkB; rw [h]; rfl
/-- The bytes of a record. -/
def headR (r : RecM) : List UInt8 := [if r.live then 1 else 0, UInt8.ofNat r.dist.toNat, UInt8.ofNat (r.weight.toNat / 256), UInt8.ofNat (r.weight.toNat % 256)]
def bytesR (r : RecM) : List UInt8 := headR r ++ padL r.word.data.toList
def recOfL (r : RecM) : List UInt8 := if recOkB r = true then bytesR r else []
theorem bytesR_length (r : RecM) : (bytesR r).length = 37 := by simp [bytesR, headR, padL_length]
/-- .. and back. -/
def candR (d : List UInt8) : RecM := if d.getD 0 0 = 1 then ⟨true, (d.getD 1 0).toNat, 256 * ((d.getD 2 0).toNat : Int) + ((d.getD 3 0).toNat : Int), strL (unpL (d.drop 4))⟩ else zeroR
def readB (d : List UInt8) : Bool := decide (d.length = 37) && (recOkB (candR d) && decide (bytesR (candR d) = d))
def readM (d : List UInt8) : RecM := if readB d = true then candR d else zeroR
theorem readB_len {d : List UInt8} (h : d.length ≠ 37) : readB d = false := by unfold readB; simp [h]
theorem readB_bad {d : List UInt8} (h : recOkB (candR d) = false) : readB d = false := by unfold readB; simp [h]
theorem readB_at {d : List UInt8} (h1 : d.length = 37) (h2 : recOkB (candR d) = true) : readB d = decide (bytesR (candR d) = d) := by unfold readB; simp [h1, h2]
theorem readM_no {d : List UInt8} (h : readB d = false) : readM d = zeroR := by unfold readM; simp [h]
theorem readM_yes {d : List UInt8} (h : readB d = true) : readM d = candR d := by unfold readM; simp [h]
/-- Which is ahead. -/
def aheadB (a b : RecM) : Bool := recOkB a && (recOkB b && (a.live && (!b.live || (if a.dist ≠ b.dist then decide (a.dist < b.dist) else if a.weight ≠ b.weight then decide (b.weight < a.weight) else decide (compareBytes a.word.data.toList b.word.data.toList < 0)))))
end Go.Proofs.Ytaedamnhobcdlaa
end

section
namespace Go.Proofs.Ytaedamnhobcdlaa
open Go.RowKit
open Go.Lib (compareBytes)
set_option linter.unusedVariables false

theorem inner_padR {l : List UInt8} (h : wordB l = true) : inner (padL l) = l := by
  have hl := word_len h
  unfold inner padL
  rw [h]
  have e : (UInt8.ofNat l.length).toNat = l.length := by simp; omega
  simp only [if_true, List.drop_succ_cons, List.drop_zero, List.getD_cons_zero, e]
  rw [List.take_left]
theorem unp_padR {l : List UInt8} (h : wordB l = true) : unpL (padL l) = l := by
  have hl := word_len h
  have hb : unpB (padL l) = true := by
    unfold unpB
    rw [inner_padR h, padL_length, h]
    have e : ((padL l).getD 0 0).toNat ≤ 32 := by
      unfold padL; rw [h]
      have e : (UInt8.ofNat l.length).toNat = l.length := by simp; omega
      simp only [if_true, List.getD_cons_zero, e]; exact hl.2
    simp
    simpa using e
  rw [unp_yes hb, inner_padR h]
theorem cand_back {r : RecM} (h : recOkB r = true) : candR (bytesR r) = r := by
  rcases recOkB_cases h with rfl | h
  · unfold candR
    rw [if_neg (by decide)]
  · obtain ⟨h1, ⟨h2, h3⟩, ⟨h4, h5⟩, h6⟩ := liveB_ok h
    obtain ⟨lv, ds, wt, wd⟩ := r
    simp only at h1 h2 h3 h4 h5 h6
    subst h1
    unfold candR bytesR headR
    rw [if_pos (by simp)]
    have e1 : (UInt8.ofNat ds.toNat).toNat = ds.toNat := by simp; omega
    have e2 : (UInt8.ofNat (wt.toNat / 256)).toNat = wt.toNat / 256 := by simp; omega
    have e3 : (UInt8.ofNat (wt.toNat % 256)).toNat = wt.toNat % 256 := by simp
    have e4 : strL wd.data.toList = wd := rfl
    simp only [List.cons_append, List.nil_append, List.getD_cons_succ, List.getD_cons_zero, List.drop_succ_cons, List.drop_zero, e1, e2, e3, unp_padR h6, e4]
    congr 1 <;> omega
theorem rec_back {r : RecM} (h : recOkB r = true) : readB (recOfL r) = true ∧ readM (recOfL r) = r := by
  have e : recOfL r = bytesR r := by unfold recOfL; rw [if_pos h]
  rw [e]
  have hb : readB (bytesR r) = true := by
    rw [readB_at (bytesR_length r) (by rw [cand_back h]; exact h), cand_back h]; simp
  exact ⟨hb, by rw [readM_yes hb, cand_back h]⟩
/-- The comparison of bytes: which is less, an order. -/
theorem cmp_self : ∀ a : List UInt8, compareBytes a a = 0
  | [] => by simp [compareBytes]
  | x :: a => by
    have h : ¬ x < x := by rw [UInt8.lt_iff_toNat_lt]; omega
    simp [compareBytes, h, cmp_self a]
theorem cmp_swap : ∀ a b : List UInt8, compareBytes b a = - compareBytes a b
  | [], [] => by simp [compareBytes]
  | [], y :: b => by simp [compareBytes]
  | x :: a, [] => by simp [compareBytes]
  | x :: a, y :: b => by
    rcases Nat.lt_trichotomy x.toNat y.toNat with h | h | h
    · have h1 : x < y := by rw [UInt8.lt_iff_toNat_lt]; omega
      have h2 : ¬ y < x := by rw [UInt8.lt_iff_toNat_lt]; omega
      simp [compareBytes, h1, h2]
    · have h1 : ¬ x < y := by rw [UInt8.lt_iff_toNat_lt]; omega
      have h2 : ¬ y < x := by rw [UInt8.lt_iff_toNat_lt]; omega
      simp [compareBytes, h1, h2, cmp_swap a b]
    · have h1 : y < x := by rw [UInt8.lt_iff_toNat_lt]; omega
      have h2 : ¬ x < y := by rw [UInt8.lt_iff_toNat_lt]; omega
      simp [compareBytes, h1, h2]
theorem cmp_zero : ∀ {a b : List UInt8}, compareBytes a b = 0 → a = b
  | [], [], _ => rfl
  | [], y :: b, h => by simp [compareBytes] at h
  | x :: a, [], h => by simp [compareBytes] at h
  | x :: a, y :: b, h => by
    rcases Nat.lt_trichotomy x.toNat y.toNat with k | k | k
    · have h1 : x < y := by rw [UInt8.lt_iff_toNat_lt]; omega
      simp [compareBytes, h1] at h
    · have h1 : ¬ x < y := by rw [UInt8.lt_iff_toNat_lt]; omega
      have h2 : ¬ y < x := by rw [UInt8.lt_iff_toNat_lt]; omega
      simp [compareBytes, h1, h2] at h
      rw [UInt8.toNat_inj.1 k, cmp_zero h]
    · have h1 : y < x := by rw [UInt8.lt_iff_toNat_lt]; omega
      have h2 : ¬ x < y := by rw [UInt8.lt_iff_toNat_lt]; omega
      simp [compareBytes, h1, h2] at h
theorem cmp_trans : ∀ {a b c : List UInt8}, compareBytes a b < 0 → compareBytes b c < 0 → compareBytes a c < 0
  | [], [], c, h, _ => by simp [compareBytes] at h
  | x :: a, [], c, h, _ => by simp [compareBytes] at h
  | [], y :: b, [], _, k => by simp [compareBytes] at k
  | [], y :: b, z :: c, _, _ => by simp [compareBytes]
  | x :: a, y :: b, [], _, k => by simp [compareBytes] at k
  | x :: a, y :: b, z :: c, h, k => by
    simp only [compareBytes, UInt8.lt_iff_toNat_lt] at h k ⊢
    by_cases h1 : x.toNat < y.toNat
    · by_cases k1 : y.toNat < z.toNat
      · rw [if_pos (by omega)]; decide
      · by_cases k2 : z.toNat < y.toNat
        · rw [if_neg k1, if_pos k2] at k; exact absurd k (by decide)
        · rw [if_pos (by omega)]; decide
    · by_cases h2 : y.toNat < x.toNat
      · rw [if_neg h1, if_pos h2] at h; exact absurd h (by decide)
      · rw [if_neg h1, if_neg h2] at h
        by_cases k1 : y.toNat < z.toNat
        · rw [if_pos (by omega)]; decide
        · by_cases k2 : z.toNat < y.toNat
          · rw [if_neg k1, if_pos k2] at k; exact absurd k (by decide)
          · rw [if_neg k1, if_neg k2] at k
            rw [if_neg (by omega), if_neg (by omega)]
            exact cmp_trans h k
def DiffR (x y : RecM) : Prop := ¬ x.live = y.live ∨ (x.live = y.live ∧ ¬ x.dist = y.dist) ∨ (x.live = y.live ∧ x.dist = y.dist ∧ ¬ x.weight = y.weight) ∨ (x.live = y.live ∧ x.dist = y.dist ∧ x.weight = y.weight ∧ ¬ x.word.toList = y.word.toList)
def keyR (x y : RecM) : Prop := x.dist < y.dist ∨ (x.dist = y.dist ∧ (y.weight < x.weight ∨ (x.weight = y.weight ∧ compareBytes x.word.data.toList y.word.data.toList < 0)))
theorem ahead_live {x y : RecM} (hx : liveB x = true) (hy : liveB y = true) : aheadB x y = true ↔ keyR x y := by
  unfold aheadB keyR recOkB
  rw [hx, hy, Bool.or_true, Bool.or_true, (liveB_ok hx).1, (liveB_ok hy).1]
  simp only [Bool.true_and, Bool.not_true, Bool.false_or]
  by_cases h1 : x.dist = y.dist
  · by_cases h2 : x.weight = y.weight
    · simp [h1, h2]
    · simp [h1, h2]
  · simp [h1]
theorem ahead_ok {x y : RecM} (h : aheadB x y = true) : recOkB x = true ∧ recOkB y = true ∧ x.live = true := by
  unfold aheadB at h
  simp only [Bool.and_eq_true] at h
  exact ⟨h.1, h.2.1, h.2.2.1⟩
theorem ok_live {x : RecM} (h : recOkB x = true) (hl : x.live = true) : liveB x = true := by
  rcases recOkB_cases h with rfl | h
  · cases hl
  · exact h
theorem ahead_zero {x : RecM} (h : liveB x = true) : aheadB x zeroR = true ∧ aheadB zeroR x = false := by
  constructor
  · unfold aheadB recOkB; rw [h, (liveB_ok h).1]; simp [zeroR]; exact .inl rfl
  · unfold aheadB; simp [zeroR]
theorem ahead_tri {x y : RecM} (hx : recOkB x = true) (hy : recOkB y = true) : (x = y ∧ aheadB x y = false ∧ aheadB y x = false) ∨ (DiffR x y ∧ aheadB x y = true ∧ aheadB y x = false) ∨ (DiffR x y ∧ aheadB x y = false ∧ aheadB y x = true) := by
  rcases recOkB_cases hx with rfl | hx
  · rcases recOkB_cases hy with rfl | hy
    · exact .inl ⟨rfl, rfl, rfl⟩
    · exact .inr (.inr ⟨.inl (by rw [(liveB_ok hy).1]; decide), (ahead_zero hy).2, (ahead_zero hy).1⟩)
  · rcases recOkB_cases hy with rfl | hy
    · exact .inr (.inl ⟨.inl (by rw [(liveB_ok hx).1]; decide), (ahead_zero hx).1, (ahead_zero hx).2⟩)
    · have hl : x.live = y.live := by rw [(liveB_ok hx).1, (liveB_ok hy).1]
      have f : ∀ {p q : RecM}, liveB p = true → liveB q = true → ¬ keyR p q → aheadB p q = false := fun hp hq h => by
        cases e : aheadB _ _
        · rfl
        · exact absurd ((ahead_live hp hq).1 e) h
      have sw := cmp_swap x.word.data.toList y.word.data.toList
      by_cases h1 : x.dist = y.dist
      · by_cases h2 : x.weight = y.weight
        · rcases Int.lt_trichotomy (compareBytes x.word.data.toList y.word.data.toList) 0 with h3 | h3 | h3
          · exact .inr (.inl ⟨.inr (.inr (.inr ⟨hl, h1, h2, fun e => by rw [toList_data, toList_data] at e; rw [e, cmp_self] at h3; omega⟩)), (ahead_live hx hy).2 (.inr ⟨h1, .inr ⟨h2, h3⟩⟩), f hy hx (by unfold keyR; omega)⟩)
          · left
            have e := cmp_zero h3
            have : x = y := by
              obtain ⟨x0, x1, x2, ⟨x3⟩⟩ := x
              obtain ⟨y0, y1, y2, ⟨y3⟩⟩ := y
              simp only at hl h1 h2 e
              have e : x3 = y3 := Array.toList_inj.1 e
              subst hl h1 h2 e
              rfl
            subst this
            exact ⟨rfl, f hx hx (by unfold keyR; omega), f hx hx (by unfold keyR; omega)⟩
          · exact .inr (.inr ⟨.inr (.inr (.inr ⟨hl, h1, h2, fun e => by rw [toList_data, toList_data] at e; rw [e, cmp_self] at h3; omega⟩)), f hx hy (by unfold keyR; omega), (ahead_live hy hx).2 (.inr ⟨h1.symm, .inr ⟨h2.symm, by omega⟩⟩)⟩)
        · by_cases h3 : y.weight < x.weight
          · exact .inr (.inl ⟨.inr (.inr (.inl ⟨hl, h1, h2⟩)), (ahead_live hx hy).2 (.inr ⟨h1, .inl h3⟩), f hy hx (by unfold keyR; omega)⟩)
          · exact .inr (.inr ⟨.inr (.inr (.inl ⟨hl, h1, h2⟩)), f hx hy (by unfold keyR; omega), (ahead_live hy hx).2 (.inr ⟨h1.symm, .inl (by omega)⟩)⟩)
      · by_cases h3 : x.dist < y.dist
        · exact .inr (.inl ⟨.inr (.inl ⟨hl, h1⟩), (ahead_live hx hy).2 (.inl h3), f hy hx (by unfold keyR; omega)⟩)
        · exact .inr (.inr ⟨.inr (.inl ⟨hl, h1⟩), f hx hy (by unfold keyR; omega), (ahead_live hy hx).2 (.inl (by omega))⟩)
theorem ahead_trans {x y z : RecM} (h : aheadB x y = true) (k : aheadB y z = true) : aheadB x z = true := by
  obtain ⟨h1, h2, h3⟩ := ahead_ok h
  obtain ⟨_, k2, k3⟩ := ahead_ok k
  have hx := ok_live h1 h3
  have hy := ok_live h2 k3
  rcases recOkB_cases k2 with rfl | hz
  · exact (ahead_zero hx).1
  · have a := (ahead_live hx hy).1 h
    have b := (ahead_live hy hz).1 k
    refine (ahead_live hx hz).2 ?_
    unfold keyR at a b ⊢
    have t := @cmp_trans x.word.data.toList y.word.data.toList z.word.data.toList
    omega
end Go.Proofs.Ytaedamnhobcdlaa
end

section
namespace Go.Proofs.Ytaedamnhobcdlaa
open Go.RowKit
open Go.Lib (compareBytes)
set_option linter.unusedVariables false
set_option maxRecDepth 100000

set_option maxHeartbeats 1000000 in
theorem specEmpty (r : RecM) (w : World) : Calls Try.prog 75 #[.agg r.cells] w fun e w' => e = .returned (.bool (emptyB r)) ∧ Below w.heap.size w w' := by
  obtain ⟨lv, ds, wt, wd⟩ := r
  unfold RecM.cells
  go_enter Try.func75, Try.ntmps75
  go_wp2
  all_goals
    go_ret
    refine ⟨ret_bool ?_, below_box (Below.refl _ _) _⟩
  · exact (emptyB_no (by rintro ⟨h, _⟩; simp_all)).symm
  all_goals first
    | (symm; rename_i h1 h2 h3 h4; have := word_nil.1 h4; unfold emptyB; simp_all; done)
    | (refine (emptyB_no ?_).symm; rintro ⟨h1, h2, h3, h4⟩; simp_all; done)
set_option maxHeartbeats 2000000 in
theorem specRecOk (r : RecM) (w : World) (hs : r.word.size ≤ maxLen) : Calls Try.prog 46 #[.agg r.cells] w fun e w' => e = .returned (.bool (recOkB r)) ∧ Below w.heap.size w w' := by
  have EM := Lib.hid (fun w => specEmpty r w)
  have WO := Lib.hid (fun w => specWordOk r.word w hs)
  cases he : emptyB r
  · rw [he] at EM
    rw [recOkB_live he]
    by_cases hc : r.live = true ∧ (0 ≤ r.dist ∧ r.dist ≤ 7) ∧ (0 ≤ r.weight ∧ r.weight ≤ 65535)
    · rw [liveB_at hc]
      obtain ⟨lv, ds, wt, wd⟩ := r
      obtain ⟨h1, ⟨h2, h3⟩, h4, h5⟩ := hc
      simp only at h1 h2 h3 h4 h5
      subst h1
      clear he hs
      unfold RecM.cells at EM ⊢
      go_enter Try.func46, Try.ntmps46
      go_wp2_with fail
      refine (EM.out _).mono ?_
      rintro e w1 ⟨rfl, hb⟩
      have K := Lib.hid (kept_block (alloc_at w (.cells #[.bool true, .int .i64 ds, .int .i64 wt, .string wd] 30) _ rfl) hb)
      have HB := Lib.hid (below_seq (below_box (Below.refl w.heap.size w) (.cells #[.bool true, .int .i64 ds, .int .i64 wt, .string wd] 30)) hb)
      have c0 := cur_cell K.out 0
      have c1 := cur_cell K.out 1
      have c2 := cur_cell K.out 2
      have c3 := cur_cell K.out 3
      simp at c0 c1 c2 c3
      clear hb
      go_wp2_with fail
      refine (WO.out _).mono ?_
      rintro e w2 ⟨rfl, rfl⟩
      go_wp2
      go_ret
      exact ⟨rfl, HB.out⟩
    · rw [liveB_no hc]
      obtain ⟨lv, ds, wt, wd⟩ := r
      simp only at hc
      have HC := Lib.hid hc
      clear he hs hc
      unfold RecM.cells at EM ⊢
      go_enter Try.func46, Try.ntmps46
      go_wp2_with fail
      refine (EM.out _).mono ?_
      rintro e w1 ⟨rfl, hb⟩
      have K := Lib.hid (kept_block (alloc_at w (.cells #[.bool lv, .int .i64 ds, .int .i64 wt, .string wd] 30) _ rfl) hb)
      have HB := Lib.hid (below_seq (below_box (Below.refl w.heap.size w) (.cells #[.bool lv, .int .i64 ds, .int .i64 wt, .string wd] 30)) hb)
      have c0 := cur_cell K.out 0
      have c1 := cur_cell K.out 1
      have c2 := cur_cell K.out 2
      have c3 := cur_cell K.out 3
      simp at c0 c1 c2 c3
      clear hb
      go_wp2_with fail
      all_goals first
        | (go_ret; exact ⟨rfl, HB.out⟩)
        | (exfalso; apply HC.out; simp_all; omega)
        | (exfalso; apply HC.out; simp_all; done)
  · rw [he] at EM
    rw [recOkB_empty he]
    clear he hs
    unfold RecM.cells at EM ⊢
    go_enter Try.func46, Try.ntmps46
    go_wp2_with fail
    refine (EM.out _).mono ?_
    rintro e w1 ⟨rfl, hb⟩
    have HB := Lib.hid (below_seq (below_box (Below.refl w.heap.size w) (.cells #[.bool r.live, .int .i64 r.dist, .int .i64 r.weight, .string r.word] 30)) hb)
    clear hb
    go_wp2
    go_ret
    exact ⟨rfl, HB.out⟩
theorem ones_bv (l : List UInt8) : ∀ u ∈ l.map bval, u.oneCell' = true := fun u hu => by
  obtain ⟨z, _, rfl⟩ := List.mem_map.1 hu
  rfl
theorem lit_rowL (w : World) (vs : List Value) (t : TypeId) : Row (w.alloc (.cells ⟨vs⟩ t)) (some ⟨w.heap.size, 0, none⟩) vs := .inr ⟨_, 0, rfl, fun i hi => by simp⟩
theorem lit_own (w : World) (base : Nat) (vs : List Value) (t : TypeId) (hb : base ≤ w.heap.size) (hv : vs.length ≤ maxLen) : (w.alloc (.cells ⟨vs⟩ t)).ownsRow base t 1 (.slice (some ⟨w.heap.size, 0, none⟩) vs.length vs.length) vs.length vs :=
  ⟨by simp, .inr ⟨w.heap.size, vs.length, ⟨vs⟩, rfl, hb, heap_alloc_new w _, Nat.le_refl _, hv, by simp, by simp⟩⟩
set_option maxHeartbeats 4000000 in
theorem specRecAheadR (a b : RecM) (w : World) (h1 : a.word.size ≤ maxLen) (h2 : b.word.size ≤ maxLen) : Calls Try.prog 16 #[.agg a.cells, .agg b.cells] w fun e w' => e = .returned (.bool (aheadB a b)) ∧ Below w.heap.size w w' := by
  have OA := Lib.hid (fun w => specRecOk a w h1)
  have OB := Lib.hid (fun w => specRecOk b w h2)
  have CM := Lib.hid (fun w => specWordCmp a.word b.word w h1)
  obtain ⟨la, da, ta, wa⟩ := a
  obtain ⟨lb, db, tb, wb⟩ := b
  clear h1 h2
  obtain ⟨w0, hw0⟩ : ∃ w0, w0 = (w.alloc (.cells #[.bool la, .int .i64 da, .int .i64 ta, .string wa] 30)).alloc (.cells #[.bool lb, .int .i64 db, .int .i64 tb, .string wb] 30) := ⟨_, rfl⟩
  have K1 := Lib.hid (show w0.heap[w.heap.size]? = some (.cells #[.bool la, .int .i64 da, .int .i64 ta, .string wa] 30 (0, 0)) by rw [hw0]; exact (alloc_old _ _ _ (by simp)).trans (alloc_at _ _ _ rfl))
  have K2 := Lib.hid (show w0.heap[w.heap.size + 1]? = some (.cells #[.bool lb, .int .i64 db, .int .i64 tb, .string wb] 30 (0, 0)) by rw [hw0]; exact alloc_at _ _ _ (by simp))
  have HB := Lib.hid (show Below w.heap.size w w0 by rw [hw0]; exact below_box (below_box (Below.refl _ w) _) _)
  unfold RecM.cells at OA OB ⊢
  unfold aheadB
  simp only at CM OA OB
  generalize recOkB ⟨la, da, ta, wa⟩ = oa at *
  generalize recOkB ⟨lb, db, tb, wb⟩ = ob at *
  simp only
  go_enter Try.func16, Try.ntmps16
  go_wp2_with fail
  rw [← hw0]
  clear hw0
  refine (OA.out _).mono ?_
  rintro e w1 ⟨rfl, hb⟩
  replace K1 := Lib.hid (kept_block K1.out hb)
  replace K2 := Lib.hid (kept_block K2.out hb)
  replace HB := Lib.hid (below_seq HB.out hb)
  clear hb OA
  cases oa
  · go_wp2
    all_goals (go_ret; exact ⟨rfl, HB.out⟩)
  · have c0 := cur_cell K2.out 0
    have c1 := cur_cell K2.out 1
    have c2 := cur_cell K2.out 2
    have c3 := cur_cell K2.out 3
    simp at c0 c1 c2 c3
    go_wp2_with fail
    clear c0 c1 c2 c3
    refine (OB.out _).mono ?_
    rintro e w2 ⟨rfl, hb⟩
    replace K1 := Lib.hid (kept_block K1.out hb)
    replace K2 := Lib.hid (kept_block K2.out hb)
    replace HB := Lib.hid (below_seq HB.out hb)
    clear hb OB
    have a0 := cur_cell K1.out 0
    have a1 := cur_cell K1.out 1
    have a2 := cur_cell K1.out 2
    have a3 := cur_cell K1.out 3
    have c0 := cur_cell K2.out 0
    have c1 := cur_cell K2.out 1
    have c2 := cur_cell K2.out 2
    have c3 := cur_cell K2.out 3
    simp at a0 a1 a2 a3 c0 c1 c2 c3
    cases ob
    · go_wp2
      all_goals (go_ret; exact ⟨rfl, HB.out⟩)
    · cases la
      · go_wp2
        all_goals (go_ret; exact ⟨rfl, HB.out⟩)
      · cases lb
        · go_wp2
          all_goals (go_ret; exact ⟨rfl, HB.out⟩)
        · by_cases hd : da = db
          · subst hd
            by_cases ht : ta = tb
            · subst ht
              have d1 : (da != da) = false := by simp
              have d2 : (ta != ta) = false := by simp
              go_wp2_with fail
              refine (CM.out _).mono ?_
              rintro e w3 ⟨rfl, nd, hw⟩
              have HB := Lib.hid (show Below w.heap.size w w3 by rw [hw]; exact below_seq HB.out (belowN nd))
              clear hw
              go_wp2
              all_goals (go_ret; exact ⟨ret_bool (by simp), HB.out⟩)
            · have d1 : (da != da) = false := by simp
              have d2 : (ta != tb) = true := by simp [ht]
              go_wp2
              all_goals (go_ret; exact ⟨ret_bool (by simp), HB.out⟩)
          · have d1 : (da != db) = true := by simp [hd]
            go_wp2
            all_goals (go_ret; exact ⟨ret_bool (by simp), HB.out⟩)
end Go.Proofs.Ytaedamnhobcdlaa
end
