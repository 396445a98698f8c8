/- Memories marked and held, alone and beside a row of bytes that came of the same call. -/
import Derived.Test.YthllgpcdaimmgaaMemL
namespace Go.Proofs.Ythllgpcdaimmgaa
open Go.RowKit
set_option linter.unusedVariables false

/-- A memory that the call owns, and further rows of bytes beside it, all in blocks of their own. -/
def MemX (lo hi : Nat) (cs : List Value) (m : MemM) (more : List Value) (lm : List (List UInt8)) (w : World) : Prop :=
  ∃ a cap vs c2, cs = [.int .i64 m.z, .slice a m.cells.length cap, c2] ∧ w.ownsRow lo 52 1 (.slice a m.cells.length cap) m.cells.length vs ∧ (∀ k, Value.ownBlock (.slice a m.cells.length cap) = some k → k < hi) ∧
    Datas lo hi (vs ++ more) (m.cells ++ lm) w ∧ TouchSOwn lo hi [c2] m.log w
theorem MemOwn.memX {lo hi : Nat} {cs : List Value} {m : MemM} {w : World} (h : MemOwn lo hi cs m w) : MemX lo hi cs m [] [] w := by
  obtain ⟨c1, c2, rfl, ⟨a, cap, vs, hc, h1, h2, h3⟩, ht⟩ := h
  simp at hc
  subst hc
  exact ⟨a, cap, vs, c2, rfl, h1, h2, by simpa using h3, ht⟩
theorem Datas.left {lo hi : Nat} {vs us : List Value} {ls lm : List (List UInt8)} {w : World} (h : Datas lo hi (vs ++ us) (ls ++ lm) w) (hl : vs.length = ls.length) : Datas lo hi vs ls w := by
  refine ⟨hl, fun i v l h1 h2 => h.row i v l ?_ ?_, fun i j u v k hij h1 h2 => h.apart i j u v k hij ?_ ?_⟩
  · rw [List.getElem?_append_left]
    · exact h1
    · exact (List.getElem?_eq_some_iff.1 h1).1
  · rw [List.getElem?_append_left]
    · exact h2
    · exact (List.getElem?_eq_some_iff.1 h2).1
  · rw [List.getElem?_append_left]
    · exact h1
    · exact (List.getElem?_eq_some_iff.1 h1).1
  · rw [List.getElem?_append_left]
    · exact h2
    · exact (List.getElem?_eq_some_iff.1 h2).1
theorem MemX.own {lo hi : Nat} {cs : List Value} {m : MemM} {more : List Value} {lm : List (List UInt8)} {w : World} (h : MemX lo hi cs m more lm w) : MemOwn lo hi cs m w := by
  obtain ⟨a, cap, vs, c2, rfl, h1, h2, h3, ht⟩ := h
  exact ⟨_, c2, rfl, ⟨a, cap, vs, rfl, h1, h2, h3.left (by have := h1.1; omega)⟩, ht⟩
theorem MemX.read {lo hi : Nat} {cs : List Value} {m : MemM} {more : List Value} {lm : List (List UInt8)} {w : World} (h : MemX lo hi cs m more lm w) : MemIn cs m w := h.own.read
theorem MemX.shape {lo hi : Nat} {c0 c1 c2 : Value} {m : MemM} {more : List Value} {lm : List (List UInt8)} {w : World} (h : MemX lo hi [c0, c1, c2] m more lm w) : ∃ z a n cap a' n' cap', c0 = .int .i64 z ∧ c1 = .slice a n cap ∧ c2 = .slice a' n' cap' := h.own.shape
theorem MemX.more {lo hi : Nat} {cs : List Value} {m : MemM} {d : Value} {l : List UInt8} {w : World} (h : MemX lo hi cs m [d] [l] w) : ByteSOwn lo hi [d] l w := by
  obtain ⟨a, cap, vs, c2, rfl, h1, h2, h3, ht⟩ := h
  have hl : vs.length = m.cells.length := by have := h1.1; omega
  exact h3.row vs.length d l (by simp) (by rw [hl]; simp)
theorem MemX.lies {lo hi : Nat} {cs : List Value} {m : MemM} {more : List Value} {lm : List (List UInt8)} {w : World} (h : MemX lo hi cs m more lm w) (ht : hi ≤ w.heap.size) : Lies w lo hi (MemX lo hi cs m more lm) := by
  obtain ⟨a, cap, vs, c2, rfl, h1, h2, h3, h4⟩ := h
  exact ⟨⟨a, cap, vs, c2, rfl, h1, h2, h3, h4⟩, ht, fun w2 e => ⟨a, cap, vs, c2, rfl, own_sup h1 h2 e, h2, h3.sup e, (h4.lies ht).sup w2 e⟩⟩
theorem MemX.wide {lo hi lo' hi' : Nat} {cs : List Value} {m : MemM} {more : List Value} {lm : List (List UInt8)} {w : World} (h : MemX lo hi cs m more lm w) (g1 : lo' ≤ lo) (g2 : hi ≤ hi') : MemX lo' hi' cs m more lm w := by
  obtain ⟨a, cap, vs, c2, rfl, h1, h2, h3, h4⟩ := h
  exact ⟨a, cap, vs, c2, rfl, own_base h1 g1, fun k hk => Nat.lt_of_lt_of_le (h2 k hk) g2, h3.wide g1 g2, h4.wide g1 g2⟩
set_option maxHeartbeats 1000000 in
theorem uMarkMemX (lo hi k : Nat) (c0 c1 c2 : Value) (m : MemM) (more : List Value) (lm : List (List UInt8)) (w : World) (hk : k + mcMem m ≤ 4611686018427387904) (hh : hi ≤ w.heap.size) (h : MemX lo hi [c0, c1, c2] m more lm w) :
    Calls Try.prog 15 #[.agg #[c0, c1, c2], .int .i64 k] w (MarkPost (MemX lo hi [c0, c1, c2] (mkMem k m) more lm) lo hi (k + mcMem m) w) := by
  unfold mcMem at hk
  have hb0 : ∀ o, Below w.heap.size w (w.alloc o) := fun o => below_box (Below.refl w.heap.size w) o
  have h' := h
  obtain ⟨a, cap, vs, d2, hc, h1, h2, h3, h4⟩ := h
  simp at hc
  obtain ⟨rfl, rfl, rfl⟩ := hc
  obtain ⟨x, xn, xc, rfl⟩ := h4.shape
  have hl : vs.length = m.cells.length := by have := h1.1; omega
  obtain ⟨a', cap', vs', d2', hc, g1, g2, g3, g4⟩ := ((h'.lies hh).below (hb0 (.cells #[.int .i64 m.z, .slice a m.cells.length cap, .slice x xn xc] 31))).now
  simp at hc
  obtain ⟨⟨rfl, rfl⟩, rfl⟩ := hc
  have hl' : vs'.length = m.cells.length := by have := g1.1; omega
  have M1 := Lib.hid (lawsMarkCells lo hi k a cap vs' more m.cells lm _ (by omega) hl' (own_max g1) g1 g3)
  have G2 := Lib.hid g2
  have K := Lib.hid (alloc_at w (.cells #[.int .i64 m.z, .slice a m.cells.length cap, .slice x xn xc] 31) _ rfl)
  have T4 := Lib.hid g4
  have B := Lib.hid (Chg.of_below (lo := lo) (hi := hi) (hb0 (.cells #[.int .i64 m.z, .slice a m.cells.length cap, .slice x xn xc] 31)))
  clear g1 g2 g3 g4 h1 h2 h3 h4 h' hb0 hl hl'
  go_enter Try.func15, Try.ntmps15
  go_wp2_with fail
  refine M1.out.mono ?_
  rintro e w1 ⟨rfl, o1, o2, o3, o4⟩
  have k2 : w1.cell? ⟨w.heap.size, 2, none⟩ = some (.slice x xn xc) := cur_cell (o4 _ _ _ _ K.out (by decide)) 2
  have T5 := T4.out.turned o4 (by decide)
  replace B := Lib.hid (B.out.trans o3)
  have O := Lib.hid (And.intro o1 o2)
  have M2 := Lib.hid (uMarkTouchSG lo hi (k + sumL m.cells) _ m.log w1 (by omega) T5)
  clear o1 o2 o3 o4 T5 T4 M1
  go_wp2_with fail
  refine M2.out.mono ?_
  rintro e w2 ⟨rfl, q1, q2, q3⟩
  have O1 := own_turned O.out.1 q3 (by decide : 52 ≠ 54)
  have O2 := O.out.2.turned q3 (by decide : 5 ≠ 54)
  replace B := Lib.hid (B.out.trans q2)
  have Q : Hid (MemX lo hi [.int .i64 m.z, .slice a m.cells.length cap, .slice x xn xc] (mkMem k m) more lm w2) := Lib.hid ⟨a, cap, vs', .slice x xn xc, by simp [mkMem, mkC_length], by simp only [mkMem, mkC_length]; exact O1, by simp only [mkMem, mkC_length]; exact G2.out, O2, q1⟩
  have N : Hid (k + sumL m.cells + m.log.length * 3 = k + mcMem m) := Lib.hid (by unfold mcMem; omega)
  clear q1 q2 q3 O1 O2 O M2
  generalize k + sumL m.cells + m.log.length * 3 = kk at *
  go_wp2
  go_ret
  exact ⟨kk, rfl, N.out, Q.out, B.out⟩
theorem uMarkMem (lo hi k : Nat) (c0 c1 c2 : Value) (m : MemM) (w : World) (hk : k + mcMem m ≤ 4611686018427387904) (hh : hi ≤ w.heap.size) (h : MemOwn lo hi [c0, c1, c2] m w) :
    Calls Try.prog 15 #[.agg #[c0, c1, c2], .int .i64 k] w (MarkPost (MemOwn lo hi [c0, c1, c2] (mkMem k m)) lo hi (k + mcMem m) w) := by
  refine (uMarkMemX lo hi k c0 c1 c2 m [] [] w hk hh h.memX).mono ?_
  rintro e w' ⟨k', h1, h2, h3, h4⟩
  exact ⟨k', h1, h2, h3.own, h4⟩
set_option maxHeartbeats 1000000 in
theorem uHeldMem (k : Nat) (c0 c1 c2 : Value) (m : MemM) (w : World) (hk : k + mcMem m ≤ 4611686018427387904) (h : MemIn [c0, c1, c2] (mkMem k m) w) :
    Calls Try.prog 16 #[.agg #[c0, c1, c2], .int .i64 k] w (HeldPost (k + mcMem m) w) := by
  unfold mcMem at hk
  obtain ⟨rfl, hc, ht⟩ := memIn_shape h
  obtain ⟨a, cap, vq, rfl, hq1⟩ := cellSIn_shape hc
  obtain ⟨a2, cap2, rfl, hq2⟩ := touchSIn_shape ht
  clear hq1 hq2
  have hb0 : ∀ o, Below w.heap.size w (w.alloc o) := fun o => below_box (Below.refl w.heap.size w) o
  have e1 : (mkMem k m).cells = mkC k m.cells := rfl
  have e2 : (mkMem k m).log = marksT (k + sumL m.cells) m.log.length := rfl
  rw [e1] at hc ⊢
  rw [e2] at ht ⊢
  rw [mkC_length] at hc ⊢
  rw [marksT_length] at ht ⊢
  have H1 := Lib.hid (lawsHeldCellS k _ m.cells _ (by omega) (hc.lies.below (hb0 (.cells #[.int .i64 (mkMem k m).z, .slice a m.cells.length cap, .slice a2 m.log.length cap2] 31))).now)
  obtain ⟨x, xc, e3, hq3, hq4, hr⟩ := touchSIn_shape (ht.lies.below (hb0 (.cells #[.int .i64 (mkMem k m).z, .slice a m.cells.length cap, .slice a2 m.log.length cap2] 31))).now
  simp at e3
  obtain ⟨rfl, hq5, rfl⟩ := e3
  clear hq3 hq4 hq5
  have H2 := Lib.hid (lawsHeldTouchS a2 m.log.length cap2 (k + sumL m.cells) _ (by omega) hr)
  have B := Lib.hid (hb0 (.cells #[.int .i64 (mkMem k m).z, .slice a m.cells.length cap, .slice a2 m.log.length cap2] 31))
  have N : Hid (k + sumL m.cells + m.log.length * 3 = k + mcMem m) := Lib.hid (by unfold mcMem; omega)
  clear hb0 h hc ht hr e1 e2
  generalize (mkMem k m).z = z at *
  generalize hs : sumL m.cells = s at *
  generalize m.log.length = n at *
  generalize m.cells.length = n' at *
  clear hs
  go_enter Try.func16, Try.ntmps16
  go_wp2_with fail
  refine H1.out.mono ?_
  rintro e w1 ⟨rfl, rfl⟩
  go_wp2_with fail
  refine H2.out.mono ?_
  rintro e w2 ⟨rfl, rfl⟩
  go_wp2
  go_ret
  exact ⟨k + s + n * 3, by go_num, N.out, B.out⟩
/-- The row of bytes beside a memory marked. -/
theorem uMarkMemB (lo hi k : Nat) (cs : List Value) (m : MemM) (d : Value) (l : List UInt8) (w : World) (hk : k + szByteS l ≤ 4611686018427387904) (h : MemX lo hi cs m [d] [l] w) :
    Calls Try.prog 20 #[d, .int .i64 k] w (MarkPost (MemX lo hi cs m [d] [mkByteS k l]) lo hi (k + szByteS l) w) := by
  have hd := h.more
  obtain ⟨a, cap, vs, c2, rfl, h1, h2, h3, ht⟩ := h
  have hl : vs.length = m.cells.length := by have := h1.1; omega
  obtain ⟨x, xc, hc, ho, hh⟩ := hd
  simp at hc
  subst hc
  refine (lawsMarkByteAny lo l.length xc k x _ w hk ho).mono ?_
  rintro e w' ⟨rfl, g1, g2⟩
  have O1 : ByteSOwn lo hi [.slice x l.length xc] (mkByteS k l) w' := ⟨x, xc, by rw [mkByteS, marks_length], by rw [mkByteS, marks_length]; exact g1, by rw [mkByteS, marks_length]; exact hh⟩
  have D := h3.set (i := vs.length) (by simp) g2 O1
  rw [List.set_append_right _ _ (by omega), hl, Nat.sub_self, List.set_cons_zero] at D
  have T := Turned.own ho g2
  exact ⟨_, rfl, rfl, ⟨a, cap, vs, c2, rfl, own_turned h1 T (by decide), h2, D, ht.turned T (by decide)⟩, Chg.of_grown g2 (fun g hg => ⟨(ho.lt g hg).1, hh g hg⟩)⟩
end Go.Proofs.Ythllgpcdaimmgaa
