/- Memories marked and held, alone and beside a row of bytes that came of the same call. -/
import Derived.Test.YticfnhbjoaecjaaDoorMemL
namespace Go.Proofs.YticfnhbjoaecjaaDoor
open Go.RowKit
set_option linter.unusedVariables false

/-- A memory that the call owns, and further rows of bytes beside it, all in blocks of their own. -/
def MemX (lo hi : Nat) (cs : List Value) (m : MemM) (more : List Value) (lm : List (List UInt8)) (w : World) : Prop :=
  ∃ a cap vs c2, cs = [.int .i64 m.z, .slice a m.cells.length cap, c2] ∧ w.ownsRow lo 43 1 (.slice a m.cells.length cap) m.cells.length vs ∧ (∀ k, Value.ownBlock (.slice a m.cells.length cap) = some k → k < hi) ∧
    Datas lo hi (vs ++ more) (m.cells ++ lm) w ∧ TouchSOwn lo hi [c2] m.log w
theorem MemOwn.memX {lo hi : Nat} {cs : List Value} {m : MemM} {w : World} (h : MemOwn lo hi cs m w) : MemX lo hi cs m [] [] w := by
  obtain ⟨c1, c2, rfl, ⟨a, cap, vs, hc, h1, h2, h3⟩, ht⟩ := h
  simp at hc
  subst hc
  exact ⟨a, cap, vs, c2, rfl, h1, h2, by simpa using h3, ht⟩
theorem Datas.left {lo hi : Nat} {vs us : List Value} {ls lm : List (List UInt8)} {w : World} (h : Datas lo hi (vs ++ us) (ls ++ lm) w) (hl : vs.length = ls.length) : Datas lo hi vs ls w := by
  refine ⟨hl, fun i v l h1 h2 => h.row i v l ?_ ?_, fun i j u v k hij h1 h2 => h.apart i j u v k hij ?_ ?_⟩
  · rw [List.getElem?_append_left]
    · exact h1
    · exact (List.getElem?_eq_some_iff.1 h1).1
  · rw [List.getElem?_append_left]
    · exact h2
    · exact (List.getElem?_eq_some_iff.1 h2).1
  · rw [List.getElem?_append_left]
    · exact h1
    · exact (List.getElem?_eq_some_iff.1 h1).1
  · rw [List.getElem?_append_left]
    · exact h2
    · exact (List.getElem?_eq_some_iff.1 h2).1
theorem MemX.own {lo hi : Nat} {cs : List Value} {m : MemM} {more : List Value} {lm : List (List UInt8)} {w : World} (h : MemX lo hi cs m more lm w) : MemOwn lo hi cs m w := by
  obtain ⟨a, cap, vs, c2, rfl, h1, h2, h3, ht⟩ := h
  exact ⟨_, c2, rfl, ⟨a, cap, vs, rfl, h1, h2, h3.left (by have := h1.1; omega)⟩, ht⟩
theorem MemX.read {lo hi : Nat} {cs : List Value} {m : MemM} {more : List Value} {lm : List (List UInt8)} {w : World} (h : MemX lo hi cs m more lm w) : MemIn cs m w := h.own.read
theorem MemX.shape {lo hi : Nat} {c0 c1 c2 : Value} {m : MemM} {more : List Value} {lm : List (List UInt8)} {w : World} (h : MemX lo hi [c0, c1, c2] m more lm w) : ∃ z a n cap a' n' cap', c0 = .int .i64 z ∧ c1 = .slice a n cap ∧ c2 = .slice a' n' cap' := h.own.shape
theorem MemX.more {lo hi : Nat} {cs : List Value} {m : MemM} {d : Value} {l : List UInt8} {w : World} (h : MemX lo hi cs m [d] [l] w) : ByteSOwn lo hi [d] l w := by
  obtain ⟨a, cap, vs, c2, rfl, h1, h2, h3, ht⟩ := h
  have hl : vs.length = m.cells.length := by have := h1.1; omega
  exact h3.row vs.length d l (by simp) (by rw [hl]; simp)
theorem MemX.lies {lo hi : Nat} {cs : List Value} {m : MemM} {more : List Value} {lm : List (List UInt8)} {w : World} (h : MemX lo hi cs m more lm w) (ht : hi ≤ w.heap.size) : Lies w lo hi (MemX lo hi cs m more lm) := by
  obtain ⟨a, cap, vs, c2, rfl, h1, h2, h3, h4⟩ := h
  exact ⟨⟨a, cap, vs, c2, rfl, h1, h2, h3, h4⟩, ht, fun w2 e => ⟨a, cap, vs, c2, rfl, own_sup h1 h2 e, h2, h3.sup e, (h4.lies ht).sup w2 e⟩⟩
theorem MemX.wide {lo hi lo' hi' : Nat} {cs : List Value} {m : MemM} {more : List Value} {lm : List (List UInt8)} {w : World} (h : MemX lo hi cs m more lm w) (g1 : lo' ≤ lo) (g2 : hi ≤ hi') : MemX lo' hi' cs m more lm w := by
  obtain ⟨a, cap, vs, c2, rfl, h1, h2, h3, h4⟩ := h
  exact ⟨a, cap, vs, c2, rfl, own_base h1 g1, fun k hk => Nat.lt_of_lt_of_le (h2 k hk) g2, h3.wide g1 g2, h4.wide g1 g2⟩
end Go.Proofs.YticfnhbjoaecjaaDoor
