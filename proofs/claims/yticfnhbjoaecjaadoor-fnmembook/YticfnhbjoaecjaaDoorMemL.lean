/- Memories in the laws' uniform form: arguments read; the helpers over them. -/
import Derived.Test.YticfnhbjoaecjaaDoorMemCelB
import Derived.Test.YticfnhbjoaecjaaDoorReads
namespace Go.Proofs.YticfnhbjoaecjaaDoor
open Go.RowKit Go.ChangeShapes Go.WideShapes Go.Deep
set_option maxRecDepth 100000
set_option linter.unusedVariables false

theorem cells?_at {w : World} {base : Nat} {a : Addr} {v0 v1 v2 : Value} (h : w.cells? base a 3 = some [v0, v1, v2]) : w.cell? (a.add 0) = some v0 ∧ w.cell? (a.add 1) = some v1 ∧ w.cell? (a.add 2) = some v2 := by
  unfold World.cells? at h
  split at h
  · simp [List.range, List.range.loop, bind, Option.bind] at h
    split at h
    · cases h
    · rename_i x0 e0
      split at h
      · cases h
      · rename_i x1 e1
        split at h
        · cases h
        · rename_i x2 e2
          simp at h
          obtain ⟨rfl, rfl, rfl⟩ := h
          exact ⟨e0, e1, e2⟩
  · cases h
def i64B (z : Int) : Prop := -9223372036854775808 ≤ z ∧ z ≤ 9223372036854775807
def tbd (t : TouchM) : Prop := i64B t.op ∧ i64B t.ad ∧ i64B t.len
/-- What is counted of a memory, and how many marks it takes. -/
def szMem (m : MemM) : Nat := (m.cells.length + sumL m.cells) + m.log.length
def mcMem (m : MemM) : Nat := sumL m.cells + m.log.length * 3
def mkMem (k : Nat) (m : MemM) : MemM := ⟨m.z, mkC k m.cells, marksT (k + sumL m.cells) m.log.length⟩
theorem mcMem_le {m : MemM} (h : szMem m ≤ 1048576) : mcMem m ≤ 1000000000000 := by unfold szMem at h; unfold mcMem; omega
def MemRet (m : MemM) (w : World) (e : Ending) (w' : World) : Prop := ∃ c0 c1 c2, e = .returned (.agg #[c0, c1, c2]) ∧ MemOwn w.heap.size w'.heap.size [c0, c1, c2] m w' ∧ Below w.heap.size w w'
theorem szI_add {left : Int} {a b : Nat} (h : ¬ left - a < 0) : szI (left - a) b = szI left (a + b) := by
  unfold szI
  have e : left - (a : Int) - (b : Int) = left - ((a + b : Nat) : Int) := by omega
  rw [e]
theorem szI_first {left : Int} {a b : Nat} (h : left - a < 0) : szI left (a + b) = -1 := szI_no (by omega)
end Go.Proofs.YticfnhbjoaecjaaDoor
