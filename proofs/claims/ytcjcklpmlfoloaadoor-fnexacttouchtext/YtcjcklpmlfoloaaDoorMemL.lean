/- Memories in the laws' uniform form: arguments read; the helpers over them. -/
import Derived.Test.YtcjcklpmlfoloaaDoorMemCelB
import Derived.Test.YtcjcklpmlfoloaaDoorReads
namespace Go.Proofs.YtcjcklpmlfoloaaDoor
open Go.RowKit Go.ChangeShapes Go.WideShapes Go.Deep
set_option maxRecDepth 100000
set_option linter.unusedVariables false

theorem cells?_at {w : World} {base : Nat} {a : Addr} {v0 v1 v2 : Value} (h : w.cells? base a 3 = some [v0, v1, v2]) : w.cell? (a.add 0) = some v0 ∧ w.cell? (a.add 1) = some v1 ∧ w.cell? (a.add 2) = some v2 := by
  unfold World.cells? at h
  split at h
  · simp [List.range, List.range.loop, bind, Option.bind] at h
    split at h
    · cases h
    · rename_i x0 e0
      split at h
      · cases h
      · rename_i x1 e1
        split at h
        · cases h
        · rename_i x2 e2
          simp at h
          obtain ⟨rfl, rfl, rfl⟩ := h
          exact ⟨e0, e1, e2⟩
  · cases h
def i64B (z : Int) : Prop := -9223372036854775808 ≤ z ∧ z ≤ 9223372036854775807
/-- An access of machine numbers. -/
def tbd (t : TouchM) : Prop := i64B t.op ∧ i64B t.ad ∧ i64B t.len
theorem Rd.touchS {w : World} {c : Value} (h : Rd w 41 [c]) : ∃ l, TouchSIn [c] l w ∧ ∀ t ∈ l, tbd t := by
  have hC : Tryd.prog.cellsOf 65 = 3 := by kernel_rfl
  have hC1 : Tryd.prog.cellsOf 3 = 1 := by kernel_rfl
  rcases h.slice Tryd.underlying41 with h | ⟨a, len, cap, h, hl, hm, hi⟩
  · simp at h
    subst h
    exact ⟨[], ⟨none, 0, rfl, Nat.le_refl _, by unfold maxLen; simp, .inl rfl⟩, fun t h => by simp at h⟩
  · simp at h
    subst h
    have key : ∀ i, i < len → ∃ t : TouchM, w.cell? ((a.add (i * 3)).add 0) = some (.int .i64 t.op) ∧ w.cell? ((a.add (i * 3)).add 1) = some (.int .i64 t.ad) ∧ w.cell? ((a.add (i * 3)).add 2) = some (.int .i64 t.len) ∧ tbd t := fun i hlt => by
      obtain ⟨cs', h1, h2⟩ := hi i (by omega)
      rw [hC] at h1
      obtain ⟨hcl, _⟩ := h2.struct Tryd.underlying65
      rw [hC] at hcl
      match cs', hcl with
      | [v0, v1, v2], _ =>
        have f0 := h2.field Tryd.underlying65 0 _ 3 1 [v0] rfl rfl hC1 rfl
        have f1 := h2.field Tryd.underlying65 1 _ 3 1 [v1] rfl rfl hC1 rfl
        have f2 := h2.field Tryd.underlying65 2 _ 3 1 [v2] rfl rfl hC1 rfl
        obtain ⟨z0, e0, y0⟩ := f0.int Tryd.underlying3
        obtain ⟨z1, e1, y1⟩ := f1.int Tryd.underlying3
        obtain ⟨z2, e2, y2⟩ := f2.int Tryd.underlying3
        simp at e0 e1 e2
        subst e0 e1 e2
        obtain ⟨q0, q1, q2⟩ := cells?_at h1
        exact ⟨⟨z0, z1, z2⟩, q0, q1, q2, wf_i64 y0, wf_i64 y1, wf_i64 y2⟩
    obtain ⟨V, hV⟩ := choose_lt key
    refine ⟨(List.range len).map V, ⟨some a, cap, by simp, by simpa using hl, by simp; omega, ?_⟩, fun t ht => by
      obtain ⟨i, hi, rfl⟩ := List.mem_map.1 ht
      exact (hV i (by simpa using hi)).2.2.2⟩
    by_cases h0 : len = 0
    · subst h0; exact .inl rfl
    · obtain ⟨b, off, spot⟩ := a
      have hspot : spot = none := by simpa [Addr.add] using World.cell?_spot (hV 0 (by omega)).1
      subst hspot
      have e1 : ∀ o k, (⟨b, o, none⟩ : Addr).add k = ⟨b, o + k, none⟩ := fun o k => by unfold Addr.add; split <;> simp_all
      have ea : ∀ i j, ((⟨b, off, none⟩ : Addr).add i).add j = ⟨b, off + (i + j), none⟩ := fun i j => by rw [e1, e1, Nat.add_assoc]
      refine .inr ⟨b, off, rfl, fun j hj => ?_⟩
      rw [flatT_len] at hj
      simp at hj
      have hk : j / 3 < ((List.range len).map V).length := by simp; omega
      obtain ⟨g0, g1, g2⟩ := flatT_at ((List.range len).map V) (j / 3) hk
      obtain ⟨q0, q1, q2, _⟩ := hV (j / 3) (by omega)
      rw [ea] at q0 q1 q2
      have ev : ((List.range len).map V)[j / 3] = V (j / 3) := by simp
      rw [ev] at g0 g1 g2
      have hm3 : j % 3 = 0 ∨ j % 3 = 1 ∨ j % 3 = 2 := by omega
      rcases hm3 with h | h | h
      · rw [show j / 3 * 3 = j from by omega] at g0; rw [show j / 3 * 3 + 0 = j from by omega] at q0; rw [q0, g0]
      · rw [show j / 3 * 3 + 1 = j from by omega] at q1 g1; rw [q1, g1]
      · rw [show j / 3 * 3 + 2 = j from by omega] at q2 g2; rw [q2, g2]
theorem argTouchS {w : World} {v : Value} (h : Arg w 41 v) : ∃ c m, v = c ∧ TouchSIn [c] m w ∧ ∀ t ∈ m, tbd t := by
  obtain ⟨a, len, cap, rfl, hr⟩ := h.slice Tryd.underlying41
  obtain ⟨l, hl, hb⟩ := hr.touchS
  exact ⟨_, l, rfl, hl, hb⟩
/-- What is counted of a memory, and how many marks it takes. -/
def szMem (m : MemM) : Nat := (m.cells.length + sumL m.cells) + m.log.length
def mcMem (m : MemM) : Nat := sumL m.cells + m.log.length * 3
def mkMem (k : Nat) (m : MemM) : MemM := ⟨m.z, mkC k m.cells, marksT (k + sumL m.cells) m.log.length⟩
theorem mcMem_le {m : MemM} (h : szMem m ≤ 1048576) : mcMem m ≤ 1000000000000 := by unfold szMem at h; unfold mcMem; omega
def MemRet (m : MemM) (w : World) (e : Ending) (w' : World) : Prop := ∃ c0 c1 c2, e = .returned (.agg #[c0, c1, c2]) ∧ MemOwn w.heap.size w'.heap.size [c0, c1, c2] m w' ∧ Below w.heap.size w w'
theorem szI_add {left : Int} {a b : Nat} (h : ¬ left - a < 0) : szI (left - a) b = szI left (a + b) := by
  unfold szI
  have e : left - (a : Int) - (b : Int) = left - ((a + b : Nat) : Int) := by omega
  rw [e]
theorem szI_first {left : Int} {a b : Nat} (h : left - a < 0) : szI left (a + b) = -1 := szI_no (by omega)
theorem uSzTouchS (c : Value) (l : List TouchM) (left : Int) (w : World) (h0 : 0 ≤ left) (h1 : left ≤ 1048576) (h : TouchSIn [c] l w) :
    Calls Tryd.prog 15 #[c, .int .i64 left] w fun e w' => e = .returned (.int .i64 (szI left (szTouchS l))) ∧ Below w.heap.size w w' := by
  obtain ⟨a, cap, rfl, _, h2, _⟩ := touchSIn_shape h
  refine (lawsSzTouchS a l.length cap left w h2 h0 h1).mono ?_
  rintro e w' ⟨rfl, rfl⟩
  exact ⟨rfl, Below.refl _ _⟩
def TouchSRet (l : List TouchM) (w : World) (e : Ending) (w' : World) : Prop := ∃ c, e = .returned c ∧ TouchSOwn w.heap.size w'.heap.size [c] l w' ∧ Below w.heap.size w w'
theorem uToTouchS (c : Value) (l : List TouchM) (w : World) (hl : szTouchS l ≤ 1048576) (h : TouchSIn [c] l w) : Calls Tryd.prog 16 #[c] w (TouchSRet l w) := by
  obtain ⟨a, cap, rfl, _, _, h3⟩ := touchSIn_shape h
  refine (lawsToTouchS a cap l w hl h3).mono ?_
  rintro e w' ⟨rfl, ho, hb⟩
  exact ⟨_, rfl, TouchSOwn.mk ho, hb⟩
theorem uEqTouchS (c d : Value) (l : List TouchM) (w : World) (h : TouchSIn [c] l w) (k : TouchSIn [d] l w) : Calls Tryd.prog 17 #[c, d] w (TruePost w) := by
  obtain ⟨a, cap, rfl, _, h2, h3⟩ := touchSIn_shape h
  obtain ⟨a', cap', rfl, _, _, k3⟩ := touchSIn_shape k
  exact lawsEqTouchS a a' cap cap' l w h2 h3 k3
end Go.Proofs.YtcjcklpmlfoloaaDoor
