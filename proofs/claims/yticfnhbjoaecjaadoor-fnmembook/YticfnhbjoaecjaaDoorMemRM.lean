/- MemRead, MemWrite, MemSweep, plain: what is answered. No program in it. -/
import Derived.Test.YticfnhbjoaecjaaDoorMemOI
import Derived.Test.YticfnhbjoaecjaaDoorMemB
namespace Go.Proofs.YticfnhbjoaecjaaDoor
open Go.RowKit
set_option linter.unusedVariables false

def memZ : MemM := ⟨0, [], []⟩
/-- The code of an access of n bytes to cell j. -/
def accC (m : MemM) (j n : Int) : Int := if memOkB m then (if hasB m.cells.length j then (if n = m.z then (if m.log.length < 6000 then 0 else 4) else 3) else 2) else 1
theorem acc_form {m : MemM} {j n : Int} (h : memOkB m = false) : accC m j n = 1 := by unfold accC; rw [h]; rfl
theorem acc_addr {m : MemM} {j n : Int} (h : memOkB m = true) (h2 : hasB m.cells.length j = false) : accC m j n = 2 := by unfold accC; rw [h, h2]; rfl
theorem acc_size {m : MemM} {j n : Int} (h : memOkB m = true) (h2 : hasB m.cells.length j = true) (h3 : ¬ n = m.z) : accC m j n = 3 := by unfold accC; rw [h, h2, if_neg h3]; rfl
theorem acc_full {m : MemM} {j n : Int} (h : memOkB m = true) (h2 : hasB m.cells.length j = true) (h3 : n = m.z) (h4 : ¬ m.log.length < 6000) : accC m j n = 4 := by unfold accC; rw [h, h2, if_pos h3, if_neg h4]; rfl
theorem acc_fine {m : MemM} {j n : Int} (h : memOkB m = true) (h2 : hasB m.cells.length j = true) (h3 : n = m.z) (h4 : m.log.length < 6000) : accC m j n = 0 := by unfold accC; rw [h, h2, if_pos h3, if_pos h4]; rfl
def readC (m : MemM) (j : Int) : Int := accC m j m.z
def readM (m : MemM) (j : Int) : MemM := if readC m j = 0 then ⟨m.z, m.cells, m.log ++ [⟨1, j, m.z⟩]⟩ else memZ
def readD (m : MemM) (j : Int) : List UInt8 := if readC m j = 0 then m.cells.getD j.toNat [] else []
def writeC (m : MemM) (j : Int) (d : List UInt8) : Int := accC m j d.length
def writeM (m : MemM) (j : Int) (d : List UInt8) : MemM := if writeC m j d = 0 then ⟨m.z, m.cells.set j.toNat d, m.log ++ [⟨2, j, m.z⟩]⟩ else memZ
theorem acc_ok {m : MemM} {j n : Int} (h : accC m j n = 0) : memOkB m = true ∧ hasB m.cells.length j = true ∧ n = m.z ∧ m.log.length < 6000 := by
  cases h1 : memOkB m
  · rw [acc_form h1] at h; omega
  cases h2 : hasB m.cells.length j
  · rw [acc_addr h1 h2] at h; omega
  by_cases h3 : n = m.z
  · by_cases h4 : m.log.length < 6000
    · exact ⟨rfl, rfl, h3, h4⟩
    · rw [acc_full h1 h2 h3 h4] at h; omega
  · rw [acc_size h1 h2 h3] at h; omega
theorem memZ_mc : mcMem memZ = 0 := by simp [mcMem, memZ, sumL]
theorem readM_bd (m : MemM) (j : Int) (h : szMem m ≤ 1048576) : mcMem (readM m j) ≤ 1000000000000 := by
  unfold readM
  split
  · unfold mcMem; unfold szMem at h; simp; omega
  · rw [memZ_mc]; omega
theorem sumL_set : ∀ (ls : List (List UInt8)) (k : Nat) (d : List UInt8), sumL (ls.set k d) ≤ sumL ls + d.length
  | [], k, d => by simp [sumL]
  | l :: ls, 0, d => by simp [sumL]; omega
  | l :: ls, k + 1, d => by
    have := sumL_set ls k d
    simp only [sumL, List.set_cons_succ, List.map_cons, List.sum_cons] at this ⊢
    omega
theorem writeM_bd (m : MemM) (j : Int) (d : List UInt8) (h : szMem m ≤ 1048576) : mcMem (writeM m j d) ≤ 1000000000000 := by
  unfold writeM
  split
  · rename_i hc
    obtain ⟨h1, _, h3, _⟩ := acc_ok hc
    have := mem_of h1
    have h2 := sumL_set m.cells j.toNat d
    unfold mcMem; unfold szMem at h; simp; omega
  · rw [memZ_mc]; omega
theorem getD_has {m : MemM} {j : Nat} (h : j < m.cells.length) : m.cells.getD j [] = m.cells[j] := by simp [h]
theorem readD_bd (m : MemM) (j : Int) : szByteS (readD m j) ≤ 1000000000000 := by
  unfold readD szByteS
  split
  · rename_i hc
    obtain ⟨h1, h2, _, _⟩ := acc_ok hc
    have hm := mem_of h1
    obtain ⟨g1, g2⟩ := has_of h2
    have e := getD_has (m := m) (j := j.toNat) (by omega)
    rw [e]
    have := hm.2.2.2.2 _ (List.getElem_mem (by omega : j.toNat < m.cells.length))
    omega
  · simp
theorem read_no {m : MemM} {j c : Int} (h : readC m j = c) (hc : c ≠ 0) : readM m j = memZ ∧ readD m j = [] := by
  unfold readM readD; rw [h, if_neg hc, if_neg hc]; exact ⟨rfl, rfl⟩
theorem read_yes {m : MemM} {j : Int} (h : readC m j = 0) : readM m j = ⟨m.z, m.cells, m.log ++ [⟨1, j, m.z⟩]⟩ ∧ readD m j = m.cells.getD j.toNat [] := by
  unfold readM readD; rw [h, if_pos rfl, if_pos rfl]; exact ⟨rfl, rfl⟩
theorem write_no {m : MemM} {j c : Int} {d : List UInt8} (h : writeC m j d = c) (hc : c ≠ 0) : writeM m j d = memZ := by unfold writeM; rw [h, if_neg hc]
theorem write_yes {m : MemM} {j : Int} {d : List UInt8} (h : writeC m j d = 0) : writeM m j d = ⟨m.z, m.cells.set j.toNat d, m.log ++ [⟨2, j, m.z⟩]⟩ := by unfold writeM; rw [h, if_pos rfl]
theorem memNilZ (lo hi : Nat) (w : World) : MemOwn lo hi [.int .i64 0, .slice none 0 0, .slice none 0 0] memZ w := memNil lo hi 0 w
/-- What a read leaves. -/
def ReadRet (m : MemM) (j : Int) (w : World) (e : Ending) (w' : World) : Prop :=
  ∃ c0 c1 c2 d mid, e = .returned (.tuple #[.agg #[c0, c1, c2], d, .int .i64 (readC m j)]) ∧ MemOwn w.heap.size mid [c0, c1, c2] (readM m j) w' ∧ ByteSOwn mid w'.heap.size [d] (readD m j) w' ∧ w.heap.size ≤ mid ∧ mid ≤ w'.heap.size ∧ Below w.heap.size w w'
def WriteRet (m : MemM) (j : Int) (d : List UInt8) (w : World) (e : Ending) (w' : World) : Prop :=
  ∃ c0 c1 c2, e = .returned (.tuple #[.agg #[c0, c1, c2], .int .i64 (writeC m j d)]) ∧ MemOwn w.heap.size w'.heap.size [c0, c1, c2] (writeM m j d) w' ∧ Below w.heap.size w w'
theorem nilB (lo hi : Nat) (w : World) : ByteSOwn lo hi [.slice none 0 0] [] w := ⟨none, 0, rfl, World.ownsRow_nil _ _ _ _, fun k hk => by simp [Value.ownBlock] at hk⟩
theorem read_fail {m : MemM} {j c : Int} {w w' : World} (h : readC m j = c) (hc : c ≠ 0) (hb : Below w.heap.size w w') : ReadRet m j w (.returned (.tuple #[.agg #[.int .i64 0, .slice none 0 0, .slice none 0 0], .slice none 0 0, .int .i64 c])) w' := by
  obtain ⟨h1, h2⟩ := read_no h hc
  exact ⟨_, _, _, _, w.heap.size, by rw [h], by rw [h1]; exact memNilZ _ _ _, by rw [h2]; exact nilB _ _ _, Nat.le_refl _, hb.size, hb⟩
theorem write_fail {m : MemM} {j c : Int} {d : List UInt8} {w w' : World} (h : writeC m j d = c) (hc : c ≠ 0) (hb : Below w.heap.size w w') : WriteRet m j d w (.returned (.tuple #[.agg #[.int .i64 0, .slice none 0 0, .slice none 0 0], .int .i64 c])) w' :=
  ⟨_, _, _, by rw [h], by rw [write_no h hc]; exact memNilZ _ _ _, hb⟩
end Go.Proofs.YticfnhbjoaecjaaDoor
