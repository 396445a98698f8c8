/- The laws' own helpers over rows of accesses: counted, copied, compared, marked, held. -/
import Derived.Test.YticfnhbjoaecjaaDoorMemV
import Derived.Deep.QuietTactic
import Derived.BigQuiet
import Derived.Deep.RegionHeld3
namespace Go.Proofs.YticfnhbjoaecjaaDoor
open Go.RowKit
set_option linter.unusedVariables false

theorem Tryd.infoTouch : (Tryd.prog.info? 35).map (fun i => (i.zero, i.size, i.bytes)) = some (some (.agg #[.int .i64 0, .int .i64 0, .int .i64 0]), 3, 24) := by kernel_rfl
/-- The first k taken over, zeros behind. -/
def copyG {α : Type} (z : α) (l : List α) (k : Nat) : List α := l.take k ++ List.replicate (l.length - k) z
theorem copyG_length {α : Type} (z : α) (l : List α) (k : Nat) (h : k ≤ l.length) : (copyG z l k).length = l.length := by unfold copyG; simp; omega
theorem copyG_zero {α : Type} (z : α) (l : List α) : copyG z l 0 = List.replicate l.length z := by simp [copyG]
theorem copyG_set {α : Type} (z : α) (l : List α) (k : Nat) (h : k < l.length) : (copyG z l k).set k l[k] = copyG z l (k + 1) := by
  unfold copyG
  rw [List.take_succ_eq_append_getElem h, List.set_append_right _ _ (by simp; omega)]
  obtain ⟨m, hm⟩ : ∃ m, l.length - k = m + 1 := ⟨l.length - k - 1, by omega⟩
  rw [hm, show l.length - (k + 1) = m from by omega, List.replicate_succ]
  rw [show k - (l.take k).length = 0 from by simp; omega]
  rw [List.set_cons_zero, List.append_assoc]; rfl
theorem copyG_done {α : Type} (z : α) (l : List α) : copyG z l l.length = l := by unfold copyG; simp
theorem made_touch (n : Nat) : (madeCells #[.int .i64 0, .int .i64 0, .int .i64 0] (n * 3)).toList = flatT (List.replicate n ⟨0, 0, 0⟩) := by
  apply List.ext_getElem?
  intro j
  by_cases hj : j < n * 3
  · have hk : j / 3 < (List.replicate n (⟨0, 0, 0⟩ : TouchM)).length := by simp; omega
    obtain ⟨h0, h1, h2⟩ := flatT_at (List.replicate n ⟨0, 0, 0⟩) (j / 3) hk
    have hm : j % 3 = 0 ∨ j % 3 = 1 ∨ j % 3 = 2 := by omega
    rcases hm with h | h | h
    · rw [show j / 3 * 3 = j from by omega] at h0
      rw [h0]; simp [madeCells, hj, h]
    · rw [show j / 3 * 3 + 1 = j from by omega] at h1
      rw [h1]; simp [madeCells, hj, h]
    · rw [show j / 3 * 3 + 2 = j from by omega] at h2
      rw [h2]; simp [madeCells, hj, h]
  · rw [List.getElem?_eq_none (by simp [madeCells]; omega), List.getElem?_eq_none (by rw [flatT_len]; simp; omega)]
/-- The three cells of an access in a row. -/
theorem Row.touch {w : World} {a : Option Addr} {l : List TouchM} (h : Row w a (flatT l)) {k : Nat} (hk : k < l.length) : ∃ b off, a = some ⟨b, off, none⟩ ∧ w.cell? ⟨b, off + k * 3, none⟩ = some (.int .i64 l[k].op) ∧ w.cell? ⟨b, off + k * 3 + 1, none⟩ = some (.int .i64 l[k].ad) ∧ w.cell? ⟨b, off + k * 3 + 2, none⟩ = some (.int .i64 l[k].len) := by
  have hl := flatT_len l
  obtain ⟨e0, e1, e2⟩ := flatT_at l k hk
  rcases h with h | ⟨b, off, rfl, hc⟩
  · rw [h] at hl; simp at hl; omega
  · exact ⟨b, off, rfl, (hc _ (by omega)).trans e0, (hc (k * 3 + 1) (by omega)).trans e1, (hc (k * 3 + 2) (by omega)).trans e2⟩
/-- An access stored into an owned row, cell by cell. -/
theorem own_touch {w : World} {base g n cap k : Nat} {e : TypeId} {l : List TouchM} (h : w.ownsRow base e 3 (.slice (some ⟨g, 0, none⟩) n cap) n (flatT l)) (hk : k < l.length) (t : TouchM) :
    (((w.setCell ⟨g, k * 3, none⟩ (.int .i64 t.op)).setCell ⟨g, k * 3 + 1, none⟩ (.int .i64 t.ad)).setCell ⟨g, k * 3 + 2, none⟩ (.int .i64 t.len)).ownsRow base e 3 (.slice (some ⟨g, 0, none⟩) n cap) n (flatT (l.set k t)) ∧
    w.grownBy (((w.setCell ⟨g, k * 3, none⟩ (.int .i64 t.op)).setCell ⟨g, k * 3 + 1, none⟩ (.int .i64 t.ad)).setCell ⟨g, k * 3 + 2, none⟩ (.int .i64 t.len)) (some g) := by
  obtain ⟨h1, g1⟩ := h.stored (k * 3) (.int .i64 t.op)
  obtain ⟨h2, g2⟩ := h1.stored (k * 3 + 1) (.int .i64 t.ad)
  obtain ⟨h3, g3⟩ := h2.stored (k * 3 + 2) (.int .i64 t.len)
  rw [flatT_set l k hk t] at h3
  exact ⟨h3, grown_trans (grown_trans g1 g2) g3⟩
def markT (k j : Nat) (l : List TouchM) : List TouchM := marksT k j ++ l.drop j
theorem marksT_succ : ∀ k j, marksT k (j + 1) = marksT k j ++ [⟨((k + j * 3 : Nat) : Int), ((k + j * 3 + 1 : Nat) : Int), ((k + j * 3 + 2 : Nat) : Int)⟩]
  | k, 0 => by simp [marksT]
  | k, j + 1 => by
    rw [marksT, marksT_succ (k + 3) j]
    conv => rhs; rw [marksT]
    rw [show k + 3 + j * 3 = k + (j + 1) * 3 from by omega]
    rfl
theorem markT_zero (k : Nat) (l : List TouchM) : markT k 0 l = l := by simp [markT, marksT]
theorem markT_length (k j : Nat) (l : List TouchM) (h : j ≤ l.length) : (markT k j l).length = l.length := by simp [markT, marksT_length]; omega
theorem markT_done (k : Nat) (l : List TouchM) : markT k l.length l = marksT k l.length := by simp [markT]
theorem markT_set (k j : Nat) (l : List TouchM) (h : j < l.length) : (markT k j l).set j ⟨((k + j * 3 : Nat) : Int), ((k + j * 3 + 1 : Nat) : Int), ((k + j * 3 + 2 : Nat) : Int)⟩ = markT k (j + 1) l := by
  unfold markT
  rw [marksT_succ, List.set_append_right _ _ (by rw [marksT_length]; omega)]
  rw [show j - (marksT k j).length = 0 from by rw [marksT_length]; omega, List.drop_eq_getElem_cons h, List.set_cons_zero]
  simp
end Go.Proofs.YticfnhbjoaecjaaDoor
