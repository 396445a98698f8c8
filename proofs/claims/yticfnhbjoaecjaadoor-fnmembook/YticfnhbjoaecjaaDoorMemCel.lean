/- The laws' own helpers over rows of cells: counted, copied, compared, marked, held. -/
import Derived.Test.YticfnhbjoaecjaaDoorMemTch
namespace Go.Proofs.YticfnhbjoaecjaaDoor
open Go.RowKit
set_option linter.unusedVariables false

theorem Tryd.infoCell : (Tryd.prog.info? 43).map (fun i => (i.zero, i.size, i.bytes)) = some (some (.agg #[.slice none 0 0]), 1, 24) := by kernel_rfl
def sumL (ls : List (List UInt8)) : Nat := (ls.map List.length).sum
theorem sumL_app (a b : List (List UInt8)) : sumL (a ++ b) = sumL a + sumL b := by unfold sumL; simp
theorem sumL_one (l : List UInt8) : sumL [l] = l.length := by simp [sumL]
theorem sumL_snoc (ls : List (List UInt8)) (k : Nat) (h : k < ls.length) : sumL (ls.take (k + 1)) = sumL (ls.take k) + ls[k].length := by
  rw [List.take_succ_eq_append_getElem h, sumL_app, sumL_one]
theorem sumL_part (ls : List (List UInt8)) (k : Nat) : sumL (ls.take k) ≤ sumL ls := by
  have := sumL_app (ls.take k) (ls.drop k)
  rw [List.take_append_drop] at this
  omega
/-- A cell's row, of a row of cells. -/
theorem Row.cellAt {w : World} {a : Option Addr} {vs : List Value} {ls : List (List UInt8)} (h : Row w a vs) (hl : vs.length = ls.length) (hd : ∀ (i : Nat) v l, vs[i]? = some v → ls[i]? = some l → ByteSIn [v] l w) {k : Nat} (hk : k < ls.length) :
    ∃ b off x cap, a = some ⟨b, off, none⟩ ∧ w.cell? ⟨b, off + k, none⟩ = some (.slice x ls[k].length cap) ∧ vs[k]? = some (.slice x ls[k].length cap) ∧ ByteSIn [.slice x ls[k].length cap] ls[k] w := by
  obtain ⟨b, off, rfl, hc⟩ := h.at (i := k) (by omega)
  have hv : vs[k]? = some (vs[k]'(by omega)) := List.getElem?_eq_getElem _
  have hi := hd k _ ls[k] hv (List.getElem?_eq_getElem _)
  obtain ⟨x, cap, e, _⟩ := byteSIn_shape hi
  rw [e] at hv hi
  exact ⟨b, off, x, cap, rfl, hc.trans hv, hv, hi⟩
end Go.Proofs.YticfnhbjoaecjaaDoor
