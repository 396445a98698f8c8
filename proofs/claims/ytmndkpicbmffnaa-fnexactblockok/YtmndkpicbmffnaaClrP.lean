/- 'clear(s[k:])' of a row that the call owns; of an empty slice. No program in it. -/
import Derived.Test.YtmndkpicbmffnaaFlatG
import Derived.Lib.SliceRun
namespace Go.Proofs.Ytmndkpicbmffnaa
open Go.RowKit
set_option linter.unusedVariables false

theorem setCells_L : ∀ (vs : List Value) (w : World) (b o : Nat), w.setCells b o vs = setCellsL w b o vs
  | [], w, b, o => rfl
  | v :: vs, w, b, o => setCells_L vs (w.setCell ⟨b, o, none⟩ v) b (o + 1)
theorem clear_none {P : Program} (w : World) (T e : TypeId) (hu : P.underlying T = some (.slice e)) (a : Option Addr) (c : Nat) : ∀ ty, (Builtin.clear_ #[T] ty #[.slice a 0 c]).run P w = .ok (.tuple #[]) w := fun ty => by
  cases a <;> simp [Builtin.clear_, run_underlying hu]
theorem clear_tail {P : Program} {w : World} {base g n k : Nat} {T e : TypeId} {z : Value} {xs : List Value} (hu : P.underlying T = some (.slice e)) (hv : ∀ w, (zeroValue e).run P w = .ok z w) (hz : z.cells = #[z]) (h1 : z.oneCell' = true) (h : w.ownsRow base e 1 (.slice (some ⟨g, 0, none⟩) n n) n xs) (hk : k < n) (c : Nat) :
    ∃ w', (∀ ty, (Builtin.clear_ #[T] ty #[.slice (some ⟨g, k, none⟩) (n - k) c]).run P w = .ok (.tuple #[]) w') ∧ w'.ownsRow base e 1 (.slice (some ⟨g, 0, none⟩) n n) n (xs.take k ++ List.replicate (n - k) z) ∧ w.grownBy w' (some g) := by
  have hx : xs.length = n := by simpa using h.1
  have hs := own_setsL (List.replicate (n - k) z) w xs k h
  rw [← setCells_L] at hs
  refine ⟨_, fun ty => Lib.run_clear_slice w T e ty z hu hv hz h1 g k (n - k) c (by omega) (fun j hj => ?_) (fun j hj => h.frozenAt (k + j)), ?_, hs.2⟩
  · rw [h.cellAt (k + j) (by omega), List.getElem?_eq_getElem (by omega)]; rfl
  · have e1 : setsL xs k (List.replicate (n - k) z) = xs.take k ++ List.replicate (n - k) z := by
      have hp := setsL_full (xs.take k) (List.replicate (n - k) z) (xs.drop k) (by simp; omega)
      rw [List.take_append_drop, List.length_take, Nat.min_eq_left (by omega)] at hp
      exact hp
    rw [e1] at hs
    exact hs.1
end Go.Proofs.Ytmndkpicbmffnaa
