/- CopyP, ClrP in one. Written by tools/join2.py. -/
import Derived.Test.YtmndkpicbmffnaaJN8
import Derived.Test.YtmndkpicbmffnaaJN5
import Derived.Lib.SliceRun
section
namespace Go.Proofs.Ytmndkpicbmffnaa
open Go.RowKit
set_option linter.unusedVariables false

theorem copy_part {P : Program} {w : World} {base g n : Nat} {dT sT e : TypeId} {xs : List Value} (hu : P.underlying dT = some (.slice e)) (hsz : (P.info? e).map (·.size) = some 1)
    (h : w.ownsRow base e 1 (.slice (some ⟨g, 0, none⟩) n n) n xs) (off m c : Nat) (hf : off + m ≤ n) (b boff sLen sCap : Nat) (ys : List Value) (hy : ys.length = Nat.min sLen m) (hc : ∀ i, i < ys.length → w.cell? ⟨b, boff + i, none⟩ = ys[i]?) (h1 : ∀ v ∈ ys, v.oneCell' = true) :
    ∃ w', (∀ ty, (Builtin.copy_ #[dT, sT] ty #[.slice (some ⟨g, off, none⟩) m c, .slice (some ⟨b, boff, none⟩) sLen sCap]).run P w = .ok (goInt ys.length) w') ∧
      w'.ownsRow base e 1 (.slice (some ⟨g, 0, none⟩) n n) n (xs.take off ++ (ys ++ xs.drop (off + ys.length))) ∧ w.grownBy w' (some g) := by
  obtain ⟨hx, hr⟩ := h
  rcases hr with ⟨hv, _⟩ | ⟨g', cap', cur, hv, hbg, hg, h1', h2, h3, h4⟩
  · simp at hv
  simp at hv
  obtain ⟨rfl, rfl⟩ := hv
  have hcur : cur.toList = xs := by rw [← h4, List.take_of_length_le (by simp [h3])]
  have hsz' : cur.size = n := by simpa using h3
  have hle : ys.length ≤ m := by rw [hy]; exact Nat.min_le_right _ _
  have hx' : xs.length = n := by simpa using hx
  refine ⟨_, fun ty => run_copy_row P w dT sT ty e g off m c ⟨b, boff, none⟩ sLen sCap cur e ys hu hsz hg hy (fun j v hj => ?_) (by omega) h1, ?_, ?_⟩
  · have hjl : j < ys.length := by
      rcases Nat.lt_or_ge j ys.length with h | h
      · exact h
      · rw [List.getElem?_eq_none h] at hj; cases hj
    have ea : (⟨b, boff, none⟩ : Addr).add j = ⟨b, boff + j, none⟩ := by simp [Addr.add]
    rw [ea, hc j hjl, hj]
  · refine ⟨?_, .inr ⟨g, n, _, rfl, hbg, setRow_heap w g cur _ _ _ hg, h1', h2, ?_, ?_⟩⟩
    · simp; omega
    · rw [hcur]; simp; omega
    · rw [hcur, List.take_of_length_le (by simp; omega)]
      simp
  · exact ⟨rfl, rfl, rfl, by simp, fun k _ hk => setRow_other w g k _ (by intro e; subst e; exact hk rfl)⟩
end Go.Proofs.Ytmndkpicbmffnaa
end

section
namespace Go.Proofs.Ytmndkpicbmffnaa
open Go.RowKit
set_option linter.unusedVariables false

theorem setCells_L : ∀ (vs : List Value) (w : World) (b o : Nat), w.setCells b o vs = setCellsL w b o vs
  | [], w, b, o => rfl
  | v :: vs, w, b, o => setCells_L vs (w.setCell ⟨b, o, none⟩ v) b (o + 1)
theorem clear_none {P : Program} (w : World) (T e : TypeId) (hu : P.underlying T = some (.slice e)) (a : Option Addr) (c : Nat) : ∀ ty, (Builtin.clear_ #[T] ty #[.slice a 0 c]).run P w = .ok (.tuple #[]) w := fun ty => by
  cases a <;> simp [Builtin.clear_, run_underlying hu]
theorem clear_tail {P : Program} {w : World} {base g n k : Nat} {T e : TypeId} {z : Value} {xs : List Value} (hu : P.underlying T = some (.slice e)) (hv : ∀ w, (zeroValue e).run P w = .ok z w) (hz : z.cells = #[z]) (h1 : z.oneCell' = true) (h : w.ownsRow base e 1 (.slice (some ⟨g, 0, none⟩) n n) n xs) (hk : k < n) (c : Nat) :
    ∃ w', (∀ ty, (Builtin.clear_ #[T] ty #[.slice (some ⟨g, k, none⟩) (n - k) c]).run P w = .ok (.tuple #[]) w') ∧ w'.ownsRow base e 1 (.slice (some ⟨g, 0, none⟩) n n) n (xs.take k ++ List.replicate (n - k) z) ∧ w.grownBy w' (some g) := by
  have hx : xs.length = n := by simpa using h.1
  have hs := own_setsL (List.replicate (n - k) z) w xs k h
  rw [← setCells_L] at hs
  refine ⟨_, fun ty => Lib.run_clear_slice w T e ty z hu hv hz h1 g k (n - k) c (by omega) (fun j hj => ?_) (fun j hj => h.frozenAt (k + j)), ?_, hs.2⟩
  · rw [h.cellAt (k + j) (by omega), List.getElem?_eq_getElem (by omega)]; rfl
  · have e1 : setsL xs k (List.replicate (n - k) z) = xs.take k ++ List.replicate (n - k) z := by
      have hp := setsL_full (xs.take k) (List.replicate (n - k) z) (xs.drop k) (by simp; omega)
      rw [List.take_append_drop, List.length_take, Nat.min_eq_left (by omega)] at hp
      exact hp
    rw [e1] at hs
    exact hs.1
end Go.Proofs.Ytmndkpicbmffnaa
end
