/- 'copy(dst[off:], src)' into the tail of a row that the call owns. No program in it. -/
import Derived.Test.YtmndkpicbmffnaaCopy
namespace Go.Proofs.Ytmndkpicbmffnaa
open Go.RowKit
set_option linter.unusedVariables false

theorem copy_part {P : Program} {w : World} {base g n : Nat} {dT sT e : TypeId} {xs : List Value} (hu : P.underlying dT = some (.slice e)) (hsz : (P.info? e).map (·.size) = some 1)
    (h : w.ownsRow base e 1 (.slice (some ⟨g, 0, none⟩) n n) n xs) (off m c : Nat) (hf : off + m ≤ n) (b boff sLen sCap : Nat) (ys : List Value) (hy : ys.length = Nat.min sLen m) (hc : ∀ i, i < ys.length → w.cell? ⟨b, boff + i, none⟩ = ys[i]?) (h1 : ∀ v ∈ ys, v.oneCell' = true) :
    ∃ w', (∀ ty, (Builtin.copy_ #[dT, sT] ty #[.slice (some ⟨g, off, none⟩) m c, .slice (some ⟨b, boff, none⟩) sLen sCap]).run P w = .ok (goInt ys.length) w') ∧
      w'.ownsRow base e 1 (.slice (some ⟨g, 0, none⟩) n n) n (xs.take off ++ (ys ++ xs.drop (off + ys.length))) ∧ w.grownBy w' (some g) := by
  obtain ⟨hx, hr⟩ := h
  rcases hr with ⟨hv, _⟩ | ⟨g', cap', cur, hv, hbg, hg, h1', h2, h3, h4⟩
  · simp at hv
  simp at hv
  obtain ⟨rfl, rfl⟩ := hv
  have hcur : cur.toList = xs := by rw [← h4, List.take_of_length_le (by simp [h3])]
  have hsz' : cur.size = n := by simpa using h3
  have hle : ys.length ≤ m := by rw [hy]; exact Nat.min_le_right _ _
  have hx' : xs.length = n := by simpa using hx
  refine ⟨_, fun ty => run_copy_row P w dT sT ty e g off m c ⟨b, boff, none⟩ sLen sCap cur e ys hu hsz hg hy (fun j v hj => ?_) (by omega) h1, ?_, ?_⟩
  · have hjl : j < ys.length := by
      rcases Nat.lt_or_ge j ys.length with h | h
      · exact h
      · rw [List.getElem?_eq_none h] at hj; cases hj
    have ea : (⟨b, boff, none⟩ : Addr).add j = ⟨b, boff + j, none⟩ := by simp [Addr.add]
    rw [ea, hc j hjl, hj]
  · refine ⟨?_, .inr ⟨g, n, _, rfl, hbg, setRow_heap w g cur _ _ _ hg, h1', h2, ?_, ?_⟩⟩
    · simp; omega
    · rw [hcur]; simp; omega
    · rw [hcur, List.take_of_length_le (by simp; omega)]
      simp
  · exact ⟨rfl, rfl, rfl, by simp, fun k _ hk => setRow_other w g k _ (by intro e; subst e; exact hk rfl)⟩
end Go.Proofs.Ytmndkpicbmffnaa
