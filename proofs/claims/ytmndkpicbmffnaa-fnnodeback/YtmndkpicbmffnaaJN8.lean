/- Copy in one. Written by tools/join2.py. -/
import Derived.Test.YtmndkpicbmffnaaJN2
import Derived.Laws.CopyRow
import Derived.Laws.IdiomCopy
section
namespace Go.Proofs.Ytmndkpicbmffnaa
open Go.RowKit
set_option linter.unusedVariables false

theorem copy_slice {P : Program} {w : World} {base g n : Nat} {dT sT e : TypeId} {xs : List Value} (hu : P.underlying dT = some (.slice e)) (hsz : (P.info? e).map (·.size) = some 1)
    (h : w.ownsRow base e 1 (.slice (some ⟨g, 0, none⟩) n n) n xs) (sa : Option Addr) (sLen sCap : Nat) (ys : List Value) (hy : ys.length = Nat.min sLen n) (hr : Row w sa ys) (h1 : ∀ v ∈ ys, v.oneCell' = true) :
    ∃ w', (∀ ty, (Builtin.copy_ #[dT, sT] ty #[.slice (some ⟨g, 0, none⟩) n n, .slice sa sLen sCap]).run P w = .ok (goInt ys.length) w') ∧
      w'.ownsRow base e 1 (.slice (some ⟨g, 0, none⟩) n n) n (ys ++ xs.drop ys.length) ∧ w.grownBy w' (some g) := by
  rcases hr with rfl | ⟨b, off, rfl, hc⟩
  · refine ⟨w, fun ty => ?_, by simpa using h, World.grownBy.refl _ _⟩
    exact run_copy_none w dT sT ty e _ _ _ _ _ _ hu hsz (by simpa using hy.symm)
  obtain ⟨hx, hr⟩ := h
  rcases hr with ⟨hv, _⟩ | ⟨g', cap', cur, hv, hbg, hg, h1', h2, h3, h4⟩
  · simp at hv
  simp at hv
  obtain ⟨rfl, rfl⟩ := hv
  have hcur : cur.toList = xs := by rw [← h4, List.take_of_length_le (by simp [h3])]
  have hsz' : cur.size = n := by simpa using h3
  have hle : ys.length ≤ n := by rw [hy]; exact Nat.min_le_right _ _
  have hx' : xs.length = n := by simpa using hx
  refine ⟨_, fun ty => run_copy_row P w dT sT ty e g 0 n n ⟨b, off, none⟩ sLen sCap cur e ys hu hsz hg hy (fun j v hj => ?_) (by omega) h1, ?_, ?_⟩
  · have hjl : j < ys.length := by
      rcases Nat.lt_or_ge j ys.length with h | h
      · exact h
      · rw [List.getElem?_eq_none h] at hj; cases hj
    have ea : (⟨b, off, none⟩ : Addr).add j = ⟨b, off + j, none⟩ := by simp [Addr.add]
    rw [ea, hc j hjl, hj]
  · refine ⟨?_, .inr ⟨g, n, _, rfl, hbg, setRow_heap w g cur _ _ _ hg, h1', h2, ?_, ?_⟩⟩
    · simp; omega
    · rw [hcur]; simp; omega
    · rw [hcur, List.take_of_length_le (by simp; omega)]
      simp
  · exact ⟨rfl, rfl, rfl, by simp, fun k _ hk => setRow_other w g k _ (by intro e; subst e; exact hk rfl)⟩
/-- A part of a row. -/
theorem Row.cut {w : World} {b off : Nat} {xs : List Value} (h : Row w (some ⟨b, off, none⟩) xs) (k n : Nat) (hk : k + n ≤ xs.length) : Row w (some ⟨b, off + k, none⟩) ((xs.drop k).take n) := by
  by_cases h0 : xs = []
  · left; rw [h0]; simp
  rcases h with h | ⟨b', off', he, hc⟩
  · exact absurd h h0
  simp at he
  obtain ⟨rfl, rfl⟩ := he
  refine .inr ⟨b, off + k, rfl, fun i hi => ?_⟩
  have hi' : i < n := by rw [List.length_take] at hi; omega
  rw [Nat.add_assoc, hc (k + i) (by omega), List.getElem?_take_of_lt hi', List.getElem?_drop]
theorem ones_ival {l : List Int} {f : Int → Value} (hf : ∀ z, (f z).oneCell' = true) : ∀ v ∈ l.map f, v.oneCell' = true := by
  intro v hv
  obtain ⟨z, _, rfl⟩ := List.mem_map.1 hv
  exact hf z
theorem ones_cut {l : List Int} {f : Int → Value} {k n : Nat} (hf : ∀ z, (f z).oneCell' = true) : ∀ v ∈ ((l.map f).drop k).take n, v.oneCell' = true := by
  intro v hv
  exact ones_ival hf v (List.mem_of_mem_drop (List.mem_of_mem_take hv))
/-- A copy whose run is known, as one step of a region that draws its order. -/
theorem step_copy_run {P : Program} {ops : Array Oper} {o : Oper} {a : Act} {w : World} {K : Act → World → Prop} {Q : Exit → Act → World → Prop} {E : Prop} (hgd : o.guard = none) (d s : Operand) (dT sT : TypeId)
    (ho : o.op = .call { callee := .builtin .copy, args := #[d, s], argTypes := #[dT, sT] }) (dv sv v : Value) (w' : World) (hd : a.eval d = dv) (hs : a.eval s = sv)
    (hrun : ∀ ty, (Builtin.copy_ #[dT, sT] ty #[dv, sv]).run P w = .ok v w') (h : K (a.put o.dst v) w') : if Region.wanted o (yielded ops a.tmps) = true then Oper.wp P o a w K Q else E := by
  have hw : Region.wanted o (yielded ops a.tmps) = true := by simp [Region.wanted, hgd]
  rw [if_pos hw]
  unfold Oper.wp
  simp [execOp, ho, resolve, invoke, builtin, hd, hs, hrun, Result.andThen]
  exact h
end Go.Proofs.Ytmndkpicbmffnaa
end
