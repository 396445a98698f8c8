/- 'copy(dst, src)' from the beginning of a whole row that the call owns, elements of s cells, as many as there are in both. No program in it. -/
import Derived.Test.YtaedamnhobcdlaaAppK
namespace Go.Proofs.Ytaedamnhobcdlaa
open Go.RowKit
set_option linter.unusedVariables false
set_option linter.unusedSimpArgs false

theorem copy_minS {P : Program} {w : World} {s base g n : Nat} {dT sT e : TypeId} {xs : List Value} (hu : P.underlying dT = some (.slice e)) (hsz : (P.info? e).map (·.size) = some s)
    (h : w.ownsRow base e s (.slice (some ⟨g, 0, none⟩) n n) n xs) (sa : Option Addr) (m sCap : Nat) (ys : List Value) (hy : ys.length = m * s) (hr : Row w sa ys) (h1 : ∀ v ∈ ys, v.oneCell' = true) (hs0 : 0 < s) :
    ∃ w', (∀ ty, (Builtin.copy_ #[dT, sT] ty #[.slice (some ⟨g, 0, none⟩) n n, .slice sa m sCap]).run P w = .ok (goInt (Nat.min m n)) w') ∧
      w'.ownsRow base e s (.slice (some ⟨g, 0, none⟩) n n) n (ys.take (Nat.min m n * s) ++ xs.drop (Nat.min m n * s)) ∧ w.grownBy w' (some g) := by
  obtain ⟨i, hq, hi⟩ := Option.map_eq_some_iff.1 hsz
  have hcm : Nat.min m n ≤ m := Nat.min_le_left _ _
  have hcn : Nat.min m n ≤ n := Nat.min_le_right _ _
  have hle : Nat.min m n * s ≤ ys.length := by rw [hy]; exact Nat.mul_le_mul_right s hcm
  have hlen : (ys.take (Nat.min m n * s)).length = Nat.min m n * s := by rw [List.length_take]; omega
  rcases sa with _ | ad
  · have hm0 : m = 0 := by
      rcases hr with rfl | ⟨b, off, hb, _⟩
      · rcases Nat.eq_zero_or_pos m with h | h
        · exact h
        · have := Nat.mul_pos h hs0; simp at hy; omega
      · cases hb
    subst hm0
    have e0 : Nat.min 0 n = 0 := Nat.zero_min n
    rw [e0]
    refine ⟨w, fun ty => ?_, by simpa using h, World.grownBy.refl _ _⟩
    simp [Builtin.copy_, run_underlying hu, Builtin.lenOf, Builtin.firstCells, sizeOf, typeInfo, hq, storeCells, e0]
  · have hc : ∀ j u, (ys.take (Nat.min m n * s))[j]? = some u → w.cell? (ad.add j) = some u := fun j u hj => by
      have hj2 : ys[j]? = some u := by
        rw [List.getElem?_take] at hj
        split at hj
        · exact hj
        · cases hj
      rcases hr with rfl | ⟨b, off, hb, hc⟩
      · simp at hj2
      · cases hb
        exact row_cells (.inr ⟨b, off, rfl, hc⟩) j u hj2
    have h1' : ∀ v ∈ ys.take (Nat.min m n * s), v.oneCell' = true := fun v hv => h1 v (List.mem_of_mem_take hv)
    generalize hz : ys.take (Nat.min m n * s) = zs at *
    clear hz
    obtain ⟨hx, hr2⟩ := h
    rcases hr2 with ⟨hv, _⟩ | ⟨g', cap', cur, hv, hbg, hg, h1c, h2, h3, h4⟩
    · simp at hv
    simp at hv
    obtain ⟨rfl, rfl⟩ := hv
    have hcs : Nat.min m n * s ≤ n * s := Nat.mul_le_mul_right s hcn
    have hl := run_loadCells_list (P := P) w ad zs hc
    have hst := run_storeCells_at P g 0 e zs 0 cur w hg (by rw [h3]; omega) h1'
    have hcur : cur.toList = xs := by rw [← h4, List.take_of_length_le (by simp [h3])]
    refine ⟨w.setRow g (cur.toList.take (0 + 0) ++ zs ++ cur.toList.drop (0 + 0 + zs.length)).toArray, fun ty => ?_, ⟨?_, .inr ⟨g, n, _, rfl, hbg, setRow_heap w g cur _ _ _ hg, Nat.le_refl _, h2, ?_, ?_⟩⟩, ?_⟩
    · subst hi
      have hlen' : min m n * i.size = zs.length := hlen.symm
      have hlen2 : (Nat.min m n) * i.size = zs.length := hlen.symm
      simp [Builtin.copy_, run_underlying hu, Builtin.lenOf, Builtin.firstCells, sizeOf, typeInfo, hq, hlen', hlen2, hl, hst]
    · simp; omega
    · simp [hlen]; omega
    · rw [hcur, hlen, List.take_of_length_le (by simp; omega)]
      simp
    · exact ⟨rfl, rfl, rfl, by simp, fun k _ hk => setRow_other w g k _ (by intro e; subst e; exact hk rfl)⟩
end Go.Proofs.Ytaedamnhobcdlaa
