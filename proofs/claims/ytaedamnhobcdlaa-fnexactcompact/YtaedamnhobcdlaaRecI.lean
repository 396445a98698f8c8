/- Records in the program: RecOk, RecOf, ahead. -/
import Derived.Test.YtaedamnhobcdlaaRecS
namespace Go.Proofs.Ytaedamnhobcdlaa
open Go.RowKit
open Go.Lib (compareBytes)
set_option linter.unusedVariables false
set_option maxRecDepth 100000

theorem liveB_dead {r : RecM} (h : r.live = false) : liveB r = false := by unfold liveB; rw [h]; rfl
theorem emptyB_live {r : RecM} (h : r.live = true) : emptyB r = false := by unfold emptyB; rw [h]; rfl
theorem recOkB_dead {r : RecM} (h : r.live = false) : recOkB r = emptyB r := by unfold recOkB; rw [liveB_dead h, Bool.or_false]
set_option maxHeartbeats 2000000 in
theorem implRecOk (r : RecM) (w : World) (hs : r.word.size ≤ maxLen) : Calls Try.prog 73 #[.agg r.cells] w fun e w' => e = .returned (.bool (recOkB r)) ∧ Below w.heap.size w w' := by
  have WO := Lib.hid (fun w => implWordOk r.word w hs)
  obtain ⟨lv, ds, wt, wd⟩ := r
  simp only at WO
  clear hs
  cases lv
  · rw [recOkB_dead rfl]
    by_cases h : ds = 0 ∧ wt = 0 ∧ wd.toList = []
    · obtain ⟨rfl, rfl, h3⟩ := h
      have h4 := size_zero (word_nil.1 h3)
      subst h4
      clear h3
      unfold RecM.cells
      simp only
      have E := Lib.hid (show emptyB ⟨false, 0, 0, ⟨#[]⟩⟩ = true from rfl)
      go_enter Try.func73, Try.ntmps73
      go_wp2
      go_ret
      exact ⟨ret_bool E.out.symm, below_box (Below.refl _ _) _⟩
    · have E := Lib.hid (emptyB_no (r := ⟨false, ds, wt, wd⟩) (fun ⟨_, h1, h2, h3⟩ => h ⟨h1, h2, h3⟩))
      have H := Lib.hid h
      clear h
      unfold RecM.cells
      simp only
      go_enter Try.func73, Try.ntmps73
      go_wp2
      all_goals first
        | (go_ret; exact ⟨ret_bool E.out.symm, below_box (Below.refl _ _) _⟩)
        | (exfalso; apply H.out; simp_all; done)
  · rw [recOkB_live (emptyB_live rfl)]
    by_cases hc : (0 ≤ ds ∧ ds ≤ 7) ∧ (0 ≤ wt ∧ wt ≤ 65535)
    · rw [liveB_at ⟨rfl, hc⟩]
      obtain ⟨⟨h2, h3⟩, h4, h5⟩ := hc
      unfold RecM.cells
      simp only
      go_enter Try.func73, Try.ntmps73
      go_wp2_with fail
      refine (WO.out _).mono ?_
      rintro e w2 ⟨rfl, rfl⟩
      go_wp2
      go_ret
      exact ⟨rfl, below_box (Below.refl _ _) _⟩
    · rw [liveB_no (fun h => hc h.2)]
      have HC := Lib.hid hc
      clear hc
      unfold RecM.cells
      go_enter Try.func73, Try.ntmps73
      go_wp2_with fail
      all_goals first
        | (go_ret; exact ⟨rfl, below_box (Below.refl _ _) _⟩)
        | (exfalso; apply HC.out; simp_all; omega)
        | (exfalso; apply HC.out; simp_all; done)
/-- Which is ahead, as the program asks it of valid records. -/
def aheadP (a b : RecM) : Bool := if a.live ≠ b.live then a.live else if a.dist ≠ b.dist then decide (a.dist < b.dist) else if a.weight ≠ b.weight then decide (b.weight < a.weight) else decide (compareBytes a.word.data.toList b.word.data.toList < 0)
theorem aheadP_ok {a b : RecM} (ha : recOkB a = true) (hb : recOkB b = true) : aheadP a b = aheadB a b := by
  unfold aheadP aheadB
  rw [ha, hb]
  rcases recOkB_cases ha with rfl | h
  · rcases recOkB_cases hb with rfl | k
    · simp [zeroR, compareBytes]
    · simp [zeroR, (liveB_ok k).1]
  · rw [(liveB_ok h).1]
    rcases recOkB_cases hb with rfl | k
    · simp [zeroR]
    · simp [(liveB_ok k).1]
theorem aheadB_a {a b : RecM} (ha : recOkB a = false) : aheadB a b = false := by unfold aheadB; rw [ha]; rfl
theorem aheadB_b {a b : RecM} (hb : recOkB b = false) : aheadB a b = false := by unfold aheadB; rw [hb]; cases recOkB a <;> rfl
set_option maxHeartbeats 4000000 in
theorem implAhead (a b : RecM) (w : World) (h1 : a.word.size ≤ maxLen) : Calls Try.prog 74 #[.agg a.cells, .agg b.cells] w fun e w' => e = .returned (.bool (aheadP a b)) ∧ Below w.heap.size w w' := by
  have CM := Lib.hid (fun w => implWordCmp a.word b.word w)
  obtain ⟨la, da, ta, wa⟩ := a
  obtain ⟨lb, db, tb, wb⟩ := b
  clear h1
  unfold RecM.cells aheadP
  simp only at CM ⊢
  by_cases hl : la = lb
  · subst hl
    have e0 : (la != la) = false := by simp
    by_cases hd : da = db
    · subst hd
      by_cases ht : ta = tb
      · subst ht
        have d1 : (da != da) = false := by simp
        have d2 : (ta != ta) = false := by simp
        go_enter Try.func74, Try.ntmps74
        go_wp2_with fail
        refine (CM.out _).mono ?_
        rintro e w3 ⟨rfl, rfl⟩
        go_wp2
        all_goals (go_ret; exact ⟨ret_bool (by simp), below_box (below_box (Below.refl _ _) _) _⟩)
      · have d1 : (da != da) = false := by simp
        have d2 : (ta != tb) = true := by simp [ht]
        go_enter Try.func74, Try.ntmps74
        go_wp2
        all_goals (go_ret; exact ⟨ret_bool (by simp), below_box (below_box (Below.refl _ _) _) _⟩)
    · have d1 : (da != db) = true := by simp [hd]
      go_enter Try.func74, Try.ntmps74
      go_wp2
      all_goals (go_ret; exact ⟨ret_bool (by simp), below_box (below_box (Below.refl _ _) _) _⟩)
  · cases la <;> cases lb
    all_goals first
      | (exact absurd rfl hl)
      | (go_enter Try.func74, Try.ntmps74
         go_wp2
         go_ret
         exact ⟨ret_bool (by simp), below_box (below_box (Below.refl _ _) _) _⟩)
end Go.Proofs.Ytaedamnhobcdlaa
