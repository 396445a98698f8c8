/- Records in the model. -/
import Derived.Test.YtaedamnhobcdlaaRecP
import Derived.Test.YtaedamnhobcdlaaWord
import Derived.Test.YtaedamnhobcdlaaCmp
import Derived.Test.YtaedamnhobcdlaaByteSU
import Derived.Deep.RegionHeld3
import Derived.Deep.RegionLaw
import Derived.Deep.DeepCutAuto
import Derived.Deep.CutBlock
import Derived.Test.YtaedamnhobcdlaaApp
import Derived.Test.YtaedamnhobcdlaaCopy
namespace Go.Proofs.Ytaedamnhobcdlaa
open Go.RowKit
open Go.Lib (compareBytes)
set_option linter.unusedVariables false
set_option maxRecDepth 100000

set_option maxHeartbeats 1000000 in
theorem specEmpty (r : RecM) (w : World) : Calls Try.prog 75 #[.agg r.cells] w fun e w' => e = .returned (.bool (emptyB r)) ∧ Below w.heap.size w w' := by
  obtain ⟨lv, ds, wt, wd⟩ := r
  unfold RecM.cells
  go_enter Try.func75, Try.ntmps75
  go_wp2
  all_goals
    go_ret
    refine ⟨ret_bool ?_, below_box (Below.refl _ _) _⟩
  · exact (emptyB_no (by rintro ⟨h, _⟩; simp_all)).symm
  all_goals first
    | (symm; rename_i h1 h2 h3 h4; have := word_nil.1 h4; unfold emptyB; simp_all; done)
    | (refine (emptyB_no ?_).symm; rintro ⟨h1, h2, h3, h4⟩; simp_all; done)
set_option maxHeartbeats 2000000 in
theorem specRecOk (r : RecM) (w : World) (hs : r.word.size ≤ maxLen) : Calls Try.prog 46 #[.agg r.cells] w fun e w' => e = .returned (.bool (recOkB r)) ∧ Below w.heap.size w w' := by
  have EM := Lib.hid (fun w => specEmpty r w)
  have WO := Lib.hid (fun w => specWordOk r.word w hs)
  cases he : emptyB r
  · rw [he] at EM
    rw [recOkB_live he]
    by_cases hc : r.live = true ∧ (0 ≤ r.dist ∧ r.dist ≤ 7) ∧ (0 ≤ r.weight ∧ r.weight ≤ 65535)
    · rw [liveB_at hc]
      obtain ⟨lv, ds, wt, wd⟩ := r
      obtain ⟨h1, ⟨h2, h3⟩, h4, h5⟩ := hc
      simp only at h1 h2 h3 h4 h5
      subst h1
      clear he hs
      unfold RecM.cells at EM ⊢
      go_enter Try.func46, Try.ntmps46
      go_wp2_with fail
      refine (EM.out _).mono ?_
      rintro e w1 ⟨rfl, hb⟩
      have K := Lib.hid (kept_block (alloc_at w (.cells #[.bool true, .int .i64 ds, .int .i64 wt, .string wd] 30) _ rfl) hb)
      have HB := Lib.hid (below_seq (below_box (Below.refl w.heap.size w) (.cells #[.bool true, .int .i64 ds, .int .i64 wt, .string wd] 30)) hb)
      have c0 := cur_cell K.out 0
      have c1 := cur_cell K.out 1
      have c2 := cur_cell K.out 2
      have c3 := cur_cell K.out 3
      simp at c0 c1 c2 c3
      clear hb
      go_wp2_with fail
      refine (WO.out _).mono ?_
      rintro e w2 ⟨rfl, rfl⟩
      go_wp2
      go_ret
      exact ⟨rfl, HB.out⟩
    · rw [liveB_no hc]
      obtain ⟨lv, ds, wt, wd⟩ := r
      simp only at hc
      have HC := Lib.hid hc
      clear he hs hc
      unfold RecM.cells at EM ⊢
      go_enter Try.func46, Try.ntmps46
      go_wp2_with fail
      refine (EM.out _).mono ?_
      rintro e w1 ⟨rfl, hb⟩
      have K := Lib.hid (kept_block (alloc_at w (.cells #[.bool lv, .int .i64 ds, .int .i64 wt, .string wd] 30) _ rfl) hb)
      have HB := Lib.hid (below_seq (below_box (Below.refl w.heap.size w) (.cells #[.bool lv, .int .i64 ds, .int .i64 wt, .string wd] 30)) hb)
      have c0 := cur_cell K.out 0
      have c1 := cur_cell K.out 1
      have c2 := cur_cell K.out 2
      have c3 := cur_cell K.out 3
      simp at c0 c1 c2 c3
      clear hb
      go_wp2_with fail
      all_goals first
        | (go_ret; exact ⟨rfl, HB.out⟩)
        | (exfalso; apply HC.out; simp_all; omega)
        | (exfalso; apply HC.out; simp_all; done)
  · rw [he] at EM
    rw [recOkB_empty he]
    clear he hs
    unfold RecM.cells at EM ⊢
    go_enter Try.func46, Try.ntmps46
    go_wp2_with fail
    refine (EM.out _).mono ?_
    rintro e w1 ⟨rfl, hb⟩
    have HB := Lib.hid (below_seq (below_box (Below.refl w.heap.size w) (.cells #[.bool r.live, .int .i64 r.dist, .int .i64 r.weight, .string r.word] 30)) hb)
    clear hb
    go_wp2
    go_ret
    exact ⟨rfl, HB.out⟩
theorem ones_bv (l : List UInt8) : ∀ u ∈ l.map bval, u.oneCell' = true := fun u hu => by
  obtain ⟨z, _, rfl⟩ := List.mem_map.1 hu
  rfl
theorem lit_rowL (w : World) (vs : List Value) (t : TypeId) : Row (w.alloc (.cells ⟨vs⟩ t)) (some ⟨w.heap.size, 0, none⟩) vs := .inr ⟨_, 0, rfl, fun i hi => by simp⟩
theorem lit_own (w : World) (base : Nat) (vs : List Value) (t : TypeId) (hb : base ≤ w.heap.size) (hv : vs.length ≤ maxLen) : (w.alloc (.cells ⟨vs⟩ t)).ownsRow base t 1 (.slice (some ⟨w.heap.size, 0, none⟩) vs.length vs.length) vs.length vs :=
  ⟨by simp, .inr ⟨w.heap.size, vs.length, ⟨vs⟩, rfl, hb, heap_alloc_new w _, Nat.le_refl _, hv, by simp, by simp⟩⟩
set_option maxHeartbeats 4000000 in
theorem specRecAheadR (a b : RecM) (w : World) (h1 : a.word.size ≤ maxLen) (h2 : b.word.size ≤ maxLen) : Calls Try.prog 16 #[.agg a.cells, .agg b.cells] w fun e w' => e = .returned (.bool (aheadB a b)) ∧ Below w.heap.size w w' := by
  have OA := Lib.hid (fun w => specRecOk a w h1)
  have OB := Lib.hid (fun w => specRecOk b w h2)
  have CM := Lib.hid (fun w => specWordCmp a.word b.word w h1)
  obtain ⟨la, da, ta, wa⟩ := a
  obtain ⟨lb, db, tb, wb⟩ := b
  clear h1 h2
  obtain ⟨w0, hw0⟩ : ∃ w0, w0 = (w.alloc (.cells #[.bool la, .int .i64 da, .int .i64 ta, .string wa] 30)).alloc (.cells #[.bool lb, .int .i64 db, .int .i64 tb, .string wb] 30) := ⟨_, rfl⟩
  have K1 := Lib.hid (show w0.heap[w.heap.size]? = some (.cells #[.bool la, .int .i64 da, .int .i64 ta, .string wa] 30 (0, 0)) by rw [hw0]; exact (alloc_old _ _ _ (by simp)).trans (alloc_at _ _ _ rfl))
  have K2 := Lib.hid (show w0.heap[w.heap.size + 1]? = some (.cells #[.bool lb, .int .i64 db, .int .i64 tb, .string wb] 30 (0, 0)) by rw [hw0]; exact alloc_at _ _ _ (by simp))
  have HB := Lib.hid (show Below w.heap.size w w0 by rw [hw0]; exact below_box (below_box (Below.refl _ w) _) _)
  unfold RecM.cells at OA OB ⊢
  unfold aheadB
  simp only at CM OA OB
  generalize recOkB ⟨la, da, ta, wa⟩ = oa at *
  generalize recOkB ⟨lb, db, tb, wb⟩ = ob at *
  simp only
  go_enter Try.func16, Try.ntmps16
  go_wp2_with fail
  rw [← hw0]
  clear hw0
  refine (OA.out _).mono ?_
  rintro e w1 ⟨rfl, hb⟩
  replace K1 := Lib.hid (kept_block K1.out hb)
  replace K2 := Lib.hid (kept_block K2.out hb)
  replace HB := Lib.hid (below_seq HB.out hb)
  clear hb OA
  cases oa
  · go_wp2
    all_goals (go_ret; exact ⟨rfl, HB.out⟩)
  · have c0 := cur_cell K2.out 0
    have c1 := cur_cell K2.out 1
    have c2 := cur_cell K2.out 2
    have c3 := cur_cell K2.out 3
    simp at c0 c1 c2 c3
    go_wp2_with fail
    clear c0 c1 c2 c3
    refine (OB.out _).mono ?_
    rintro e w2 ⟨rfl, hb⟩
    replace K1 := Lib.hid (kept_block K1.out hb)
    replace K2 := Lib.hid (kept_block K2.out hb)
    replace HB := Lib.hid (below_seq HB.out hb)
    clear hb OB
    have a0 := cur_cell K1.out 0
    have a1 := cur_cell K1.out 1
    have a2 := cur_cell K1.out 2
    have a3 := cur_cell K1.out 3
    have c0 := cur_cell K2.out 0
    have c1 := cur_cell K2.out 1
    have c2 := cur_cell K2.out 2
    have c3 := cur_cell K2.out 3
    simp at a0 a1 a2 a3 c0 c1 c2 c3
    cases ob
    · go_wp2
      all_goals (go_ret; exact ⟨rfl, HB.out⟩)
    · cases la
      · go_wp2
        all_goals (go_ret; exact ⟨rfl, HB.out⟩)
      · cases lb
        · go_wp2
          all_goals (go_ret; exact ⟨rfl, HB.out⟩)
        · by_cases hd : da = db
          · subst hd
            by_cases ht : ta = tb
            · subst ht
              have d1 : (da != da) = false := by simp
              have d2 : (ta != ta) = false := by simp
              go_wp2_with fail
              refine (CM.out _).mono ?_
              rintro e w3 ⟨rfl, nd, hw⟩
              have HB := Lib.hid (show Below w.heap.size w w3 by rw [hw]; exact below_seq HB.out (belowN nd))
              clear hw
              go_wp2
              all_goals (go_ret; exact ⟨ret_bool (by simp), HB.out⟩)
            · have d1 : (da != da) = false := by simp
              have d2 : (ta != tb) = true := by simp [ht]
              go_wp2
              all_goals (go_ret; exact ⟨ret_bool (by simp), HB.out⟩)
          · have d1 : (da != db) = true := by simp [hd]
            go_wp2
            all_goals (go_ret; exact ⟨ret_bool (by simp), HB.out⟩)
end Go.Proofs.Ytaedamnhobcdlaa
