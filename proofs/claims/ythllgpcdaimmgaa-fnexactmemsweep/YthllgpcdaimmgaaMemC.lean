/- A memory copied: what the model and the program make. -/
import Derived.Test.YthllgpcdaimmgaaMemB
import Derived.Test.YthllgpcdaimmgaaMemP
import Derived.Deep.RegionHeld3
namespace Go.Proofs.Ythllgpcdaimmgaa
open Go.RowKit
set_option linter.unusedVariables false

theorem ones_bval (l : List UInt8) : ∀ v ∈ l.map bval, v.oneCell' = true := by
  intro v hv
  obtain ⟨z, _, rfl⟩ := List.mem_map.1 hv
  rfl
/-- A box made anew over a log that is owned. -/
theorem new_box {w : World} {lo k xc : Nat} {x : Option Addr} {lg : List TouchM} (h : w.ownsRow lo 54 3 (.slice x k xc) k (flatT lg)) (z : Int) {bx : Nat} (e : w.heap.size = bx) :
    MemBox lo bx z none 0 0 x k xc [] lg (w.alloc (.cells #[.int .i64 z, .slice none 0 0, .slice x k xc] 31)) :=
  ⟨alloc_at _ _ _ e.symm, ⟨none, 0, [], rfl, World.ownsRow_nil _ _ _ _, fun k hk => by simp [Value.ownBlock] at hk, Datas.nil _ _ _⟩, TouchSOwn.mk (h.alloc _)⟩
/-- .. a zero box filled. -/
theorem copy_box {w : World} {b lo k xc : Nat} {x : Option Addr} {lg : List TouchM} (hb : w.heap[b]? = some (.cells #[.int .i64 0, .slice none 0 0, .slice none 0 0] 31 (0, 0))) (h : w.ownsRow lo 54 3 (.slice x k xc) k (flatT lg)) (z : Int) {bx : Nat} (e : b = bx) :
    MemBox lo bx z none 0 0 x k xc [] lg (((w.setCell ⟨bx, 0, none⟩ (.int .i64 z)).setCell ⟨bx, 1, none⟩ (.slice none 0 0)).setCell ⟨bx, 2, none⟩ (.slice x k xc)) := by
  subst e
  have b1 := cur_set hb 0 (.int .i64 z)
  have b2 := cur_set b1 1 (.slice none 0 0)
  have b3 := cur_set b2 2 (.slice x k xc)
  have T := ((turned_set (i := 0) hb (.int .i64 z)).trans (turned_set (i := 1) b1 (.slice none 0 0))).trans (turned_set (i := 2) b2 (.slice x k xc))
  exact ⟨by simpa using b3, ⟨none, 0, [], rfl, World.ownsRow_nil _ _ _ _, fun k hk => by simp [Value.ownBlock] at hk, Datas.nil _ _ _⟩, TouchSOwn.mk (own_turned h T (by decide))⟩
theorem copy_below {W w : World} {b : Nat} (h : Below W.heap.size W w) (hb : W.heap.size ≤ b) (z : Int) (u v : Value) : Below W.heap.size W (((w.setCell ⟨b, 0, none⟩ (.int .i64 z)).setCell ⟨b, 1, none⟩ u).setCell ⟨b, 2, none⟩ v) :=
  ((h.setCell (p := ⟨b, 0, none⟩) hb _).setCell (p := ⟨b, 1, none⟩) hb _).setCell (p := ⟨b, 2, none⟩) hb _
theorem set3_other {w : World} {b k : Nat} {o : Obj} (h : w.heap[k]? = some o) (hne : k ≠ b) (t u v : Value) : (((w.setCell ⟨b, 0, none⟩ t).setCell ⟨b, 1, none⟩ u).setCell ⟨b, 2, none⟩ v).heap[k]? = some o :=
  (Below.heap_setCell _ _ _ k (by simpa using hne)).trans ((Below.heap_setCell _ _ _ k (by simpa using hne)).trans ((Below.heap_setCell _ _ _ k (by simpa using hne)).trans h))
set_option maxHeartbeats 4000000 in
theorem specCopy (c0 c1 c2 : Value) (m : MemM) (w : World) (hok : memOkB m = true) (h : MemIn [c0, c1, c2] m w) : Calls Try.prog 39 #[.agg #[c0, c1, c2]] w (MemRet m w) := by
  obtain ⟨m1, m2, m3, m4, m5⟩ := mem_of hok
  obtain ⟨rfl, hc, ht⟩ := memIn_shape h
  obtain ⟨a, cap, _, rfl, _, l1, _⟩ := cellSIn_shape hc
  obtain ⟨x, xc, rfl, _, l2, hx⟩ := touchSIn_shape ht
  have C := Lib.hid hc.lies
  have X := Lib.hid (lies_row hx)
  have M5 := Lib.hid m5
  clear h hc ht hx m5
  obtain ⟨wA, hA⟩ : ∃ wA, (w.alloc (.cells #[.int .i64 m.z, .slice a m.cells.length cap, .slice x m.log.length xc] 31)).alloc (.cells #[.int .i64 0, .slice none 0 0, .slice none 0 0] 31) = wA := ⟨_, rfl⟩
  have BA : Hid (Below w.heap.size w wA) := Lib.hid (by rw [← hA]; exact below_box (below_box (Below.refl _ _) _) _)
  have sA : wA.heap.size = w.heap.size + 1 + 1 := by rw [← hA]; simp
  have K0 : Hid (wA.heap[w.heap.size]? = some (.cells #[.int .i64 m.z, .slice a m.cells.length cap, .slice x m.log.length xc] 31 (0, 0))) := Lib.hid (by rw [← hA]; exact (alloc_old _ _ _ (by simp)).trans (alloc_at w _ _ rfl))
  have K1 : Hid (wA.heap[w.heap.size + 1]? = some (.cells #[.int .i64 0, .slice none 0 0, .slice none 0 0] 31 (0, 0))) := Lib.hid (by rw [← hA]; exact alloc_at _ _ _ (by simp))
  have ht0 : 0 < wA.heap.size := by omega
  have V1 : Hid (Below wA.heap.size wA (wA.alloc (.cells #[] 54)).drew) := Lib.hid (below_drew (below_box (Below.refl wA.heap.size wA) (.cells #[] 54)))
  have V2 : Hid (Below wA.heap.size wA (wA.alloc (.cells #[.int .i64 0, .slice none 0 0, .slice none 0 0] 31)).drew) := Lib.hid (below_drew (below_box (Below.refl wA.heap.size wA) (.cells #[.int .i64 0, .slice none 0 0, .slice none 0 0] 31)))
  have V12 : Hid (Below wA.heap.size wA ((wA.alloc (.cells #[] 54)).alloc (.cells #[.int .i64 0, .slice none 0 0, .slice none 0 0] 31)).drew) := Lib.hid (below_drew (below_box (below_box (Below.refl wA.heap.size wA) (.cells #[] 54)) (.cells #[.int .i64 0, .slice none 0 0, .slice none 0 0] 31)))
  have V21 : Hid (Below wA.heap.size wA ((wA.alloc (.cells #[.int .i64 0, .slice none 0 0, .slice none 0 0] 31)).alloc (.cells #[] 54)).drew) := Lib.hid (below_drew (below_box (below_box (Below.refl wA.heap.size wA) (.cells #[.int .i64 0, .slice none 0 0, .slice none 0 0] 31)) (.cells #[] 54)))
  have XR := Lib.hid (X.out.below BA.out)
  have O1 : Hid ((wA.alloc (.cells #[] 54)).drew.ownsRow (w.heap.size + 1 + 1) 54 3 (.slice (some ⟨w.heap.size + 1 + 1, 0, none⟩) 0 0) 0 []) := Lib.hid (by have h := World.ownsRow_made (base := wA.heap.size) (e := 54) (size := 3) wA #[] 0 (Nat.le_refl _) (by unfold maxLen; omega) rfl; rw [sA] at h; exact own_below h (belowN 1))
  have O12 : Hid (((wA.alloc (.cells #[] 54)).alloc (.cells #[.int .i64 0, .slice none 0 0, .slice none 0 0] 31)).drew.ownsRow (w.heap.size + 1 + 1) 54 3 (.slice (some ⟨w.heap.size + 1 + 1, 0, none⟩) 0 0) 0 []) := Lib.hid (own_below (w := (wA.alloc (.cells #[] 54)).drew) O1.out (below_box (Below.refl _ (wA.alloc (.cells #[] 54)).drew) (.cells #[.int .i64 0, .slice none 0 0, .slice none 0 0] 31)))
  have O21 : Hid (((wA.alloc (.cells #[.int .i64 0, .slice none 0 0, .slice none 0 0] 31)).alloc (.cells #[] 54)).drew.ownsRow (w.heap.size + 1 + 1) 54 3 (.slice (some ⟨w.heap.size + 1 + 1 + 1, 0, none⟩) 0 0) 0 []) := Lib.hid (by have h := World.ownsRow_made (base := (wA.alloc (.cells #[.int .i64 0, .slice none 0 0, .slice none 0 0] 31)).heap.size) (e := 54) (size := 3) (wA.alloc (.cells #[.int .i64 0, .slice none 0 0, .slice none 0 0] 31)) #[] 0 (Nat.le_refl _) (by unfold maxLen; omega) rfl; rw [size_box, sA] at h; exact own_base (own_below h (belowN 1)) (by omega))
  have P12 : Hid (((wA.alloc (.cells #[] 54)).alloc (.cells #[.int .i64 0, .slice none 0 0, .slice none 0 0] 31)).drew.heap[w.heap.size + 1 + 1 + 1]? = some (.cells #[.int .i64 0, .slice none 0 0, .slice none 0 0] 31 (0, 0))) := Lib.hid (alloc_at (wA.alloc (.cells #[] 54)) (.cells #[.int .i64 0, .slice none 0 0, .slice none 0 0] 31) _ (by simp; omega))
  have P21 : Hid (((wA.alloc (.cells #[.int .i64 0, .slice none 0 0, .slice none 0 0] 31)).alloc (.cells #[] 54)).drew.heap[w.heap.size + 1 + 1]? = some (.cells #[.int .i64 0, .slice none 0 0, .slice none 0 0] 31 (0, 0))) := Lib.hid ((alloc_old (wA.alloc (.cells #[.int .i64 0, .slice none 0 0, .slice none 0 0] 31)) (.cells #[] 54) _ (by simp; omega)).trans (alloc_at wA (.cells #[.int .i64 0, .slice none 0 0, .slice none 0 0] 31) _ (by omega)))
  have k0 : wA.drew.cell? ⟨w.heap.size, 0, none⟩ = some (.int .i64 m.z) := cur_cell K0.out 0
  have k2 : wA.drew.cell? ⟨w.heap.size, 2, none⟩ = some (.slice x m.log.length xc) := cur_cell K0.out 2
  have S0 : Hid (wA.drew.cell? ⟨w.heap.size, 0, none⟩ = some (.int .i64 m.z) ∧ wA.drew.cell? ⟨w.heap.size, 2, none⟩ = some (.slice x m.log.length xc)) := Lib.hid ⟨k0, k2⟩
  have S1 : Hid ((wA.alloc (.cells #[] 54)).drew.cell? ⟨w.heap.size, 0, none⟩ = some (.int .i64 m.z) ∧ (wA.alloc (.cells #[] 54)).drew.cell? ⟨w.heap.size, 2, none⟩ = some (.slice x m.log.length xc)) := Lib.hid ⟨cell_keep (w := wA) k0 V1.out, cell_keep (w := wA) k2 V1.out⟩
  have S2 : Hid ((wA.alloc (.cells #[.int .i64 0, .slice none 0 0, .slice none 0 0] 31)).drew.cell? ⟨w.heap.size, 0, none⟩ = some (.int .i64 m.z) ∧ (wA.alloc (.cells #[.int .i64 0, .slice none 0 0, .slice none 0 0] 31)).drew.cell? ⟨w.heap.size, 2, none⟩ = some (.slice x m.log.length xc)) := Lib.hid ⟨cell_keep (w := wA) k0 V2.out, cell_keep (w := wA) k2 V2.out⟩
  have S12 : Hid (((wA.alloc (.cells #[] 54)).alloc (.cells #[.int .i64 0, .slice none 0 0, .slice none 0 0] 31)).drew.cell? ⟨w.heap.size, 0, none⟩ = some (.int .i64 m.z) ∧ ((wA.alloc (.cells #[] 54)).alloc (.cells #[.int .i64 0, .slice none 0 0, .slice none 0 0] 31)).drew.cell? ⟨w.heap.size, 2, none⟩ = some (.slice x m.log.length xc)) := Lib.hid ⟨cell_keep (w := wA) k0 V12.out, cell_keep (w := wA) k2 V12.out⟩
  have S21 : Hid (((wA.alloc (.cells #[.int .i64 0, .slice none 0 0, .slice none 0 0] 31)).alloc (.cells #[] 54)).drew.cell? ⟨w.heap.size, 0, none⟩ = some (.int .i64 m.z) ∧ ((wA.alloc (.cells #[.int .i64 0, .slice none 0 0, .slice none 0 0] 31)).alloc (.cells #[] 54)).drew.cell? ⟨w.heap.size, 2, none⟩ = some (.slice x m.log.length xc)) := Lib.hid ⟨cell_keep (w := wA) k0 V21.out, cell_keep (w := wA) k2 V21.out⟩
  go_enter Try.func39, Try.ntmps39
  go_wp2_with fail
  go_region_held3 (fun w' => w'.cell? ⟨w.heap.size, 0, none⟩ = some (.int .i64 m.z) ∧ w'.cell? ⟨w.heap.size, 2, none⟩ = some (.slice x m.log.length xc))
    (first | exact S0.out | exact S1.out | exact S2.out | exact S12.out | exact S21.out | exact SC.out | exact ⟨cell_keep SC.out.1 (below_box (Below.refl _ _) _), cell_keep SC.out.2 (below_box (Below.refl _ _) _)⟩ | exact ⟨cell_set SC.out.1 (by omega), cell_set SC.out.2 (by omega)⟩ | exact ⟨cell_set (cell_set SC.out.1 (by omega)) (by omega), cell_set (cell_set SC.out.2 (by omega)) (by omega)⟩ | exact ⟨cell_set (cell_set (cell_set SC.out.1 (by omega)) (by omega)) (by omega), cell_set (cell_set (cell_set SC.out.2 (by omega)) (by omega)) (by omega)⟩)
    (first
      | (refine step_app_rowS (by rfl) _ _ _ (by rfl) 54 _ 3 24 Try.underlying29 Try.infoTouch rfl (by omega) (w.heap.size + 1 + 1) 0 (.slice (some ⟨w.heap.size + 1 + 1, 0, none⟩) 0 0) [] (by rfl) O1.out x m.log.length xc (flatT m.log) (by rfl) (flatT_len _) (XR.out.below V1.out).now (flatT_one _) (by unfold maxLen; omega) (by omega) (by simp; omega) ?_; intro v2 w2 ho2 hg2; simp only [Nat.zero_add, List.nil_append] at ho2; obtain ⟨y, yc, rfl⟩ := own_shape ho2; have T1 := Lib.hid (Turned.own O1.out hg2); have Q0 := Lib.hid (T1.out _ _ _ _ (kept_block K0.out V1.out) (by decide)); have Q1 := Lib.hid (T1.out _ _ _ _ (kept_block K1.out V1.out) (by decide)); have SC := Lib.hid (And.intro (cur_cell Q0.out 0) (cur_cell Q0.out 2)); have OT := Lib.hid ho2; have B2 := Lib.hid ((below_seq BA.out V1.out).grown hg2 (by simp; omega) (fun g hg => by have := (O1.out.lt g hg).1; omega)); have s2 : w.heap.size + 1 + 1 ≤ w2.heap.size := (by have := hg2.size; simp at this; omega); have EX : Hid (∃ bx, w2.heap.size = bx) := Lib.hid ⟨_, rfl⟩; have MBF := Lib.hid (fun (bx : Nat) (e : w2.heap.size = bx) => new_box ho2 m.z e); have B3F := Lib.hid (fun (bx : Nat) (e : w2.heap.size = bx) => below_box B2.out (.cells #[.int .i64 m.z, .slice none 0 0, .slice y m.log.length yc] 31)); have R1F := Lib.hid (fun (bx : Nat) (e : w2.heap.size = bx) => kept_block Q1.out (below_box (Below.refl w2.heap.size w2) (.cells #[.int .i64 m.z, .slice none 0 0, .slice y m.log.length yc] 31))); have R0F := Lib.hid (fun (bx : Nat) (e : w2.heap.size = bx) => kept_block Q0.out (below_box (Below.refl w2.heap.size w2) (.cells #[.int .i64 m.z, .slice none 0 0, .slice y m.log.length yc] 31))); have HBL : Hid (∀ bx, w2.heap.size = bx → w.heap.size + 1 + 1 ≤ bx) := Lib.hid (fun bx e => by omega); clear ho2 hg2 T1 Q0 Q1)
      | (refine step_app_rowS (by rfl) _ _ _ (by rfl) 54 _ 3 24 Try.underlying29 Try.infoTouch rfl (by omega) (w.heap.size + 1 + 1) 0 (.slice (some ⟨w.heap.size + 1 + 1, 0, none⟩) 0 0) [] (by rfl) O12.out x m.log.length xc (flatT m.log) (by rfl) (flatT_len _) (XR.out.below V12.out).now (flatT_one _) (by unfold maxLen; omega) (by omega) (by simp; omega) ?_; intro v2 w2 ho2 hg2; simp only [Nat.zero_add, List.nil_append] at ho2; obtain ⟨y, yc, rfl⟩ := own_shape ho2; have T1 := Lib.hid (Turned.own O12.out hg2); have Q0 := Lib.hid (T1.out _ _ _ _ (kept_block K0.out V12.out) (by decide)); have Q1 := Lib.hid (T1.out _ _ _ _ (kept_block K1.out V12.out) (by decide)); have SC := Lib.hid (And.intro (cur_cell Q0.out 0) (cur_cell Q0.out 2)); have OT := Lib.hid ho2; have B2 := Lib.hid ((below_seq BA.out V12.out).grown hg2 (by simp; omega) (fun g hg => by have := (O12.out.lt g hg).1; omega)); have s2 : w.heap.size + 1 + 1 ≤ w2.heap.size := (by have := hg2.size; simp at this; omega); have PB := T1.out _ _ _ _ P12.out (by decide); have u0 : w2.cell? ⟨w.heap.size + 1 + 1 + 1, 0, none⟩ = some (.int .i64 0) := cur_cell PB 0; have u1 : w2.cell? ⟨w.heap.size + 1 + 1 + 1, 1, none⟩ = some (.slice none 0 0) := cur_cell PB 1; have u2 : w2.cell? ⟨w.heap.size + 1 + 1 + 1, 2, none⟩ = some (.slice none 0 0) := cur_cell PB 2; have g0 := cur_free PB 0; have g1 := cur_free PB 1; have g2 := cur_free PB 2; have EX : Hid (∃ bx, w.heap.size + 1 + 1 + 1 = bx) := Lib.hid ⟨_, rfl⟩; have MBF := Lib.hid (fun (bx : Nat) (e : w.heap.size + 1 + 1 + 1 = bx) => copy_box PB ho2 m.z e); have B3F := Lib.hid (fun (bx : Nat) (e : w.heap.size + 1 + 1 + 1 = bx) => copy_below (b := bx) B2.out (by omega) m.z (.slice none 0 0) (.slice y m.log.length yc)); have R1F := Lib.hid (fun (bx : Nat) (e : w.heap.size + 1 + 1 + 1 = bx) => set3_other (b := bx) Q1.out (by omega) (.int .i64 m.z) (.slice none 0 0) (.slice y m.log.length yc)); have R0F := Lib.hid (fun (bx : Nat) (e : w.heap.size + 1 + 1 + 1 = bx) => set3_other (b := bx) Q0.out (by omega) (.int .i64 m.z) (.slice none 0 0) (.slice y m.log.length yc)); have HBL : Hid (∀ bx, w.heap.size + 1 + 1 + 1 = bx → w.heap.size + 1 + 1 ≤ bx) := Lib.hid (fun bx e => by omega); clear PB; clear ho2 hg2 T1 Q0 Q1)
      | (refine step_app_rowS (by rfl) _ _ _ (by rfl) 54 _ 3 24 Try.underlying29 Try.infoTouch rfl (by omega) (w.heap.size + 1 + 1) 0 (.slice (some ⟨w.heap.size + 1 + 1 + 1, 0, none⟩) 0 0) [] (by rfl) O21.out x m.log.length xc (flatT m.log) (by rfl) (flatT_len _) (XR.out.below V21.out).now (flatT_one _) (by unfold maxLen; omega) (by omega) (by simp; omega) ?_; intro v2 w2 ho2 hg2; simp only [Nat.zero_add, List.nil_append] at ho2; obtain ⟨y, yc, rfl⟩ := own_shape ho2; have T1 := Lib.hid (Turned.own O21.out hg2); have Q0 := Lib.hid (T1.out _ _ _ _ (kept_block K0.out V21.out) (by decide)); have Q1 := Lib.hid (T1.out _ _ _ _ (kept_block K1.out V21.out) (by decide)); have SC := Lib.hid (And.intro (cur_cell Q0.out 0) (cur_cell Q0.out 2)); have OT := Lib.hid ho2; have B2 := Lib.hid ((below_seq BA.out V21.out).grown hg2 (by simp; omega) (fun g hg => by have := (O21.out.lt g hg).1; omega)); have s2 : w.heap.size + 1 + 1 ≤ w2.heap.size := (by have := hg2.size; simp at this; omega); have PB := T1.out _ _ _ _ P21.out (by decide); have u0 : w2.cell? ⟨w.heap.size + 1 + 1, 0, none⟩ = some (.int .i64 0) := cur_cell PB 0; have u1 : w2.cell? ⟨w.heap.size + 1 + 1, 1, none⟩ = some (.slice none 0 0) := cur_cell PB 1; have u2 : w2.cell? ⟨w.heap.size + 1 + 1, 2, none⟩ = some (.slice none 0 0) := cur_cell PB 2; have g0 := cur_free PB 0; have g1 := cur_free PB 1; have g2 := cur_free PB 2; have EX : Hid (∃ bx, w.heap.size + 1 + 1 = bx) := Lib.hid ⟨_, rfl⟩; have MBF := Lib.hid (fun (bx : Nat) (e : w.heap.size + 1 + 1 = bx) => copy_box PB ho2 m.z e); have B3F := Lib.hid (fun (bx : Nat) (e : w.heap.size + 1 + 1 = bx) => copy_below (b := bx) B2.out (by omega) m.z (.slice none 0 0) (.slice y m.log.length yc)); have R1F := Lib.hid (fun (bx : Nat) (e : w.heap.size + 1 + 1 = bx) => set3_other (b := bx) Q1.out (by omega) (.int .i64 m.z) (.slice none 0 0) (.slice y m.log.length yc)); have R0F := Lib.hid (fun (bx : Nat) (e : w.heap.size + 1 + 1 = bx) => set3_other (b := bx) Q0.out (by omega) (.int .i64 m.z) (.slice none 0 0) (.slice y m.log.length yc)); have HBL : Hid (∀ bx, w.heap.size + 1 + 1 = bx → w.heap.size + 1 + 1 ≤ bx) := Lib.hid (fun bx e => by omega); clear PB; clear ho2 hg2 T1 Q0 Q1))
  all_goals
    obtain ⟨bx, hbx⟩ := EX.out
    have MB := Lib.hid (MBF.out bx hbx)
    have B3 := Lib.hid (B3F.out bx hbx)
    have R1 := Lib.hid (R1F.out bx hbx)
    have R0 := Lib.hid (R0F.out bx hbx)
    have hbl := HBL.out bx hbx
    clear k0 k2 O1 O12 O21 P12 P21 S0 S1 S2 S12 S21 SC V1 V2 V12 V21 OT B2 K0 K1 BA XR X hA MBF B3F R1F R0F HBL EX
    simp only [hbx]
    go_wp2
    clear hbx
    go_loopw [4] (fun i wr => ∃ (k : Nat) (a' : Option Addr) (cap' : Nat), k ≤ m.cells.length ∧ i = .int .i64 k ∧ MemBox (w.heap.size + 1 + 1) bx m.z a' k cap' y m.log.length yc (m.cells.take k) m.log wr ∧ wr.heap[w.heap.size]? = some (.cells #[.int .i64 m.z, .slice a m.cells.length cap, .slice x m.log.length xc] 31 (0, 0)) ∧ wr.heap[w.heap.size + 1]? = some (.cells #[.int .i64 0, .slice none 0 0, .slice none 0 0] 31 (0, 0)) ∧ Below w.heap.size w wr) (fun i _ => m.cells.length - (intOf i).toNat)
    case atStart => exact ⟨0, none, 0, Nat.zero_le _, rfl, MB.out, R0.out, R1.out, B3.out⟩
    case round =>
      obtain ⟨k, a', cap', hk, rfl, hm, h0, h1, hb⟩ := hrel
      have j1 : wr.cell? ⟨w.heap.size, 1, none⟩ = some (.slice a m.cells.length cap) := cur_cell h0 1
      by_cases hlt : k < m.cells.length
      · obtain ⟨a0, cap0, vs0, e, _, _, r1, r2, r3⟩ := cellSIn_shape (C.out.below hb).now
        simp at e
        obtain ⟨rfl, rfl⟩ := e
        obtain ⟨bs, off, y8, yc8, rfl, q, _, hy⟩ := r1.cellAt r2 r3 hlt
        have hbs : bs < w.heap.size := by
          obtain ⟨a0, cap0, vs0, e, _, _, r1, _⟩ := cellSIn_shape C.out.now
          simp at e
          obtain ⟨rfl, rfl⟩ := e
          exact row_lt r1 (by omega)
        obtain ⟨_, _, e, _, _, hrow⟩ := byteSIn_shape hy
        simp at e
        obtain ⟨rfl, rfl⟩ := e
        have hl := M5.out _ (List.getElem_mem hlt)
        have TK := Lib.hid (List.take_succ_eq_append_getElem hlt)
        generalize m.cells[k] = l at *
        have hl' : l.length ≤ 1000 := by omega
        have hsz : w.heap.size + 1 + 1 ≤ wr.heap.size := by have := cur_lt hm.box; omega
        obtain ⟨hkl, vs, ho, hd⟩ := hm.cells.open
        clear hkl
        have HM := Lib.hid hm
        have HO := Lib.hid ho
        have HD := Lib.hid hd
        have H0 := Lib.hid h0
        have H1 := Lib.hid h1
        have HB := Lib.hid hb
        have V : Hid (Below wr.heap.size wr (wr.alloc (.cells #[] 5)).drew) := Lib.hid (below_drew (below_box (Below.refl wr.heap.size wr) (.cells #[] 5)))
        have OE : Hid ((wr.alloc (.cells #[] 5)).drew.ownsRow wr.heap.size 5 1 (.slice (some ⟨wr.heap.size, 0, none⟩) 0 0) 0 []) := Lib.hid (own_below (World.ownsRow_made (base := wr.heap.size) (e := 5) (size := 1) wr #[] 0 (Nat.le_refl _) (by unfold maxLen; omega) rfl) (belowN 1))
        have RY := Lib.hid (hrow.below V.out)
        have S0 : Hid (wr.drew.cell? ⟨w.heap.size, 1, none⟩ = some (.slice (some ⟨bs, off, none⟩) m.cells.length cap) ∧ wr.drew.cell? ⟨bs, off + k, none⟩ = some (.slice y8 l.length yc8)) := Lib.hid ⟨j1, q⟩
        have S1 : Hid ((wr.alloc (.cells #[] 5)).drew.cell? ⟨w.heap.size, 1, none⟩ = some (.slice (some ⟨bs, off, none⟩) m.cells.length cap) ∧ (wr.alloc (.cells #[] 5)).drew.cell? ⟨bs, off + k, none⟩ = some (.slice y8 l.length yc8)) := Lib.hid ⟨cell_keep j1 V.out, cell_keep q V.out⟩
        have x0 : wr.drew.cell? ⟨bx, 1, none⟩ = some (.slice a' k cap') := cur_cell hm.box 1
        have x1 : (wr.alloc (.cells #[] 5)).drew.cell? ⟨bx, 1, none⟩ = some (.slice a' k cap') := cell_keep (w := wr) x0 V.out
        clear hm ho hd h0 h1 hb hrow hy r1 r2 r3
        go_wp2_with fail
        have j1' : wr.drew.cell? ⟨w.heap.size, 1, none⟩ = some (.slice (some ⟨bs, off, none⟩) m.cells.length cap) := S0.out.1
        have q' : wr.drew.cell? ⟨bs, off + k, none⟩ = some (.slice y8 l.length yc8) := S0.out.2
        have j1'' := S1.out.1
        have q'' := S1.out.2
        go_region_law
          (first
            | (refine step_app_row (by rfl) _ _ _ (by rfl) 5 (.int .u8 0) 1 Try.underlying38 Try.info5 rfl wr.heap.size 0 (.slice (some ⟨wr.heap.size, 0, none⟩) 0 0) [] (by rfl) OE.out y8 l.length yc8 (l.map bval) (by rfl) (List.length_map _) RY.out (ones_bval l) (by unfold maxLen; omega) (by omega) (by simp) ?_; intro v4 w4 ho4 hg4; simp only [Nat.zero_add, List.nil_append] at ho4; obtain ⟨d, dc, rfl⟩ := own_shape ho4; have B4 := Lib.hid (V.out.grown hg4 (by simp) (fun g hg => (OE.out.lt g hg).1)); have OD := Lib.hid (ByteSOwn.mk ho4); have SC := Lib.hid (And.intro (cell_keep (w := wr) S0.out.1 B4.out) (cell_keep (w := wr) S0.out.2 B4.out)); have SD := Lib.hid (And.intro (cell_keep SC.out.1 (below_box (Below.refl w4.heap.size w4) (.cells #[.slice d l.length dc] 52))) (cell_keep SC.out.2 (below_box (Below.refl w4.heap.size w4) (.cells #[.slice d l.length dc] 52)))); have x2 : w4.cell? ⟨bx, 1, none⟩ = some (.slice a' k cap') := cell_keep (w := wr) x0 B4.out; have x3 : (w4.alloc (.cells #[.slice d l.length dc] 52)).cell? ⟨bx, 1, none⟩ = some (.slice a' k cap') := cell_keep x2 (below_box (Below.refl w4.heap.size w4) (.cells #[.slice d l.length dc] 52)); have O3 := Lib.hid ((own_below HO.out B4.out).alloc (.cells #[.slice d l.length dc] 52)); have s4 : wr.heap.size ≤ w4.heap.size := B4.out.size; clear ho4 hg4)
            | (refine step_app_row (by rfl) _ _ _ (by rfl) 52 (.agg #[.slice none 0 0]) 24 Try.underlying28 Try.infoCell rfl (w.heap.size + 1 + 1) k (.slice a' k cap') vs (by rfl) O3.out (some ⟨w4.heap.size, 0, none⟩) 1 1 [.slice d l.length dc] (by rfl) rfl (row_one w4 (.slice d l.length dc) 52) (by simp [Value.oneCell']) (by unfold maxLen; omega) (by omega) (by simp; omega) ?_; intro v5 w5 ho5 hg5; obtain ⟨a5, c5, rfl⟩ := own_shape ho5; have T5 := Lib.hid (Turned.own O3.out hg5); have b5 := T5.out _ _ _ _ (kept_block (kept_block HM.out.box B4.out) (below_box (Below.refl w4.heap.size w4) (.cells #[.slice d l.length dc] 52))) (by decide); have x5 : w5.cell? ⟨bx, 1, none⟩ = some (.slice a' k cap') := cur_cell b5 1; have f5 := cur_free b5 1; have SE : Hid (w5.cell? ⟨w.heap.size, 1, none⟩ = some (.slice (some ⟨bs, off, none⟩) m.cells.length cap) ∧ w5.cell? ⟨bs, off + k, none⟩ = some (.slice y8 l.length yc8)) := Lib.hid ⟨hg5.cell SD.out.1 (fun e => by have := (O3.out.lt w.heap.size e.symm).1; omega), hg5.cell SD.out.2 (fun e => by have := (O3.out.lt bs e.symm).1; omega)⟩; have SF := Lib.hid (And.intro (cell_set (b' := bx) (i := 1) (u := .slice a5 (k + 1) c5) SE.out.1 (by omega)) (cell_set (b' := bx) (i := 1) (u := .slice a5 (k + 1) c5) SE.out.2 (by omega)))))
        all_goals
          have X5 := Lib.hid (HM.out.push hsz HO.out HD.out B4.out OD.out (below_box (Below.refl w4.heap.size w4) (.cells #[.slice d l.length dc] 52)) hg5 ho5)
          have RA := Lib.hid ((Below.heap_setCell w5 ⟨bx, 1, none⟩ (.slice a5 (k + 1) c5) w.heap.size (by simp; omega)).trans (T5.out _ _ _ _ (kept_block (kept_block H0.out B4.out) (below_box (Below.refl w4.heap.size w4) (.cells #[.slice d l.length dc] 52))) (by decide)))
          have RB := Lib.hid ((Below.heap_setCell w5 ⟨bx, 1, none⟩ (.slice a5 (k + 1) c5) (w.heap.size + 1) (by simp; omega)).trans (T5.out _ _ _ _ (kept_block (kept_block H1.out B4.out) (below_box (Below.refl w4.heap.size w4) (.cells #[.slice d l.length dc] 52))) (by decide)))
          have B5 := Lib.hid (((below_box (below_seq HB.out B4.out) (.cells #[.slice d l.length dc] 52)).grown hg5 (by simp; omega) (fun g hg => by have := (O3.out.lt g hg).1; omega)).setCell (p := ⟨bx, 1, none⟩) (by simp; omega) (.slice a5 (k + 1) c5))
          rw [← TK.out] at X5
          clear ho5 hg5 b5 x0 x1 x2 x3 j1 q j1' q' j1'' q''
          go_wp2
          go_roundw
          case rel => exact ⟨k + 1, a5, c5, by omega, by go_num, X5.out, RA.out, RB.out, B5.out⟩
          case measure => simp [intOf]; omega
      · have hk' : k = m.cells.length := by omega
        subst hk'
        rw [List.take_length] at hm
        have k0 : wr.cell? ⟨w.heap.size + 1, 0, none⟩ = some (.int .i64 0) := cur_cell h1 0
        have k1 : wr.cell? ⟨w.heap.size + 1, 1, none⟩ = some (.slice none 0 0) := cur_cell h1 1
        have k2 : wr.cell? ⟨w.heap.size + 1, 2, none⟩ = some (.slice none 0 0) := cur_cell h1 2
        have i0 : wr.cell? ⟨bx, 0, none⟩ = some (.int .i64 m.z) := cur_cell hm.box 0
        have i1 : wr.cell? ⟨bx, 1, none⟩ = some (.slice a' m.cells.length cap') := cur_cell hm.box 1
        have i2 : wr.cell? ⟨bx, 2, none⟩ = some (.slice y m.log.length yc) := cur_cell hm.box 2
        have f0 := cur_free h1 0
        have f1 := cur_free h1 1
        have f2 := cur_free h1 2
        have O := Lib.hid hm.own
        have B := Lib.hid hb
        clear h0 h1 hm hb
        go_wp2
        have ag : ∀ i, w.heap.size + 1 + 1 ≤ i → i < wr.heap.size → (((wr.setCell ⟨w.heap.size + 1, 0, none⟩ (.int .i64 m.z)).setCell ⟨w.heap.size + 1, 1, none⟩ (.slice a' m.cells.length cap')).setCell ⟨w.heap.size + 1, 2, none⟩ (.slice y m.log.length yc)).heap[i]? = wr.heap[i]? := fun i h1 h2 =>
          (Below.heap_setCell _ _ _ i (by simp; omega)).trans ((Below.heap_setCell _ _ _ i (by simp; omega)).trans (Below.heap_setCell _ _ _ i (by simp; omega)))
        exact bodyPost_ret (v := .agg #[.int .i64 m.z, .slice a' m.cells.length cap', .slice y m.log.length yc]) (by simp [results, Try.results39, go_sem, k0, k1, k2]) rfl
          ⟨_, _, _, rfl, ((O.out.lies (Nat.le_refl _)).sup _ ag).wide (by omega) (by simp), ((B.out.setCell (p := ⟨w.heap.size + 1, 0, none⟩) (by simp) _).setCell (p := ⟨w.heap.size + 1, 1, none⟩) (by simp) _).setCell (p := ⟨w.heap.size + 1, 2, none⟩) (by simp) _⟩
end Go.Proofs.Ythllgpcdaimmgaa
