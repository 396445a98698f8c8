/- MemWrite in the program. -/
import Derived.Test.YticfnhbjoaecjaaDoorMemRI
namespace Go.Proofs.YticfnhbjoaecjaaDoor
open Go.RowKit
set_option linter.unusedVariables false
set_option maxRecDepth 100000

set_option maxHeartbeats 2000000 in
theorem uImplMemWrite (c0 c1 c2 : Value) (m : MemM) (j : Int) (dv : Value) (l : List UInt8) (w : World) (h : MemIn [c0, c1, c2] m w) (hdv : ByteSIn [dv] l w) (b1 : -9223372036854775808 ≤ j ∧ j ≤ 9223372036854775807) : Calls Tryd.prog 7 #[.agg #[c0, c1, c2], .int .i64 j, dv] w (WriteRet m j l w) := by
  obtain ⟨da, dac, rfl, _, ldv, _⟩ := byteSIn_shape hdv
  have DV := Lib.hid hdv.lies
  unfold maxLen at ldv
  clear hdv
  have HL := Lib.hid h.lies
  obtain ⟨rfl, hc, ht⟩ := memIn_shape h
  obtain ⟨a, cap, _, rfl, _⟩ := cellSIn_shape hc
  obtain ⟨x, xc, rfl, _⟩ := touchSIn_shape ht
  have B := Lib.hid (below_box (below_box (Below.refl w.heap.size w) (.cells #[.int .i64 m.z, .slice a m.cells.length cap, .slice x m.log.length xc] 28)) (.cells #[.int .i64 0, .slice none 0 0, .slice none 0 0] 28))
  have K := Lib.hid (lies_box (w.alloc (.cells #[.int .i64 m.z, .slice a m.cells.length cap, .slice x m.log.length xc] 28)) (.cells #[.int .i64 0, .slice none 0 0, .slice none 0 0] 28))
  simp only [size_box] at K
  have OP := Lib.hid (implOpen _ _ _ m j (l.length : Int) _ (HL.out.below B.out).now)
  clear h hc ht
  go_enter Tryd.func7, Tryd.ntmps7
  go_wp2_with fail
  refine OP.out.mono ?_
  clear OP
  rintro e w1 (⟨hne, rfl, hb⟩ | ⟨hz, b, p, pc, q, qc, rfl, hO, hb1, hb2, hb⟩)
  · have KB := (K.out.below hb).now
    have k0 : w1.cell? ⟨w.heap.size + 1, 0, none⟩ = some (.int .i64 0) := cur_cell KB 0
    have k1 : w1.cell? ⟨w.heap.size + 1, 1, none⟩ = some (.slice none 0 0) := cur_cell KB 1
    have k2 : w1.cell? ⟨w.heap.size + 1, 2, none⟩ = some (.slice none 0 0) := cur_cell KB 2
    have f0 := cur_free KB 0
    have f1 := cur_free KB 1
    have f2 := cur_free KB 2
    replace B := Lib.hid (below_seq B.out hb)
    obtain ⟨c, hc⟩ : ∃ c, c = accC m j l.length := ⟨_, rfl⟩
    have HC : Hid (writeC m j l = c) := Lib.hid hc.symm
    rw [← hc] at hne ⊢
    have d : (c != 0) = true := by simp [hne]
    have HN := Lib.hid hne
    clear hc hb KB hne
    go_wp2
    exact bodyPost_ret (v := .tuple #[.agg #[.int .i64 0, .slice none 0 0, .slice none 0 0], .int .i64 c]) (by simp [results, Tryd.results7, go_sem, k0, k1, k2]) rfl
      (write_fail HC.out HN.out (below_set3 B.out (by omega) _ _ _))
  · obtain ⟨g1, g2, g3, g4⟩ := acc_ok hz
    obtain ⟨g5, g6⟩ := has_of g2
    obtain ⟨m1, m2, m3, m4, m5⟩ := mem_of g1
    obtain ⟨jj, rfl⟩ : ∃ jj : Nat, j = jj := ⟨j.toNat, by omega⟩
    have hj : jj < m.cells.length := by omega
    have hlen := m5 _ (List.getElem_mem hj)
    have HY := Lib.hid (write_yes (m := m) (j := jj) (d := l) hz)
    have HZ := Lib.hid hz
    simp only [size_box] at hO hb1
    replace B := Lib.hid (below_seq B.out hb)
    have s1 : w.heap.size + 1 + 1 ≤ w1.heap.size := by omega
    have WR := Lib.hid (implWrite (w.heap.size + 1 + 1) w1.heap.size w1.heap.size b m.z p m.cells.length pc q m.log.length qc m.cells m.log jj _ l w1 hO g4 (by omega) hb1 (Nat.le_refl _) (Nat.le_refl _) hj m3 (by omega) (by omega) ((DV.out.below B.out).wide (Nat.le_refl _) (by omega) s1))
    replace K := Lib.hid (K.out.below hb)
    clear hO hb hz g1 g2 g3 m5 hlen
    go_wp2_with fail
    refine WR.out.mono ?_
    clear WR
    rintro e w2 ⟨x', xc', rfl, hO, hB, hs⟩
    have B2 := Lib.hid (B.out.trans (hB.mono (by omega)))
    have KB : w2.heap[w.heap.size + 1]? = some (.cells #[.int .i64 0, .slice none 0 0, .slice none 0 0] 28 (0, 0)) := (hB.block (w.heap.size + 1) (by omega)).trans K.out.now
    have k0 : w2.cell? ⟨w.heap.size + 1, 0, none⟩ = some (.int .i64 0) := cur_cell KB 0
    have k1 : w2.cell? ⟨w.heap.size + 1, 1, none⟩ = some (.slice none 0 0) := cur_cell KB 1
    have k2 : w2.cell? ⟨w.heap.size + 1, 2, none⟩ = some (.slice none 0 0) := cur_cell KB 2
    have f0 := cur_free KB 0
    have f1 := cur_free KB 1
    have f2 := cur_free KB 2
    have i0 : w2.cell? ⟨b, 0, none⟩ = some (.int .i64 m.z) := cur_cell hO.box 0
    have i1 : w2.cell? ⟨b, 1, none⟩ = some (.slice p m.cells.length pc) := cur_cell hO.box 1
    have i2 : w2.cell? ⟨b, 2, none⟩ = some (.slice x' (m.log.length + 1) xc') := cur_cell hO.box 2
    have hbne : ¬ b = w.heap.size + 1 := by omega
    have HO := Lib.hid hO
    clear hO hB KB
    go_wp2
    have ag : ∀ i, w.heap.size + 1 + 1 ≤ i → (((w2.setCell ⟨w.heap.size + 1, 0, none⟩ (.int .i64 m.z)).setCell ⟨w.heap.size + 1, 1, none⟩ (.slice p m.cells.length pc)).setCell ⟨w.heap.size + 1, 2, none⟩ (.slice x' (m.log.length + 1) xc')).heap[i]? = w2.heap[i]? := fun i h1 => set3_above (by omega) _ _ _
    refine bodyPost_ret (v := .tuple #[.agg #[.int .i64 m.z, .slice p m.cells.length pc, .slice x' (m.log.length + 1) xc'], .int .i64 0]) (by simp [results, Tryd.results7, go_sem, k0, k1, k2]) rfl
      ⟨_, _, _, by unfold writeC; rw [HZ.out], ?_, below_set3 B2.out (by omega) _ _ _⟩
    rw [HY.out]
    exact ⟨_, _, rfl, (HO.out.cells.sup (fun i h1 _ => ag i h1)).wide (by omega) (by rw [size_set3]; exact hs), ((HO.out.log.lies (Nat.le_refl _)).sup _ (fun i h1 _ => ag i h1)).wide (by omega) (by rw [size_set3]; exact Nat.le_refl _)⟩
end Go.Proofs.YticfnhbjoaecjaaDoor
