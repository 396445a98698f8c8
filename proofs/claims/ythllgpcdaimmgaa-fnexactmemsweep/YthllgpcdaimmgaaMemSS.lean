/- MemSweep in the model. -/
import Derived.Test.YthllgpcdaimmgaaMemRS
import Derived.Test.YthllgpcdaimmgaaMemSM
namespace Go.Proofs.Ythllgpcdaimmgaa
open Go.RowKit
set_option linter.unusedVariables false

/-- A block that is no row of the call's stands through an append, a literal, an append, a store elsewhere. -/
theorem set_other_mem {w w4 w5 : World} {k b i s1 s2 b1 b2 n1 n2 : Nat} {o o2 : Obj} {u1 u2 v : Value} {e1 e2 : TypeId} {x1 x2 : List Value} (h : w.heap[k]? = some o) (hb : k ≠ b) (g4 : w.grownBy w4 u1.ownBlock) (g5 : (w4.alloc o2).grownBy w5 u2.ownBlock)
    (h1 : w.ownsRow b1 e1 s1 u1 n1 x1) (h2 : (w4.alloc o2).ownsRow b2 e2 s2 u2 n2 x2) (l1 : k < b1) (l2 : k < b2) : (w5.setCell ⟨b, i, none⟩ v).heap[k]? = some o := by
  have a1 := kept_grown h g4 (fun e => by have := (h1.lt k e).1; omega)
  have a2 := kept_block a1 (below_box (Below.refl w4.heap.size w4) o2)
  have a3 := kept_grown a2 g5 (fun e => by have := (h2.lt k e).1; omega)
  exact (Below.heap_setCell _ _ _ k (by simpa using hb)).trans a3
set_option maxHeartbeats 4000000 in
theorem uSpecMemSweep (c0 c1 c2 : Value) (m : MemM) (w : World) (h : MemIn [c0, c1, c2] m w) : Calls Try.prog 25 #[.agg #[c0, c1, c2]] w (SweepRet m w) := by
  have HL := Lib.hid h.lies
  obtain ⟨rfl, hc, ht⟩ := memIn_shape h
  obtain ⟨a, cap, _, rfl, _⟩ := cellSIn_shape hc
  obtain ⟨x, xc, rfl, _⟩ := touchSIn_shape ht
  have CL := Lib.hid hc.lies
  have B := Lib.hid (below_box (below_box (Below.refl w.heap.size w) (.cells #[.int .i64 m.z, .slice a m.cells.length cap, .slice x m.log.length xc] 31)) (.cells #[.int .i64 0, .slice none 0 0, .slice none 0 0] 31))
  have K0 := Lib.hid ((lies_box w (.cells #[.int .i64 m.z, .slice a m.cells.length cap, .slice x m.log.length xc] 31)).box (.cells #[.int .i64 0, .slice none 0 0, .slice none 0 0] 31))
  have K := Lib.hid (lies_box (w.alloc (.cells #[.int .i64 m.z, .slice a m.cells.length cap, .slice x m.log.length xc] 31)) (.cells #[.int .i64 0, .slice none 0 0, .slice none 0 0] 31))
  simp only [size_box] at K
  have OK := Lib.hid (uSpecMemOk _ _ _ m _ (HL.out.below B.out).now)
  clear h hc ht
  cases h1 : memOkB m
  · have A := Lib.hid (sweep_form h1)
    rw [h1] at OK
    clear h1
    go_enter Try.func25, Try.ntmps25
    go_wp2_with fail
    refine OK.out.mono ?_
    rintro e w1 ⟨rfl, hb⟩
    have KB := (K.out.below hb).now
    have k0 : w1.cell? ⟨w.heap.size + 1, 0, none⟩ = some (.int .i64 0) := cur_cell KB 0
    have k1 : w1.cell? ⟨w.heap.size + 1, 1, none⟩ = some (.slice none 0 0) := cur_cell KB 1
    have k2 : w1.cell? ⟨w.heap.size + 1, 2, none⟩ = some (.slice none 0 0) := cur_cell KB 2
    have f0 := cur_free KB 0
    have f1 := cur_free KB 1
    have f2 := cur_free KB 2
    replace B := Lib.hid (below_seq B.out hb)
    clear hb KB
    go_wp2
    exact bodyPost_ret (v := .tuple #[.agg #[.int .i64 0, .slice none 0 0, .slice none 0 0], .slice none 0 0, .int .i64 1]) (by simp [results, Try.results25, go_sem, k0, k1, k2]) rfl
      (sweep_fail A.out (by decide) (sbelow_set3 B.out (by omega) _ _ _))
  rw [h1] at OK
  obtain ⟨m1, m2, m3, m4, m5⟩ := mem_of h1
  have hsum := sum_small h1
  by_cases h4 : 6000 < m.log.length + m.cells.length
  · have A := Lib.hid (sweep_full h1 h4)
    clear h1 m5
    go_enter Try.func25, Try.ntmps25
    go_wp2_with fail
    refine OK.out.mono ?_
    rintro e w1 ⟨rfl, hb⟩
    have KB := (K.out.below hb).now
    have k0 : w1.cell? ⟨w.heap.size + 1, 0, none⟩ = some (.int .i64 0) := cur_cell KB 0
    have k1 : w1.cell? ⟨w.heap.size + 1, 1, none⟩ = some (.slice none 0 0) := cur_cell KB 1
    have k2 : w1.cell? ⟨w.heap.size + 1, 2, none⟩ = some (.slice none 0 0) := cur_cell KB 2
    have f0 := cur_free KB 0
    have f1 := cur_free KB 1
    have f2 := cur_free KB 2
    have j1 : w1.cell? ⟨w.heap.size, 1, none⟩ = some (.slice a m.cells.length cap) := cur_cell (K0.out.below hb).now 1
    have j2 : w1.cell? ⟨w.heap.size, 2, none⟩ = some (.slice x m.log.length xc) := cur_cell (K0.out.below hb).now 2
    replace B := Lib.hid (below_seq B.out hb)
    clear hb KB
    go_wp2
    exact bodyPost_ret (v := .tuple #[.agg #[.int .i64 0, .slice none 0 0, .slice none 0 0], .slice none 0 0, .int .i64 4]) (by simp [results, Try.results25, go_sem, k0, k1, k2]) rfl
      (sweep_fail A.out (by decide) (sbelow_set3 B.out (by omega) _ _ _))
  have A := Lib.hid (sweep_fine h1 h4)
  have HY := Lib.hid (sweep_yes A.out)
  have O := Lib.hid h1
  have M5 := Lib.hid m5
  clear h1 m5
  go_enter Try.func25, Try.ntmps25
  go_wp2_with fail
  refine OK.out.mono ?_
  rintro e w1 ⟨rfl, hb⟩
  replace K := Lib.hid (K.out.below hb)
  replace K0 := Lib.hid (K0.out.below hb)
  have i0 : w1.cell? ⟨w.heap.size, 0, none⟩ = some (.int .i64 m.z) := cur_cell K0.out.now 0
  have i1 : w1.cell? ⟨w.heap.size, 1, none⟩ = some (.slice a m.cells.length cap) := cur_cell K0.out.now 1
  have i2 : w1.cell? ⟨w.heap.size, 2, none⟩ = some (.slice x m.log.length xc) := cur_cell K0.out.now 2
  replace B := Lib.hid (below_seq B.out hb)
  have s1 : w.heap.size + 1 + 1 ≤ w1.heap.size := by have := hb.size; simpa using this
  have CP := Lib.hid (specCopy _ _ _ m w1 O.out (HL.out.below B.out).now)
  clear hb OK
  go_wp2_with fail
  refine CP.out.mono ?_
  rintro e w2 ⟨d0, d1, d2, rfl, ho, hb⟩
  obtain ⟨dz, p, n, pc, q, k, qc, rfl, rfl, rfl⟩ := ho.shape
  obtain ⟨hMB, rfl, rfl, rfl⟩ := box_copy (ho.wide s1 (Nat.le_refl _))
  replace B := Lib.hid (below_seq B.out hb)
  replace K := Lib.hid (K.out.below hb)
  replace K0 := Lib.hid (K0.out.below hb)
  have s2 : w1.heap.size ≤ w2.heap.size := hb.size
  have MB := Lib.hid (hMB.below (below_box (Below.refl _ _) (.cells #[] 5)))
  have MC := Lib.hid ((((hMB.cells.lies (Nat.le_refl _)).below (below_box (Below.refl _ _) (.cells #[] 5))).now))
  have ND : Hid (((w2.alloc (.cells #[.int .i64 m.z, .slice p m.cells.length pc, .slice q m.log.length qc] 31)).alloc (.cells #[] 5)).ownsRow (w2.heap.size + 1) 5 1 (.slice (some ⟨w2.heap.size + 1, 0, none⟩) 0 0) 0 []) := Lib.hid (by have h := World.ownsRow_made (base := (w2.alloc (.cells #[.int .i64 m.z, .slice p m.cells.length pc, .slice q m.log.length qc] 31)).heap.size) (e := 5) (size := 1) (w2.alloc (.cells #[.int .i64 m.z, .slice p m.cells.length pc, .slice q m.log.length qc] 31)) #[] 0 (Nat.le_refl _) (by unfold maxLen; omega) rfl; rw [size_box] at h; exact h)
  have R0 := Lib.hid (kept_block (kept_block K0.out.now (below_box (Below.refl w2.heap.size w2) (.cells #[.int .i64 m.z, .slice p m.cells.length pc, .slice q m.log.length qc] 31))) (below_box (Below.refl _ _) (.cells #[] 5)))
  have R1 := Lib.hid (kept_block (kept_block K.out.now (below_box (Below.refl w2.heap.size w2) (.cells #[.int .i64 m.z, .slice p m.cells.length pc, .slice q m.log.length qc] 31))) (below_box (Below.refl _ _) (.cells #[] 5)))
  replace B := Lib.hid (below_box (below_box B.out (.cells #[.int .i64 m.z, .slice p m.cells.length pc, .slice q m.log.length qc] 31)) (.cells #[] 5))
  simp only [size_box] at MC
  clear ho hMB hb CP i0 i1 i2 K K0
  go_wp2
  go_loopw [6, 7] (fun dv i wr => ∃ (k : Nat) (y : Option Addr) (yc : Nat), k ≤ m.cells.length ∧ i = .int .i64 k ∧ wr.heap[w2.heap.size]? = some (.cells #[.int .i64 m.z, .slice p m.cells.length pc, .slice y (m.log.length + k) yc] 31 (0, 0)) ∧ CellSOwn (w.heap.size + 1 + 1) (w2.heap.size + 1) [.slice p m.cells.length pc] m.cells wr ∧ TouchSOwn (w.heap.size + 1 + 1) wr.heap.size [.slice y (m.log.length + k) yc] (m.log ++ sweepT m.z k) wr ∧ ByteSOwn (w2.heap.size + 1) wr.heap.size [dv] ((m.cells.take k).flatten) wr ∧ wr.heap[w.heap.size]? = some (.cells #[.int .i64 m.z, .slice a m.cells.length cap, .slice x m.log.length xc] 31 (0, 0)) ∧ wr.heap[w.heap.size + 1]? = some (.cells #[.int .i64 0, .slice none 0 0, .slice none 0 0] 31 (0, 0)) ∧ Below w.heap.size w wr ∧ w2.heap.size + 1 ≤ wr.heap.size) (fun _ i _ => m.cells.length - (intOf i).toNat)
  case atStart => exact ⟨0, q, qc, Nat.zero_le _, rfl, MB.out.box, MC.out, by simpa [sweepT] using MB.out.log, ByteSOwn.mk (l := []) ND.out, R0.out, R1.out, B.out, by simp⟩
  case round =>
    clear MB MC ND R0 R1 B
    obtain ⟨k, y, yc, hk, rfl, hbx, hcl, hlg, hd, h0, h1, hB, hs⟩ := hrel
    obtain ⟨da, dn, dc, rfl⟩ := hd.shape
    have j1 : wr.cell? ⟨w.heap.size, 1, none⟩ = some (.slice a m.cells.length cap) := cur_cell h0 1
    by_cases hlt : k < m.cells.length
    · obtain ⟨a0, cap0, vs0, e, _, _, r1, r2, r3⟩ := cellSIn_shape (CL.out.below hB).now
      simp at e
      obtain ⟨rfl, rfl⟩ := e
      obtain ⟨bs, off, y8, yc8, rfl, q8, _, hy⟩ := r1.cellAt r2 r3 hlt
      obtain ⟨_, _, e, _, _, hrow⟩ := byteSIn_shape hy
      simp at e
      obtain ⟨rfl, rfl⟩ := e
      have hl := M5.out _ (List.getElem_mem hlt)
      have FS := Lib.hid (flat_snoc hlt)
      have SL : Hid (((m.cells.take k).flatten).length ≤ 128000) := Lib.hid (by rw [flatten_len]; have := sumL_part m.cells k; omega)
      obtain ⟨da', dc', e, hdo, hdt⟩ := hd
      have hdn : dn = ((m.cells.take k).flatten).length := by
        simp only [List.cons.injEq, Value.slice.injEq, and_true] at e
        exact e.2.1
      simp only [List.cons.injEq, Value.slice.injEq, and_true] at e
      obtain ⟨rfl, hq, rfl⟩ := e
      clear hq
      rw [← hdn] at hdo
      have hsl : dn ≤ 128000 := by rw [hdn]; exact SL.out
      obtain ⟨y', yc', e, hlo, hlt2⟩ := hlg
      have hlen : (m.log ++ sweepT m.z k).length = m.log.length + k := by simp [sweepT_len]
      rw [hlen] at e hlo
      simp at e
      obtain ⟨rfl, rfl⟩ := e
      have D := Lib.hid hdo
      have L := Lib.hid hlo
      have C := Lib.hid hcl
      have BX := Lib.hid hbx
      have H0 := Lib.hid h0
      have H1 := Lib.hid h1
      have BB := Lib.hid hB
      have HR := Lib.hid hrow
      clear hdo hlo hcl hbx h0 h1 hB hrow r1 r2 r3 hy hdt hlt2 hdn hlen SL
      generalize m.cells[k] = l at *
      have hl' : l.length ≤ 1000 := by omega
      go_wp2_with (first
        | (at_builtin; refine wp_app_row rfl _ _ 38 rfl 5 (.int .u8 0) 1 Try.underlying38 Try.info5 rfl (w2.heap.size + 1) dn _ _ (by rfl) D.out y8 l.length yc8 (l.map bval) (by rfl) (List.length_map _) HR.out (ones_bval _) (by unfold maxLen; omega) (by omega) (by omega) ?_; intro v4 w4 ho4 hg4; rw [← List.map_append, ← FS.out] at ho4; obtain ⟨e4, f4, rfl⟩ := own_shape ho4; have T4 := Lib.hid (Turned.own D.out hg4); have b4 := T4.out _ _ _ _ BX.out (by decide); have x2 : w4.cell? ⟨w2.heap.size, 2, none⟩ = some (.slice y (m.log.length + k) yc) := cur_cell b4 2; have x0 : w4.cell? ⟨w.heap.size, 0, none⟩ = some (.int .i64 m.z) := cur_cell (T4.out _ _ _ _ H0.out (by decide)) 0; have s4 : wr.heap.size ≤ w4.heap.size := hg4.size; have O4 := Lib.hid (own_turned L.out T4.out (by decide : 54 ≠ 5)); have C4 := Lib.hid (C.out.sup (fun i h1 h2 => hg4.block i (by omega) (fun e => by have := (D.out.lt i e.symm).1; omega))); have N4 := Lib.hid ho4; have G4 := Lib.hid hg4; have RT := Lib.hid (row_touch w4 1 k m.z); have L4 := Lib.hid (O4.out.alloc (.cells #[.int .i64 1, .int .i64 k, .int .i64 m.z] 54)); have BX4 := Lib.hid b4; clear ho4 hg4 b4)
        | (at_builtin; refine wp_app_rowS rfl _ _ 29 rfl 54 _ 3 24 Try.underlying29 Try.infoTouch rfl (by omega) (w.heap.size + 1 + 1) (m.log.length + k) (.slice y (m.log.length + k) yc) _ (by rfl) L4.out (some ⟨w4.heap.size, 0, none⟩) 1 1 (flatT [⟨1, k, m.z⟩]) (by rfl) rfl RT.out (flatT_one _) (by unfold maxLen; omega) (by omega) (by simp; omega) ?_; intro v5 w5 ho5 hg5; rw [← flatT_app, List.append_assoc, ← sweepT_succ] at ho5; obtain ⟨y5, yc5, rfl⟩ := own_shape ho5; have T5 := Lib.hid (Turned.own L4.out hg5); have vB := Lib.hid (below_box (Below.refl w4.heap.size w4) (.cells #[.int .i64 1, .int .i64 k, .int .i64 m.z] 54)); have b5 := T5.out _ _ _ _ (kept_block BX4.out vB.out) (by decide); have z2 : w5.cell? ⟨w2.heap.size, 2, none⟩ = some (.slice y (m.log.length + k) yc) := cur_cell b5 2; have f2 := cur_free b5 2; have TS := Lib.hid (turned_set (i := 2) b5 (.slice y5 (m.log.length + k + 1) yc5)); have P5 := Lib.hid (cur_set b5 2 (.slice y5 (m.log.length + k + 1) yc5)); have N5 := Lib.hid ho5; have G5 := Lib.hid hg5; clear ho5 hg5 b5))
      have sz : (w5.setCell ⟨w2.heap.size, 2, none⟩ (.slice y5 (m.log.length + k + 1) yc5)).heap.size = w5.heap.size := by simp
      have s5 : w4.heap.size ≤ w5.heap.size := Nat.le_trans vB.out.size G5.out.size
      have Q1 : (w5.setCell ⟨w2.heap.size, 2, none⟩ (.slice y5 (m.log.length + k + 1) yc5)).heap[w2.heap.size]? = some (.cells #[.int .i64 m.z, .slice p m.cells.length pc, .slice y5 (m.log.length + (k + 1)) yc5] 31 (0, 0)) := by have h := P5.out; simpa [Nat.add_assoc] using h
      have Q2 := (((((C4.out.lies (by omega)).below vB.out).now).turned T5.out (by decide) (by decide))).turned TS.out (by decide) (by decide)
      have Q3 : TouchSOwn (w.heap.size + 1 + 1) (w5.setCell ⟨w2.heap.size, 2, none⟩ (.slice y5 (m.log.length + k + 1) yc5)).heap.size [.slice y5 (m.log.length + (k + 1)) yc5] (m.log ++ sweepT m.z (k + 1)) (w5.setCell ⟨w2.heap.size, 2, none⟩ (.slice y5 (m.log.length + k + 1) yc5)) := by
        have h := own_turned N5.out TS.out (by decide)
        exact TouchSOwn.mk h
      have Q4 : ByteSOwn (w2.heap.size + 1) (w5.setCell ⟨w2.heap.size, 2, none⟩ (.slice y5 (m.log.length + k + 1) yc5)).heap.size [.slice e4 (dn + l.length) f4] ((m.cells.take (k + 1)).flatten) (w5.setCell ⟨w2.heap.size, 2, none⟩ (.slice y5 (m.log.length + k + 1) yc5)) := by
        have h := own_turned (own_turned (own_below N4.out vB.out) T5.out (by decide)) TS.out (by decide)
        exact ByteSOwn.mk h
      have Q7 := (((below_box (BB.out.grown G4.out (by omega) (fun g hg => by have := (D.out.lt g hg).1; omega)) (.cells #[.int .i64 1, .int .i64 k, .int .i64 m.z] 54)).grown G5.out (by simp; omega) (fun g hg => by have := (L4.out.lt g hg).1; omega))).setCell (p := ⟨w2.heap.size, 2, none⟩) (by simp; omega) (.slice y5 (m.log.length + k + 1) yc5)
      go_roundw
      case rel => exact ⟨k + 1, y5, yc5, by omega, by go_num, Q1, Q2, Q3, Q4, set_other_mem H0.out (by omega) G4.out G5.out D.out L4.out (by omega) (by omega), set_other_mem H1.out (by omega) G4.out G5.out D.out L4.out (by omega) (by omega), Q7, by rw [sz]; omega⟩
      case measure => simp [intOf]; omega
    · have hk' : k = m.cells.length := by omega
      subst hk'
      rw [List.take_length] at hd
      have k0 : wr.cell? ⟨w.heap.size + 1, 0, none⟩ = some (.int .i64 0) := cur_cell h1 0
      have k1 : wr.cell? ⟨w.heap.size + 1, 1, none⟩ = some (.slice none 0 0) := cur_cell h1 1
      have k2 : wr.cell? ⟨w.heap.size + 1, 2, none⟩ = some (.slice none 0 0) := cur_cell h1 2
      have f0 := cur_free h1 0
      have f1 := cur_free h1 1
      have f2 := cur_free h1 2
      have i0 : wr.cell? ⟨w2.heap.size, 0, none⟩ = some (.int .i64 m.z) := cur_cell hbx 0
      have i1 : wr.cell? ⟨w2.heap.size, 1, none⟩ = some (.slice p m.cells.length pc) := cur_cell hbx 1
      have i2 : wr.cell? ⟨w2.heap.size, 2, none⟩ = some (.slice y (m.log.length + m.cells.length) yc) := cur_cell hbx 2
      have hbne : ¬ w2.heap.size = w.heap.size + 1 := by omega
      have HC := Lib.hid hcl
      have HG := Lib.hid hlg
      have HD := Lib.hid hd
      have BB := Lib.hid hB
      clear hcl hlg hd h0 h1 hB hbx
      go_wp2
      have ag : ∀ i, w.heap.size + 1 + 1 ≤ i → (((wr.setCell ⟨w.heap.size + 1, 0, none⟩ (.int .i64 m.z)).setCell ⟨w.heap.size + 1, 1, none⟩ (.slice p m.cells.length pc)).setCell ⟨w.heap.size + 1, 2, none⟩ (.slice y (m.log.length + m.cells.length) yc)).heap[i]? = wr.heap[i]? := fun i h1 => sset3_above (by omega) _ _ _
      refine bodyPost_ret (v := .tuple #[.agg #[.int .i64 m.z, .slice p m.cells.length pc, .slice y (m.log.length + m.cells.length) yc], .slice da dn dc, .int .i64 0]) (by simp [results, Try.results25, go_sem, k0, k1, k2]) rfl
        ⟨_, _, _, _, by rw [A.out], ?_, sbelow_set3 BB.out (by omega) _ _ _⟩
      rw [HY.out.1, HY.out.2]
      have J := sweep_join (z := m.z) (HC.out.sup (fun i h1 _ => ag i h1)) ((HG.out.lies (Nat.le_refl _)).sup _ (fun i h1 _ => ag i h1)) (HD.out.sup (fun i h1 _ => ag i (by omega))) (by omega) hs
      exact J.wide (by omega) (by rw [ssize_set3]; exact Nat.le_refl _)
end Go.Proofs.Ythllgpcdaimmgaa
