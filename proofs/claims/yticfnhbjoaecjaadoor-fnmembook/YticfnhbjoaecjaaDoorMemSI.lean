/- MemSweep in the program. -/
import Derived.Test.YticfnhbjoaecjaaDoorMemRI
import Derived.Test.YticfnhbjoaecjaaDoorMemSM
namespace Go.Proofs.YticfnhbjoaecjaaDoor
open Go.RowKit
set_option linter.unusedVariables false
set_option maxRecDepth 100000

set_option maxHeartbeats 4000000 in
theorem uImplMemSweep (c0 c1 c2 : Value) (m : MemM) (w : World) (h : MemIn [c0, c1, c2] m w) : Calls Tryd.prog 10 #[.agg #[c0, c1, c2]] w (SweepRet m w) := by
  have HL := Lib.hid h.lies
  obtain ⟨rfl, hc, ht⟩ := memIn_shape h
  obtain ⟨a, cap, _, rfl, _⟩ := cellSIn_shape hc
  obtain ⟨x, xc, rfl, _⟩ := touchSIn_shape ht
  have B := Lib.hid (below_box (below_box (Below.refl w.heap.size w) (.cells #[.int .i64 m.z, .slice a m.cells.length cap, .slice x m.log.length xc] 28)) (.cells #[.int .i64 0, .slice none 0 0, .slice none 0 0] 28))
  have K0 := Lib.hid ((lies_box w (.cells #[.int .i64 m.z, .slice a m.cells.length cap, .slice x m.log.length xc] 28)).box (.cells #[.int .i64 0, .slice none 0 0, .slice none 0 0] 28))
  have K := Lib.hid (lies_box (w.alloc (.cells #[.int .i64 m.z, .slice a m.cells.length cap, .slice x m.log.length xc] 28)) (.cells #[.int .i64 0, .slice none 0 0, .slice none 0 0] 28))
  simp only [size_box] at K
  have VL := Lib.hid (implMemValid w.heap.size m.z _ _ m _ K0.out.now (HL.out.below B.out).now)
  clear h hc ht
  cases h1 : memOkB m
  · have A := Lib.hid (sweep_form h1)
    rw [h1] at VL
    clear h1
    go_enter Tryd.func10, Tryd.ntmps10
    go_wp2_with fail
    refine VL.out.mono ?_
    rintro e w1 ⟨rfl, hb⟩
    have KB := (K.out.below hb).now
    have k0 : w1.cell? ⟨w.heap.size + 1, 0, none⟩ = some (.int .i64 0) := cur_cell KB 0
    have k1 : w1.cell? ⟨w.heap.size + 1, 1, none⟩ = some (.slice none 0 0) := cur_cell KB 1
    have k2 : w1.cell? ⟨w.heap.size + 1, 2, none⟩ = some (.slice none 0 0) := cur_cell KB 2
    have f0 := cur_free KB 0
    have f1 := cur_free KB 1
    have f2 := cur_free KB 2
    replace B := Lib.hid (below_seq B.out hb)
    clear hb KB
    go_wp2
    exact bodyPost_ret (v := .tuple #[.agg #[.int .i64 0, .slice none 0 0, .slice none 0 0], .slice none 0 0, .int .i64 1]) (by simp [results, Tryd.results10, go_sem, k0, k1, k2]) rfl
      (sweep_fail A.out (by decide) (below_set3 B.out (by omega) _ _ _))
  rw [h1] at VL
  obtain ⟨m1, m2, m3, m4, m5⟩ := mem_of h1
  have hsum := sum_small h1
  have A4 := Lib.hid (fun h2 => sweep_full h1 h2)
  have A0 := Lib.hid (fun h2 => sweep_fine h1 h2)
  have O := Lib.hid h1
  have M5 := Lib.hid m5
  obtain ⟨zz, hzz⟩ : ∃ zz : Nat, m.z = zz := ⟨m.z.toNat, by omega⟩
  have hmul : (m.cells.length : Int) * m.z = ((m.cells.length * zz : Nat) : Int) := by rw [hzz]; simp
  have hmle : m.cells.length * zz ≤ 128000 := by
    have := Nat.mul_le_mul m3 (show zz ≤ 1000 by omega)
    omega
  have HMUL := Lib.hid hmul
  clear h1 m5 hzz hmul
  go_enter Tryd.func10, Tryd.ntmps10
  go_wp2_with fail
  refine VL.out.mono ?_
  rintro e w1 ⟨rfl, hb⟩
  have i0 : w1.cell? ⟨w.heap.size, 0, none⟩ = some (.int .i64 m.z) := cur_cell (K0.out.below hb).now 0
  have i1 : w1.cell? ⟨w.heap.size, 1, none⟩ = some (.slice a m.cells.length cap) := cur_cell (K0.out.below hb).now 1
  have i2 : w1.cell? ⟨w.heap.size, 2, none⟩ = some (.slice x m.log.length xc) := cur_cell (K0.out.below hb).now 2
  replace K0 := Lib.hid (K0.out.below hb)
  replace K := Lib.hid (K.out.below hb)
  replace B := Lib.hid (below_seq B.out hb)
  have s1 : w.heap.size + 1 + 1 ≤ w1.heap.size := by have := hb.size; simpa using this
  have OB := Lib.hid (implObserve _ _ _ m w1 O.out (HL.out.below B.out).now)
  clear hb VL
  go_wp2_with fail
  refine OB.out.mono ?_
  clear OB
  rintro e w2 ⟨b, p, pc, q, qc, rfl, hO, hb1, hb2, hb⟩
  have hO' : Obs (w.heap.size + 1 + 1) w2.heap.size w2.heap.size b m.z p m.cells.length pc q m.log.length qc m.cells m.log w2 := ⟨hO.box, hO.cells.wide s1 (Nat.le_refl _), hO.log.wide s1 (Nat.le_refl _)⟩
  have HO := Lib.hid hO'
  have j0 : w2.cell? ⟨w.heap.size, 0, none⟩ = some (.int .i64 m.z) := cell_keep i0 hb
  have j1 : w2.cell? ⟨w.heap.size, 1, none⟩ = some (.slice a m.cells.length cap) := cell_keep i1 hb
  replace K0 := Lib.hid (K0.out.below hb)
  replace K := Lib.hid (K.out.below hb)
  replace B := Lib.hid (below_seq B.out hb)
  have s2 : w1.heap.size ≤ w2.heap.size := hb.size
  have hlb : w.heap.size + 1 + 1 ≤ b := by omega
  clear hO hO' hb i0 i1 i2
  obtain ⟨i5, hi, hz0, hz1, hz2⟩ := info_parts Tryd.info5
  have hmul := HMUL.out
  have hw64 : IntKind.i64.wrap ((m.cells.length : Int) * m.z) = ((m.cells.length * zz : Nat) : Int) := by rw [hmul]; exact IntWalk.i64_in _ (by omega)
  go_wp2_with (at_make; refine wpList_make_own _ rfl _ _ 22 rfl w2.heap.size 5 i5 (.int .u8 0) 1 Tryd.underlying22 hi hz0 hz1 .i64 .i64 _ (m.cells.length * zz) rfl rfl (by first | exact hw64 | exact hmul | simp) (by rw [hz2]; omega) (by unfold maxLen; omega) (Nat.le_refl _) ?_)
  clear hi hz0 hz1 hz2 hw64 hmul
  intro w3 hown hgr
  have hb3 := grown_below hgr
  have j1' : w3.cell? ⟨w.heap.size, 1, none⟩ = some (.slice a m.cells.length cap) := cell_keep j1 hb3
  have HO3 := Lib.hid (HO.out.below (Nat.le_refl _) (Nat.le_refl _) hb3)
  have K3 := Lib.hid (kept_block K.out.now hb3)
  have B3 := Lib.hid (below_seq B.out hb3)
  have s3 : w2.heap.size ≤ w3.heap.size := hb3.size
  have HN := Lib.hid (ByteSOwn.mk (l := []) hown)
  clear hown hgr hb3 j0 j1 HO K B
  go_wp2
  clear j1'
  go_loopw [6, 7, 23] (fun dv _ i wr => ∃ (k hl : Nat) (x' : Option Addr) (xc' : Nat), k ≤ m.cells.length ∧ m.log.length + k ≤ 6000 ∧ i = .int .i64 k ∧ Obs (w.heap.size + 1 + 1) w2.heap.size hl b m.z p m.cells.length pc x' (m.log.length + k) xc' m.cells (m.log ++ sweepT m.z k) wr ∧ hl ≤ wr.heap.size ∧ ByteSOwn w2.heap.size wr.heap.size [dv] ((m.cells.take k).flatten) wr ∧ wr.heap[w.heap.size + 1]? = some (.cells #[.int .i64 0, .slice none 0 0, .slice none 0 0] 28 (0, 0)) ∧ Below w.heap.size w wr ∧ w2.heap.size ≤ wr.heap.size) (fun _ _ i _ => m.cells.length - (intOf i).toNat)
  case atStart => exact ⟨0, w2.heap.size, q, qc, Nat.zero_le _, by omega, rfl, by simpa [sweepT] using HO3.out, s3, HN.out, K3.out, B3.out, s3⟩
  case round =>
    clear HO3 K3 B3 HN s3
    obtain ⟨k, hl, x', xc', hk, hk6, rfl, hO, hhl, hd, hK, hB, hs⟩ := hrel
    obtain ⟨da, dn, dc, rfl⟩ := hd.shape
    have hlen : (m.log ++ sweepT m.z k).length = m.log.length + k := by simp [sweepT_len]
    by_cases hlt : k < m.cells.length
    · have c3 : wr.cell? ⟨b, 3, none⟩ = some (.int .i64 ((m.log.length + k : Nat) : Int)) := by rw [← hlen]; exact cur_cell hO.box 3
      have FU := Lib.hid (implFull b (m.log.length + k) wr c3)
      by_cases hf : m.log.length + k < 6000
      · have d4 : decide (6000 ≤ m.log.length + k) = false := by simp; omega
        rw [d4] at FU
        have hz := M5.out _ (List.getElem_mem hlt)
        have RD := Lib.hid (implRead (w.heap.size + 1 + 1) w2.heap.size hl b m.z p m.cells.length pc x' (m.log.length + k) xc' m.cells (m.log ++ sweepT m.z k) k wr hO (by rw [hlen]; exact hf) (by omega) hlb hhl hs hlt m3 (by omega))
        have FS := Lib.hid (flat_snoc hlt)
        have SL : Hid (((m.cells.take k).flatten).length ≤ 128000) := Lib.hid (by rw [flatten_len]; have := sumL_part m.cells k; omega)
        have HD := Lib.hid hd
        have HK := Lib.hid hK
        have BB := Lib.hid hB
        clear d4 hO hd hK hB c3
        go_wp2_with fail
        refine FU.out.mono ?_
        rintro e w4 ⟨rfl, rfl⟩
        clear FU
        go_wp2_with fail
        refine RD.out.mono ?_
        clear RD
        rintro e w5 ⟨c, x5, xc5, wm, mid, rfl, hO, hc, hT1, hT2, hBl, hm1, hm2⟩
        obtain ⟨cp, cn, cc, rfl⟩ := hc.shape
        have hcn : cn = m.cells[k].length := by
          obtain ⟨_, _, e, _⟩ := hc
          simp at e
          exact e.2.1
        subst hcn
        obtain ⟨_, _, e, _, _, hcr⟩ := byteSIn_shape hc.read
        simp at e
        obtain ⟨rfl, rfl⟩ := e
        have hD5 := (HD.out.turned hT1 (by decide)).turned hT2 (by decide)
        obtain ⟨da', dc', e, hdo, hdt⟩ := hD5
        have hdn : dn = ((m.cells.take k).flatten).length := by
          simp only [List.cons.injEq, Value.slice.injEq, and_true] at e
          exact e.2.1
        simp only [List.cons.injEq, Value.slice.injEq, and_true] at e
        obtain ⟨rfl, hq, rfl⟩ := e
        clear hq
        rw [← hdn] at hdo
        have hsl : dn ≤ 128000 := by rw [hdn]; exact SL.out
        have D5 := Lib.hid hdo
        have K5 := Lib.hid (hT2 _ _ _ _ (hT1 _ _ _ _ HK.out (by decide)) (by decide))
        have B5 := Lib.hid (BB.out.trans (hBl.mono (by omega)))
        have HO := Lib.hid hO
        have HC := Lib.hid hcr
        have s5 : w4.heap.size ≤ w5.heap.size := by omega
        clear hO hc hT1 hT2 hBl hdo hdt hcr HD HK BB hdn SL
        go_wp2_with (at_builtin; go_must (refine wp_app_row rfl _ _ 22 rfl 5 (.int .u8 0) 1 Tryd.underlying22 Tryd.info5 rfl w2.heap.size dn _ _ (by rfl) D5.out cp m.cells[k].length cc (m.cells[k].map bval) (by rfl) (List.length_map _) HC.out (ones_bval' _) (by unfold maxLen; omega) (by omega) (by omega) ?_); intro v6 w6 ho6 hg6; rw [← List.map_append, ← FS.out] at ho6; obtain ⟨e6, f6, rfl⟩ := own_shape ho6; have T6 := Lib.hid (Turned.own D5.out hg6); have N6 := Lib.hid (ByteSOwn.mk ho6); have K6 := Lib.hid (T6.out _ _ _ _ K5.out (by decide)); have B6 := Lib.hid (B5.out.grown hg6 (by omega) (fun g hg => by have := (D5.out.lt g hg).1; omega)); have Q6 : Hid (Obs (w.heap.size + 1 + 1) w2.heap.size mid b m.z p m.cells.length pc x5 (m.log.length + k + 1) xc5 m.cells (m.log ++ sweepT m.z (k + 1)) w6) := Lib.hid ⟨(by have h := T6.out _ _ _ _ HO.out.box (by decide); rw [sweepT_succ, ← List.append_assoc]; exact h), HO.out.cells.sup (fun i h1 h2 => hg6.block i (by omega) (fun e => by have := (D5.out.lt i e.symm).1; omega)), (by rw [sweepT_succ, ← List.append_assoc]; exact HO.out.log.turned T6.out (by decide))⟩; have s6 : w5.heap.size ≤ w6.heap.size := hg6.size; clear ho6 hg6 T6 D5 HO HC K5 B5 FS)
        go_roundw
        case rel => exact ⟨k + 1, mid, x5, xc5, by omega, by omega, by go_num, Q6.out, by omega, N6.out, K6.out, B6.out, by omega⟩
        case measure => simp [intOf]; omega
      · have d4 : decide (6000 ≤ m.log.length + k) = true := by simp; omega
        rw [d4] at FU
        have A := Lib.hid (A4.out (by omega))
        have k0 : wr.cell? ⟨w.heap.size + 1, 0, none⟩ = some (.int .i64 0) := cur_cell hK 0
        have k1 : wr.cell? ⟨w.heap.size + 1, 1, none⟩ = some (.slice none 0 0) := cur_cell hK 1
        have k2 : wr.cell? ⟨w.heap.size + 1, 2, none⟩ = some (.slice none 0 0) := cur_cell hK 2
        have f0 := cur_free hK 0
        have f1 := cur_free hK 1
        have f2 := cur_free hK 2
        have BB := Lib.hid hB
        clear d4 hO hd hK hB c3
        go_wp2_with fail
        refine FU.out.mono ?_
        rintro e w4 ⟨rfl, rfl⟩
        clear FU
        go_wp2
        exact bodyPost_ret (v := .tuple #[.agg #[.int .i64 0, .slice none 0 0, .slice none 0 0], .slice none 0 0, .int .i64 4]) (by simp [results, Tryd.results10, go_sem, k0, k1, k2]) rfl
          (sweep_fail A.out (by decide) (below_set3 BB.out (by omega) _ _ _))
    · have hk' : k = m.cells.length := by omega
      subst hk'
      rw [List.take_length] at hd
      have hnf : ¬ 6000 < m.log.length + m.cells.length := by omega
      have A := Lib.hid (A0.out hnf)
      have HY := Lib.hid (sweep_yes A.out)
      have k0 : wr.cell? ⟨w.heap.size + 1, 0, none⟩ = some (.int .i64 0) := cur_cell hK 0
      have k1 : wr.cell? ⟨w.heap.size + 1, 1, none⟩ = some (.slice none 0 0) := cur_cell hK 1
      have k2 : wr.cell? ⟨w.heap.size + 1, 2, none⟩ = some (.slice none 0 0) := cur_cell hK 2
      have f0 := cur_free hK 0
      have f1 := cur_free hK 1
      have f2 := cur_free hK 2
      have i0 : wr.cell? ⟨b, 0, none⟩ = some (.int .i64 m.z) := cur_cell hO.box 0
      have i1 : wr.cell? ⟨b, 1, none⟩ = some (.slice p m.cells.length pc) := cur_cell hO.box 1
      have i2 : wr.cell? ⟨b, 2, none⟩ = some (.slice x' (m.log.length + m.cells.length) xc') := cur_cell hO.box 2
      have hbne : ¬ b = w.heap.size + 1 := by omega
      have HO := Lib.hid hO
      have HD := Lib.hid hd
      have BB := Lib.hid hB
      clear hO hd hK hB
      go_wp2
      have ag : ∀ i, w.heap.size + 1 + 1 ≤ i → (((wr.setCell ⟨w.heap.size + 1, 0, none⟩ (.int .i64 m.z)).setCell ⟨w.heap.size + 1, 1, none⟩ (.slice p m.cells.length pc)).setCell ⟨w.heap.size + 1, 2, none⟩ (.slice x' (m.log.length + m.cells.length) xc')).heap[i]? = wr.heap[i]? := fun i h1 => set3_above (by omega) _ _ _
      refine bodyPost_ret (v := .tuple #[.agg #[.int .i64 m.z, .slice p m.cells.length pc, .slice x' (m.log.length + m.cells.length) xc'], .slice da dn dc, .int .i64 0]) (by simp [results, Tryd.results10, go_sem, k0, k1, k2]) rfl
        ⟨_, _, _, _, by rw [A.out], ?_, below_set3 BB.out (by omega) _ _ _⟩
      rw [HY.out.1, HY.out.2]
      have J := sweep_join (z := m.z) (HO.out.cells.sup (fun i h1 _ => ag i h1)) (((HO.out.log.lies hhl).sup _ (fun i h1 _ => ag i h1)).wide (Nat.le_refl _) hhl) (HD.out.sup (fun i h1 _ => ag i (by omega))) (by omega) hs
      exact J.wide (by omega) (by rw [size_set3]; exact Nat.le_refl _)
end Go.Proofs.YticfnhbjoaecjaaDoor
