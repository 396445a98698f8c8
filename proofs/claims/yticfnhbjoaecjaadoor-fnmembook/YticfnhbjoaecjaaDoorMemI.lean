/- The program's memory in use: bytes copied, a memory copied, the counter, accesses. -/
import Derived.Test.YticfnhbjoaecjaaDoorMemB
import Derived.Test.YticfnhbjoaecjaaDoorMemP
import Derived.Test.YticfnhbjoaecjaaDoorMemOI
import Derived.Laws.LoneSync
import Derived.Deep.RegionHeld3
namespace Go.Proofs.YticfnhbjoaecjaaDoor
open Go.RowKit
set_option linter.unusedVariables false
set_option maxRecDepth 100000

theorem ones_bval' (l : List UInt8) : ∀ v ∈ l.map bval, v.oneCell' = true := by
  intro v hv
  obtain ⟨z, _, rfl⟩ := List.mem_map.1 hv
  rfl
theorem Tryd.size5 : (Tryd.prog.info? 5).map (·.size) = some 1 := by kernel_rfl
theorem Tryd.sizeTouch : (Tryd.prog.info? 35).map (·.size) = some 3 := by kernel_rfl
set_option maxHeartbeats 800000 in
theorem implCloneBytes (c : Value) (l : List UInt8) (w : World) (hl : l.length ≤ 1000) (h : ByteSIn [c] l w) : Calls Tryd.prog 27 #[c] w (ByteSRet l w) := by
  obtain ⟨a, cap, rfl, _, _, hr⟩ := byteSIn_shape h
  have R := Lib.hid hr
  clear h hr
  obtain ⟨i0, hi, hz0, hz1, hz2⟩ := info_parts Tryd.info5
  go_enter Tryd.func27, Tryd.ntmps27
  go_wp2_with (at_make; refine wpList_make_full _ rfl _ _ 22 rfl w.heap.size 5 i0 (.int .u8 0) 1 Tryd.underlying22 hi hz0 hz1 .i64 .i64 _ _ l.length rfl rfl rfl rfl (by rw [hz2]; omega) (by unfold maxLen; omega) (Nat.le_refl _) ?_)
  clear hi hz0 hz1 hz2
  intro w1 hown hgr
  have hb1 := grown_below hgr
  rw [toList_madeCells_one] at hown
  obtain ⟨w2, hcp, hown2, hg2⟩ := copy_sliceS (P := Tryd.prog) (dT := 22) (sT := 22) Tryd.underlying22 Tryd.size5 hown a cap (l.map bval) (by simp) (R.out.below hb1) (ones_bval' l) (by omega)
  have O := Lib.hid (ByteSOwn.mk hown2)
  have B := Lib.hid (below_write hb1 hg2 (Nat.le_refl _))
  clear hown hown2 hg2 hb1 hgr
  go_wp2
  go_ret
  exact ⟨_, rfl, O.out, B.out⟩
set_option maxHeartbeats 2000000 in
theorem implMemClone (b : Nat) (c1 c2 : Value) (m : MemM) (w : World) (hok : memOkB m = true) (K0 : w.heap[b]? = some (.cells #[.int .i64 m.z, c1, c2] 28 (0, 0))) (h : MemIn [.int .i64 m.z, c1, c2] m w) :
    Calls Tryd.prog 30 #[.pointer (some ⟨b, 0, none⟩)] w (MemRet m w) := by
  obtain ⟨m1, m2, m3, m4, m5⟩ := mem_of hok
  obtain ⟨_, hc, ht⟩ := memIn_shape h
  obtain ⟨a, cap, _, rfl, _⟩ := cellSIn_shape hc
  obtain ⟨x, xc, rfl, _, _, hx⟩ := touchSIn_shape ht
  have C := Lib.hid hc.lies
  have X := Lib.hid (lies_row hx)
  have K := Lib.hid K0
  have M5 := Lib.hid m5
  have hbl : b < w.heap.size := cur_lt K0
  have B0 := Lib.hid (below_box (Below.refl w.heap.size w) (.cells #[.int .i64 0, .slice none 0 0, .slice none 0 0] 28))
  have k1 : (w.alloc (.cells #[.int .i64 0, .slice none 0 0, .slice none 0 0] 28)).cell? ⟨b, 1, none⟩ = some (.slice a m.cells.length cap) := cell_keep (cur_cell K0 1) B0.out
  clear h hc ht hx m5 K0
  obtain ⟨i1, hi, hz0, hz1, hz2⟩ := info_parts Tryd.infoCell
  go_enter Tryd.func30, Tryd.ntmps30
  go_wp2_with (at_make; refine wpList_make_full _ rfl _ _ 25 rfl (w.heap.size + 1) 43 i1 _ 1 Tryd.underlying25 hi hz0 hz1 .i64 .i64 _ _ m.cells.length rfl rfl rfl rfl (by rw [hz2]; omega) (by unfold maxLen; omega) (by simp) ?_)
  clear hi hz0 hz1 hz2
  intro w1 hown hgr
  have hb1 := grown_below hgr
  have hown' : w1.ownsRow (w.heap.size + 1) 43 1 (.slice (some ⟨w.heap.size + 1, 0, none⟩) m.cells.length m.cells.length) m.cells.length (List.replicate m.cells.length (.slice none 0 0)) := by
    rw [← toList_madeCells_one]; simpa using hown
  have hr1 : w1.heap[w.heap.size]? = some (.cells #[.int .i64 0, .slice none 0 0, .slice none 0 0] 28 (0, 0)) := kept_block (alloc_at w _ _ rfl) hb1
  have hb2 : Below w.heap.size w w1 := below_seq B0.out hb1
  have k1' : w1.cell? ⟨b, 1, none⟩ = some (.slice a m.cells.length cap) := cell_keep k1 hb1
  clear hgr hown hb1 k1
  go_wp2
  clear k1'
  go_loopw [4, 5, 18] (fun _ _ i wr => ∃ (k : Nat) (us : List Value), k ≤ m.cells.length ∧ i = .int .i64 k ∧ us.length = k ∧ wr.heap[w.heap.size]? = some (.cells #[.int .i64 0, .slice none 0 0, .slice none 0 0] 28 (0, 0)) ∧ wr.ownsRow (w.heap.size + 1) 43 1 (.slice (some ⟨w.heap.size + 1, 0, none⟩) m.cells.length m.cells.length) m.cells.length (us ++ List.replicate (m.cells.length - k) (.slice none 0 0)) ∧ Datas (w.heap.size + 1) wr.heap.size us (m.cells.take k) wr ∧ Below w.heap.size w wr) (fun _ _ i _ => m.cells.length - (intOf i).toNat)
  case atStart => exact ⟨0, [], Nat.zero_le _, rfl, rfl, hr1, by simpa using hown', by simpa using Datas.nil _ _ _, hb2⟩
  case round =>
    clear hown' hr1 hb2
    obtain ⟨k, us, hk, rfl, hu, hr, hown, hd, hb⟩ := hrel
    by_cases hlt : k < m.cells.length
    · obtain ⟨a0, cap0, vs0, e, _, _, r1, r2, r3⟩ := cellSIn_shape (C.out.below hb).now
      simp at e
      obtain ⟨rfl, rfl⟩ := e
      obtain ⟨bs, off, y8, yc8, rfl, q, _, hy⟩ := r1.cellAt r2 r3 hlt
      have hl := M5.out _ (List.getElem_mem hlt)
      have TK := Lib.hid (List.take_succ_eq_append_getElem hlt)
      generalize m.cells[k] = l at *
      have hl' : l.length ≤ 1000 := by omega
      have CB := Lib.hid (implCloneBytes _ l _ hl' (hy.lies.box (.cells #[.slice y8 l.length yc8] 43)).now)
      have OW := Lib.hid hown
      have D := Lib.hid hd
      have B := Lib.hid hb
      have HR := Lib.hid hr
      have hs0 : w.heap.size + 1 ≤ wr.heap.size := cur_lt hr
      clear hown hd hb hr r1 r2 r3 hy
      go_wp2_with fail
      refine CB.out.mono ?_
      rintro e w2 ⟨c, rfl, ho, hb2⟩
      obtain ⟨p, pn, pc, rfl⟩ := ho.shape
      have hb3 : Below wr.heap.size wr w2 := below_seq (below_box (Below.refl _ _) _) hb2
      have ho' : ByteSOwn wr.heap.size w2.heap.size [.slice p pn pc] l w2 := ho.wide (by simp) (Nat.le_refl _)
      have D2 := D.out.snoc (Nat.le_refl _) hb3 ho' hs0 hb3.size
      have own2 := own_below OW.out hb3
      have f0 := own2.frozenAt k
      have c0 : w2.cell? ⟨w.heap.size + 1, k, none⟩ = some (.slice none 0 0) := by
        rw [own2.cellAt k (by omega), List.getElem?_append_right (by omega), List.getElem?_replicate, if_pos (by omega)]
      have st := own2.stored k (.slice p pn pc)
      have sh := fill_set (u := .slice p pn pc) (z := .slice none 0 0) us (m.cells.length - (k + 1))
      rw [show m.cells.length - (k + 1) + 1 = m.cells.length - k from by omega, hu] at sh
      rw [sh] at st
      have X2 := Lib.hid (And.intro st.1 (And.intro (D2.set_row (k := k) own2 (.slice p pn pc)) (And.intro ((below_seq B.out hb3).grown st.2 (by have := hb3.size; omega) (fun i hi => by cases hi; exact Nat.le_succ _)) (kept_grown (kept_block HR.out hb3) st.2 (by simp)))))
      clear D2 own2 st sh ho ho' hb2 hb3 CB q
      go_wp2
      go_roundw
      case rel => exact ⟨k + 1, us ++ [.slice p pn pc], by omega, by go_num, by simp [hu], X2.out.2.2.2, X2.out.1, by rw [TK.out]; simpa using X2.out.2.1, X2.out.2.2.1⟩
      case measure => simp [intOf]; omega
    · have hk' : k = m.cells.length := by omega
      subst hk'
      rw [Nat.sub_self] at hown
      rw [List.take_length] at hd
      have k0 : wr.cell? ⟨b, 0, none⟩ = some (.int .i64 m.z) := cell_keep (cur_cell K.out 0) hb
      have k2 : wr.cell? ⟨b, 2, none⟩ = some (.slice x m.log.length xc) := cell_keep (cur_cell K.out 2) hb
      have OC := Lib.hid (CellSOwn.mk' (vs := us) (by simpa using hown) hd)
      have B := Lib.hid hb
      have HR := Lib.hid hr
      have hs0 : w.heap.size + 1 ≤ wr.heap.size := cur_lt hr
      clear hr hown hd hb
      obtain ⟨i2, hi, hz0, hz1, hz2⟩ := info_parts Tryd.infoTouch
      go_wp2_with (at_make; refine wpList_make_full _ rfl _ _ 26 rfl wr.heap.size 35 i2 _ 3 Tryd.underlying26 hi hz0 hz1 .i64 .i64 _ _ m.log.length rfl rfl rfl rfl (by rw [hz2]; omega) (by unfold maxLen; omega) (Nat.le_refl _) ?_)
      clear hi hz0 hz1 hz2
      intro w2 hmade hgr2
      have hb2 := grown_below hgr2
      have hmade' : w2.ownsRow wr.heap.size 35 3 (.slice (some ⟨wr.heap.size, 0, none⟩) m.log.length m.log.length) m.log.length (flatT (List.replicate m.log.length ⟨0, 0, 0⟩)) := by rw [← made_touch]; exact hmade
      obtain ⟨w3, hcp, hown3, hg3⟩ := copy_sliceS (P := Tryd.prog) (dT := 26) (sT := 26) Tryd.underlying26 Tryd.sizeTouch hmade' x xc (flatT m.log) (flatT_len _) (X.out.below (below_seq B.out hb2)).now (flatT_one _) (by omega)
      have T3 := Turned.own hmade' hg3
      have OL := Lib.hid (TouchSOwn.mk hown3)
      have hb3 : Below wr.heap.size wr w3 := below_write hb2 hg3 (Nat.le_refl _)
      have OC3 := Lib.hid ((OC.out.lies (Nat.le_refl _)).below hb3).now
      have B3 := Lib.hid (below_seq B.out hb3)
      have R3 := kept_block HR.out hb3
      have k2' : w2.cell? ⟨b, 2, none⟩ = some (.slice x m.log.length xc) := cell_keep k2 hb2
      have k0' : w3.cell? ⟨b, 0, none⟩ = some (.int .i64 m.z) := cell_keep k0 hb3
      have j0 : w3.cell? ⟨w.heap.size, 0, none⟩ = some (.int .i64 0) := cur_cell R3 0
      have j1 : w3.cell? ⟨w.heap.size, 1, none⟩ = some (.slice none 0 0) := cur_cell R3 1
      have j2 : w3.cell? ⟨w.heap.size, 2, none⟩ = some (.slice none 0 0) := cur_cell R3 2
      have f0 := cur_free R3 0
      have f1 := cur_free R3 1
      have f2 := cur_free R3 2
      have s3 : wr.heap.size ≤ w3.heap.size := hb3.size
      clear hmade hmade' hgr2 hb2 hown3 hg3 T3 hb3 R3 k0 k2 OC B HR
      go_wp2
      have ag : ∀ i, w.heap.size + 1 ≤ i → (((w3.setCell ⟨w.heap.size, 0, none⟩ (.int .i64 m.z)).setCell ⟨w.heap.size, 1, none⟩ (.slice (some ⟨w.heap.size + 1, 0, none⟩) m.cells.length m.cells.length)).setCell ⟨w.heap.size, 2, none⟩ (.slice (some ⟨wr.heap.size, 0, none⟩) m.log.length m.log.length)).heap[i]? = w3.heap[i]? := fun i h1 =>
        (Below.heap_setCell _ _ _ i (by simp; omega)).trans ((Below.heap_setCell _ _ _ i (by simp; omega)).trans (Below.heap_setCell _ _ _ i (by simp; omega)))
      exact bodyPost_ret (v := .agg #[.int .i64 m.z, .slice (some ⟨w.heap.size + 1, 0, none⟩) m.cells.length m.cells.length, .slice (some ⟨wr.heap.size, 0, none⟩) m.log.length m.log.length]) (by simp [results, Tryd.results30, go_sem, j0, j1, j2]) rfl
        ⟨_, _, _, rfl, ⟨_, _, rfl, (OC3.out.sup (fun i h1 _ => ag i h1)).wide (by omega) (by simp; omega), ((OL.out.lies (Nat.le_refl _)).sup _ (fun i h1 _ => ag i (by omega))).wide (by omega) (by simp)⟩,
          ((B3.out.setCell (p := ⟨w.heap.size, 0, none⟩) (by simp) _).setCell (p := ⟨w.heap.size, 1, none⟩) (by simp) _).setCell (p := ⟨w.heap.size, 2, none⟩) (by simp) _⟩
end Go.Proofs.YticfnhbjoaecjaaDoor
