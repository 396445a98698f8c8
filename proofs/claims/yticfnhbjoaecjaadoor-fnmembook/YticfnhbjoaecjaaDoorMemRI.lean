/- MemRead, MemWrite in the program. -/
import Derived.Test.YticfnhbjoaecjaaDoorMemR1
import Derived.Test.YticfnhbjoaecjaaDoorMemRM
namespace Go.Proofs.YticfnhbjoaecjaaDoor
open Go.RowKit
set_option linter.unusedVariables false
set_option maxRecDepth 100000

/-- What opening a memory leaves: the code alone, or a memory in use. -/
def OpenPost (m : MemM) (j n : Int) (w : World) (e : Ending) (w' : World) : Prop :=
  (accC m j n ≠ 0 ∧ e = .returned (.tuple #[.pointer none, .int .i64 (accC m j n)]) ∧ Below w.heap.size w w') ∨
  (accC m j n = 0 ∧ ∃ b a cap x xc, e = .returned (.tuple #[.pointer (some ⟨b, 0, none⟩), .int .i64 0]) ∧ Obs w.heap.size w'.heap.size w'.heap.size b m.z a m.cells.length cap x m.log.length xc m.cells m.log w' ∧ w.heap.size ≤ b ∧ b < w'.heap.size ∧ Below w.heap.size w w')
theorem open_fail {m : MemM} {j n c : Int} {w w' : World} (h : accC m j n = c) (hc : c ≠ 0) (hb : Below w.heap.size w w') : OpenPost m j n w (.returned (.tuple #[.pointer none, .int .i64 c])) w' :=
  .inl ⟨by rw [h]; exact hc, by rw [h], hb⟩
set_option maxHeartbeats 2000000 in
theorem implOpen (c0 c1 c2 : Value) (m : MemM) (j n : Int) (w : World) (h : MemIn [c0, c1, c2] m w) : Calls Tryd.prog 15 #[.agg #[c0, c1, c2], .int .i64 j, .int .i64 n] w (OpenPost m j n w) := by
  have HL := Lib.hid h.lies
  obtain ⟨rfl, hc, ht⟩ := memIn_shape h
  obtain ⟨a, cap, _, rfl, _⟩ := cellSIn_shape hc
  obtain ⟨x, xc, rfl, _⟩ := touchSIn_shape ht
  have B := Lib.hid (below_box (Below.refl w.heap.size w) (.cells #[.int .i64 m.z, .slice a m.cells.length cap, .slice x m.log.length xc] 28))
  have K := Lib.hid (lies_box w (.cells #[.int .i64 m.z, .slice a m.cells.length cap, .slice x m.log.length xc] 28))
  have V := Lib.hid (implMemValid w.heap.size m.z _ _ m _ (alloc_at w _ _ rfl) (HL.out.below B.out).now)
  clear h hc ht
  cases h1 : memOkB m
  · have A := Lib.hid (acc_form (j := j) (n := n) h1)
    rw [h1] at V
    clear h1
    go_enter Tryd.func15, Tryd.ntmps15
    go_wp2_with fail
    refine V.out.mono ?_
    rintro e w1 ⟨rfl, hb⟩
    replace B := Lib.hid (below_seq B.out hb)
    clear hb
    go_wp2
    go_ret2
    exact open_fail A.out (by decide) B.out
  rw [h1] at V
  cases h2 : hasB m.cells.length j
  · have A := Lib.hid (acc_addr (n := n) h1 h2)
    have H2 := Lib.hid h2
    clear h1 h2
    go_enter Tryd.func15, Tryd.ntmps15
    go_wp2_with fail
    refine V.out.mono ?_
    rintro e w1 ⟨rfl, hb⟩
    have k1 : w1.cell? ⟨w.heap.size, 1, none⟩ = some (.slice a m.cells.length cap) := cur_cell (K.out.below hb).now 1
    replace B := Lib.hid (below_seq B.out hb)
    clear hb
    go_wp2_with fail
    refine (implHas w.heap.size a m.cells.length cap j w1 k1).mono ?_
    rintro e w2 ⟨rfl, rfl⟩
    rw [H2.out]
    go_wp2
    go_ret2
    exact open_fail A.out (by decide) B.out
  by_cases h3 : n = m.z
  · have O := Lib.hid h1
    have H2 := Lib.hid h2
    have A0 := Lib.hid (fun h4 => acc_full h1 h2 h3 h4)
    have A1 := Lib.hid (fun h4 => acc_fine h1 h2 h3 h4)
    have d3 : (n != m.z) = false := by simp [h3]
    clear h1 h2 h3
    go_enter Tryd.func15, Tryd.ntmps15
    go_wp2_with fail
    refine V.out.mono ?_
    rintro e w1 ⟨rfl, hb⟩
    have k0 : w1.cell? ⟨w.heap.size, 0, none⟩ = some (.int .i64 m.z) := cur_cell (K.out.below hb).now 0
    have k1 : w1.cell? ⟨w.heap.size, 1, none⟩ = some (.slice a m.cells.length cap) := cur_cell (K.out.below hb).now 1
    have k2 : w1.cell? ⟨w.heap.size, 2, none⟩ = some (.slice x m.log.length xc) := cur_cell (K.out.below hb).now 2
    replace B := Lib.hid (below_seq B.out hb)
    clear hb
    go_wp2_with fail
    refine (implHas w.heap.size a m.cells.length cap j w1 k1).mono ?_
    rintro e w2 ⟨rfl, rfl⟩
    rw [H2.out]
    have OB := Lib.hid (implObserve _ _ _ m w1 O.out (HL.out.below B.out).now)
    go_wp2_with fail
    refine OB.out.mono ?_
    rintro e w3 ⟨b, p, pc, q, qc, rfl, hO, hb1, hb2, hb⟩
    have s1 := B.out.size
    have hO' : Obs w.heap.size w3.heap.size w3.heap.size b m.z p m.cells.length pc q m.log.length qc m.cells m.log w3 := ⟨hO.box, hO.cells.wide s1 (Nat.le_refl _), hO.log.wide s1 (Nat.le_refl _)⟩
    have FU := Lib.hid (implFull b m.log.length w3 (cur_cell hO.box 3))
    replace B := Lib.hid (below_seq B.out hb)
    have HO := Lib.hid hO'
    clear hO hO' hb OB k0 k1 k2
    by_cases h4 : m.log.length < 6000
    · have A := Lib.hid (A1.out h4)
      have d4 : decide (6000 ≤ m.log.length) = false := by simp; omega
      rw [d4] at FU
      clear h4 d4
      go_wp2_with fail
      refine FU.out.mono ?_
      rintro e w4 ⟨rfl, rfl⟩
      go_wp2
      go_ret2
      exact .inr ⟨A.out, b, p, pc, q, qc, rfl, HO.out, by omega, hb2, B.out⟩
    · have A := Lib.hid (A0.out h4)
      have d4 : decide (6000 ≤ m.log.length) = true := by simp; omega
      rw [d4] at FU
      clear h4 d4
      go_wp2_with fail
      refine FU.out.mono ?_
      rintro e w4 ⟨rfl, rfl⟩
      go_wp2
      go_ret2
      exact open_fail A.out (by decide) B.out
  · have A := Lib.hid (acc_size h1 h2 h3)
    have H2 := Lib.hid h2
    have d3 : (n != m.z) = true := by simp [h3]
    clear h1 h2 h3
    go_enter Tryd.func15, Tryd.ntmps15
    go_wp2_with fail
    refine V.out.mono ?_
    rintro e w1 ⟨rfl, hb⟩
    have k0 : w1.cell? ⟨w.heap.size, 0, none⟩ = some (.int .i64 m.z) := cur_cell (K.out.below hb).now 0
    have k1 : w1.cell? ⟨w.heap.size, 1, none⟩ = some (.slice a m.cells.length cap) := cur_cell (K.out.below hb).now 1
    replace B := Lib.hid (below_seq B.out hb)
    clear hb
    go_wp2_with fail
    refine (implHas w.heap.size a m.cells.length cap j w1 k1).mono ?_
    rintro e w2 ⟨rfl, rfl⟩
    rw [H2.out]
    go_wp2
    go_ret2
    exact open_fail A.out (by decide) B.out
/-- A result's box filled: what lies above it stands. -/
theorem set3_above {w : World} {r i : Nat} (h : r ≠ i) (t u v : Value) : (((w.setCell ⟨r, 0, none⟩ t).setCell ⟨r, 1, none⟩ u).setCell ⟨r, 2, none⟩ v).heap[i]? = w.heap[i]? :=
  (Below.heap_setCell _ _ _ i (by simp; omega)).trans ((Below.heap_setCell _ _ _ i (by simp; omega)).trans (Below.heap_setCell _ _ _ i (by simp; omega)))
theorem below_set3 {W w : World} {r : Nat} (h : Below W.heap.size W w) (hr : W.heap.size ≤ r) (t u v : Value) : Below W.heap.size W (((w.setCell ⟨r, 0, none⟩ t).setCell ⟨r, 1, none⟩ u).setCell ⟨r, 2, none⟩ v) :=
  ((h.setCell (p := ⟨r, 0, none⟩) hr _).setCell (p := ⟨r, 1, none⟩) hr _).setCell (p := ⟨r, 2, none⟩) hr _
theorem size_set3 (w : World) (r : Nat) (t u v : Value) : (((w.setCell ⟨r, 0, none⟩ t).setCell ⟨r, 1, none⟩ u).setCell ⟨r, 2, none⟩ v).heap.size = w.heap.size := by simp
set_option maxHeartbeats 2000000 in
theorem uImplMemRead (c0 c1 c2 : Value) (m : MemM) (j : Int) (w : World) (h : MemIn [c0, c1, c2] m w) (b1 : -9223372036854775808 ≤ j ∧ j ≤ 9223372036854775807) : Calls Tryd.prog 9 #[.agg #[c0, c1, c2], .int .i64 j] w (ReadRet m j w) := by
  have HL := Lib.hid h.lies
  obtain ⟨rfl, hc, ht⟩ := memIn_shape h
  obtain ⟨a, cap, _, rfl, _⟩ := cellSIn_shape hc
  obtain ⟨x, xc, rfl, _⟩ := touchSIn_shape ht
  have B := Lib.hid (below_box (below_box (Below.refl w.heap.size w) (.cells #[.int .i64 m.z, .slice a m.cells.length cap, .slice x m.log.length xc] 28)) (.cells #[.int .i64 0, .slice none 0 0, .slice none 0 0] 28))
  have K := Lib.hid (lies_box (w.alloc (.cells #[.int .i64 m.z, .slice a m.cells.length cap, .slice x m.log.length xc] 28)) (.cells #[.int .i64 0, .slice none 0 0, .slice none 0 0] 28))
  simp only [size_box] at K
  have OP := Lib.hid (implOpen _ _ _ m j m.z _ (HL.out.below B.out).now)
  clear h hc ht
  go_enter Tryd.func9, Tryd.ntmps9
  go_wp2_with fail
  refine OP.out.mono ?_
  clear OP
  rintro e w1 (⟨hne, rfl, hb⟩ | ⟨hz, b, p, pc, q, qc, rfl, hO, hb1, hb2, hb⟩)
  · have KB := (K.out.below hb).now
    have k0 : w1.cell? ⟨w.heap.size + 1, 0, none⟩ = some (.int .i64 0) := cur_cell KB 0
    have k1 : w1.cell? ⟨w.heap.size + 1, 1, none⟩ = some (.slice none 0 0) := cur_cell KB 1
    have k2 : w1.cell? ⟨w.heap.size + 1, 2, none⟩ = some (.slice none 0 0) := cur_cell KB 2
    have f0 := cur_free KB 0
    have f1 := cur_free KB 1
    have f2 := cur_free KB 2
    replace B := Lib.hid (below_seq B.out hb)
    obtain ⟨c, hc⟩ : ∃ c, c = accC m j m.z := ⟨_, rfl⟩
    have HC : Hid (readC m j = c) := Lib.hid hc.symm
    rw [← hc] at hne ⊢
    have d : (c != 0) = true := by simp [hne]
    have HN := Lib.hid hne
    clear hc hb KB hne
    go_wp2
    exact bodyPost_ret (v := .tuple #[.agg #[.int .i64 0, .slice none 0 0, .slice none 0 0], .slice none 0 0, .int .i64 c]) (by simp [results, Tryd.results9, go_sem, k0, k1, k2]) rfl
      (read_fail HC.out HN.out (below_set3 B.out (by omega) _ _ _))
  · obtain ⟨g1, g2, _, g4⟩ := acc_ok hz
    obtain ⟨g5, g6⟩ := has_of g2
    obtain ⟨m1, m2, m3, m4, m5⟩ := mem_of g1
    obtain ⟨jj, rfl⟩ : ∃ jj : Nat, j = jj := ⟨j.toNat, by omega⟩
    have hj : jj < m.cells.length := by omega
    have hlen := m5 _ (List.getElem_mem hj)
    have HY := Lib.hid (read_yes (m := m) (j := jj) hz)
    have HZ := Lib.hid hz
    have GD := Lib.hid (getD_has (m := m) hj)
    simp only [size_box] at hO hb1
    have RD := Lib.hid (implRead (w.heap.size + 1 + 1) w1.heap.size w1.heap.size b m.z p m.cells.length pc q m.log.length qc m.cells m.log jj w1 hO g4 (by omega) hb1 (Nat.le_refl _) (Nat.le_refl _) hj m3 (by omega))
    replace K := Lib.hid (K.out.below hb)
    replace B := Lib.hid (below_seq B.out hb)
    have s1 : w.heap.size + 1 + 1 ≤ w1.heap.size := by omega
    clear hO hb hz g1 g2 m5
    go_wp2_with fail
    refine RD.out.mono ?_
    clear RD
    rintro e w2 ⟨d, x', xc', wm, mid, rfl, hO, hd, hT1, hT2, hB, hm1, hm2⟩
    obtain ⟨dp, dn, dc, rfl⟩ := hd.shape
    have B2 := Lib.hid (B.out.trans (hB.mono (by omega)))
    have KB : w2.heap[w.heap.size + 1]? = some (.cells #[.int .i64 0, .slice none 0 0, .slice none 0 0] 28 (0, 0)) := (hB.block (w.heap.size + 1) (by omega)).trans K.out.now
    have k0 : w2.cell? ⟨w.heap.size + 1, 0, none⟩ = some (.int .i64 0) := cur_cell KB 0
    have k1 : w2.cell? ⟨w.heap.size + 1, 1, none⟩ = some (.slice none 0 0) := cur_cell KB 1
    have k2 : w2.cell? ⟨w.heap.size + 1, 2, none⟩ = some (.slice none 0 0) := cur_cell KB 2
    have f0 := cur_free KB 0
    have f1 := cur_free KB 1
    have f2 := cur_free KB 2
    have i0 : w2.cell? ⟨b, 0, none⟩ = some (.int .i64 m.z) := cur_cell hO.box 0
    have i1 : w2.cell? ⟨b, 1, none⟩ = some (.slice p m.cells.length pc) := cur_cell hO.box 1
    have i2 : w2.cell? ⟨b, 2, none⟩ = some (.slice x' (m.log.length + 1) xc') := cur_cell hO.box 2
    have hbne : ¬ b = w.heap.size + 1 := by omega
    have HO := Lib.hid hO
    have HD := Lib.hid hd
    clear hO hd hT1 hT2 hB KB
    go_wp2
    have ag : ∀ i, w.heap.size + 1 + 1 ≤ i → (((w2.setCell ⟨w.heap.size + 1, 0, none⟩ (.int .i64 m.z)).setCell ⟨w.heap.size + 1, 1, none⟩ (.slice p m.cells.length pc)).setCell ⟨w.heap.size + 1, 2, none⟩ (.slice x' (m.log.length + 1) xc')).heap[i]? = w2.heap[i]? := fun i h1 => set3_above (by omega) _ _ _
    refine bodyPost_ret (v := .tuple #[.agg #[.int .i64 m.z, .slice p m.cells.length pc, .slice x' (m.log.length + 1) xc'], .slice dp dn dc, .int .i64 0]) (by simp [results, Tryd.results9, go_sem, k0, k1, k2]) rfl
      ⟨_, _, _, _, mid, by unfold readC; rw [HZ.out], ?_, ?_, by omega, by rw [size_set3]; exact hm2, below_set3 B2.out (by omega) _ _ _⟩
    · rw [HY.out.1]
      exact ⟨_, _, rfl, (HO.out.cells.sup (fun i h1 _ => ag i h1)).wide (by omega) (by omega), ((HO.out.log.lies hm2).sup _ (fun i h1 _ => ag i h1)).wide (by omega) (Nat.le_refl _)⟩
    · rw [HY.out.2, show ((jj : Int)).toNat = jj from rfl, GD.out]
      exact (HD.out.sup (fun i h1 _ => ag i (by omega))).wide (Nat.le_refl _) (by rw [size_set3]; exact Nat.le_refl _)
end Go.Proofs.YticfnhbjoaecjaaDoor
