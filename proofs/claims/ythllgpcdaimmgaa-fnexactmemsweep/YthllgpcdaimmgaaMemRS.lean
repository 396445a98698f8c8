/- MemRead, MemWrite in the model. -/
import Derived.Test.YthllgpcdaimmgaaMemC
import Derived.Test.YthllgpcdaimmgaaMemRM
import Derived.Test.YthllgpcdaimmgaaMemO
namespace Go.Proofs.Ythllgpcdaimmgaa
open Go.RowKit
set_option linter.unusedVariables false

theorem sset3_above {w : World} {r i : Nat} (h : r ≠ i) (t u v : Value) : (((w.setCell ⟨r, 0, none⟩ t).setCell ⟨r, 1, none⟩ u).setCell ⟨r, 2, none⟩ v).heap[i]? = w.heap[i]? :=
  (Below.heap_setCell _ _ _ i (by simp; omega)).trans ((Below.heap_setCell _ _ _ i (by simp; omega)).trans (Below.heap_setCell _ _ _ i (by simp; omega)))
theorem sbelow_set3 {W w : World} {r : Nat} (h : Below W.heap.size W w) (hr : W.heap.size ≤ r) (t u v : Value) : Below W.heap.size W (((w.setCell ⟨r, 0, none⟩ t).setCell ⟨r, 1, none⟩ u).setCell ⟨r, 2, none⟩ v) :=
  ((h.setCell (p := ⟨r, 0, none⟩) hr _).setCell (p := ⟨r, 1, none⟩) hr _).setCell (p := ⟨r, 2, none⟩) hr _
theorem ssize_set3 (w : World) (r : Nat) (t u v : Value) : (((w.setCell ⟨r, 0, none⟩ t).setCell ⟨r, 1, none⟩ u).setCell ⟨r, 2, none⟩ v).heap.size = w.heap.size := by simp
theorem cell_set3 {w : World} {b k r : Nat} {x : Option Value} (h : w.cell? ⟨b, k, none⟩ = x) (hne : b ≠ r) (t u v : Value) : (((w.setCell ⟨r, 0, none⟩ t).setCell ⟨r, 1, none⟩ u).setCell ⟨r, 2, none⟩ v).cell? ⟨b, k, none⟩ = x :=
  cell_set (cell_set (cell_set h hne) hne) hne
/-- A copy boxed. -/
theorem box_copy {lo n pc k qc : Nat} {z : Int} {p q : Option Addr} {m : MemM} {w : World} (h : MemOwn lo w.heap.size [.int .i64 z, .slice p n pc, .slice q k qc] m w) :
    MemBox lo w.heap.size m.z p m.cells.length pc q m.log.length qc m.cells m.log (w.alloc (.cells #[.int .i64 m.z, .slice p m.cells.length pc, .slice q m.log.length qc] 31)) ∧ z = m.z ∧ n = m.cells.length ∧ k = m.log.length := by
  obtain ⟨c1, c2, e, h1, h2⟩ := h
  simp at e
  obtain ⟨rfl, rfl, rfl⟩ := e
  obtain ⟨hn, _⟩ := h1.open
  have hk : k = m.log.length := by
    obtain ⟨_, _, e, _⟩ := h2
    simp at e
    exact e.2.1
  subst hn hk
  have b := below_box (Below.refl w.heap.size w) (.cells #[.int .i64 m.z, .slice p m.cells.length pc, .slice q m.log.length qc] 31)
  exact ⟨⟨alloc_at _ _ _ rfl, (((h1.lies (Nat.le_refl _)).below b).now).wide (Nat.le_refl _) b.size, (((h2.lies (Nat.le_refl _)).below b).now).wide (Nat.le_refl _) b.size⟩, rfl, rfl, rfl⟩
theorem row_touch (w : World) (x y z : Int) : Row (w.alloc (.cells #[.int .i64 x, .int .i64 y, .int .i64 z] 54)) (some ⟨w.heap.size, 0, none⟩) (flatT [⟨x, y, z⟩]) := .inr ⟨_, 0, rfl, fun i hi => by
  have h3 : i < 3 := by simpa [flatT] using hi
  rw [Nat.zero_add, cur_cell (alloc_at w _ _ rfl) i]
  match i, h3 with
  | 0, _ => rfl
  | 1, _ => rfl
  | 2, _ => rfl⟩
set_option maxHeartbeats 4000000 in
theorem uSpecMemRead (c0 c1 c2 : Value) (m : MemM) (j : Int) (w : World) (h : MemIn [c0, c1, c2] m w) (b1 : -9223372036854775808 ≤ j ∧ j ≤ 9223372036854775807) : Calls Try.prog 17 #[.agg #[c0, c1, c2], .int .i64 j] w (ReadRet m j w) := by
  have HL := Lib.hid h.lies
  obtain ⟨rfl, hc, ht⟩ := memIn_shape h
  obtain ⟨a, cap, _, rfl, _⟩ := cellSIn_shape hc
  obtain ⟨x, xc, rfl, _⟩ := touchSIn_shape ht
  have CL := Lib.hid hc.lies
  have B := Lib.hid (below_box (below_box (Below.refl w.heap.size w) (.cells #[.int .i64 m.z, .slice a m.cells.length cap, .slice x m.log.length xc] 31)) (.cells #[.int .i64 0, .slice none 0 0, .slice none 0 0] 31))
  have K0 := Lib.hid ((lies_box w (.cells #[.int .i64 m.z, .slice a m.cells.length cap, .slice x m.log.length xc] 31)).box (.cells #[.int .i64 0, .slice none 0 0, .slice none 0 0] 31))
  have K := Lib.hid (lies_box (w.alloc (.cells #[.int .i64 m.z, .slice a m.cells.length cap, .slice x m.log.length xc] 31)) (.cells #[.int .i64 0, .slice none 0 0, .slice none 0 0] 31))
  simp only [size_box] at K
  have OK := Lib.hid (uSpecMemOk _ _ _ m _ (HL.out.below B.out).now)
  clear h hc ht
  cases h1 : memOkB m
  · have A : Hid (readC m j = 1) := Lib.hid (acc_form h1)
    rw [h1] at OK
    clear h1
    go_enter Try.func17, Try.ntmps17
    go_wp2_with fail
    refine OK.out.mono ?_
    rintro e w1 ⟨rfl, hb⟩
    have KB := (K.out.below hb).now
    have k0 : w1.cell? ⟨w.heap.size + 1, 0, none⟩ = some (.int .i64 0) := cur_cell KB 0
    have k1 : w1.cell? ⟨w.heap.size + 1, 1, none⟩ = some (.slice none 0 0) := cur_cell KB 1
    have k2 : w1.cell? ⟨w.heap.size + 1, 2, none⟩ = some (.slice none 0 0) := cur_cell KB 2
    have f0 := cur_free KB 0
    have f1 := cur_free KB 1
    have f2 := cur_free KB 2
    replace B := Lib.hid (below_seq B.out hb)
    clear hb KB
    go_wp2
    exact bodyPost_ret (v := .tuple #[.agg #[.int .i64 0, .slice none 0 0, .slice none 0 0], .slice none 0 0, .int .i64 1]) (by simp [results, Try.results17, go_sem, k0, k1, k2]) rfl
      (read_fail A.out (by decide) (sbelow_set3 B.out (by omega) _ _ _))
  rw [h1] at OK
  cases h2 : hasB m.cells.length j
  · have A : Hid (readC m j = 2) := Lib.hid (acc_addr h1 h2)
    have H2 : j < 0 ∨ (m.cells.length : Int) ≤ j := by
      rcases Int.lt_or_le j 0 with h | h
      · exact .inl h
      · rcases Int.lt_or_le j m.cells.length with h' | h'
        · rw [has_yes h h'] at h2; cases h2
        · exact .inr h'
    clear h1 h2
    go_enter Try.func17, Try.ntmps17
    go_wp2_with fail
    refine OK.out.mono ?_
    rintro e w1 ⟨rfl, hb⟩
    have KB := (K.out.below hb).now
    have k0 : w1.cell? ⟨w.heap.size + 1, 0, none⟩ = some (.int .i64 0) := cur_cell KB 0
    have k1 : w1.cell? ⟨w.heap.size + 1, 1, none⟩ = some (.slice none 0 0) := cur_cell KB 1
    have k2 : w1.cell? ⟨w.heap.size + 1, 2, none⟩ = some (.slice none 0 0) := cur_cell KB 2
    have f0 := cur_free KB 0
    have f1 := cur_free KB 1
    have f2 := cur_free KB 2
    have j1 : w1.cell? ⟨w.heap.size, 1, none⟩ = some (.slice a m.cells.length cap) := cur_cell (K0.out.below hb).now 1
    replace B := Lib.hid (below_seq B.out hb)
    clear hb KB
    rcases H2 with H2 | H2
    · go_wp2
      exact bodyPost_ret (v := .tuple #[.agg #[.int .i64 0, .slice none 0 0, .slice none 0 0], .slice none 0 0, .int .i64 2]) (by simp [results, Try.results17, go_sem, k0, k1, k2]) rfl
        (read_fail A.out (by decide) (sbelow_set3 B.out (by omega) _ _ _))
    · have H3 : ¬ j < 0 := by omega
      go_wp2
      exact bodyPost_ret (v := .tuple #[.agg #[.int .i64 0, .slice none 0 0, .slice none 0 0], .slice none 0 0, .int .i64 2]) (by simp [results, Try.results17, go_sem, k0, k1, k2]) rfl
        (read_fail A.out (by decide) (sbelow_set3 B.out (by omega) _ _ _))
  obtain ⟨g5, g6⟩ := has_of h2
  obtain ⟨m1, m2, m3, m4, m5⟩ := mem_of h1
  obtain ⟨jj, rfl⟩ : ∃ jj : Nat, j = jj := ⟨j.toNat, by omega⟩
  have hj : jj < m.cells.length := by omega
  by_cases h4 : m.log.length < 6000
  · have A : Hid (readC m jj = 0) := Lib.hid (acc_fine h1 h2 rfl h4)
    have HY := Lib.hid (read_yes A.out)
    have GD := Lib.hid (getD_has (m := m) hj)
    have HLN := m5 _ (List.getElem_mem hj)
    have O := Lib.hid h1
    have d4 : ((m.log.length : Int) == 6000) = false := by simp; omega
    have g6' : jj < m.cells.length := hj
    clear h1 h2 m5
    go_enter Try.func17, Try.ntmps17
    go_wp2_with fail
    refine OK.out.mono ?_
    rintro e w1 ⟨rfl, hb⟩
    replace K := Lib.hid (K.out.below hb)
    replace K0 := Lib.hid (K0.out.below hb)
    have i0 : w1.cell? ⟨w.heap.size, 0, none⟩ = some (.int .i64 m.z) := cur_cell K0.out.now 0
    have i1 : w1.cell? ⟨w.heap.size, 1, none⟩ = some (.slice a m.cells.length cap) := cur_cell K0.out.now 1
    have i2 : w1.cell? ⟨w.heap.size, 2, none⟩ = some (.slice x m.log.length xc) := cur_cell K0.out.now 2
    replace B := Lib.hid (below_seq B.out hb)
    have s1 : w.heap.size + 1 + 1 ≤ w1.heap.size := by have := hb.size; simpa using this
    have CP := Lib.hid (specCopy _ _ _ m w1 O.out (HL.out.below B.out).now)
    clear hb OK
    go_wp2_with fail
    refine CP.out.mono ?_
    rintro e w2 ⟨d0, d1, d2, rfl, ho, hb⟩
    obtain ⟨dz, p, n, pc, q, k, qc, rfl, rfl, rfl⟩ := ho.shape
    obtain ⟨hMB, rfl, rfl, rfl⟩ := box_copy (ho.wide s1 (Nat.le_refl _))
    have MB := Lib.hid hMB
    replace B := Lib.hid (below_seq B.out hb)
    replace K := Lib.hid (K.out.below hb)
    replace K0 := Lib.hid (K0.out.below hb)
    have s2 : w1.heap.size ≤ w2.heap.size := hb.size
    obtain ⟨q0, qc0, eq, hrow, _⟩ := hMB.log
    simp at eq
    obtain ⟨rfl, rfl⟩ := eq
    have O1 := Lib.hid (hrow.alloc (.cells #[.int .i64 1, .int .i64 jj, .int .i64 m.z] 54))
    have RT := Lib.hid (row_touch (w2.alloc (.cells #[.int .i64 m.z, .slice p m.cells.length pc, .slice q m.log.length qc] 31)) 1 jj m.z)
    simp only [size_box] at RT
    have wB := Lib.hid (below_box (Below.refl (w2.alloc (.cells #[.int .i64 m.z, .slice p m.cells.length pc, .slice q m.log.length qc] 31)).heap.size (w2.alloc (.cells #[.int .i64 m.z, .slice p m.cells.length pc, .slice q m.log.length qc] 31))) (.cells #[.int .i64 1, .int .i64 jj, .int .i64 m.z] 54))
    have t0 : (w2.alloc (.cells #[.int .i64 m.z, .slice p m.cells.length pc, .slice q m.log.length qc] 31)).cell? ⟨w.heap.size, 0, none⟩ = some (.int .i64 m.z) := cell_keep (cur_cell K0.out.now 0) (below_box (Below.refl _ _) _)
    clear ho hMB hb hrow CP i0 i1 i2
    go_wp2_with (at_builtin; go_must (refine wp_app_rowS rfl _ _ 29 rfl 54 _ 3 24 Try.underlying29 Try.infoTouch rfl (by omega) (w.heap.size + 1 + 1) m.log.length (.slice q m.log.length qc) (flatT m.log) (by rfl) O1.out (some ⟨w2.heap.size + 1, 0, none⟩) 1 1 (flatT [⟨1, jj, m.z⟩]) (by rfl) rfl RT.out (flatT_one _) (by unfold maxLen; omega) (by omega) (by simp; omega) ?_); intro v3 w3 ho3 hg3; rw [← flatT_app] at ho3; obtain ⟨y, yc, rfl⟩ := own_shape ho3; have MB4 := Lib.hid (MB.out.logged (by simp; omega) wB.out hg3 ho3); have T3 := Lib.hid (Turned.own O1.out hg3); have bx := T3.out _ _ _ _ (kept_block MB.out.box wB.out) (by decide); have v2 : w3.cell? ⟨w2.heap.size, 2, none⟩ = some (.slice q m.log.length qc) := cur_cell bx 2; have u2 := cur_free bx 2; have R0 := Lib.hid (T3.out _ _ _ _ (kept_block (kept_block K0.out.now (below_box (Below.refl _ _) _)) wB.out) (by decide)); have R1 := Lib.hid (T3.out _ _ _ _ (kept_block (kept_block K.out.now (below_box (Below.refl _ _) _)) wB.out) (by decide)); have s3 : w2.heap.size + 1 ≤ w3.heap.size := (by have := hg3.size; simp at this; omega); replace B := Lib.hid (((below_box (below_box B.out (.cells #[.int .i64 m.z, .slice p m.cells.length pc, .slice q m.log.length qc] 31)) (.cells #[.int .i64 1, .int .i64 jj, .int .i64 m.z] 54)).grown hg3 (by simp; omega) (fun g hg => by have := (O1.out.lt g hg).1; omega)).setCell (p := ⟨w2.heap.size, 2, none⟩) (by simp; omega) (.slice y (m.log.length + 1) yc)); replace R0 := Lib.hid ((Below.heap_setCell w3 ⟨w2.heap.size, 2, none⟩ (.slice y (m.log.length + 1) yc) w.heap.size (by simp; omega)).trans R0.out); replace R1 := Lib.hid ((Below.heap_setCell w3 ⟨w2.heap.size, 2, none⟩ (.slice y (m.log.length + 1) yc) (w.heap.size + 1) (by simp; omega)).trans R1.out))
    clear ho3 hg3 bx t0 K K0 MB O1 wB T3
    go_wp2_with fail
    generalize hW : w3.setCell ⟨w2.heap.size, 2, none⟩ (.slice y (m.log.length + 1) yc) = w4 at *
    have s4 : w3.heap.size = w4.heap.size := by rw [← hW]; simp
    rw [s4] at s3
    clear hW v2 u2 s4
    obtain ⟨a0, cap0, vs0, e, _, _, r1, r2, r3⟩ := cellSIn_shape (CL.out.below B.out).now
    simp at e
    obtain ⟨rfl, rfl⟩ := e
    obtain ⟨bs, off, y8, yc8, rfl, q8, _, hy⟩ := r1.cellAt r2 r3 hj
    have hbs : bs < w.heap.size := by
      obtain ⟨a0, cap0, vs0, e, _, _, r1, _⟩ := cellSIn_shape CL.out.now
      simp at e
      obtain ⟨rfl, rfl⟩ := e
      exact row_lt r1 (by omega)
    obtain ⟨_, _, e, _, _, hrow⟩ := byteSIn_shape hy
    simp at e
    obtain ⟨rfl, rfl⟩ := e
    have V : Hid (Below w4.heap.size w4 (w4.alloc (.cells #[] 5)).drew) := Lib.hid (below_drew (below_box (Below.refl w4.heap.size w4) (.cells #[] 5)))
    have OE : Hid ((w4.alloc (.cells #[] 5)).drew.ownsRow w4.heap.size 5 1 (.slice (some ⟨w4.heap.size, 0, none⟩) 0 0) 0 []) := Lib.hid (own_below (World.ownsRow_made (base := w4.heap.size) (e := 5) (size := 1) w4 #[] 0 (Nat.le_refl _) (by unfold maxLen; omega) rfl) (belowN 1))
    have RY := Lib.hid (hrow.below V.out)
    have z0 : w4.drew.cell? ⟨w2.heap.size, 0, none⟩ = some (.int .i64 m.z) := cur_cell MB4.out.box 0
    have z1 : w4.drew.cell? ⟨w2.heap.size, 1, none⟩ = some (.slice p m.cells.length pc) := cur_cell MB4.out.box 1
    have z2 : w4.drew.cell? ⟨w2.heap.size, 2, none⟩ = some (.slice y (m.log.length + 1) yc) := cur_cell MB4.out.box 2
    have z3 : w4.drew.cell? ⟨w.heap.size, 1, none⟩ = some (.slice (some ⟨bs, off, none⟩) m.cells.length cap) := cur_cell R0.out 1
    have z4 : w4.drew.cell? ⟨bs, off + jj, none⟩ = some (.slice y8 m.cells[jj].length yc8) := q8
    have S0 := Lib.hid (And.intro z0 (And.intro z1 (And.intro z2 (And.intro z3 z4))))
    have S1 := Lib.hid (And.intro (cell_keep (w := w4) z0 V.out) (And.intro (cell_keep (w := w4) z1 V.out) (And.intro (cell_keep (w := w4) z2 V.out) (And.intro (cell_keep (w := w4) z3 V.out) (cell_keep (w := w4) z4 V.out)))))
    generalize hmj : m.cells[jj] = l at *
    have hl' : l.length ≤ 1000 := by omega
    have hne1 : ¬ w2.heap.size = w.heap.size + 1 := by omega
    have hne2 : ¬ bs = w.heap.size + 1 := by omega
    clear r1 r2 r3 hy hrow q8
    go_region_held3 (fun w' => w'.cell? ⟨w2.heap.size, 0, none⟩ = some (.int .i64 m.z) ∧ w'.cell? ⟨w2.heap.size, 1, none⟩ = some (.slice p m.cells.length pc) ∧ w'.cell? ⟨w2.heap.size, 2, none⟩ = some (.slice y (m.log.length + 1) yc) ∧ w'.cell? ⟨w.heap.size, 1, none⟩ = some (.slice (some ⟨bs, off, none⟩) m.cells.length cap) ∧ w'.cell? ⟨bs, off + jj, none⟩ = some (.slice y8 l.length yc8))
      (first | exact S0.out | exact S1.out | exact SC.out | exact SD.out)
      (first
        | (refine step_app_row (by rfl) _ _ _ (by rfl) 5 (.int .u8 0) 1 Try.underlying38 Try.info5 rfl w4.heap.size 0 (.slice (some ⟨w4.heap.size, 0, none⟩) 0 0) [] (by rfl) OE.out y8 l.length yc8 (l.map bval) (by rfl) (List.length_map _) RY.out (ones_bval l) (by unfold maxLen; omega) (by omega) (by simp) ?_; intro v5 w5 ho5 hg5; simp only [Nat.zero_add, List.nil_append] at ho5; obtain ⟨d, dc, rfl⟩ := own_shape ho5; have B5 := Lib.hid (V.out.grown hg5 (by simp) (fun g hg => (OE.out.lt g hg).1)); have OD := Lib.hid (ByteSOwn.mk ho5); have SC := Lib.hid (And.intro (cell_keep (w := w4) z0 B5.out) (And.intro (cell_keep (w := w4) z1 B5.out) (And.intro (cell_keep (w := w4) z2 B5.out) (And.intro (cell_keep (w := w4) z3 B5.out) (cell_keep (w := w4) z4 B5.out))))); have SD := Lib.hid (And.intro (cell_set3 SC.out.1 (r := w.heap.size + 1) (by omega) (.int .i64 m.z) (.slice p m.cells.length pc) (.slice y (m.log.length + 1) yc)) (And.intro (cell_set3 SC.out.2.1 (r := w.heap.size + 1) (by omega) (.int .i64 m.z) (.slice p m.cells.length pc) (.slice y (m.log.length + 1) yc)) (And.intro (cell_set3 SC.out.2.2.1 (r := w.heap.size + 1) (by omega) (.int .i64 m.z) (.slice p m.cells.length pc) (.slice y (m.log.length + 1) yc)) (And.intro (cell_set3 SC.out.2.2.2.1 (r := w.heap.size + 1) (by omega) (.int .i64 m.z) (.slice p m.cells.length pc) (.slice y (m.log.length + 1) yc)) (cell_set3 SC.out.2.2.2.2 (r := w.heap.size + 1) (by omega) (.int .i64 m.z) (.slice p m.cells.length pc) (.slice y (m.log.length + 1) yc)))))); have R5 := kept_block R1.out B5.out; have t0 : w5.cell? ⟨w.heap.size + 1, 0, none⟩ = some (.int .i64 0) := cur_cell R5 0; have t1 : w5.cell? ⟨w.heap.size + 1, 1, none⟩ = some (.slice none 0 0) := cur_cell R5 1; have t2 : w5.cell? ⟨w.heap.size + 1, 2, none⟩ = some (.slice none 0 0) := cur_cell R5 2; have f0 := cur_free R5 0; have f1 := cur_free R5 1; have f2 := cur_free R5 2; have s5 : w4.heap.size ≤ w5.heap.size := B5.out.size; clear ho5 hg5 R5))
    clear z0 z1 z2 z3 z4
    go_wp2
    have ag : ∀ i, w.heap.size + 1 + 1 ≤ i → (((w5.setCell ⟨w.heap.size + 1, 0, none⟩ (.int .i64 m.z)).setCell ⟨w.heap.size + 1, 1, none⟩ (.slice p m.cells.length pc)).setCell ⟨w.heap.size + 1, 2, none⟩ (.slice y (m.log.length + 1) yc)).heap[i]? = w5.heap[i]? := fun i h1 => sset3_above (by omega) _ _ _
    have M5 := (MB4.out.below B5.out)
    refine bodyPost_ret (v := .tuple #[.agg #[.int .i64 m.z, .slice p m.cells.length pc, .slice y (m.log.length + 1) yc], .slice d l.length dc, .int .i64 0]) (by simp [results, Try.results17, go_sem, t0, t1, t2]) rfl
      ⟨_, _, _, _, w4.heap.size, by rw [A.out], ?_, ?_, by omega, by rw [ssize_set3]; exact s5, sbelow_set3 (below_seq B.out B5.out) (by omega) _ _ _⟩
    · rw [HY.out.1]
      exact ⟨_, _, rfl, ((((MB4.out.cells.lies (Nat.le_refl _)).below B5.out).now).sup (fun i h1 _ => ag i h1)).wide (by omega) (Nat.le_refl _), ((((MB4.out.log.lies (Nat.le_refl _)).below B5.out)).sup _ (fun i h1 _ => ag i h1)).wide (by omega) (Nat.le_refl _)⟩
    · rw [HY.out.2, show ((jj : Int)).toNat = jj from rfl, GD.out]
      exact ((OD.out.lies (Nat.le_refl _)).sup _ (fun i h1 _ => ag i (by omega))).wide (Nat.le_refl _) (by rw [ssize_set3]; exact Nat.le_refl _)
  · have A : Hid (readC m jj = 4) := Lib.hid (acc_full h1 h2 rfl h4)
    have d4 : ((m.log.length : Int) == 6000) = true := by simp; omega
    have g6' : jj < m.cells.length := hj
    clear h1 h2 m5
    go_enter Try.func17, Try.ntmps17
    go_wp2_with fail
    refine OK.out.mono ?_
    rintro e w1 ⟨rfl, hb⟩
    have KB := (K.out.below hb).now
    have k0 : w1.cell? ⟨w.heap.size + 1, 0, none⟩ = some (.int .i64 0) := cur_cell KB 0
    have k1 : w1.cell? ⟨w.heap.size + 1, 1, none⟩ = some (.slice none 0 0) := cur_cell KB 1
    have k2 : w1.cell? ⟨w.heap.size + 1, 2, none⟩ = some (.slice none 0 0) := cur_cell KB 2
    have f0 := cur_free KB 0
    have f1 := cur_free KB 1
    have f2 := cur_free KB 2
    have j1 : w1.cell? ⟨w.heap.size, 1, none⟩ = some (.slice a m.cells.length cap) := cur_cell (K0.out.below hb).now 1
    have j2 : w1.cell? ⟨w.heap.size, 2, none⟩ = some (.slice x m.log.length xc) := cur_cell (K0.out.below hb).now 2
    replace B := Lib.hid (below_seq B.out hb)
    clear hb KB
    go_wp2
    exact bodyPost_ret (v := .tuple #[.agg #[.int .i64 0, .slice none 0 0, .slice none 0 0], .slice none 0 0, .int .i64 4]) (by simp [results, Try.results17, go_sem, k0, k1, k2]) rfl
      (read_fail A.out (by decide) (sbelow_set3 B.out (by omega) _ _ _))
end Go.Proofs.Ythllgpcdaimmgaa
