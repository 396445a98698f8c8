/- MemWrite in the model. -/
import Derived.Test.YthllgpcdaimmgaaMemRS
namespace Go.Proofs.Ythllgpcdaimmgaa
open Go.RowKit
set_option linter.unusedVariables false

theorem turned_own_set {w : World} {base g n cap s : Nat} {e : TypeId} {xs : List Value} (h : w.ownsRow base e s (.slice (some ⟨g, 0, none⟩) n cap) n xs) (j : Nat) (u : Value) : Turned e w (w.setCell ⟨g, j, none⟩ u) := Turned.own h (h.stored j u).2
/-- One row of bytes put in the place of another, made just now. -/
theorem Datas.replace {lo hi hi' i : Nat} {vs : List Value} {ls : List (List UInt8)} {w w' : World} {v : Value} {l : List UInt8} (h : Datas lo hi vs ls w) (ht : hi ≤ w.heap.size) (hb : Below w.heap.size w w') (ho : ByteSOwn w.heap.size hi' [v] l w') (hl : lo ≤ w.heap.size) (hh : hi ≤ hi') (hi0 : i < ls.length) :
    Datas lo hi' (vs.set i v) (ls.set i l) w' := by
  have h0 := (h.below ht hb).wide (Nat.le_refl lo) hh
  have hlen := h.len
  have key : ∀ k, v.ownBlock = some k → w.heap.size ≤ k := by
    obtain ⟨a, cap, hc, ho, _⟩ := ho
    simp at hc
    subst hc
    exact fun k hk => (ho.lt k hk).1
  have lts : ∀ (i : Nat) u k, vs[i]? = some u → u.ownBlock = some k → k < w.heap.size := by
    intro i u k hi hk
    have hil : i < vs.length := (List.getElem?_eq_some_iff.1 hi).1
    obtain ⟨a, cap, hc, _, hx⟩ := h.row i u (ls[i]'(by omega)) hi (List.getElem?_eq_getElem _)
    simp at hc
    subst hc
    exact Nat.lt_of_lt_of_le (hx k hk) ht
  refine ⟨by simp [hlen], fun j u m h1 h2 => ?_, fun j k u x y hjk h1 h2 hy hx => ?_⟩
  · by_cases hij : i = j
    · subst hij
      rw [List.getElem?_set_self (by omega)] at h1 h2
      simp at h1 h2
      subst h1 h2
      exact ho.wide hl (Nat.le_refl _)
    · rw [List.getElem?_set_ne hij] at h1 h2
      exact h0.row j u m h1 h2
  · by_cases hij : i = j
    · subst hij
      rw [List.getElem?_set_self (by omega)] at h1
      rw [List.getElem?_set_ne hjk] at h2
      simp at h1
      subst h1
      have a1 := key y hy
      have a2 := lts k x y h2 hx
      omega
    · rw [List.getElem?_set_ne hij] at h1
      by_cases hik : i = k
      · subst hik
        rw [List.getElem?_set_self (by omega)] at h2
        simp at h2
        subst h2
        have a1 := key y hx
        have a2 := lts j u y h1 hy
        omega
      · rw [List.getElem?_set_ne hik] at h2
        exact h.apart j k u x y hjk h1 h2 hy hx
theorem MemBox.replace {lo b g : Nat} {z : Int} {n cap : Nat} {x : Option Addr} {k xc j : Nat} {ls : List (List UInt8)} {lg : List TouchM} {w w3 : World} {d : Value} {l : List UInt8} (h : MemBox lo b z (some ⟨g, 0, none⟩) n cap x k xc ls lg w) (hl : lo ≤ w.heap.size)
    {vs : List Value} (ho : w.ownsRow lo 52 1 (.slice (some ⟨g, 0, none⟩) n cap) n vs) (hd : Datas lo w.heap.size vs ls w) (hb : Below w.heap.size w w3) (hn : ByteSOwn w.heap.size w3.heap.size [d] l w3) (hj : j < ls.length) :
    MemBox lo b z (some ⟨g, 0, none⟩) n cap x k xc (ls.set j l) lg (w3.setCell ⟨g, j, none⟩ d) := by
  have o3 := own_below ho hb
  have st := o3.stored j d
  have T := Turned.own o3 st.2
  have D := (hd.replace (Nat.le_refl _) hb hn hl hb.size hj).turned T (by decide)
  have sz : (w3.setCell ⟨g, j, none⟩ d).heap.size = w3.heap.size := by simp
  refine ⟨T _ _ _ _ (kept_block h.box hb) (by decide), ?_, ?_⟩
  · have hD : Datas lo (w3.setCell ⟨g, j, none⟩ d).heap.size (vs.set j d) (ls.set j l) (w3.setCell ⟨g, j, none⟩ d) := by rw [sz]; exact D
    exact CellSOwn.mk' st.1 hD
  · rw [sz]
    exact ((((h.log.lies (Nat.le_refl _)).below hb).now).wide (Nat.le_refl _) hb.size).turned T (by decide)
set_option maxHeartbeats 4000000 in
theorem uSpecMemWrite (c0 c1 c2 : Value) (m : MemM) (j : Int) (dv : Value) (l : List UInt8) (w : World) (h : MemIn [c0, c1, c2] m w) (hdv : ByteSIn [dv] l w) (b1 : -9223372036854775808 ≤ j ∧ j ≤ 9223372036854775807) : Calls Try.prog 22 #[.agg #[c0, c1, c2], .int .i64 j, dv] w (WriteRet m j l w) := by
  obtain ⟨da, dac, rfl, _, ldv, hdr⟩ := byteSIn_shape hdv
  have DV := Lib.hid (lies_row hdr)
  unfold maxLen at ldv
  clear hdv hdr
  have HL := Lib.hid h.lies
  obtain ⟨rfl, hc, ht⟩ := memIn_shape h
  obtain ⟨a, cap, _, rfl, _⟩ := cellSIn_shape hc
  obtain ⟨x, xc, rfl, _⟩ := touchSIn_shape ht
  have CL := Lib.hid hc.lies
  have B := Lib.hid (below_box (below_box (Below.refl w.heap.size w) (.cells #[.int .i64 m.z, .slice a m.cells.length cap, .slice x m.log.length xc] 31)) (.cells #[.int .i64 0, .slice none 0 0, .slice none 0 0] 31))
  have K0 := Lib.hid ((lies_box w (.cells #[.int .i64 m.z, .slice a m.cells.length cap, .slice x m.log.length xc] 31)).box (.cells #[.int .i64 0, .slice none 0 0, .slice none 0 0] 31))
  have K := Lib.hid (lies_box (w.alloc (.cells #[.int .i64 m.z, .slice a m.cells.length cap, .slice x m.log.length xc] 31)) (.cells #[.int .i64 0, .slice none 0 0, .slice none 0 0] 31))
  simp only [size_box] at K
  have OK := Lib.hid (uSpecMemOk _ _ _ m _ (HL.out.below B.out).now)
  clear h hc ht
  cases h1 : memOkB m
  · have A : Hid (writeC m j l = 1) := Lib.hid (acc_form h1)
    rw [h1] at OK
    clear h1
    go_enter Try.func22, Try.ntmps22
    go_wp2_with fail
    refine OK.out.mono ?_
    rintro e w1 ⟨rfl, hb⟩
    have KB := (K.out.below hb).now
    have k0 : w1.cell? ⟨w.heap.size + 1, 0, none⟩ = some (.int .i64 0) := cur_cell KB 0
    have k1 : w1.cell? ⟨w.heap.size + 1, 1, none⟩ = some (.slice none 0 0) := cur_cell KB 1
    have k2 : w1.cell? ⟨w.heap.size + 1, 2, none⟩ = some (.slice none 0 0) := cur_cell KB 2
    have f0 := cur_free KB 0
    have f1 := cur_free KB 1
    have f2 := cur_free KB 2
    replace B := Lib.hid (below_seq B.out hb)
    clear hb KB
    go_wp2
    exact bodyPost_ret (v := .tuple #[.agg #[.int .i64 0, .slice none 0 0, .slice none 0 0], .int .i64 1]) (by simp [results, Try.results22, go_sem, k0, k1, k2]) rfl
      (write_fail A.out (by decide) (sbelow_set3 B.out (by omega) _ _ _))
  rw [h1] at OK
  cases h2 : hasB m.cells.length j
  · have A : Hid (writeC m j l = 2) := Lib.hid (acc_addr h1 h2)
    have H2 : j < 0 ∨ (m.cells.length : Int) ≤ j := by
      rcases Int.lt_or_le j 0 with h | h
      · exact .inl h
      · rcases Int.lt_or_le j m.cells.length with h' | h'
        · rw [has_yes h h'] at h2; cases h2
        · exact .inr h'
    clear h1 h2
    go_enter Try.func22, Try.ntmps22
    go_wp2_with fail
    refine OK.out.mono ?_
    rintro e w1 ⟨rfl, hb⟩
    have KB := (K.out.below hb).now
    have k0 : w1.cell? ⟨w.heap.size + 1, 0, none⟩ = some (.int .i64 0) := cur_cell KB 0
    have k1 : w1.cell? ⟨w.heap.size + 1, 1, none⟩ = some (.slice none 0 0) := cur_cell KB 1
    have k2 : w1.cell? ⟨w.heap.size + 1, 2, none⟩ = some (.slice none 0 0) := cur_cell KB 2
    have f0 := cur_free KB 0
    have f1 := cur_free KB 1
    have f2 := cur_free KB 2
    have j1 : w1.cell? ⟨w.heap.size, 1, none⟩ = some (.slice a m.cells.length cap) := cur_cell (K0.out.below hb).now 1
    replace B := Lib.hid (below_seq B.out hb)
    clear hb KB
    rcases H2 with H2 | H2
    · go_wp2
      exact bodyPost_ret (v := .tuple #[.agg #[.int .i64 0, .slice none 0 0, .slice none 0 0], .int .i64 2]) (by simp [results, Try.results22, go_sem, k0, k1, k2]) rfl
        (write_fail A.out (by decide) (sbelow_set3 B.out (by omega) _ _ _))
    · have H3 : ¬ j < 0 := by omega
      go_wp2
      exact bodyPost_ret (v := .tuple #[.agg #[.int .i64 0, .slice none 0 0, .slice none 0 0], .int .i64 2]) (by simp [results, Try.results22, go_sem, k0, k1, k2]) rfl
        (write_fail A.out (by decide) (sbelow_set3 B.out (by omega) _ _ _))
  obtain ⟨g5, g6⟩ := has_of h2
  obtain ⟨m1, m2, m3, m4, m5⟩ := mem_of h1
  obtain ⟨jj, rfl⟩ : ∃ jj : Nat, j = jj := ⟨j.toNat, by omega⟩
  have hj : jj < m.cells.length := by omega
  by_cases h3 : (l.length : Int) = m.z
  · by_cases h4 : m.log.length < 6000
    · have A : Hid (writeC m jj l = 0) := Lib.hid (acc_fine h1 h2 h3 h4)
      have HY := Lib.hid (write_yes A.out)
      have HLN := m5 _ (List.getElem_mem hj)
      have O := Lib.hid h1
      have d3 : ((l.length : Int) != m.z) = false := by simp [h3]
      have hl' : l.length ≤ 1000 := by omega
      have d4 : ((m.log.length : Int) == 6000) = false := by simp; omega
      have g6' : jj < m.cells.length := hj
      clear h1 h2 m5 h3 HLN
      go_enter Try.func22, Try.ntmps22
      go_wp2_with fail
      refine OK.out.mono ?_
      rintro e w1 ⟨rfl, hb⟩
      replace K := Lib.hid (K.out.below hb)
      replace K0 := Lib.hid (K0.out.below hb)
      have i0 : w1.cell? ⟨w.heap.size, 0, none⟩ = some (.int .i64 m.z) := cur_cell K0.out.now 0
      have i1 : w1.cell? ⟨w.heap.size, 1, none⟩ = some (.slice a m.cells.length cap) := cur_cell K0.out.now 1
      have i2 : w1.cell? ⟨w.heap.size, 2, none⟩ = some (.slice x m.log.length xc) := cur_cell K0.out.now 2
      replace B := Lib.hid (below_seq B.out hb)
      have s1 : w.heap.size + 1 + 1 ≤ w1.heap.size := by have := hb.size; simpa using this
      have CP := Lib.hid (specCopy _ _ _ m w1 O.out (HL.out.below B.out).now)
      clear hb OK
      go_wp2_with fail
      refine CP.out.mono ?_
      rintro e w2 ⟨d0, d1, d2, rfl, ho, hb⟩
      obtain ⟨dz, p, n, pc, q, k, qc, rfl, rfl, rfl⟩ := ho.shape
      obtain ⟨hMB, rfl, rfl, rfl⟩ := box_copy (ho.wide s1 (Nat.le_refl _))
      have MB := Lib.hid hMB
      replace B := Lib.hid (below_seq B.out hb)
      replace K := Lib.hid (K.out.below hb)
      replace K0 := Lib.hid (K0.out.below hb)
      have s2 : w1.heap.size ≤ w2.heap.size := hb.size
      obtain ⟨_, vs, hro, hdat⟩ := hMB.cells.open
      obtain ⟨g, rfl, _⟩ := own_some hro (by omega)
      have hgb : g ≠ w2.heap.size := by
        intro e
        exact own_other hro hMB.box (by decide) (by rw [e]; rfl)
      replace K := Lib.hid (K.out.below (below_box (Below.refl w2.heap.size w2) (.cells #[.int .i64 m.z, .slice (some ⟨g, 0, none⟩) m.cells.length pc, .slice q m.log.length qc] 31)))
      replace K0 := Lib.hid (K0.out.below (below_box (Below.refl w2.heap.size w2) (.cells #[.int .i64 m.z, .slice (some ⟨g, 0, none⟩) m.cells.length pc, .slice q m.log.length qc] 31)))
      replace B := Lib.hid (below_box B.out (.cells #[.int .i64 m.z, .slice (some ⟨g, 0, none⟩) m.cells.length pc, .slice q m.log.length qc] 31))
      have HR := Lib.hid hro
      have HD := Lib.hid hdat
      clear ho hMB hb hro hdat CP i0 i1 i2
      go_wp2_with fail
      generalize hC : w2.alloc (.cells #[.int .i64 m.z, .slice (some ⟨g, 0, none⟩) m.cells.length pc, .slice q m.log.length qc] 31) = wC at *
      have sC : w2.heap.size + 1 ≤ wC.heap.size := by rw [← hC]; simp
      clear hC
      have V : Hid (Below wC.heap.size wC (wC.alloc (.cells #[] 5)).drew) := Lib.hid (below_drew (below_box (Below.refl wC.heap.size wC) (.cells #[] 5)))
      have OE : Hid ((wC.alloc (.cells #[] 5)).drew.ownsRow wC.heap.size 5 1 (.slice (some ⟨wC.heap.size, 0, none⟩) 0 0) 0 []) := Lib.hid (own_below (World.ownsRow_made (base := wC.heap.size) (e := 5) (size := 1) wC #[] 0 (Nat.le_refl _) (by unfold maxLen; omega) rfl) (belowN 1))
      have RY := Lib.hid ((DV.out.below B.out).below V.out).now
      have z1 : wC.drew.cell? ⟨w2.heap.size, 1, none⟩ = some (.slice (some ⟨g, 0, none⟩) m.cells.length pc) := cur_cell MB.out.box 1
      have z1' : (wC.alloc (.cells #[] 5)).drew.cell? ⟨w2.heap.size, 1, none⟩ = some (.slice (some ⟨g, 0, none⟩) m.cells.length pc) := cell_keep (w := wC) z1 V.out
      have hvs : vs.length = m.cells.length := HD.out.len
      go_region_held3 (fun w' => w'.cell? ⟨w2.heap.size, 1, none⟩ = some (.slice (some ⟨g, 0, none⟩) m.cells.length pc))
        (first | exact z1 | exact z1' | exact SC.out | exact SD.out)
        (first
          | (refine step_app_row (by rfl) _ _ _ (by rfl) 5 (.int .u8 0) 1 Try.underlying38 Try.info5 rfl wC.heap.size 0 (.slice (some ⟨wC.heap.size, 0, none⟩) 0 0) [] (by rfl) OE.out da l.length dac (l.map bval) (by rfl) (List.length_map _) RY.out (ones_bval l) (by unfold maxLen; omega) (by omega) (by simp) ?_; intro v5 w5 ho5 hg5; simp only [Nat.zero_add, List.nil_append] at ho5; obtain ⟨d, dc, rfl⟩ := own_shape ho5; have B5 := Lib.hid (V.out.grown hg5 (by simp) (fun g hg => (OE.out.lt g hg).1)); have OD := Lib.hid (ByteSOwn.mk ho5); have SC := Lib.hid (cell_keep (w := wC) z1 B5.out); have SD := Lib.hid (cell_set (b' := g) (i := jj) (u := .slice d l.length dc) SC.out (fun e => hgb e.symm)); have O5 := own_below HR.out B5.out; have t1 : w5.cell? ⟨g, jj, none⟩ = some (vs[jj]'(by omega)) := (by rw [O5.cellAt jj (by omega), List.getElem?_eq_getElem]); have f1 := O5.frozenAt jj; have s5 : wC.heap.size ≤ w5.heap.size := B5.out.size; clear ho5 hg5 O5))
      have MB5 := Lib.hid (MB.out.replace (by omega) HR.out HD.out B5.out OD.out hj)
      have K5 := Lib.hid ((turned_own_set (own_below HR.out B5.out) jj (.slice d l.length dc)) _ _ _ _ (kept_block K.out.now B5.out) (by decide))
      have K05 := Lib.hid ((turned_own_set (own_below HR.out B5.out) jj (.slice d l.length dc)) _ _ _ _ (kept_block K0.out.now B5.out) (by decide))
      replace B := Lib.hid ((below_seq B.out B5.out).setCell (p := ⟨g, jj, none⟩) (by have := (HR.out.lt g rfl).1; simp; omega) (.slice d l.length dc))
      generalize hW : w5.setCell ⟨g, jj, none⟩ (.slice d l.length dc) = w6 at *
      have s6 : w5.heap.size = w6.heap.size := by rw [← hW]; simp
      rw [s6] at s5
      clear hW s6 t1 f1 SC SD z1 z1' OD B5 RY OE V HR HD MB K K0
      obtain ⟨q0, qc0, eq, hrow, _⟩ := MB5.out.log
      simp at eq
      obtain ⟨rfl, rfl⟩ := eq
      have O1 := Lib.hid (hrow.alloc (.cells #[.int .i64 2, .int .i64 jj, .int .i64 m.z] 54))
      have RT := Lib.hid (row_touch w6 2 jj m.z)
      have wB := Lib.hid (below_box (Below.refl w6.heap.size w6) (.cells #[.int .i64 2, .int .i64 jj, .int .i64 m.z] 54))
      have t0 : w6.cell? ⟨w.heap.size, 0, none⟩ = some (.int .i64 m.z) := cur_cell K05.out 0
      have t2 : w6.cell? ⟨w2.heap.size, 2, none⟩ = some (.slice q m.log.length qc) := cur_cell MB5.out.box 2
      clear hrow
      go_wp2_with (at_builtin; go_must (refine wp_app_rowS rfl _ _ 29 rfl 54 _ 3 24 Try.underlying29 Try.infoTouch rfl (by omega) (w.heap.size + 1 + 1) m.log.length (.slice q m.log.length qc) (flatT m.log) (by rfl) O1.out (some ⟨w6.heap.size, 0, none⟩) 1 1 (flatT [⟨2, jj, m.z⟩]) (by rfl) rfl RT.out (flatT_one _) (by unfold maxLen; omega) (by omega) (by simp; omega) ?_); intro v3 w3 ho3 hg3; rw [← flatT_app] at ho3; obtain ⟨y, yc, rfl⟩ := own_shape ho3; have MB4 := Lib.hid (MB5.out.logged (by omega) wB.out hg3 ho3); have T3 := Lib.hid (Turned.own O1.out hg3); have bx := T3.out _ _ _ _ (kept_block MB5.out.box wB.out) (by decide); have v2 : w3.cell? ⟨w2.heap.size, 2, none⟩ = some (.slice q m.log.length qc) := cur_cell bx 2; have u2 := cur_free bx 2; have bz := cur_set bx 2 (.slice y (m.log.length + 1) yc); have R1 := Lib.hid ((Below.heap_setCell w3 ⟨w2.heap.size, 2, none⟩ (.slice y (m.log.length + 1) yc) (w.heap.size + 1) (by simp; omega)).trans (T3.out _ _ _ _ (kept_block K5.out wB.out) (by decide))); replace B := Lib.hid (((below_box B.out (.cells #[.int .i64 2, .int .i64 jj, .int .i64 m.z] 54)).grown hg3 (by simp; omega) (fun g hg => by have := (O1.out.lt g hg).1; omega)).setCell (p := ⟨w2.heap.size, 2, none⟩) (by simp; omega) (.slice y (m.log.length + 1) yc)); have q0 : (w3.setCell ⟨w2.heap.size, 2, none⟩ (.slice y (m.log.length + 1) yc)).cell? ⟨w2.heap.size, 0, none⟩ = some (.int .i64 m.z) := cur_cell bz 0; have q1 : (w3.setCell ⟨w2.heap.size, 2, none⟩ (.slice y (m.log.length + 1) yc)).cell? ⟨w2.heap.size, 1, none⟩ = some (.slice (some ⟨g, 0, none⟩) m.cells.length pc) := cur_cell bz 1; have q2 : (w3.setCell ⟨w2.heap.size, 2, none⟩ (.slice y (m.log.length + 1) yc)).cell? ⟨w2.heap.size, 2, none⟩ = some (.slice y (m.log.length + 1) yc) := cur_cell bz 2; have r0 : (w3.setCell ⟨w2.heap.size, 2, none⟩ (.slice y (m.log.length + 1) yc)).cell? ⟨w.heap.size + 1, 0, none⟩ = some (.int .i64 0) := cur_cell R1.out 0; have r1 : (w3.setCell ⟨w2.heap.size, 2, none⟩ (.slice y (m.log.length + 1) yc)).cell? ⟨w.heap.size + 1, 1, none⟩ = some (.slice none 0 0) := cur_cell R1.out 1; have r2 : (w3.setCell ⟨w2.heap.size, 2, none⟩ (.slice y (m.log.length + 1) yc)).cell? ⟨w.heap.size + 1, 2, none⟩ = some (.slice none 0 0) := cur_cell R1.out 2; have f0 := cur_free R1.out 0; have f1 := cur_free R1.out 1; have f2 := cur_free R1.out 2; obtain ⟨w4, hW⟩ : ∃ w4, w3.setCell ⟨w2.heap.size, 2, none⟩ (.slice y (m.log.length + 1) yc) = w4 := ⟨_, rfl⟩; rw [hW] at q0 q1 q2 r0 r1 r2 f0 f1 f2 MB4 B; have s4 : w6.heap.size ≤ w4.heap.size := (by rw [← hW]; have := hg3.size; simp at this ⊢; omega); clear ho3 hg3 bx bz t0 t2 K5 K05 MB5 O1 wB T3 R1 RT)
      have ag : ∀ i, w.heap.size + 1 + 1 ≤ i → (((w4.setCell ⟨w.heap.size + 1, 0, none⟩ (.int .i64 m.z)).setCell ⟨w.heap.size + 1, 1, none⟩ (.slice (some ⟨g, 0, none⟩) m.cells.length pc)).setCell ⟨w.heap.size + 1, 2, none⟩ (.slice y (m.log.length + 1) yc)).heap[i]? = w4.heap[i]? := fun i h1 => sset3_above (by omega) _ _ _
      refine bodyPost_ret (v := .tuple #[.agg #[.int .i64 m.z, .slice (some ⟨g, 0, none⟩) m.cells.length pc, .slice y (m.log.length + 1) yc], .int .i64 0]) (by simp [results, Try.results22, go_sem, r0, r1, r2]) rfl
        ⟨_, _, _, by rw [A.out], ?_, sbelow_set3 B.out (by omega) _ _ _⟩
      rw [HY.out]
      exact ⟨_, _, rfl, (MB4.out.cells.sup (fun i h1 _ => ag i h1)).wide (by omega) (by rw [ssize_set3]; exact Nat.le_refl _), ((MB4.out.log.lies (Nat.le_refl _)).sup _ (fun i h1 _ => ag i h1)).wide (by omega) (by rw [ssize_set3]; exact Nat.le_refl _)⟩
    · have A : Hid (writeC m jj l = 4) := Lib.hid (acc_full h1 h2 h3 h4)
      have d3 : ((l.length : Int) != m.z) = false := by simp [h3]
      have d4 : ((m.log.length : Int) == 6000) = true := by simp; omega
      have g6' : jj < m.cells.length := hj
      clear h1 h2 m5 h3
      go_enter Try.func22, Try.ntmps22
      go_wp2_with fail
      refine OK.out.mono ?_
      rintro e w1 ⟨rfl, hb⟩
      have KB := (K.out.below hb).now
      have k0 : w1.cell? ⟨w.heap.size + 1, 0, none⟩ = some (.int .i64 0) := cur_cell KB 0
      have k1 : w1.cell? ⟨w.heap.size + 1, 1, none⟩ = some (.slice none 0 0) := cur_cell KB 1
      have k2 : w1.cell? ⟨w.heap.size + 1, 2, none⟩ = some (.slice none 0 0) := cur_cell KB 2
      have f0 := cur_free KB 0
      have f1 := cur_free KB 1
      have f2 := cur_free KB 2
      have j1 : w1.cell? ⟨w.heap.size, 1, none⟩ = some (.slice a m.cells.length cap) := cur_cell (K0.out.below hb).now 1
      have j0 : w1.cell? ⟨w.heap.size, 0, none⟩ = some (.int .i64 m.z) := cur_cell (K0.out.below hb).now 0
      have j2 : w1.cell? ⟨w.heap.size, 2, none⟩ = some (.slice x m.log.length xc) := cur_cell (K0.out.below hb).now 2
      replace B := Lib.hid (below_seq B.out hb)
      clear hb KB
      go_wp2
      exact bodyPost_ret (v := .tuple #[.agg #[.int .i64 0, .slice none 0 0, .slice none 0 0], .int .i64 4]) (by simp [results, Try.results22, go_sem, k0, k1, k2]) rfl
        (write_fail A.out (by decide) (sbelow_set3 B.out (by omega) _ _ _))
  · have A : Hid (writeC m jj l = 3) := Lib.hid (acc_size h1 h2 h3)
    have d3 : ((l.length : Int) != m.z) = true := by simp [h3]
    have g6' : jj < m.cells.length := hj
    clear h1 h2 m5 h3
    go_enter Try.func22, Try.ntmps22
    go_wp2_with fail
    refine OK.out.mono ?_
    rintro e w1 ⟨rfl, hb⟩
    have KB := (K.out.below hb).now
    have k0 : w1.cell? ⟨w.heap.size + 1, 0, none⟩ = some (.int .i64 0) := cur_cell KB 0
    have k1 : w1.cell? ⟨w.heap.size + 1, 1, none⟩ = some (.slice none 0 0) := cur_cell KB 1
    have k2 : w1.cell? ⟨w.heap.size + 1, 2, none⟩ = some (.slice none 0 0) := cur_cell KB 2
    have f0 := cur_free KB 0
    have f1 := cur_free KB 1
    have f2 := cur_free KB 2
    have j1 : w1.cell? ⟨w.heap.size, 1, none⟩ = some (.slice a m.cells.length cap) := cur_cell (K0.out.below hb).now 1
    have j0 : w1.cell? ⟨w.heap.size, 0, none⟩ = some (.int .i64 m.z) := cur_cell (K0.out.below hb).now 0
    replace B := Lib.hid (below_seq B.out hb)
    clear hb KB
    go_wp2
    exact bodyPost_ret (v := .tuple #[.agg #[.int .i64 0, .slice none 0 0, .slice none 0 0], .int .i64 3]) (by simp [results, Try.results22, go_sem, k0, k1, k2]) rfl
      (write_fail A.out (by decide) (sbelow_set3 B.out (by omega) _ _ _))
end Go.Proofs.Ythllgpcdaimmgaa
