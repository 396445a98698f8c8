/- Memories in the laws' uniform form: arguments read; the helpers over them. -/
import Derived.Test.YthllgpcdaimmgaaMemCelB
import Derived.Test.YthllgpcdaimmgaaReads
namespace Go.Proofs.Ythllgpcdaimmgaa
open Go.RowKit Go.ChangeShapes Go.WideShapes Go.Deep
set_option linter.unusedVariables false

theorem cells?_at {w : World} {base : Nat} {a : Addr} {v0 v1 v2 : Value} (h : w.cells? base a 3 = some [v0, v1, v2]) : w.cell? (a.add 0) = some v0 ∧ w.cell? (a.add 1) = some v1 ∧ w.cell? (a.add 2) = some v2 := by
  unfold World.cells? at h
  split at h
  · simp [List.range, List.range.loop, bind, Option.bind] at h
    split at h
    · cases h
    · rename_i x0 e0
      split at h
      · cases h
      · rename_i x1 e1
        split at h
        · cases h
        · rename_i x2 e2
          simp at h
          obtain ⟨rfl, rfl, rfl⟩ := h
          exact ⟨e0, e1, e2⟩
  · cases h
theorem Rd.touchS {w : World} {c : Value} (h : Rd w 23 [c]) : ∃ l, TouchSIn [c] l w := by
  have hC : Try.prog.cellsOf 81 = 3 := by kernel_rfl
  have hC1 : Try.prog.cellsOf 3 = 1 := by kernel_rfl
  rcases h.slice Try.underlying23 with h | ⟨a, len, cap, h, hl, hm, hi⟩
  · simp at h
    subst h
    exact ⟨[], none, 0, rfl, Nat.le_refl _, by unfold maxLen; simp, .inl rfl⟩
  · simp at h
    subst h
    have key : ∀ i, i < len → ∃ t : TouchM, w.cell? ((a.add (i * 3)).add 0) = some (.int .i64 t.op) ∧ w.cell? ((a.add (i * 3)).add 1) = some (.int .i64 t.ad) ∧ w.cell? ((a.add (i * 3)).add 2) = some (.int .i64 t.len) := fun i hlt => by
      obtain ⟨cs', h1, h2⟩ := hi i (by omega)
      rw [hC] at h1
      obtain ⟨hcl, _⟩ := h2.struct Try.underlying81
      rw [hC] at hcl
      match cs', hcl with
      | [v0, v1, v2], _ =>
        have f0 := h2.field Try.underlying81 0 _ 3 1 [v0] rfl rfl hC1 rfl
        have f1 := h2.field Try.underlying81 1 _ 3 1 [v1] rfl rfl hC1 rfl
        have f2 := h2.field Try.underlying81 2 _ 3 1 [v2] rfl rfl hC1 rfl
        obtain ⟨z0, e0, _⟩ := f0.int Try.underlying3
        obtain ⟨z1, e1, _⟩ := f1.int Try.underlying3
        obtain ⟨z2, e2, _⟩ := f2.int Try.underlying3
        simp at e0 e1 e2
        subst e0 e1 e2
        obtain ⟨q0, q1, q2⟩ := cells?_at h1
        exact ⟨⟨z0, z1, z2⟩, q0, q1, q2⟩
    obtain ⟨V, hV⟩ := choose_lt key
    refine ⟨(List.range len).map V, some a, cap, by simp, by simpa using hl, by simp; omega, ?_⟩
    by_cases h0 : len = 0
    · subst h0; exact .inl rfl
    · obtain ⟨b, off, spot⟩ := a
      have hspot : spot = none := by simpa [Addr.add] using World.cell?_spot (hV 0 (by omega)).1
      subst hspot
      have e1 : ∀ o k, (⟨b, o, none⟩ : Addr).add k = ⟨b, o + k, none⟩ := fun o k => by unfold Addr.add; split <;> simp_all
      have ea : ∀ i j, ((⟨b, off, none⟩ : Addr).add i).add j = ⟨b, off + (i + j), none⟩ := fun i j => by rw [e1, e1, Nat.add_assoc]
      refine .inr ⟨b, off, rfl, fun j hj => ?_⟩
      rw [flatT_len] at hj
      simp at hj
      have hk : j / 3 < ((List.range len).map V).length := by simp; omega
      obtain ⟨g0, g1, g2⟩ := flatT_at ((List.range len).map V) (j / 3) hk
      obtain ⟨q0, q1, q2⟩ := hV (j / 3) (by omega)
      rw [ea] at q0 q1 q2
      have ev : ((List.range len).map V)[j / 3] = V (j / 3) := by simp
      rw [ev] at g0 g1 g2
      have hm3 : j % 3 = 0 ∨ j % 3 = 1 ∨ j % 3 = 2 := by omega
      rcases hm3 with h | h | h
      · rw [show j / 3 * 3 = j from by omega] at g0; rw [show j / 3 * 3 + 0 = j from by omega] at q0; rw [q0, g0]
      · rw [show j / 3 * 3 + 1 = j from by omega] at q1 g1; rw [q1, g1]
      · rw [show j / 3 * 3 + 2 = j from by omega] at q2 g2; rw [q2, g2]
theorem argTouchS {w : World} {v : Value} (h : Arg w 23 v) : ∃ c m, v = c ∧ TouchSIn [c] m w ∧ True := by
  obtain ⟨a, len, cap, rfl, hr⟩ := h.slice Try.underlying23
  obtain ⟨l, hl⟩ := hr.touchS
  exact ⟨_, l, rfl, hl, trivial⟩
theorem Rd.cellS {w : World} {c : Value} (h : Rd w 22 [c]) : ∃ l, CellSIn [c] l w := by
  have hC : Try.prog.cellsOf 78 = 1 := by kernel_rfl
  have hC1 : Try.prog.cellsOf 38 = 1 := by kernel_rfl
  have hC2 : Try.prog.cellsOf 5 = 1 := by kernel_rfl
  rcases h.slice Try.underlying22 with h | ⟨a, len, cap, h, hl, hm, hi⟩
  · simp at h
    subst h
    exact ⟨[], none, 0, [], rfl, Nat.le_refl _, by unfold maxLen; simp, .inl rfl, rfl, fun i v l h _ => by simp at h⟩
  · simp at h
    subst h
    have key : ∀ i, i < len → ∃ p : Value × List UInt8, w.cell? (a.add i) = some p.1 ∧ ByteSIn [p.1] p.2 w := fun i hlt => by
      obtain ⟨cs', h1, h2⟩ := hi i (by omega)
      rw [hC, Nat.mul_one] at h1
      obtain ⟨hcl, _⟩ := h2.struct Try.underlying78
      rw [hC] at hcl
      match cs', hcl with
      | [v0], _ =>
        have f0 := h2.field Try.underlying78 0 _ 38 1 [v0] rfl rfl hC1 rfl
        obtain ⟨x, xc, l, e, h1', h2', h3, h4⟩ := f0.ints Try.underlying38 Try.underlying5 hC2
        simp at e
        subst e
        obtain ⟨m, e1, e2⟩ := bytes_of l h4
        exact ⟨⟨_, m⟩, cell_of_cells?_one h1, ⟨x, xc, by rw [e1], show m.length ≤ xc from by omega, show m.length ≤ maxLen from by omega, by rw [e2]; exact h3⟩⟩
    obtain ⟨V, hV⟩ := choose_lt key
    refine ⟨(List.range len).map (fun i => (V i).2), some a, cap, (List.range len).map (fun i => (V i).1), by simp, by simpa using hl, by simp; omega, ?_, by simp, ?_⟩
    · by_cases h0 : len = 0
      · subst h0; exact .inl rfl
      · obtain ⟨b, off, spot⟩ := a
        have hspot : spot = none := by simpa [Addr.add] using World.cell?_spot (hV 0 (by omega)).1
        subst hspot
        refine .inr ⟨b, off, rfl, fun i hi => ?_⟩
        have hlt : i < len := by simpa using hi
        have e := (hV i hlt).1
        have ea : (⟨b, off, none⟩ : Addr).add i = ⟨b, off + i, none⟩ := by simp [Addr.add]
        rw [ea] at e
        rw [e]
        simp [hlt]
    · intro i v l h1 h2
      have hlt : i < len := by
        rcases Nat.lt_or_ge i len with h | h
        · exact h
        · rw [List.getElem?_eq_none (by simpa using h)] at h1; cases h1
      simp [hlt] at h1 h2
      subst h1 h2
      exact (hV i hlt).2
theorem argMem {w : World} {v : Value} (h : Arg w 25 v) : ∃ c0 c1 c2 m, v = .agg #[c0, c1, c2] ∧ MemIn [c0, c1, c2] m w ∧ (-9223372036854775808 ≤ m.z ∧ m.z ≤ 9223372036854775807) := by
  obtain ⟨cs, rfl, hl, hr⟩ := h.agg Try.underlying25
  have hC : Try.prog.cellsOf 25 = 3 := by kernel_rfl
  have hC0 : Try.prog.cellsOf 3 = 1 := by kernel_rfl
  have hC1 : Try.prog.cellsOf 22 = 1 := by kernel_rfl
  have hC2 : Try.prog.cellsOf 23 = 1 := by kernel_rfl
  rw [hC] at hl
  match cs, hl with
  | [c0, c1, c2], _ =>
    have f0 := hr.field Try.underlying25 0 _ 3 1 [c0] rfl rfl hC0 rfl
    have f1 := hr.field Try.underlying25 1 _ 22 1 [c1] rfl rfl hC1 rfl
    have f2 := hr.field Try.underlying25 2 _ 23 1 [c2] rfl rfl hC2 rfl
    obtain ⟨z, e, hz⟩ := f0.int Try.underlying3
    simp at e
    subst e
    obtain ⟨ls, h1⟩ := f1.cellS
    obtain ⟨lg, h2⟩ := f2.touchS
    exact ⟨_, c1, c2, ⟨z, ls, lg⟩, rfl, ⟨c1, c2, rfl, h1, h2⟩, wf_i64 hz⟩
/-- What is counted of a memory, and how many marks it takes. -/
def szMem (m : MemM) : Nat := (m.cells.length + sumL m.cells) + m.log.length
def mcMem (m : MemM) : Nat := sumL m.cells + m.log.length * 3
def mkMem (k : Nat) (m : MemM) : MemM := ⟨m.z, mkC k m.cells, marksT (k + sumL m.cells) m.log.length⟩
theorem mcMem_le {m : MemM} (h : szMem m ≤ 1048576) : mcMem m ≤ 1000000000000 := by unfold szMem at h; unfold mcMem; omega
def MemRet (m : MemM) (w : World) (e : Ending) (w' : World) : Prop := ∃ c0 c1 c2, e = .returned (.agg #[c0, c1, c2]) ∧ MemOwn w.heap.size w'.heap.size [c0, c1, c2] m w' ∧ Below w.heap.size w w'
theorem szI_add {left : Int} {a b : Nat} (h : ¬ left - a < 0) : szI (left - a) b = szI left (a + b) := by
  unfold szI
  have e : left - (a : Int) - (b : Int) = left - ((a + b : Nat) : Int) := by omega
  rw [e]
theorem szI_first {left : Int} {a b : Nat} (h : left - a < 0) : szI left (a + b) = -1 := szI_no (by omega)
set_option maxHeartbeats 1000000 in
theorem uSzMem (c0 c1 c2 : Value) (m : MemM) (left : Int) (w : World) (h0 : 0 ≤ left) (h1 : left ≤ 1048576) (h : MemIn [c0, c1, c2] m w) :
    Calls Try.prog 8 #[.agg #[c0, c1, c2], .int .i64 left] w fun e w' => e = .returned (.int .i64 (szI left (szMem m))) ∧ Below w.heap.size w w' := by
  obtain ⟨rfl, hc, ht⟩ := memIn_shape h
  obtain ⟨a, cap, _, rfl, _⟩ := cellSIn_shape hc
  obtain ⟨a2, cap2, rfl, _, t2, _⟩ := touchSIn_shape ht
  have hb0 := below_box (Below.refl w.heap.size w) (.cells #[.int .i64 m.z, .slice a m.cells.length cap, .slice a2 m.log.length cap2] 25)
  have K := Lib.hid (lies_box w (.cells #[.int .i64 m.z, .slice a m.cells.length cap, .slice a2 m.log.length cap2] 25))
  have S1 := Lib.hid (lawsSzCellS _ m.cells left _ h0 h1 (hc.lies.below hb0).now)
  have B := Lib.hid hb0
  clear hb0 h hc ht
  by_cases g : left - (szCells m.cells : Int) < 0
  · have E : Hid (szI left (szMem m) = -1) := Lib.hid (by unfold szMem; unfold szCells at g; exact szI_first g)
    rw [szI_no g] at S1
    clear g
    go_enter Try.func8, Try.ntmps8
    go_wp2_with fail
    refine S1.out.mono ?_
    rintro e w1 ⟨rfl, hb⟩
    replace B := Lib.hid (below_seq B.out hb)
    clear hb
    go_wp2
    go_ret
    exact ⟨ret_int E.out.symm, B.out⟩
  · have E : Hid (szI left (szMem m) = szI (left - (szCells m.cells : Int)) m.log.length) := Lib.hid (by rw [szI_add g]; rfl)
    rw [szI_yes g] at S1
    have x0 : 0 ≤ left - (szCells m.cells : Int) := by omega
    have x1 : left - (szCells m.cells : Int) ≤ 1048576 := by omega
    clear g
    generalize left - (szCells m.cells : Int) = x at *
    by_cases g : x - (m.log.length : Int) < 0
    · rw [szI_no g] at E
      have G := Lib.hid g
      go_enter Try.func8, Try.ntmps8
      go_wp2_with fail
      refine S1.out.mono ?_
      rintro e w1 ⟨rfl, hb⟩
      have k2 : w1.cell? ⟨w.heap.size, 2, none⟩ = some (.slice a2 m.log.length cap2) := cur_cell (K.out.below hb).now 2
      replace B := Lib.hid (below_seq B.out hb)
      clear hb
      go_wp2_with fail
      refine (lawsSzTouchS a2 m.log.length cap2 x w1 t2 x0 x1).mono ?_
      rintro e w2 ⟨rfl, rfl⟩
      rw [szI_no (by have := G.out; omega)]
      go_wp2
      go_ret
      exact ⟨ret_int E.out.symm, B.out⟩
    · rw [szI_yes g] at E
      have G := Lib.hid g
      go_enter Try.func8, Try.ntmps8
      go_wp2_with fail
      refine S1.out.mono ?_
      rintro e w1 ⟨rfl, hb⟩
      have k2 : w1.cell? ⟨w.heap.size, 2, none⟩ = some (.slice a2 m.log.length cap2) := cur_cell (K.out.below hb).now 2
      replace B := Lib.hid (below_seq B.out hb)
      clear hb
      go_wp2_with fail
      refine (lawsSzTouchS a2 m.log.length cap2 x w1 t2 x0 x1).mono ?_
      rintro e w2 ⟨rfl, rfl⟩
      rw [szI_yes (by have := G.out; omega)]
      go_wp2
      go_ret
      exact ⟨ret_int E.out.symm, B.out⟩
set_option maxHeartbeats 1000000 in
theorem uEqMem (c0 c1 c2 d0 d1 d2 : Value) (m : MemM) (w : World) (h : MemIn [c0, c1, c2] m w) (k : MemIn [d0, d1, d2] m w) : Calls Try.prog 12 #[.agg #[c0, c1, c2], .agg #[d0, d1, d2]] w (TruePost w) := by
  obtain ⟨rfl, hc, ht⟩ := memIn_shape h
  obtain ⟨rfl, kc, kt⟩ := memIn_shape k
  obtain ⟨a, cap, _, rfl, _⟩ := cellSIn_shape hc
  obtain ⟨a', cap', _, rfl, _⟩ := cellSIn_shape kc
  obtain ⟨a2, cap2, rfl, _, t2, _⟩ := touchSIn_shape ht
  obtain ⟨a2', cap2', rfl, _, _, _⟩ := touchSIn_shape kt
  have hb0 := below_box (below_box (Below.refl w.heap.size w) (.cells #[.int .i64 m.z, .slice a m.cells.length cap, .slice a2 m.log.length cap2] 31)) (.cells #[.int .i64 m.z, .slice a' m.cells.length cap', .slice a2' m.log.length cap2'] 31)
  have K1 := Lib.hid ((lies_box w (.cells #[.int .i64 m.z, .slice a m.cells.length cap, .slice a2 m.log.length cap2] 31)).box (.cells #[.int .i64 m.z, .slice a' m.cells.length cap', .slice a2' m.log.length cap2'] 31))
  have K2 := Lib.hid (lies_box (w.alloc (.cells #[.int .i64 m.z, .slice a m.cells.length cap, .slice a2 m.log.length cap2] 31)) (.cells #[.int .i64 m.z, .slice a' m.cells.length cap', .slice a2' m.log.length cap2'] 31))
  simp only [size_box] at K2
  have S1 := Lib.hid (lawsEqCellS _ _ m.cells _ (hc.lies.below hb0).now (kc.lies.below hb0).now)
  have H := Lib.hid (ht.lies.below hb0)
  have HK := Lib.hid (kt.lies.below hb0)
  have B := Lib.hid hb0
  clear hb0 h hc ht k kc kt
  go_enter Try.func12, Try.ntmps12
  go_wp2_with fail
  refine S1.out.mono ?_
  rintro e w1 ⟨rfl, hb⟩
  have k1 : w1.cell? ⟨w.heap.size, 2, none⟩ = some (.slice a2 m.log.length cap2) := cur_cell (K1.out.below hb).now 2
  have k2 : w1.cell? ⟨w.heap.size + 1, 2, none⟩ = some (.slice a2' m.log.length cap2') := cur_cell (K2.out.below hb).now 2
  replace B := Lib.hid (below_seq B.out hb)
  obtain ⟨x, xc, e1, _, _, hr⟩ := touchSIn_shape (H.out.below hb).now
  obtain ⟨y, yc, e2, _, _, hs⟩ := touchSIn_shape (HK.out.below hb).now
  simp at e1 e2
  obtain ⟨rfl, rfl⟩ := e1
  obtain ⟨rfl, rfl⟩ := e2
  have S2 := Lib.hid (lawsEqTouchS a2 a2' cap2 cap2' m.log w1 t2 hr hs)
  clear hb hr hs S1
  go_wp2_with fail
  refine S2.out.mono ?_
  rintro e w2 ⟨rfl, hb⟩
  replace B := Lib.hid (below_seq B.out hb)
  clear hb
  go_wp2
  go_ret
  exact ⟨rfl, B.out⟩
set_option maxHeartbeats 2000000 in
theorem uToMem (c0 c1 c2 : Value) (m : MemM) (w : World) (hl : szMem m ≤ 1048576) (h : MemIn [c0, c1, c2] m w) : Calls Try.prog 10 #[.agg #[c0, c1, c2]] w (MemRet m w) := by
  obtain ⟨rfl, hc, ht⟩ := memIn_shape h
  obtain ⟨a, cap, _, rfl, _⟩ := cellSIn_shape hc
  obtain ⟨a2, cap2, rfl, _, t2, _⟩ := touchSIn_shape ht
  have l1 : szCells m.cells ≤ 1048576 := by unfold szMem at hl; unfold szCells; omega
  have l2 : m.log.length ≤ 1048576 := by unfold szMem at hl; omega
  generalize hA : w.alloc (.cells #[.int .i64 m.z, .slice a m.cells.length cap, .slice a2 m.log.length cap2] 25) = wA
  have sA : wA.heap.size = w.heap.size + 1 := by rw [← hA]; simp
  have hb0 : Below w.heap.size w ((wA.alloc (.cells #[.int .i64 0, .slice none 0 0, .slice none 0 0] 31)).alloc (.cells #[.int .i64 m.z, .slice none 0 0, .slice none 0 0] 31)) := by
    rw [← hA]; exact below_box (below_box (below_box (Below.refl w.heap.size w) _) _) _
  have K0 := Lib.hid (((lies_box w (.cells #[.int .i64 m.z, .slice a m.cells.length cap, .slice a2 m.log.length cap2] 25)).box (.cells #[.int .i64 0, .slice none 0 0, .slice none 0 0] 31)).box (.cells #[.int .i64 m.z, .slice none 0 0, .slice none 0 0] 31))
  rw [hA] at K0
  have K1 := Lib.hid ((lies_box wA (.cells #[.int .i64 0, .slice none 0 0, .slice none 0 0] 31)).box (.cells #[.int .i64 m.z, .slice none 0 0, .slice none 0 0] 31))
  have K2 := Lib.hid (lies_box (wA.alloc (.cells #[.int .i64 0, .slice none 0 0, .slice none 0 0] 31)) (.cells #[.int .i64 m.z, .slice none 0 0, .slice none 0 0] 31))
  simp only [size_box, sA] at K1 K2
  have S1 := Lib.hid (lawsToCellS _ m.cells _ l1 (hc.lies.below hb0).now)
  have H := Lib.hid ht.lies
  have B := Lib.hid hb0
  subst hA
  clear hb0 h hc ht sA
  go_enter Try.func10, Try.ntmps10
  go_wp2_with fail
  refine S1.out.mono ?_
  rintro e w1 ⟨c', rfl, ho, hb⟩
  obtain ⟨x, xn, xc, rfl⟩ := ho.shape
  simp only [size_box] at ho
  have s1 : w.heap.size + 1 + 1 + 1 ≤ w1.heap.size := by have := hb.size; simpa only [size_box] using this
  have L1 := (K1.out.below hb).now
  have L2 := (K2.out.below hb).now
  have k02 : w1.cell? ⟨w.heap.size, 2, none⟩ = some (.slice a2 m.log.length cap2) := cur_cell (K0.out.below hb).now 2
  have k1 : w1.cell? ⟨w.heap.size + 1 + 1, 1, none⟩ = some (.slice none 0 0) := cur_cell L2 1
  have f1 := cur_free L2 1
  have OC := Lib.hid ho
  have L2' := Lib.hid (cur_set L2 1 (.slice x xn xc))
  have L1' := Lib.hid ((Below.heap_setCell w1 ⟨w.heap.size + 1 + 1, 1, none⟩ (.slice x xn xc) (w.heap.size + 1) (by simp)).trans L1)
  have B1 := Lib.hid ((below_seq B.out hb).setCell (p := ⟨w.heap.size + 1 + 1, 1, none⟩) (by simp; omega) (.slice x xn xc))
  have OC' := Lib.hid (OC.out.sup (w' := w1.setCell ⟨w.heap.size + 1 + 1, 1, none⟩ (.slice x xn xc)) (fun k h1 h2 => Below.heap_setCell _ _ _ k (by simp; omega)))
  have k02' : (w1.setCell ⟨w.heap.size + 1 + 1, 1, none⟩ (.slice x xn xc)).cell? ⟨w.heap.size, 2, none⟩ = some (.slice a2 m.log.length cap2) := cell_set k02 (by omega)
  clear ho hb S1 L1 L2 B K0 K1 K2 OC
  generalize hW : w1.setCell ⟨w.heap.size + 1 + 1, 1, none⟩ (.slice x xn xc) = W1 at *
  have s2 : w1.heap.size = W1.heap.size := by rw [← hW]; simp
  rw [s2] at OC' s1
  obtain ⟨y, yc, e1, _, _, hr⟩ := touchSIn_shape (H.out.below B1.out).now
  simp at e1
  obtain ⟨rfl, rfl⟩ := e1
  have S2 := Lib.hid (lawsToTouchS a2 cap2 m.log W1 l2 hr)
  clear hr s2
  go_wp2_with fail
  clear hW k02 k1 f1
  refine S2.out.mono ?_
  rintro e w2 ⟨rfl, ho, hb⟩
  have s3 : W1.heap.size ≤ w2.heap.size := hb.size
  have M1 := kept_block L1'.out hb
  have M2 := kept_block L2'.out hb
  have j0 : w2.cell? ⟨w.heap.size + 1 + 1, 0, none⟩ = some (.int .i64 m.z) := cur_cell M2 0
  have j1 : w2.cell? ⟨w.heap.size + 1 + 1, 1, none⟩ = some (.slice x xn xc) := cur_cell M2 1
  have j2 : w2.cell? ⟨w.heap.size + 1 + 1, 2, none⟩ = some (.slice none 0 0) := cur_cell M2 2
  have i0 : w2.cell? ⟨w.heap.size + 1, 0, none⟩ = some (.int .i64 0) := cur_cell M1 0
  have i1 : w2.cell? ⟨w.heap.size + 1, 1, none⟩ = some (.slice none 0 0) := cur_cell M1 1
  have i2 : w2.cell? ⟨w.heap.size + 1, 2, none⟩ = some (.slice none 0 0) := cur_cell M1 2
  have f2 := cur_free M2 2
  have g0 := cur_free M1 0
  have g1 := cur_free M1 1
  have g2 := cur_free M1 2
  have OT := Lib.hid (TouchSOwn.mk ho)
  have OC2 := Lib.hid ((OC'.out.lies (Nat.le_refl _)).below hb).now
  have B2 := Lib.hid (below_seq B1.out hb)
  generalize hy : W1.heap.size = y at *
  clear ho hb S2 L1' L2' M1 M2 B1 OC' k02'
  go_wp2
  have ag : ∀ k, w.heap.size + 1 + 1 + 1 ≤ k → ((((w2.setCell ⟨w.heap.size + 1 + 1, 2, none⟩ (.slice (some ⟨y, 0, none⟩) m.log.length m.log.length)).setCell ⟨w.heap.size + 1, 0, none⟩ (.int .i64 m.z)).setCell ⟨w.heap.size + 1, 1, none⟩ (.slice x xn xc)).setCell ⟨w.heap.size + 1, 2, none⟩ (.slice (some ⟨y, 0, none⟩) m.log.length m.log.length)).heap[k]? = w2.heap[k]? := fun k hk =>
    (Below.heap_setCell _ _ _ k (by simp; omega)).trans ((Below.heap_setCell _ _ _ k (by simp; omega)).trans ((Below.heap_setCell _ _ _ k (by simp; omega)).trans (Below.heap_setCell _ _ _ k (by simp; omega))))
  exact bodyPost_ret (v := .agg #[.int .i64 m.z, .slice x xn xc, .slice (some ⟨y, 0, none⟩) m.log.length m.log.length]) (by simp [results, Try.results10, go_sem, i0, i1, i2]) rfl
    ⟨_, _, _, rfl, ⟨_, _, rfl, (OC2.out.sup (fun k h1 h2 => ag k h1)).wide (by omega) (by simp; omega), ((OT.out.lies (Nat.le_refl _)).sup _ (fun k h1 h2 => ag k (by omega))).wide (by omega) (by simp)⟩,
      (((B2.out.setCell (p := ⟨w.heap.size + 1 + 1, 2, none⟩) (by simp; omega) _).setCell (p := ⟨w.heap.size + 1, 0, none⟩) (by simp) _).setCell (p := ⟨w.heap.size + 1, 1, none⟩) (by simp) _).setCell (p := ⟨w.heap.size + 1, 2, none⟩) (by simp) _⟩
end Go.Proofs.Ythllgpcdaimmgaa
