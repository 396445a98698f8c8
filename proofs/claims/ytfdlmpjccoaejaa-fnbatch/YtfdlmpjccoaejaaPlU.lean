/- Planes in the laws' uniform form: read, owned; the helpers over them. -/
import Derived.Test.YtfdlmpjccoaejaaNuU
import Derived.Test.YtfdlmpjccoaejaaStrsU
namespace Go.Proofs.Ytfdlmpjccoaejaa
open Go.RowKit
set_option linter.unusedVariables false
set_option maxRecDepth 100000

def PlanesIn (cs : List Value) (m : PlanesM) (w : World) : Prop := ∃ c1 c2, cs = [.int .i64 m.n, c1, c2] ∧ Uint64SIn [c1] m.len w ∧ Uint64SIn [c2] m.lts w
def PlanesOwn (lo hi : Nat) (cs : List Value) (m : PlanesM) (w : World) : Prop :=
  ∃ c1 c2 mid, cs = [.int .i64 m.n, c1, c2] ∧ Uint64SOwn lo mid [c1] m.len w ∧ Uint64SOwn mid hi [c2] m.lts w ∧ lo ≤ mid ∧ mid ≤ hi
theorem PlanesOwn.read {lo hi : Nat} {cs : List Value} {m : PlanesM} {w : World} (h : PlanesOwn lo hi cs m w) : PlanesIn cs m w := by
  obtain ⟨c1, c2, mid, rfl, h1, h2, _⟩ := h
  exact ⟨c1, c2, rfl, h1.read, h2.read⟩
theorem PlanesOwn.lies {lo hi : Nat} {cs : List Value} {m : PlanesM} {w : World} (h : PlanesOwn lo hi cs m w) (ht : hi ≤ w.heap.size) : Lies w lo hi (PlanesOwn lo hi cs m) := by
  obtain ⟨c1, c2, mid, rfl, h1, h2, h3, h4⟩ := h
  exact ⟨⟨c1, c2, mid, rfl, h1, h2, h3, h4⟩, ht, fun w2 e => ⟨c1, c2, mid, rfl, (h1.lies (by omega)).sup w2 (fun k k1 k2 => e k k1 (by omega)), (h2.lies ht).sup w2 (fun k k1 k2 => e k (by omega) k2), h3, h4⟩⟩
theorem PlanesOwn.wide {lo hi lo' hi' : Nat} {cs : List Value} {m : PlanesM} {w : World} (h : PlanesOwn lo hi cs m w) (h1 : lo' ≤ lo) (h2 : hi ≤ hi') : PlanesOwn lo' hi' cs m w := by
  obtain ⟨c1, c2, mid, rfl, k1, k2, k3, k4⟩ := h
  exact ⟨c1, c2, mid, rfl, k1.wide h1 (Nat.le_refl _), k2.wide (Nat.le_refl _) h2, by omega, by omega⟩
theorem PlanesIn.lies {cs : List Value} {m : PlanesM} {w : World} (h : PlanesIn cs m w) : Lies w 0 w.heap.size (PlanesIn cs m) := by
  obtain ⟨c1, c2, rfl, h1, h2⟩ := h
  exact ⟨⟨c1, c2, rfl, h1, h2⟩, Nat.le_refl _, fun w2 e => ⟨c1, c2, rfl, h1.lies.sup w2 e, h2.lies.sup w2 e⟩⟩
theorem PlanesOwn.shape {lo hi : Nat} {c0 c1 c2 : Value} {m : PlanesM} {w : World} (h : PlanesOwn lo hi [c0, c1, c2] m w) : ∃ z a1 n1 k1 a2 n2 k2, c0 = .int .i64 z ∧ c1 = .slice a1 n1 k1 ∧ c2 = .slice a2 n2 k2 := by
  obtain ⟨d1, d2, mid, hc, h1, h2, _⟩ := h
  simp at hc
  obtain ⟨rfl, rfl, rfl⟩ := hc
  obtain ⟨a1, n1, k1, e1⟩ := h1.shape
  obtain ⟨a2, n2, k2, e2⟩ := h2.shape
  exact ⟨_, _, _, _, _, _, _, rfl, e1, e2⟩
theorem planesIn_shape {c0 c1 c2 : Value} {m : PlanesM} {w : World} (h : PlanesIn [c0, c1, c2] m w) : c0 = .int .i64 m.n ∧ Uint64SIn [c1] m.len w ∧ Uint64SIn [c2] m.lts w := by
  obtain ⟨d1, d2, hc, h1, h2⟩ := h
  simp at hc
  obtain ⟨rfl, rfl, rfl⟩ := hc
  exact ⟨rfl, h1, h2⟩
/-- The cells, opened: numbers and slices. -/
theorem planesIn_cells {c0 c1 c2 : Value} {m : PlanesM} {w : World} (h : PlanesIn [c0, c1, c2] m w) : ∃ a1 k1 a2 k2, c0 = .int .i64 m.n ∧ c1 = .slice a1 m.len.length k1 ∧ c2 = .slice a2 m.lts.length k2 ∧ m.len.length ≤ maxLen ∧ m.lts.length ≤ maxLen := by
  obtain ⟨rfl, h1, h2⟩ := planesIn_shape h
  obtain ⟨a1, k1, e1, _, m1, _⟩ := uint64SIn_shape h1
  obtain ⟨a2, k2, e2, _, m2, _⟩ := uint64SIn_shape h2
  exact ⟨a1, k1, a2, k2, rfl, e1, e2, m1, m2⟩
theorem planesOwn_parts {lo hi : Nat} {c0 c1 c2 : Value} {m : PlanesM} {w : World} (h : PlanesOwn lo hi [c0, c1, c2] m w) : ∃ mid, c0 = .int .i64 m.n ∧ Uint64SOwn lo mid [c1] m.len w ∧ Uint64SOwn mid hi [c2] m.lts w ∧ lo ≤ mid ∧ mid ≤ hi := by
  obtain ⟨d1, d2, mid, hc, h1, h2, h3, h4⟩ := h
  simp at hc
  obtain ⟨rfl, rfl, rfl⟩ := hc
  exact ⟨mid, rfl, h1, h2, h3, h4⟩
def planesBd (m : PlanesM) : Prop := (-9223372036854775808 ≤ m.n ∧ m.n ≤ 9223372036854775807) ∧ bd64 m.len ∧ bd64 m.lts
theorem argPlanes {w : World} {v : Value} (h : Arg w 52 v) : ∃ c0 c1 c2 m, v = .agg #[c0, c1, c2] ∧ PlanesIn [c0, c1, c2] m w ∧ planesBd m := by
  obtain ⟨cs, rfl, hl, hr⟩ := h.agg Try.underlying52
  have hC : Try.prog.cellsOf 52 = 3 := by kernel_rfl
  have hC0 : Try.prog.cellsOf 3 = 1 := by kernel_rfl
  have hC1 : Try.prog.cellsOf 26 = 1 := by kernel_rfl
  rw [hC] at hl
  match cs, hl with
  | [c0, c1, c2], _ =>
    have f0 := hr.field Try.underlying52 0 _ 3 1 [c0] rfl rfl hC0 rfl
    have f1 := hr.field Try.underlying52 1 _ 26 1 [c1] rfl rfl hC1 rfl
    have f2 := hr.field Try.underlying52 2 _ 26 1 [c2] rfl rfl hC1 rfl
    obtain ⟨z, e0, hz⟩ := f0.int Try.underlying3
    obtain ⟨l1, h1, b1⟩ := f1.u64s
    obtain ⟨l2, h2, b2⟩ := f2.u64s
    simp at e0
    subst e0
    exact ⟨_, _, _, ⟨z, l1, l2⟩, rfl, ⟨_, _, rfl, h1, h2⟩, wf_i64 hz, b1, b2⟩
def szPlanes (m : PlanesM) : Nat := m.len.length + m.lts.length
def mkPlanes (k : Nat) (m : PlanesM) : PlanesM := ⟨m.n, marksU k m.len.length, marksU (k + m.len.length) m.lts.length⟩
def PlanesRet (m : PlanesM) (w : World) (e : Ending) (w' : World) : Prop := ∃ c0 c1 c2, e = .returned (.agg #[c0, c1, c2]) ∧ PlanesOwn w.heap.size w'.heap.size [c0, c1, c2] m w' ∧ Below w.heap.size w w'
set_option maxHeartbeats 1000000 in
theorem uSzPlanes (c0 c1 c2 : Value) (m : PlanesM) (left : Int) (w : World) (h0 : 0 ≤ left) (h1 : left ≤ 1048576) (h : PlanesIn [c0, c1, c2] m w) :
    Calls Try.prog 39 #[.agg #[c0, c1, c2], .int .i64 left] w fun e w' => e = .returned (.int .i64 (szI left (szPlanes m))) ∧ Below w.heap.size w w' := by
  obtain ⟨rfl, k1, k2⟩ := planesIn_shape h
  obtain ⟨a1, cap1, rfl, p1, p2, _⟩ := uint64SIn_shape k1
  obtain ⟨a2, cap2, rfl, q1, q2, _⟩ := uint64SIn_shape k2
  clear k1 k2 h
  have SZ : szPlanes m = m.len.length + m.lts.length := rfl
  by_cases g1 : left - (m.len.length : Int) < 0
  · have S1 := Lib.hid (fun w => lawsSzU64S a1 m.len.length cap1 left w p2 h0 h1)
    rw [szI_no g1] at S1
    have E := Lib.hid (szI_no (left := left) (n := szPlanes m) (by rw [SZ]; omega))
    clear SZ g1
    go_enter Try.func39, Try.ntmps39
    go_wp2_with fail
    refine (S1.out _).mono ?_
    rintro e w1 ⟨rfl, rfl⟩
    go_wp2
    go_ret
    exact ⟨ret_int E.out.symm, below_box (Below.refl _ _) _⟩
  · have S1 := Lib.hid (fun w => lawsSzU64S a1 m.len.length cap1 left w p2 h0 h1)
    rw [szI_yes g1] at S1
    have S2 := Lib.hid (fun w => lawsSzU64S a2 m.lts.length cap2 (left - (m.len.length : Int)) w q2 (by omega) (by omega))
    by_cases g2 : left - (m.len.length : Int) - (m.lts.length : Int) < 0
    · rw [szI_no g2] at S2
      have E := Lib.hid (szI_no (left := left) (n := szPlanes m) (by rw [SZ]; omega))
      clear SZ g2
      go_enter Try.func39, Try.ntmps39
      go_wp2_with fail
      refine (S1.out _).mono ?_
      rintro e w1 ⟨rfl, rfl⟩
      go_wp2_with fail
      refine (S2.out _).mono ?_
      rintro e w1 ⟨rfl, rfl⟩
      go_wp2
      go_ret
      exact ⟨ret_int E.out.symm, below_box (Below.refl _ _) _⟩
    · rw [szI_yes g2] at S2
      have E := Lib.hid (szI_yes (left := left) (n := szPlanes m) (by rw [SZ]; omega))
      have E2 : Hid (left - (szPlanes m : Int) = left - (m.len.length : Int) - (m.lts.length : Int)) := Lib.hid (by rw [SZ]; omega)
      clear SZ
      go_enter Try.func39, Try.ntmps39
      go_wp2_with fail
      refine (S1.out _).mono ?_
      rintro e w1 ⟨rfl, rfl⟩
      go_wp2_with fail
      refine (S2.out _).mono ?_
      rintro e w1 ⟨rfl, rfl⟩
      go_wp2
      go_ret
      exact ⟨ret_int (by rw [E.out, E2.out]), below_box (Below.refl _ _) _⟩
set_option maxHeartbeats 1000000 in
theorem uEqPlanes (c0 c1 c2 d0 d1 d2 : Value) (m : PlanesM) (w : World) (h : PlanesIn [c0, c1, c2] m w) (k : PlanesIn [d0, d1, d2] m w) :
    Calls Try.prog 34 #[.agg #[c0, c1, c2], .agg #[d0, d1, d2]] w (TruePost w) := by
  obtain ⟨a1, x1, a2, x2, rfl, rfl, rfl, _, _⟩ := planesIn_cells h
  obtain ⟨b1, y1, b2, y2, rfl, rfl, rfl, _, _⟩ := planesIn_cells k
  obtain ⟨_, h1, h2⟩ := planesIn_shape h
  obtain ⟨_, k1, k2⟩ := planesIn_shape k
  have E1 := Lib.hid (fun w' (hb : Below w.heap.size w w') => uEqUint64S _ _ m.len w' (h1.below hb) (k1.below hb))
  have E2 := Lib.hid (fun w' (hb : Below w.heap.size w w') => uEqUint64S _ _ m.lts w' (h2.below hb) (k2.below hb))
  have B2 := Lib.hid (below_box (below_box (Below.refl w.heap.size w) (.cells #[.int .i64 m.n, .slice a1 m.len.length x1, .slice a2 m.lts.length x2] 28)) (.cells #[.int .i64 m.n, .slice b1 m.len.length y1, .slice b2 m.lts.length y2] 28))
  clear h k h1 h2 k1 k2
  have hB : (m.n != m.n) = false := by simp
  go_enter Try.func34, Try.ntmps34
  go_wp2_with fail
  refine (E1.out _ B2.out).mono ?_
  rintro e w1 ⟨rfl, hb1⟩
  have B3 := Lib.hid (below_seq B2.out hb1)
  have k0 := Lib.hid (kept_block ((alloc_old (w.alloc (.cells #[.int .i64 m.n, .slice a1 m.len.length x1, .slice a2 m.lts.length x2] 28)) (.cells #[.int .i64 m.n, .slice b1 m.len.length y1, .slice b2 m.lts.length y2] 28) w.heap.size (by simp)).trans (alloc_at w _ _ rfl)) hb1)
  have k1 := Lib.hid (kept_block (alloc_at (w.alloc (.cells #[.int .i64 m.n, .slice a1 m.len.length x1, .slice a2 m.lts.length x2] 28)) (.cells #[.int .i64 m.n, .slice b1 m.len.length y1, .slice b2 m.lts.length y2] 28) (w.heap.size + 1) (by simp)) hb1)
  have q0 := cur_cell k0.out 2
  have q1 := cur_cell k1.out 2
  simp at q0 q1
  clear hb1
  go_wp2_with fail
  refine (E2.out _ B3.out).mono ?_
  rintro e w2 ⟨rfl, hb2⟩
  go_wp2
  go_ret
  exact ⟨rfl, below_seq B3.out hb2⟩
set_option maxHeartbeats 1000000 in
theorem uMarkPlanes (lo hi k : Nat) (c0 c1 c2 : Value) (m : PlanesM) (w : World) (hk : k + szPlanes m ≤ 4611686018427387904) (ht : hi ≤ w.heap.size) (h : PlanesOwn lo hi [c0, c1, c2] m w) :
    Calls Try.prog 37 #[.agg #[c0, c1, c2], .int .i64 k] w (MarkPost (PlanesOwn lo hi [c0, c1, c2] (mkPlanes k m)) lo hi (k + szPlanes m) w) := by
  obtain ⟨a1, x1, a2, x2, rfl, rfl, rfl, _, _⟩ := planesIn_cells h.read
  obtain ⟨mid, _, h1, h2, h3, h4⟩ := planesOwn_parts h
  unfold szPlanes at *
  obtain ⟨w1, hw1⟩ : ∃ w1, w1 = w.alloc (.cells #[.int .i64 m.n, .slice a1 m.len.length x1, .slice a2 m.lts.length x2] 28) := ⟨_, rfl⟩
  have hb1 : Below w.heap.size w w1 := by rw [hw1]; exact below_box (Below.refl _ _) _
  have blk : w1.heap[w.heap.size]? = some (.cells #[.int .i64 m.n, .slice a1 m.len.length x1, .slice a2 m.lts.length x2] 28 (0, 0)) := by rw [hw1]; exact alloc_at _ _ _ rfl
  have L1 := (h1.lies (by omega)).below hb1
  have L2 := (h2.lies ht).below hb1
  have M1 := Lib.hid (uMarkUint64S lo mid k (.slice a1 m.len.length x1) m.len w1 (by unfold szUint64S; omega) L1.now)
  have M2 := Lib.hid (fun w' (hn : Uint64SOwn mid hi [.slice a2 m.lts.length x2] m.lts w') => uMarkUint64S mid hi (k + m.len.length) (.slice a2 m.lts.length x2) m.lts w' (by unfold szUint64S; omega) hn)
  have H := Lib.hid (And.intro hb1 (And.intro blk L2))
  have HH : Hid (lo ≤ mid ∧ mid ≤ hi ∧ hi ≤ w.heap.size ∧ w.heap.size < w1.heap.size) := Lib.hid ⟨h3, h4, ht, cur_lt blk⟩
  clear h h1 h2 hb1 blk L1 L2 h3 h4 ht
  go_enter Try.func37, Try.ntmps37
  go_wp2_with fail
  rw [← hw1]
  clear hw1
  refine M1.out.mono ?_
  rintro e w2 ⟨k', rfl, hk', ho1, hc1⟩
  have O1 := Lib.hid ho1
  have C1 := Lib.hid hc1
  have hb2 := Lib.hid (hc1.block w.heap.size HH.out.2.2.2 (by have := HH.out; omega))
  have q2 := cur_cell (hb2.out.trans H.out.2.1) 2
  simp at q2
  have L2 := Lib.hid (H.out.2.2.chg hc1 (.inr (Nat.le_refl _)))
  unfold szUint64S at hk'
  subst hk'
  clear ho1 hc1 M1
  go_wp2_with fail
  refine (M2.out _ L2.out.now).mono ?_
  rintro e w3 ⟨k'', rfl, hk'', ho2, hc2⟩
  unfold szUint64S at hk''
  have HK := Lib.hid hk''
  have O2 := Lib.hid ho2
  have C2 := Lib.hid hc2
  clear hk'' ho2 hc2 M2
  go_wp2
  go_ret
  have hm1 : mid ≤ w2.heap.size := by have := HH.out; have := C1.out.size; omega
  refine ⟨k'', rfl, by rw [HK.out]; omega, ⟨_, _, mid, rfl, ((O1.out.lies hm1).chg C2.out (.inl (Nat.le_refl _))).now, O2.out, HH.out.1, HH.out.2.1⟩, ?_⟩
  have A := (C1.out.wide (Nat.le_refl lo) HH.out.2.1).trans (C2.out.wide HH.out.1 (Nat.le_refl hi))
  exact (Chg.of_below H.out.1).trans A
set_option maxHeartbeats 1000000 in
theorem uHeldPlanes (k : Nat) (c0 c1 c2 : Value) (m : PlanesM) (w : World) (hk : k + szPlanes m ≤ 4611686018427387904) (h : PlanesIn [c0, c1, c2] (mkPlanes k m) w) :
    Calls Try.prog 38 #[.agg #[c0, c1, c2], .int .i64 k] w (HeldPost (k + szPlanes m) w) := by
  obtain ⟨a1, x1, a2, x2, rfl, rfl, rfl, _, _⟩ := planesIn_cells h
  obtain ⟨_, h1, h2⟩ := planesIn_shape h
  unfold szPlanes at *
  have M1 := Lib.hid (fun w' (hb : Below w.heap.size w w') => uHeldUint64S k _ m.len w' (by unfold szUint64S; omega) (h1.below hb))
  have M2 := Lib.hid (fun w' (hb : Below w.heap.size w w') => uHeldUint64S (k + m.len.length) _ m.lts w' (by unfold szUint64S; omega) (h2.below hb))
  unfold mkPlanes szUint64S at *
  simp only [marksU_length] at *
  have B1 := Lib.hid (below_box (Below.refl w.heap.size w) (.cells #[.int .i64 m.n, .slice a1 m.len.length x1, .slice a2 m.lts.length x2] 28))
  clear h h1 h2
  go_enter Try.func38, Try.ntmps38
  go_wp2_with fail
  refine (M1.out _ B1.out).mono ?_
  rintro e w2 ⟨k', rfl, hk', hb2⟩
  have k0 := Lib.hid (kept_block (alloc_at w (.cells #[.int .i64 m.n, .slice a1 m.len.length x1, .slice a2 m.lts.length x2] 28) _ rfl) hb2)
  have q0 := cur_cell k0.out 2
  simp at q0
  have B2 := Lib.hid (below_seq B1.out hb2)
  subst hk'
  clear hb2 M1
  go_wp2_with fail
  refine (M2.out _ B2.out).mono ?_
  rintro e w3 ⟨k'', rfl, hk'', hb3⟩
  have HK := Lib.hid hk''
  clear hk'' M2
  go_wp2
  go_ret
  exact ⟨k'', rfl, by rw [HK.out]; omega, below_seq B2.out hb3⟩
set_option maxHeartbeats 2000000 in
theorem uToPlanes (c0 c1 c2 : Value) (m : PlanesM) (w : World) (hl : szPlanes m ≤ 1048576) (h : PlanesIn [c0, c1, c2] m w) : Calls Try.prog 41 #[.agg #[c0, c1, c2]] w (PlanesRet m w) := by
  obtain ⟨rfl, k1, k2⟩ := planesIn_shape h
  unfold szPlanes at hl
  obtain ⟨a1, p1, cap1, e1⟩ : ∃ a1 p1 cap1, c1 = .slice a1 p1 cap1 := by obtain ⟨a, cap, e, _⟩ := uint64SIn_shape k1; exact ⟨_, _, _, e⟩
  obtain ⟨a2, p2, cap2, e2⟩ : ∃ a2 p2 cap2, c2 = .slice a2 p2 cap2 := by obtain ⟨a, cap, e, _⟩ := uint64SIn_shape k2; exact ⟨_, _, _, e⟩
  subst e1 e2
  clear h
  obtain ⟨w3, hw3⟩ : ∃ w3, w3 = ((w.alloc (.cells #[.int .i64 m.n, .slice a1 p1 cap1, .slice a2 p2 cap2] 52)).alloc (.cells #[.int .i64 0, .slice none 0 0, .slice none 0 0] 28)).alloc (.cells #[.int .i64 m.n, .slice none 0 0, .slice none 0 0] 28) := ⟨_, rfl⟩
  have hb : Below w.heap.size w w3 := by rw [hw3]; exact below_box (below_box (below_box (Below.refl _ _) _) _) _
  have s3 : w3.heap.size = w.heap.size + 1 + 1 + 1 := by rw [hw3]; simp
  have k0 : w3.heap[w.heap.size]? = some (.cells #[.int .i64 m.n, .slice a1 p1 cap1, .slice a2 p2 cap2] 52 (0, 0)) := by rw [hw3]; exact (alloc_old _ _ _ (by simp; omega)).trans ((alloc_old _ _ _ (by simp)).trans (alloc_at _ _ _ rfl))
  have kr : w3.heap[w.heap.size + 1]? = some (.cells #[.int .i64 0, .slice none 0 0, .slice none 0 0] 28 (0, 0)) := by rw [hw3]; exact (alloc_old _ _ _ (by simp)).trans (alloc_at _ _ _ (by simp))
  have ko : w3.heap[w.heap.size + 1 + 1]? = some (.cells #[.int .i64 m.n, .slice none 0 0, .slice none 0 0] 28 (0, 0)) := by rw [hw3]; exact alloc_at _ _ _ (by simp)
  have T1 := Lib.hid (uToUint64S _ m.len w3 (by unfold szUint64S; omega) ((k1.lies.below hb).now))
  have I2 := Lib.hid (k2.lies)
  have H := Lib.hid (And.intro k0 (And.intro kr (And.intro ko hb)))
  have HS3 := Lib.hid s3
  clear hb k0 kr ko k1 k2 s3
  go_enter Try.func41, Try.ntmps41
  go_wp2_with fail
  rw [← hw3]
  clear hw3
  refine T1.out.mono ?_
  rintro e w1 ⟨d1, rfl, ho, hb⟩
  obtain ⟨x, xn, xc, rfl⟩ := ho.shape
  rw [HS3.out] at ho
  have s1 : w.heap.size + 1 + 1 + 1 ≤ w1.heap.size := by have := hb.size; have := HS3.out; omega
  have L0 := kept_block H.out.1 hb
  have L1 := kept_block H.out.2.1 hb
  have L2 := kept_block H.out.2.2.1 hb
  have k02 : w1.cell? ⟨w.heap.size, 2, none⟩ = some (.slice a2 p2 cap2) := cur_cell L0 2
  have k1 : w1.cell? ⟨w.heap.size + 1 + 1, 1, none⟩ = some (.slice none 0 0) := cur_cell L2 1
  have f1 := cur_free L2 1
  have OC := Lib.hid (ho.lies (Nat.le_refl _))
  have L2' := Lib.hid (cur_set L2 1 (.slice x xn xc))
  have L1' := Lib.hid ((Below.heap_setCell w1 ⟨w.heap.size + 1 + 1, 1, none⟩ (.slice x xn xc) (w.heap.size + 1) (by simp)).trans L1)
  have B1 := Lib.hid ((below_seq H.out.2.2.2 hb).setCell (p := ⟨w.heap.size + 1 + 1, 1, none⟩) (by simp; omega) (.slice x xn xc))
  have OC' := Lib.hid (OC.out.sup (w1.setCell ⟨w.heap.size + 1 + 1, 1, none⟩ (.slice x xn xc)) (fun k h1 h2 => Below.heap_setCell _ _ _ k (by simp; omega)))
  have k02' : (w1.setCell ⟨w.heap.size + 1 + 1, 1, none⟩ (.slice x xn xc)).cell? ⟨w.heap.size, 2, none⟩ = some (.slice a2 p2 cap2) := cell_set k02 (by omega)
  clear ho hb T1 L0 L1 L2 H OC HS3
  generalize hW : w1.setCell ⟨w.heap.size + 1 + 1, 1, none⟩ (.slice x xn xc) = W1 at *
  have s2 : w1.heap.size = W1.heap.size := by rw [← hW]; simp
  rw [s2] at OC' s1
  have S2 := Lib.hid (uToUint64S _ m.lts W1 (by unfold szUint64S; omega) ((I2.out.below B1.out).now))
  clear s2
  go_wp2_with fail
  clear hW k02 k1 f1
  refine S2.out.mono ?_
  rintro e w2 ⟨d2, rfl, ho, hb⟩
  obtain ⟨y, yn, yc, rfl⟩ := ho.shape
  have s3 : W1.heap.size ≤ w2.heap.size := hb.size
  have M1 := kept_block L1'.out hb
  have M2 := kept_block L2'.out hb
  have j0 : w2.cell? ⟨w.heap.size + 1 + 1, 0, none⟩ = some (.int .i64 m.n) := cur_cell M2 0
  have j1 : w2.cell? ⟨w.heap.size + 1 + 1, 1, none⟩ = some (.slice x xn xc) := cur_cell M2 1
  have j2 : w2.cell? ⟨w.heap.size + 1 + 1, 2, none⟩ = some (.slice none 0 0) := cur_cell M2 2
  have i0 : w2.cell? ⟨w.heap.size + 1, 0, none⟩ = some (.int .i64 0) := cur_cell M1 0
  have i1 : w2.cell? ⟨w.heap.size + 1, 1, none⟩ = some (.slice none 0 0) := cur_cell M1 1
  have i2 : w2.cell? ⟨w.heap.size + 1, 2, none⟩ = some (.slice none 0 0) := cur_cell M1 2
  have f2 := cur_free M2 2
  have g0 := cur_free M1 0
  have g1 := cur_free M1 1
  have g2 := cur_free M1 2
  have OT := Lib.hid ho
  have OC2 := Lib.hid ((OC'.out.lies (Nat.le_refl _)).below hb)
  have B2 := Lib.hid (below_seq B1.out hb)
  generalize hy : W1.heap.size = y0 at *
  clear ho hb S2 L1' L2' M1 M2 B1 OC' k02'
  go_wp2
  have ag : ∀ k, w.heap.size + 1 + 1 + 1 ≤ k → ((((w2.setCell ⟨w.heap.size + 1 + 1, 2, none⟩ (.slice y yn yc)).setCell ⟨w.heap.size + 1, 0, none⟩ (.int .i64 m.n)).setCell ⟨w.heap.size + 1, 1, none⟩ (.slice x xn xc)).setCell ⟨w.heap.size + 1, 2, none⟩ (.slice y yn yc)).heap[k]? = w2.heap[k]? := fun k hk =>
    (Below.heap_setCell _ _ _ k (by simp; omega)).trans ((Below.heap_setCell _ _ _ k (by simp; omega)).trans ((Below.heap_setCell _ _ _ k (by simp; omega)).trans (Below.heap_setCell _ _ _ k (by simp; omega))))
  exact bodyPost_ret (v := .agg #[.int .i64 m.n, .slice x xn xc, .slice y yn yc]) (by simp [results, Try.results41, go_sem, i0, i1, i2]) rfl
    ⟨_, _, _, rfl, ⟨_, _, y0, rfl, (OC2.out.sup _ (fun k h1 h2 => ag k h1)).wide (by omega) (Nat.le_refl _), ((OT.out.lies (Nat.le_refl _)).sup _ (fun k h1 h2 => ag k (by omega))).wide (Nat.le_refl _) (by simp), by omega, by simp; omega⟩,
      (((B2.out.setCell (p := ⟨w.heap.size + 1 + 1, 2, none⟩) (by simp; omega) _).setCell (p := ⟨w.heap.size + 1, 0, none⟩) (by simp) _).setCell (p := ⟨w.heap.size + 1, 1, none⟩) (by simp) _).setCell (p := ⟨w.heap.size + 1, 2, none⟩) (by simp) _⟩
end Go.Proofs.Ytfdlmpjccoaejaa
