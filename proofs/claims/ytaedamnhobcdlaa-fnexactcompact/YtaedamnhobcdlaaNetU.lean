/- Nets in the laws' uniform form: read, owned; the helpers over them. -/
import Derived.Test.YtaedamnhobcdlaaWiV
namespace Go.Proofs.Ytaedamnhobcdlaa
open Go.RowKit
set_option linter.unusedVariables false
set_option maxRecDepth 100000

structure NetM where
  n : Int
  ws : List WireM
deriving DecidableEq, Inhabited
def NetIn (cs : List Value) (m : NetM) (w : World) : Prop := ∃ c1, cs = [.int .i64 m.n, c1] ∧ WireSIn [c1] m.ws w
def NetOwn (lo hi : Nat) (cs : List Value) (m : NetM) (w : World) : Prop := ∃ c1, cs = [.int .i64 m.n, c1] ∧ WireSOwn lo hi [c1] m.ws w
theorem NetOwn.read {lo hi : Nat} {cs : List Value} {m : NetM} {w : World} (h : NetOwn lo hi cs m w) : NetIn cs m w := by
  obtain ⟨c1, rfl, h1⟩ := h
  exact ⟨c1, rfl, h1.read⟩
theorem NetOwn.lies {lo hi : Nat} {cs : List Value} {m : NetM} {w : World} (h : NetOwn lo hi cs m w) (ht : hi ≤ w.heap.size) : Lies w lo hi (NetOwn lo hi cs m) := by
  obtain ⟨c1, rfl, h1⟩ := h
  exact ⟨⟨c1, rfl, h1⟩, ht, fun w2 e => ⟨c1, rfl, (h1.lies ht).sup w2 e⟩⟩
theorem NetOwn.wide {lo hi lo' hi' : Nat} {cs : List Value} {m : NetM} {w : World} (h : NetOwn lo hi cs m w) (h1 : lo' ≤ lo) (h2 : hi ≤ hi') : NetOwn lo' hi' cs m w := by
  obtain ⟨c1, rfl, k1⟩ := h
  exact ⟨c1, rfl, k1.wide h1 h2⟩
theorem NetIn.lies {cs : List Value} {m : NetM} {w : World} (h : NetIn cs m w) : Lies w 0 w.heap.size (NetIn cs m) := by
  obtain ⟨c1, rfl, h1⟩ := h
  exact ⟨⟨c1, rfl, h1⟩, Nat.le_refl _, fun w2 e => ⟨c1, rfl, h1.lies.sup w2 e⟩⟩
theorem NetIn.below {cs : List Value} {m : NetM} {w w' : World} (h : NetIn cs m w) (hb : Below w.heap.size w w') : NetIn cs m w' := (h.lies.below hb).now
theorem NetOwn.shape {lo hi : Nat} {c0 c1 : Value} {m : NetM} {w : World} (h : NetOwn lo hi [c0, c1] m w) : ∃ z a1 n1 k1, c0 = .int .i64 z ∧ c1 = .slice a1 n1 k1 := by
  obtain ⟨d1, hc, h1⟩ := h
  simp at hc
  obtain ⟨rfl, rfl⟩ := hc
  obtain ⟨a1, n1, k1, e1⟩ := h1.shape
  exact ⟨_, _, _, _, rfl, e1⟩
theorem netIn_shape {c0 c1 : Value} {m : NetM} {w : World} (h : NetIn [c0, c1] m w) : c0 = .int .i64 m.n ∧ WireSIn [c1] m.ws w := by
  obtain ⟨d1, hc, h1⟩ := h
  simp at hc
  obtain ⟨rfl, rfl⟩ := hc
  exact ⟨rfl, h1⟩
theorem netOwn_parts {lo hi : Nat} {c0 c1 : Value} {m : NetM} {w : World} (h : NetOwn lo hi [c0, c1] m w) : c0 = .int .i64 m.n ∧ WireSOwn lo hi [c1] m.ws w := by
  obtain ⟨d1, hc, h1⟩ := h
  simp at hc
  obtain ⟨rfl, rfl⟩ := hc
  exact ⟨rfl, h1⟩
/-- The cells, opened. -/
theorem netIn_cells {c0 c1 : Value} {m : NetM} {w : World} (h : NetIn [c0, c1] m w) : ∃ a1 k1, c0 = .int .i64 m.n ∧ c1 = .slice a1 m.ws.length k1 ∧ m.ws.length ≤ k1 ∧ m.ws.length ≤ maxLen ∧ Row w a1 (flatW m.ws) := by
  obtain ⟨rfl, h1⟩ := netIn_shape h
  obtain ⟨a1, k1, e1, m0, m1, r⟩ := wireSIn_shape h1
  exact ⟨a1, k1, rfl, e1, m0, m1, r⟩
def netBd (m : NetM) : Prop := i64W m.n ∧ ∀ t ∈ m.ws, wbd t
theorem argNet {w : World} {v : Value} (h : Arg w 50 v) : ∃ c0 c1 m, v = .agg #[c0, c1] ∧ NetIn [c0, c1] m w ∧ netBd m := by
  obtain ⟨cs, rfl, hl, hr⟩ := h.agg Try.underlying50
  have hC : Try.prog.cellsOf 50 = 2 := by kernel_rfl
  have hC0 : Try.prog.cellsOf 3 = 1 := by kernel_rfl
  have hC1 : Try.prog.cellsOf 48 = 1 := by kernel_rfl
  rw [hC] at hl
  match cs, hl with
  | [c0, c1], _ =>
    have f0 := hr.field Try.underlying50 0 _ 3 1 [c0] rfl rfl hC0 rfl
    have f1 := hr.field Try.underlying50 1 _ 48 1 [c1] rfl rfl hC1 rfl
    obtain ⟨z, e0, hz⟩ := f0.int Try.underlying3
    obtain ⟨l1, h1, b1⟩ := f1.wireS
    simp at e0
    subst e0
    exact ⟨_, _, ⟨z, l1⟩, rfl, ⟨_, rfl, h1⟩, wf_i64 hz, b1⟩
def szNet (m : NetM) : Nat := m.ws.length
def mcNet (m : NetM) : Nat := m.ws.length * 2
theorem mcNet_le {m : NetM} (h : szNet m ≤ 1048576) : mcNet m ≤ 1000000000000 := by unfold szNet at h; unfold mcNet; omega
def mkNet (k : Nat) (m : NetM) : NetM := ⟨m.n, marksW k m.ws.length⟩
def NetRet (m : NetM) (w : World) (e : Ending) (w' : World) : Prop := ∃ c0 c1, e = .returned (.agg #[c0, c1]) ∧ NetOwn w.heap.size w'.heap.size [c0, c1] m w' ∧ Below w.heap.size w w'
set_option maxHeartbeats 1000000 in
theorem uSzNet (c0 c1 : Value) (m : NetM) (left : Int) (w : World) (h0 : 0 ≤ left) (h1 : left ≤ 1048576) (h : NetIn [c0, c1] m w) :
    Calls Try.prog 34 #[.agg #[c0, c1], .int .i64 left] w fun e w' => e = .returned (.int .i64 (szI left (szNet m))) ∧ Below w.heap.size w w' := by
  obtain ⟨a1, cap1, rfl, rfl, p1, p2, _⟩ := netIn_cells h
  clear h
  have SZ : szNet m = m.ws.length := rfl
  rw [SZ]
  have S1 := Lib.hid (fun w => lawsSzWireS a1 m.ws.length cap1 left w p2 h0 h1)
  by_cases g1 : left - (m.ws.length : Int) < 0
  · rw [szI_no g1] at S1
    have E := Lib.hid (szI_no g1)
    clear SZ g1
    go_enter Try.func34, Try.ntmps34
    go_wp2_with fail
    refine (S1.out _).mono ?_
    rintro e w1 ⟨rfl, rfl⟩
    go_wp2
    go_ret
    exact ⟨ret_int E.out.symm, below_box (Below.refl _ _) _⟩
  · rw [szI_yes g1] at S1
    have E := Lib.hid (szI_yes g1)
    clear SZ
    go_enter Try.func34, Try.ntmps34
    go_wp2_with fail
    refine (S1.out _).mono ?_
    rintro e w1 ⟨rfl, rfl⟩
    go_wp2
    go_ret
    exact ⟨ret_int E.out.symm, below_box (Below.refl _ _) _⟩
set_option maxHeartbeats 1000000 in
theorem uEqNet (c0 c1 d0 d1 : Value) (m : NetM) (w : World) (h : NetIn [c0, c1] m w) (k : NetIn [d0, d1] m w) :
    Calls Try.prog 37 #[.agg #[c0, c1], .agg #[d0, d1]] w (TruePost w) := by
  obtain ⟨_, h1⟩ := netIn_shape h
  obtain ⟨_, k1⟩ := netIn_shape k
  obtain ⟨a1, x1, rfl, rfl, _⟩ := netIn_cells h
  obtain ⟨b1, y1, rfl, rfl, _⟩ := netIn_cells k
  have E1 := Lib.hid (fun w' (hb : Below w.heap.size w w') => uEqWireS _ _ m.ws w' (h1.below hb) (k1.below hb))
  have B2 := Lib.hid (below_box (below_box (Below.refl w.heap.size w) (.cells #[.int .i64 m.n, .slice a1 m.ws.length x1] 36)) (.cells #[.int .i64 m.n, .slice b1 m.ws.length y1] 36))
  clear h k h1 k1
  have hB : (m.n != m.n) = false := by simp
  go_enter Try.func37, Try.ntmps37
  go_wp2_with fail
  refine (E1.out _ B2.out).mono ?_
  rintro e w1 ⟨rfl, hb1⟩
  go_wp2
  go_ret
  exact ⟨rfl, below_seq B2.out hb1⟩
set_option maxHeartbeats 1000000 in
theorem uMarkNet (lo hi k : Nat) (c0 c1 : Value) (m : NetM) (w : World) (hk : k + mcNet m ≤ 4611686018427387904) (ht : hi ≤ w.heap.size) (h : NetOwn lo hi [c0, c1] m w) :
    Calls Try.prog 38 #[.agg #[c0, c1], .int .i64 k] w (MarkPost (NetOwn lo hi [c0, c1] (mkNet k m)) lo hi (k + mcNet m) w) := by
  obtain ⟨_, h1⟩ := netOwn_parts h
  obtain ⟨a1, x1, rfl, rfl, _⟩ := netIn_cells h.read
  unfold mcNet at *
  obtain ⟨w1, hw1⟩ : ∃ w1, w1 = w.alloc (.cells #[.int .i64 m.n, .slice a1 m.ws.length x1] 36) := ⟨_, rfl⟩
  have hb1 : Below w.heap.size w w1 := by rw [hw1]; exact below_box (Below.refl _ _) _
  have L1 := (h1.lies (by omega)).below hb1
  have M1 := Lib.hid (uMarkWireSG lo hi k (.slice a1 m.ws.length x1) m.ws w1 hk L1.now)
  have HB := Lib.hid hb1
  clear h h1 hb1 L1
  go_enter Try.func38, Try.ntmps38
  go_wp2_with fail
  rw [← hw1]
  clear hw1
  refine M1.out.mono ?_
  rintro e w2 ⟨k', rfl, hk', ho1, hc1⟩
  have HK := Lib.hid hk'
  have O1 := Lib.hid ho1
  have C1 := Lib.hid hc1
  clear ho1 hc1 M1 hk'
  go_wp2
  go_ret
  exact ⟨k', rfl, HK.out, ⟨_, rfl, O1.out⟩, (Chg.of_below HB.out).trans C1.out⟩
set_option maxHeartbeats 2000000 in
theorem uToNet (c0 c1 : Value) (m : NetM) (w : World) (hl : szNet m ≤ 1048576) (h : NetIn [c0, c1] m w) : Calls Try.prog 36 #[.agg #[c0, c1]] w (NetRet m w) := by
  obtain ⟨a1, cap1, rfl, rfl, _, _, r⟩ := netIn_cells h
  unfold szNet at hl
  clear h
  obtain ⟨p1, hp1⟩ : ∃ p1, p1 = m.ws.length := ⟨_, rfl⟩
  obtain ⟨w3, hw3⟩ : ∃ w3, w3 = ((w.alloc (.cells #[.int .i64 m.n, .slice a1 p1 cap1] 50)).alloc (.cells #[.int .i64 0, .slice none 0 0] 36)).alloc (.cells #[.int .i64 m.n, .slice none 0 0] 36) := ⟨_, rfl⟩
  have hb : Below w.heap.size w w3 := by rw [hw3]; exact below_box (below_box (below_box (Below.refl _ _) _) _) _
  have s3 : w3.heap.size = w.heap.size + 1 + 1 + 1 := by rw [hw3]; simp
  have kr : w3.heap[w.heap.size + 1]? = some (.cells #[.int .i64 0, .slice none 0 0] 36 (0, 0)) := by rw [hw3]; exact (alloc_old _ _ _ (by simp)).trans (alloc_at _ _ _ (by simp))
  have ko : w3.heap[w.heap.size + 1 + 1]? = some (.cells #[.int .i64 m.n, .slice none 0 0] 36 (0, 0)) := by rw [hw3]; exact alloc_at _ _ _ (by simp)
  have T1 := Lib.hid (lawsToWireS a1 cap1 m.ws w3 (by omega) (r.below hb))
  rw [← hp1] at T1 ⊢
  have H := Lib.hid (And.intro kr (And.intro ko hb))
  have HS3 := Lib.hid s3
  have HP := Lib.hid hp1
  clear hb kr ko r s3 hp1 hl
  go_enter Try.func36, Try.ntmps36
  go_wp2_with fail
  rw [← hw3]
  clear hw3
  refine T1.out.mono ?_
  rintro e w1 ⟨rfl, ho, hb⟩
  have s1 : w.heap.size + 1 + 1 + 1 ≤ w1.heap.size := by have := hb.size; have := HS3.out; omega
  rw [HS3.out] at ho
  have L1 := kept_block H.out.1 hb
  have L2 := kept_block H.out.2.1 hb
  have k1 : w1.cell? ⟨w.heap.size + 1 + 1, 1, none⟩ = some (.slice none 0 0) := cur_cell L2 1
  have k0 : w1.cell? ⟨w.heap.size + 1 + 1, 0, none⟩ = some (.int .i64 m.n) := cur_cell L2 0
  have i0 : w1.cell? ⟨w.heap.size + 1, 0, none⟩ = some (.int .i64 0) := cur_cell L1 0
  have i1 : w1.cell? ⟨w.heap.size + 1, 1, none⟩ = some (.slice none 0 0) := cur_cell L1 1
  have f1 := cur_free L2 1
  have g0 := cur_free L1 0
  have g1 := cur_free L1 1
  have OT := Lib.hid ((WireSOwn.mk ho).lies (Nat.le_refl _))
  have B1 := Lib.hid (below_seq H.out.2.2 hb)
  rw [HS3.out]
  clear ho hb T1 L1 L2 H HS3 HP
  go_wp2
  have ag : ∀ k, w.heap.size + 1 + 1 + 1 ≤ k → (((w1.setCell ⟨w.heap.size + 1 + 1, 1, none⟩ (.slice (some ⟨w.heap.size + 1 + 1 + 1, 0, none⟩) p1 p1)).setCell ⟨w.heap.size + 1, 0, none⟩ (.int .i64 m.n)).setCell ⟨w.heap.size + 1, 1, none⟩ (.slice (some ⟨w.heap.size + 1 + 1 + 1, 0, none⟩) p1 p1)).heap[k]? = w1.heap[k]? := fun k hk =>
    (Below.heap_setCell _ _ _ k (by simp; omega)).trans ((Below.heap_setCell _ _ _ k (by simp; omega)).trans (Below.heap_setCell _ _ _ k (by simp; omega)))
  exact bodyPost_ret (v := .agg #[.int .i64 m.n, .slice (some ⟨w.heap.size + 1 + 1 + 1, 0, none⟩) p1 p1]) (by simp [results, Try.results36, go_sem, i0, i1]) rfl
    ⟨_, _, rfl, ⟨_, rfl, (OT.out.sup _ (fun k h1 h2 => ag k h1)).wide (by omega) (by simp)⟩,
      ((B1.out.setCell (p := ⟨w.heap.size + 1 + 1, 1, none⟩) (by simp; omega) _).setCell (p := ⟨w.heap.size + 1, 0, none⟩) (by simp) _).setCell (p := ⟨w.heap.size + 1, 1, none⟩) (by simp) _⟩
end Go.Proofs.Ytaedamnhobcdlaa
