/- BlkH in one. Written by tools/join2.py. -/
import Derived.Test.YtmkgddbdkpkgpaaJS10
import Derived.Deep.RegionHeld3
section
namespace Go.Proofs.Ytmkgddbdkpkgpaa
open Go.RowKit
set_option linter.unusedVariables false
set_option linter.unusedSimpArgs false
set_option maxRecDepth 100000

def szBlock (m : BlkM) : Nat := m.data.length
def sumD (l : List BlkM) : Nat := (l.map (fun m => m.data.length)).sum
theorem sumD_app (a b : List BlkM) : sumD (a ++ b) = sumD a + sumD b := by unfold sumD; simp
theorem sumD_snoc (l : List BlkM) (k : Nat) (h : k < l.length) : sumD (l.take (k + 1)) = sumD (l.take k) + l[k].data.length := by
  rw [List.take_succ_eq_append_getElem h, sumD_app]; simp [sumD]
theorem sumD_part (l : List BlkM) (k : Nat) : sumD (l.take k) ≤ sumD l := by
  have := sumD_app (l.take k) (l.drop k)
  rw [List.take_append_drop] at this
  omega
def szBlockS (l : List BlkM) : Nat := l.length + sumD l
def szNode (l : NodeM) : Nat := szBlockS l
def BlockRet (m : BlkM) (w : World) (e : Ending) (w' : World) : Prop := ∃ c0 c1 c2, e = .returned (.agg #[c0, c1, c2]) ∧ BlockOwn w.heap.size w'.heap.size [c0, c1, c2] m w' ∧ Below w.heap.size w w'
def BlockSRet (l : List BlkM) (w : World) (e : Ending) (w' : World) : Prop := ∃ c, e = .returned c ∧ BlockSOwn w.heap.size w'.heap.size [c] l w' ∧ Below w.heap.size w w'
def NodeRet (l : NodeM) (w : World) (e : Ending) (w' : World) : Prop := ∃ c, e = .returned (.agg #[c]) ∧ NodeOwn w.heap.size w'.heap.size [c] l w' ∧ Below w.heap.size w w'
theorem lawsSzByteS' (a : Option Addr) (n cap : Nat) (left : Int) (w : World) (hn : n ≤ maxLen) (h0 : 0 ≤ left) (h1 : left ≤ 1048576) :
    Calls Try.prog 64 #[.slice a n cap, .int .i64 left] w fun e w' => e = .returned (.int .i64 (szI left n)) ∧ w = w' := by
  unfold maxLen at hn
  by_cases h : left - (n : Int) < 0
  · have H := Lib.hid (szI_no h)
    go_enter Try.func64, Try.ntmps64
    go_wp2
    go_ret
    exact ⟨ret_int H.out.symm, rfl⟩
  · have H := Lib.hid (szI_yes h)
    go_enter Try.func64, Try.ntmps64
    go_wp2
    go_ret
    exact ⟨ret_int H.out.symm, rfl⟩
theorem uSzBlock (c0 c1 c2 : Value) (m : BlkM) (left : Int) (w : World) (h0 : 0 ≤ left) (h1 : left ≤ 1048576) (h : BlockIn [c0, c1, c2] m w) :
    Calls Try.prog 30 #[.agg #[c0, c1, c2], .int .i64 left] w fun e w' => e = .returned (.int .i64 (szI left (szBlock m))) ∧ Below w.heap.size w w' := by
  obtain ⟨a, cap, rfl, rfl, rfl, _, hm, _⟩ := blockIn_cells h
  unfold szBlock
  have B := Lib.hid (below_box (Below.refl w.heap.size w) (.cells #[.int .i64 m.id, .int .i64 m.leaf, .slice a m.data.length cap] 51))
  have S := Lib.hid (fun w => lawsSzByteS' a m.data.length cap left w hm h0 h1)
  clear h
  obtain ⟨n, hn⟩ : ∃ n, m.data.length = n := ⟨_, rfl⟩
  rw [hn] at S B ⊢
  clear hn hm
  by_cases h : left - (n : Int) < 0
  · rw [szI_no h] at S ⊢
    clear h
    go_enter Try.func30, Try.ntmps30
    go_wp2_with fail
    refine (S.out _).mono ?_
    rintro e w1 ⟨rfl, rfl⟩
    go_wp2
    go_ret
    exact ⟨rfl, B.out⟩
  · rw [szI_yes h] at S ⊢
    go_enter Try.func30, Try.ntmps30
    go_wp2_with fail
    refine (S.out _).mono ?_
    rintro e w1 ⟨rfl, rfl⟩
    go_wp2
    go_ret
    exact ⟨rfl, B.out⟩
set_option maxHeartbeats 1000000 in
theorem uSzBlockS (c : Value) (l : List BlkM) (left : Int) (w : World) (h0 : 0 ≤ left) (h1 : left ≤ 1048576) (h : BlockSIn [c] l w) :
    Calls Try.prog 26 #[c, .int .i64 left] w fun e w' => e = .returned (.int .i64 (szI left (szBlockS l))) ∧ Below w.heap.size w w' := by
  obtain ⟨a, cap, es, rfl, g1, g2, g3, g4, g5, g6⟩ := blockSIn_shape h
  have L := Lib.hid h.lies
  clear h g1 g3 g4 g5 g6 es
  unfold maxLen at g2
  by_cases hn : left - (l.length : Int) < 0
  · have H : Hid (szI left (szBlockS l) = -1) := Lib.hid (szI_no (by unfold szBlockS; omega))
    go_enter Try.func26, Try.ntmps26
    go_wp2
    go_ret
    exact ⟨ret_int H.out.symm, Below.refl _ _⟩
  go_enter Try.func26, Try.ntmps26
  go_wp2
  go_loopw [1, 5] (fun lv i wr => ∃ (k : Nat) (x : Int), k ≤ l.length ∧ lv = .int .i64 x ∧ i = .int .i64 k ∧ Hid (x = left - l.length - sumD (l.take k)) ∧ 0 ≤ x ∧ x ≤ 1048576 ∧ Below w.heap.size w wr) (fun _ i _ => l.length - (intOf i).toNat)
  case atStart => exact ⟨0, _, Nat.zero_le _, rfl, rfl, Lib.hid (by simp [sumD]), by omega, by omega, Below.refl _ _⟩
  case round =>
    obtain ⟨k, x, hk, rfl, rfl, H, x0, x1, hb⟩ := hrel
    by_cases hlt : k < l.length
    · obtain ⟨a', cap', es, e, _, _, _, r1, r2, r3⟩ := blockSIn_shape (L.out.below hb).now
      simp at e
      obtain ⟨rfl, rfl⟩ := e
      obtain ⟨b, off, y, yc, rfl, q0, q1, q2, hy⟩ := r1.blk r3 r2 hlt
      have S1 := Lib.hid (sumD_snoc l k hlt)
      have S2 := Lib.hid (sumD_part l (k + 1))
      have B := Lib.hid hb
      have S := Lib.hid (uSzBlock _ _ _ l[k] x wr x0 x1 hy)
      unfold szBlock at S
      generalize l[k].data.length = n at *
      generalize l[k].id = z0 at *
      generalize l[k].leaf = z1 at *
      clear hy r1 r2 r3 hb
      by_cases hx : x - (n : Int) < 0
      · rw [szI_no hx] at S
        have R : Hid (szI left (szBlockS l) = -1) := Lib.hid (szI_no (by have := S1.out; have := S2.out; have := H.out; unfold szBlockS; omega))
        clear hx
        go_wp2_with fail
        refine S.out.mono ?_
        rintro e w2 ⟨rfl, hb2⟩
        replace B := Lib.hid (below_seq B.out hb2)
        clear hb2
        go_wp2
        go_ret
        exact ⟨ret_int R.out.symm, B.out⟩
      · rw [szI_yes hx] at S
        have HX : Hid (x - (n : Int) = left - l.length - sumD (l.take (k + 1))) := Lib.hid (by have := S1.out; have := H.out; omega)
        have x0' : 0 ≤ x - (n : Int) := by omega
        have x1' : x - (n : Int) ≤ 1048576 := by omega
        clear hx
        generalize x - (n : Int) = x' at *
        go_wp2_with fail
        refine S.out.mono ?_
        rintro e w2 ⟨rfl, hb2⟩
        replace B := Lib.hid (below_seq B.out hb2)
        clear hb2
        go_wp2
        go_roundw
        case rel => exact ⟨k + 1, x', by omega, rfl, by go_num, HX, x0', x1', B.out⟩
        case measure => simp [intOf]; omega
    · have R : Hid (szI left (szBlockS l) = x) := Lib.hid (by
        have h := H.out
        rw [List.take_of_length_le (by omega)] at h
        rw [szI_yes (by unfold szBlockS; omega)]; unfold szBlockS; omega)
      have B := Lib.hid hb
      clear hb
      go_wp2
      go_ret
      exact ⟨ret_int R.out.symm, B.out⟩
set_option maxHeartbeats 800000 in
theorem uEqBlock (c0 c1 c2 d0 d1 d2 : Value) (m : BlkM) (w : World) (h : BlockIn [c0, c1, c2] m w) (k : BlockIn [d0, d1, d2] m w) :
    Calls Try.prog 32 #[.agg #[c0, c1, c2], .agg #[d0, d1, d2]] w (TruePost w) := by
  have hb0 : Below w.heap.size w ((w.alloc (.cells #[c0, c1, c2] 26)).alloc (.cells #[d0, d1, d2] 26)) := below_box (below_box (Below.refl _ _) _) _
  obtain ⟨x, h1, h2⟩ := h
  obtain ⟨y, k1, k2⟩ := k
  simp at h1 k1
  obtain ⟨rfl, rfl, rfl⟩ := h1
  obtain ⟨rfl, rfl, rfl⟩ := k1
  have E := Lib.hid (uEqByteS _ _ m.data _ (byteS_rdg.below h2 hb0) (byteS_rdg.below k2 hb0))
  obtain ⟨a1, p1, rfl, _⟩ := byteSIn_shape h2
  obtain ⟨a2, p2, rfl, _⟩ := byteSIn_shape k2
  have B := Lib.hid hb0
  clear hb0 h2 k2
  obtain ⟨z0, z1, data⟩ := m
  simp only at E B ⊢
  have hz0 : (z0 != z0) = false := by simp
  have hz1 : (z1 != z1) = false := by simp
  go_enter Try.func32, Try.ntmps32
  go_wp2_with fail
  refine E.out.mono ?_
  rintro e w1 ⟨rfl, hb⟩
  replace B := Lib.hid (below_seq B.out hb)
  clear hb
  go_wp2
  go_ret
  exact ⟨rfl, B.out⟩
set_option maxHeartbeats 2000000 in
theorem uEqBlockS (c d : Value) (l : List BlkM) (w : World) (h1 : BlockSIn [c] l w) (h2 : BlockSIn [d] l w) :
    Calls Try.prog 29 #[c, d] w (TruePost w) := by
  obtain ⟨a, cap, es1, rfl, _, g2, _⟩ := blockSIn_shape h1
  obtain ⟨a2, cap2, es2, rfl, _⟩ := blockSIn_shape h2
  have L1 := Lib.hid h1.lies
  have L2 := Lib.hid h2.lies
  unfold maxLen at g2
  clear h1 h2
  go_enter Try.func29, Try.ntmps29
  go_wp2
  go_loopw [5] (fun i wr => ∃ k : Nat, k ≤ l.length ∧ i = .int .i64 k ∧ Below w.heap.size w wr) (fun i _ => l.length - (intOf i).toNat)
  case atStart => exact ⟨0, Nat.zero_le _, rfl, Below.refl _ _⟩
  case round =>
    obtain ⟨k, hk, rfl, hb⟩ := hrel
    by_cases hlt : k < l.length
    · obtain ⟨a', cap', es, e, _, _, _, r1, r2, r3⟩ := blockSIn_shape (L1.out.below hb).now
      simp at e
      obtain ⟨rfl, rfl⟩ := e
      obtain ⟨b, off, y, yc, rfl, q0, q1, q2, hy⟩ := r1.blk r3 r2 hlt
      obtain ⟨a', cap', es', e, _, _, _, s1, s2, s3⟩ := blockSIn_shape (L2.out.below hb).now
      simp at e
      obtain ⟨rfl, rfl⟩ := e
      obtain ⟨b2, off2, y2, yc2, rfl, p0, p1, p2, hy2⟩ := s1.blk s3 s2 hlt
      have E := Lib.hid (uEqBlock _ _ _ _ _ _ l[k] wr.drew (block_rdg.below hy (belowN 1)) (block_rdg.below hy2 (belowN 1)))
      have B := Lib.hid (below_drew hb)
      generalize l[k].data.length = n at *
      generalize l[k].id = z0 at *
      generalize l[k].leaf = z1 at *
      clear r1 r2 r3 s1 s2 s3 hy hy2 hb
      have KS := Lib.hid (fun w' (hb : Below wr.heap.size wr w') => (show w'.cell? ⟨b, off + k * 3, none⟩ = some (.int .i64 z0) ∧ w'.cell? ⟨b, off + k * 3 + 1, none⟩ = some (.int .i64 z1) ∧ w'.cell? ⟨b, off + k * 3 + 2, none⟩ = some (.slice y n yc) ∧ w'.cell? ⟨b2, off2 + k * 3, none⟩ = some (.int .i64 z0) ∧ w'.cell? ⟨b2, off2 + k * 3 + 1, none⟩ = some (.int .i64 z1) ∧ w'.cell? ⟨b2, off2 + k * 3 + 2, none⟩ = some (.slice y2 n yc2) from ⟨cell_keep q0 hb, cell_keep q1 hb, cell_keep q2 hb, cell_keep p0 hb, cell_keep p1 hb, cell_keep p2 hb⟩))
      have HD := Lib.hid (below_drew (Below.refl wr.heap.size wr))
      clear q0 q1 q2 p0 p1 p2
      go_wp2_with fail
      go_region_held3 (fun w' => w'.cell? ⟨b, off + k * 3, none⟩ = some (.int .i64 z0) ∧ w'.cell? ⟨b, off + k * 3 + 1, none⟩ = some (.int .i64 z1) ∧ w'.cell? ⟨b, off + k * 3 + 2, none⟩ = some (.slice y n yc) ∧ w'.cell? ⟨b2, off2 + k * 3, none⟩ = some (.int .i64 z0) ∧ w'.cell? ⟨b2, off2 + k * 3 + 1, none⟩ = some (.int .i64 z1) ∧ w'.cell? ⟨b2, off2 + k * 3 + 2, none⟩ = some (.slice y2 n yc2))
        (exact KS.out _ HD.out)
        ((go_at_call 32; refine E.out.mono ?_; rintro e w2 ⟨rfl, hb2⟩; replace HD := Lib.hid (below_seq HD.out hb2); replace B := Lib.hid (below_seq B.out hb2); clear hb2))
      clear KS HD
      go_wp2
      go_roundw
      case rel => exact ⟨k + 1, by omega, by go_num, B.out⟩
      case measure => simp [intOf]; omega
    · have B := Lib.hid hb
      clear hb
      go_wp2
      go_ret
      exact ⟨rfl, B.out⟩
end Go.Proofs.Ytmkgddbdkpkgpaa
end
