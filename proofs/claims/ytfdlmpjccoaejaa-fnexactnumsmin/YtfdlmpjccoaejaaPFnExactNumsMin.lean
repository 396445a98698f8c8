/- For every argument: the law FnExactNumsMin answers true, that is, NumsMin answers as its model and writes into no argument; its answer owns its memory. No condition. -/
import Derived.Test.YtfdlmpjccoaejaaBase
import Derived.Test.YtfdlmpjccoaejaaReads
import Derived.Test.YtfdlmpjccoaejaaNuU
import Derived.Deep.RegionHeld3
namespace Go.Proofs.Ytfdlmpjccoaejaa.fnExactNumsMin
open Go.ChangeShapes Go.WideShapes Go.ChangeAt Go.RowKit
set_option linter.unusedVariables false

set_option maxRecDepth 100000 in
set_option maxHeartbeats 4000000 in
theorem walk (v0 : Value) (v1 : Value) (w : World) (h0 : Arg w 26 v0) (h1 : Arg w 26 v1) :
    Calls Try.prog 12 #[v0, v1] w fun e w' => e = .returned (.bool true) ∧ Below w.heap.size w w' := by
  obtain ⟨d0_0, m0, rfl, i0, b0⟩ := argUint64S h0
  have R_aA := Lib.hid i0.lies
  obtain ⟨a0, cap0, rfl, _, hx0, _⟩ := uint64SIn_shape i0
  clear i0
  clear h0
  obtain ⟨d1_0, m1, rfl, i1, b1⟩ := argUint64S h1
  have R_aB := Lib.hid i1.lies
  obtain ⟨a1, cap1, rfl, _, hx1, _⟩ := uint64SIn_shape i1
  clear i1
  clear h1
  have B : Hid (Below w.heap.size w w) := Lib.hid (Below.refl _ _)
  have B0s : 0 ≤ w.heap.size := Nat.zero_le _
  by_cases g0 : 1048576 < m0.length
  · go_enter Try.func12, Try.ntmps12
    go_wp2
    go_ret
    exact ⟨rfl, B.out⟩
  have hs0 : szUint64S m0 ≤ 1048576 := by unfold szUint64S; omega
  by_cases g1 : 1048576 < m1.length
  · go_enter Try.func12, Try.ntmps12
    go_wp2
    go_ret
    exact ⟨rfl, B.out⟩
  have hs1 : szUint64S m1 ≤ 1048576 := by unfold szUint64S; omega
  go_enter Try.func12, Try.ntmps12
  go_wp2_with fail
  refine (uToUint64S (.slice a0 m0.length cap0) m0 _ hs0 R_aA.out.now).mono ?_
  rintro e w1 ⟨t0_0, rfl, ho, hb⟩
  obtain ⟨t0_a0, t0_n0, t0_c0, rfl⟩ := ho.shape
  have s_w1 : w.heap.size ≤ w1.heap.size := by have := hb.size; simpa only [size_box, size_drew] using this
  replace B := Lib.hid (below_seq B.out hb)
  replace R_aA := Lib.hid (R_aA.out.below hb)
  replace R_aB := Lib.hid (R_aB.out.below hb)
  have A_t0_ := Lib.hid (ho.lies (Nat.le_refl _))
  clear ho hb
  go_wp2_with fail
  refine (uToUint64S (.slice a1 m1.length cap1) m1 _ hs1 R_aB.out.now).mono ?_
  rintro e w2 ⟨t1_0, rfl, ho, hb⟩
  obtain ⟨t1_a0, t1_n0, t1_c0, rfl⟩ := ho.shape
  have s_w2 : w1.heap.size ≤ w2.heap.size := by have := hb.size; simpa only [size_box, size_drew] using this
  replace B := Lib.hid (below_seq B.out hb)
  replace R_aA := Lib.hid (R_aA.out.below hb)
  replace R_aB := Lib.hid (R_aB.out.below hb)
  replace A_t0_ := Lib.hid (A_t0_.out.below hb)
  have A_t1_ := Lib.hid (ho.lies (Nat.le_refl _))
  clear ho hb
  go_wp2_with fail
  refine (uSpecNumsMin (.slice t0_a0 t0_n0 t0_c0) m0 (.slice t1_a0 t1_n0 t1_c0) m1 _ A_t0_.out.now.read A_t1_.out.now.read b0 b1).mono ?_
  rintro e w3 ⟨w0_0, rfl, ho_w0, hb⟩
  obtain ⟨w0_a0, w0_n0, w0_c0, rfl⟩ := ho_w0.shape
  clear A_t0_ A_t1_
  have s_w3 : w2.heap.size ≤ w3.heap.size := by have := hb.size; simpa only [size_box, size_drew] using this
  replace B := Lib.hid (below_seq B.out hb)
  replace R_aA := Lib.hid (R_aA.out.below hb)
  replace R_aB := Lib.hid (R_aB.out.below hb)
  have A_w0 := Lib.hid (ho_w0.lies (Nat.le_refl _))
  clear ho_w0 hb
  go_wp2_with fail
  refine (uToUint64S (.slice a0 m0.length cap0) m0 _ hs0 R_aA.out.now).mono ?_
  rintro e w4 ⟨x00, rfl, ho, hb⟩
  obtain ⟨x0a0, x0n0, x0c0, rfl⟩ := ho.shape
  have s_w4 : w3.heap.size ≤ w4.heap.size := by have := hb.size; simpa only [size_box, size_drew] using this
  replace B := Lib.hid (below_seq B.out hb)
  replace R_aA := Lib.hid (R_aA.out.below hb)
  replace R_aB := Lib.hid (R_aB.out.below hb)
  replace A_w0 := Lib.hid (A_w0.out.below hb)
  have A_x0 := Lib.hid (ho.lies (Nat.le_refl _))
  clear ho hb
  go_wp2_with fail
  refine (uToUint64S (.slice a1 m1.length cap1) m1 _ hs1 R_aB.out.now).mono ?_
  rintro e w5 ⟨x10, rfl, ho, hb⟩
  obtain ⟨x1a0, x1n0, x1c0, rfl⟩ := ho.shape
  have s_w5 : w4.heap.size ≤ w5.heap.size := by have := hb.size; simpa only [size_box, size_drew] using this
  replace B := Lib.hid (below_seq B.out hb)
  replace R_aA := Lib.hid (R_aA.out.below hb)
  replace R_aB := Lib.hid (R_aB.out.below hb)
  replace A_w0 := Lib.hid (A_w0.out.below hb)
  replace A_x0 := Lib.hid (A_x0.out.below hb)
  have A_x1 := Lib.hid (ho.lies (Nat.le_refl _))
  clear ho hb
  go_wp2_with fail
  refine (uImplNumsMin (.slice x0a0 x0n0 x0c0) m0 (.slice x1a0 x1n0 x1c0) m1 _ A_x0.out.now.read A_x1.out.now.read b0 b1).mono ?_
  rintro e w6 ⟨g0_0, rfl, ho_g0, hb⟩
  obtain ⟨g0_a0, g0_n0, g0_c0, rfl⟩ := ho_g0.shape
  have s_w6 : w5.heap.size ≤ w6.heap.size := by have := hb.size; simpa only [size_box, size_drew] using this
  replace B := Lib.hid (below_seq B.out hb)
  replace R_aA := Lib.hid (R_aA.out.below hb)
  replace R_aB := Lib.hid (R_aB.out.below hb)
  replace A_w0 := Lib.hid (A_w0.out.below hb)
  replace A_x0 := Lib.hid (A_x0.out.below hb)
  replace A_x1 := Lib.hid (A_x1.out.below hb)
  have A_g0 := Lib.hid (ho_g0.lies (Nat.le_refl _))
  clear ho_g0 hb
  have bd_g0 : szUint64S (minM m0 m1) ≤ 1000000000000 := minM_bd m0 m1
  go_wp2_with fail
  refine (uEqUint64S (.slice g0_a0 g0_n0 g0_c0) (.slice w0_a0 w0_n0 w0_c0) (minM m0 m1) _ A_g0.out.now.read A_w0.out.now.read).mono ?_
  rintro e w7 ⟨rfl, hb⟩
  have s_w7 : w6.heap.size ≤ w7.heap.size := by have := hb.size; simpa only [size_box, size_drew] using this
  replace B := Lib.hid (below_seq B.out hb)
  replace R_aA := Lib.hid (R_aA.out.below hb)
  replace R_aB := Lib.hid (R_aB.out.below hb)
  replace A_w0 := Lib.hid (A_w0.out.below hb)
  replace A_x0 := Lib.hid (A_x0.out.below hb)
  replace A_x1 := Lib.hid (A_x1.out.below hb)
  replace A_g0 := Lib.hid (A_g0.out.below hb)
  clear hb
  go_wp2_with fail
  refine (uToUint64S (.slice a0 m0.length cap0) m0 _ hs0 R_aA.out.now).mono ?_
  rintro e w8 ⟨te7_0, rfl, ho, hb⟩
  obtain ⟨te7_a0, te7_n0, te7_c0, rfl⟩ := ho.shape
  have s_w8 : w7.heap.size ≤ w8.heap.size := by have := hb.size; simpa only [size_box, size_drew] using this
  replace B := Lib.hid (below_seq B.out hb)
  replace R_aA := Lib.hid (R_aA.out.below hb)
  replace R_aB := Lib.hid (R_aB.out.below hb)
  replace A_w0 := Lib.hid (A_w0.out.below hb)
  replace A_x0 := Lib.hid (A_x0.out.below hb)
  replace A_x1 := Lib.hid (A_x1.out.below hb)
  replace A_g0 := Lib.hid (A_g0.out.below hb)
  have A_te7_ := Lib.hid (ho.lies (Nat.le_refl _))
  clear ho hb
  go_wp2_with fail
  refine (uEqUint64S (.slice x0a0 x0n0 x0c0) (.slice te7_a0 te7_n0 te7_c0) m0 _ A_x0.out.now.read A_te7_.out.now.read).mono ?_
  rintro e w9 ⟨rfl, hb⟩
  have s_w9 : w8.heap.size ≤ w9.heap.size := by have := hb.size; simpa only [size_box, size_drew] using this
  replace B := Lib.hid (below_seq B.out hb)
  replace R_aA := Lib.hid (R_aA.out.below hb)
  replace R_aB := Lib.hid (R_aB.out.below hb)
  replace A_w0 := Lib.hid (A_w0.out.below hb)
  replace A_x0 := Lib.hid (A_x0.out.below hb)
  replace A_x1 := Lib.hid (A_x1.out.below hb)
  replace A_g0 := Lib.hid (A_g0.out.below hb)
  replace A_te7_ := Lib.hid (A_te7_.out.below hb)
  clear hb
  clear A_te7_
  go_wp2_with fail
  refine (uToUint64S (.slice a1 m1.length cap1) m1 _ hs1 R_aB.out.now).mono ?_
  rintro e w10 ⟨te9_0, rfl, ho, hb⟩
  obtain ⟨te9_a0, te9_n0, te9_c0, rfl⟩ := ho.shape
  have s_w10 : w9.heap.size ≤ w10.heap.size := by have := hb.size; simpa only [size_box, size_drew] using this
  replace B := Lib.hid (below_seq B.out hb)
  replace R_aA := Lib.hid (R_aA.out.below hb)
  replace R_aB := Lib.hid (R_aB.out.below hb)
  replace A_w0 := Lib.hid (A_w0.out.below hb)
  replace A_x0 := Lib.hid (A_x0.out.below hb)
  replace A_x1 := Lib.hid (A_x1.out.below hb)
  replace A_g0 := Lib.hid (A_g0.out.below hb)
  have A_te9_ := Lib.hid (ho.lies (Nat.le_refl _))
  clear ho hb
  go_wp2_with fail
  refine (uEqUint64S (.slice x1a0 x1n0 x1c0) (.slice te9_a0 te9_n0 te9_c0) m1 _ A_x1.out.now.read A_te9_.out.now.read).mono ?_
  rintro e w11 ⟨rfl, hb⟩
  have s_w11 : w10.heap.size ≤ w11.heap.size := by have := hb.size; simpa only [size_box, size_drew] using this
  replace B := Lib.hid (below_seq B.out hb)
  replace R_aA := Lib.hid (R_aA.out.below hb)
  replace R_aB := Lib.hid (R_aB.out.below hb)
  replace A_w0 := Lib.hid (A_w0.out.below hb)
  replace A_x0 := Lib.hid (A_x0.out.below hb)
  replace A_x1 := Lib.hid (A_x1.out.below hb)
  replace A_g0 := Lib.hid (A_g0.out.below hb)
  replace A_te9_ := Lib.hid (A_te9_.out.below hb)
  clear hb
  clear A_te9_
  go_wp2_with fail
  refine (uMarkUint64S w3.heap.size w4.heap.size 1 (.slice x0a0 x0n0 x0c0) m0 _ (by omega) A_x0.out.now).mono ?_
  rintro e w12 ⟨k12, rfl, hk, ho, hc⟩
  have bd_k12 : k12 ≤ 2000000000000 := by omega
  have HK_k12 := Lib.hid hk
  have s_w12 : w11.heap.size ≤ w12.heap.size := by have := hc.size; simpa only [size_box, size_drew] using this
  have ho_t := A_x0.out.top
  clear A_x0
  replace B := Lib.hid (hc.below B.out (by have := B0s; omega))
  replace R_aA := Lib.hid (R_aA.out.chg hc (by have := B0s; omega))
  replace R_aB := Lib.hid (R_aB.out.chg hc (by have := B0s; omega))
  replace A_w0 := Lib.hid (A_w0.out.chg hc (by have := B0s; omega))
  replace A_x1 := Lib.hid (A_x1.out.chg hc (by have := B0s; omega))
  replace A_g0 := Lib.hid (A_g0.out.chg hc (by have := B0s; omega))
  have A_x0 := Lib.hid (ho.lies (Nat.le_trans ho_t s_w12))
  clear hk ho hc ho_t
  go_wp2_with fail
  refine (uMarkUint64S w4.heap.size w5.heap.size k12 (.slice x1a0 x1n0 x1c0) m1 _ (by omega) A_x1.out.now).mono ?_
  rintro e w13 ⟨k13, rfl, hk, ho, hc⟩
  have bd_k13 : k13 ≤ 4000000000000 := by omega
  have HK_k13 := Lib.hid hk
  have s_w13 : w12.heap.size ≤ w13.heap.size := by have := hc.size; simpa only [size_box, size_drew] using this
  have ho_t := A_x1.out.top
  clear A_x1
  replace B := Lib.hid (hc.below B.out (by have := B0s; omega))
  replace R_aA := Lib.hid (R_aA.out.chg hc (by have := B0s; omega))
  replace R_aB := Lib.hid (R_aB.out.chg hc (by have := B0s; omega))
  replace A_w0 := Lib.hid (A_w0.out.chg hc (by have := B0s; omega))
  replace A_g0 := Lib.hid (A_g0.out.chg hc (by have := B0s; omega))
  replace A_x0 := Lib.hid (A_x0.out.chg hc (by have := B0s; omega))
  have A_x1 := Lib.hid (ho.lies (Nat.le_trans ho_t s_w13))
  clear hk ho hc ho_t
  go_wp2_with fail
  refine (uEqUint64S (.slice g0_a0 g0_n0 g0_c0) (.slice w0_a0 w0_n0 w0_c0) (minM m0 m1) _ A_g0.out.now.read A_w0.out.now.read).mono ?_
  rintro e w14 ⟨rfl, hb⟩
  have s_w14 : w13.heap.size ≤ w14.heap.size := by have := hb.size; simpa only [size_box, size_drew] using this
  replace B := Lib.hid (below_seq B.out hb)
  replace R_aA := Lib.hid (R_aA.out.below hb)
  replace R_aB := Lib.hid (R_aB.out.below hb)
  replace A_w0 := Lib.hid (A_w0.out.below hb)
  replace A_g0 := Lib.hid (A_g0.out.below hb)
  replace A_x0 := Lib.hid (A_x0.out.below hb)
  replace A_x1 := Lib.hid (A_x1.out.below hb)
  clear hb
  go_wp2_with fail
  refine (uMarkUint64S w5.heap.size w6.heap.size 1 (.slice g0_a0 g0_n0 g0_c0) (minM m0 m1) _ (by have := bd_g0; omega) A_g0.out.now).mono ?_
  rintro e w15 ⟨k15, rfl, hk, ho, hc⟩
  have bd_k15 : k15 ≤ 2000000000000 := by have := bd_g0; omega
  have HK_k15 := Lib.hid hk
  have s_w15 : w14.heap.size ≤ w15.heap.size := by have := hc.size; simpa only [size_box, size_drew] using this
  have ho_t := A_g0.out.top
  clear A_g0
  replace B := Lib.hid (hc.below B.out (by have := B0s; omega))
  replace R_aA := Lib.hid (R_aA.out.chg hc (by have := B0s; omega))
  replace R_aB := Lib.hid (R_aB.out.chg hc (by have := B0s; omega))
  replace A_w0 := Lib.hid (A_w0.out.chg hc (by have := B0s; omega))
  replace A_x0 := Lib.hid (A_x0.out.chg hc (by have := B0s; omega))
  replace A_x1 := Lib.hid (A_x1.out.chg hc (by have := B0s; omega))
  have A_g0 := Lib.hid (ho.lies (Nat.le_trans ho_t s_w15))
  clear hk ho hc ho_t
  go_wp2_with fail
  refine (uHeldUint64S 1 (.slice g0_a0 g0_n0 g0_c0) (minM m0 m1) _ (by have := HK_k15.out; omega) A_g0.out.now.read).mono ?_
  rintro e w16 ⟨k16, rfl, hk, hb⟩
  have hkk : k16 = k15 := by have := HK_k15.out; omega
  rw [hkk]
  clear hk hkk
  have s_w16 : w15.heap.size ≤ w16.heap.size := by have := hb.size; simpa only [size_box, size_drew] using this
  replace B := Lib.hid (below_seq B.out hb)
  replace R_aA := Lib.hid (R_aA.out.below hb)
  replace R_aB := Lib.hid (R_aB.out.below hb)
  replace A_w0 := Lib.hid (A_w0.out.below hb)
  replace A_x0 := Lib.hid (A_x0.out.below hb)
  replace A_x1 := Lib.hid (A_x1.out.below hb)
  replace A_g0 := Lib.hid (A_g0.out.below hb)
  clear hb
  go_wp2_with fail
  refine (uToUint64S (.slice a0 m0.length cap0) m0 _ hs0 R_aA.out.now).mono ?_
  rintro e w17 ⟨t16_0, rfl, ho, hb⟩
  obtain ⟨t16_a0, t16_n0, t16_c0, rfl⟩ := ho.shape
  have s_w17 : w16.heap.size ≤ w17.heap.size := by have := hb.size; simpa only [size_box, size_drew] using this
  replace B := Lib.hid (below_seq B.out hb)
  replace R_aA := Lib.hid (R_aA.out.below hb)
  replace R_aB := Lib.hid (R_aB.out.below hb)
  replace A_w0 := Lib.hid (A_w0.out.below hb)
  replace A_x0 := Lib.hid (A_x0.out.below hb)
  replace A_x1 := Lib.hid (A_x1.out.below hb)
  replace A_g0 := Lib.hid (A_g0.out.below hb)
  have A_t16_ := Lib.hid (ho.lies (Nat.le_refl _))
  clear ho hb
  go_wp2_with fail
  refine (uToUint64S (.slice a1 m1.length cap1) m1 _ hs1 R_aB.out.now).mono ?_
  rintro e w18 ⟨t17_0, rfl, ho, hb⟩
  obtain ⟨t17_a0, t17_n0, t17_c0, rfl⟩ := ho.shape
  have s_w18 : w17.heap.size ≤ w18.heap.size := by have := hb.size; simpa only [size_box, size_drew] using this
  replace B := Lib.hid (below_seq B.out hb)
  replace R_aA := Lib.hid (R_aA.out.below hb)
  replace R_aB := Lib.hid (R_aB.out.below hb)
  replace A_w0 := Lib.hid (A_w0.out.below hb)
  replace A_x0 := Lib.hid (A_x0.out.below hb)
  replace A_x1 := Lib.hid (A_x1.out.below hb)
  replace A_g0 := Lib.hid (A_g0.out.below hb)
  replace A_t16_ := Lib.hid (A_t16_.out.below hb)
  have A_t17_ := Lib.hid (ho.lies (Nat.le_refl _))
  clear ho hb
  go_wp2_with fail
  refine (uImplNumsMin (.slice t16_a0 t16_n0 t16_c0) m0 (.slice t17_a0 t17_n0 t17_c0) m1 _ A_t16_.out.now.read A_t17_.out.now.read b0 b1).mono ?_
  rintro e w19 ⟨h0_0, rfl, ho_h0, hb⟩
  obtain ⟨h0_a0, h0_n0, h0_c0, rfl⟩ := ho_h0.shape
  clear A_t16_ A_t17_
  have s_w19 : w18.heap.size ≤ w19.heap.size := by have := hb.size; simpa only [size_box, size_drew] using this
  replace B := Lib.hid (below_seq B.out hb)
  replace R_aA := Lib.hid (R_aA.out.below hb)
  replace R_aB := Lib.hid (R_aB.out.below hb)
  replace A_w0 := Lib.hid (A_w0.out.below hb)
  replace A_x0 := Lib.hid (A_x0.out.below hb)
  replace A_x1 := Lib.hid (A_x1.out.below hb)
  replace A_g0 := Lib.hid (A_g0.out.below hb)
  have A_h0 := Lib.hid (ho_h0.lies (Nat.le_refl _))
  clear ho_h0 hb
  go_wp2_with fail
  refine (uEqUint64S (.slice h0_a0 h0_n0 h0_c0) (.slice w0_a0 w0_n0 w0_c0) (minM m0 m1) _ A_h0.out.now.read A_w0.out.now.read).mono ?_
  rintro e w20 ⟨rfl, hb⟩
  have s_w20 : w19.heap.size ≤ w20.heap.size := by have := hb.size; simpa only [size_box, size_drew] using this
  replace B := Lib.hid (below_seq B.out hb)
  replace R_aA := Lib.hid (R_aA.out.below hb)
  replace R_aB := Lib.hid (R_aB.out.below hb)
  replace A_w0 := Lib.hid (A_w0.out.below hb)
  replace A_x0 := Lib.hid (A_x0.out.below hb)
  replace A_x1 := Lib.hid (A_x1.out.below hb)
  replace A_g0 := Lib.hid (A_g0.out.below hb)
  replace A_h0 := Lib.hid (A_h0.out.below hb)
  clear hb
  go_wp2_with fail
  refine (uHeldUint64S 1 (.slice g0_a0 g0_n0 g0_c0) (minM m0 m1) _ (by have := HK_k15.out; omega) A_g0.out.now.read).mono ?_
  rintro e w21 ⟨k21, rfl, hk, hb⟩
  have hkk : k21 = k15 := by have := HK_k15.out; omega
  rw [hkk]
  clear hk hkk
  have s_w21 : w20.heap.size ≤ w21.heap.size := by have := hb.size; simpa only [size_box, size_drew] using this
  replace B := Lib.hid (below_seq B.out hb)
  replace R_aA := Lib.hid (R_aA.out.below hb)
  replace R_aB := Lib.hid (R_aB.out.below hb)
  replace A_w0 := Lib.hid (A_w0.out.below hb)
  replace A_x0 := Lib.hid (A_x0.out.below hb)
  replace A_x1 := Lib.hid (A_x1.out.below hb)
  replace A_g0 := Lib.hid (A_g0.out.below hb)
  replace A_h0 := Lib.hid (A_h0.out.below hb)
  clear hb
  go_wp2
  go_ret
  exact ⟨rfl, B.out⟩

set_option maxRecDepth 100000 in
theorem lifted (os : Os) (started : os.Started) (H : Type) (enc : TypeId × Value → H) :
    ReturnsInHanded {} Try.checked os 12 .any (Rows.fnExactNumsMinSpec.pre6 enc Try.prog Try.f12 Rows.fnExactNumsMinRow.domain false) (Rows.fnExactNumsMinSpec.post enc Try.prog Try.f12 false true false false) := by
  refine returnsInHanded_of_change (C := Try.checked) own started (by kernel_rfl) Try.func12
    (ChangeSpec.witness6 (enc := enc) (C := Try.checked) false ⟨#[], #[.slice none 0 0, .slice none 0 0], []⟩ 8 (by kernel_rfl) (by kernel_rfl) (by kernel_rfl) (by kernel_rfl)) ?_
  intro W base args ds gs before hval0 hW hcnd _
  have hval : ∀ (j : Nat) t v, Try.f12.params[j]? = some t → args[j]? = some v → Value.okWide Try.prog W .any base t v := hval0
  have hW' := hW
  obtain ⟨p, q, hA0, hV, rfl, hfz, hnd⟩ := hW
  have hA : DataW.TrodAll enc Try.prog W 0 (fun _ => true) true Try.f12.params.toList args.toList ds p := hA0
  rw [Try.params12] at hA hval
  obtain ⟨v0, vs0, d0, ds0, p0, q0, hargs, rfl, rfl, h0, r0⟩ := trodAll_cons hA
  obtain ⟨v1, vs1, d1, ds1, p1, q1, rfl, rfl, rfl, h1, r1⟩ := trodAll_cons r0
  obtain ⟨rfl, rfl, rfl⟩ := trodAll_nil r1
  obtain rfl : args = #[v0, v1] := by cases args; simp_all
  obtain ⟨rfl, rfl⟩ := trodVars_none hV
  have lt0 : ∀ x ∈ p0, x.block < W.heap.size := by obtain ⟨m, hm⟩ := h0; exact DataW.trod_lt m _ _ _ hm
  have lt1 : ∀ x ∈ p1, x.block < W.heap.size := by obtain ⟨m, hm⟩ := h1; exact DataW.trod_lt m _ _ _ hm
  clear hA0 hval0
  refine (walk v0 v1 W ⟨⟨base, hval 0 26 v0 rfl rfl⟩, Rd.of h0⟩ ⟨⟨base, hval 1 26 v1 rfl rfl⟩, Rd.of h1⟩).mono fun e W' ⟨he, bel⟩ => ?_
  subst he
  exact ⟨_, rfl, _, _, _, [], _, [], hW', trodAll_mk1 (shut_bool Try.underlying4 _), (trodAll_cons_mk (Below.trod laidOut (by kernel_rfl) (of_decide_eq_true (by kernel_rfl)) h0 bel lt0) (trodAll_cons_mk (Below.trod laidOut (by kernel_rfl) (of_decide_eq_true (by kernel_rfl)) h1 bel lt1) trodAll_mk0)), rfl, bel.frame _, fun h => by cases h⟩

theorem over : Rows.fnExactNumsMinRow.holds Try.pinned (OpenSpec.ofChange Rows.fnExactNumsMinSpec) :=
  OpenClaim.holds_of_wide 12 Try.f12 rfl rfl rfl rfl rfl rfl rfl ⟨rfl, rfl, rfl, rfl, rfl⟩ rfl rfl rfl rfl rfl (by kernel_rfl) Try.func12 (by kernel_rfl)
    (of_decide_eq_true (by kernel_rfl)) (by unfold Func.isWrapper; first | (rw [if_pos (by decide +kernel)]; kernel_rfl) | (rw [if_neg (by decide +kernel)]; exact ⟨rfl, rfl⟩))
    (fun os started H enc _ => lifted os started H enc)
end Go.Proofs.Ytfdlmpjccoaejaa.fnExactNumsMin
namespace Go.Proofs.Ytfdlmpjccoaejaa
/-- NumsMin answers as its model, at every argument. -/
theorem fnExactNumsMin_holds : Rows.FnExactNumsMinSaid := fnExactNumsMin.over
end Go.Proofs.Ytfdlmpjccoaejaa
