/- For every argument: the law FnExactBytesSwap answers true, that is, BytesSwap answers as its model and writes into no argument; its answer owns its memory. No condition. -/
import Derived.Test.YtigigmffigjpeaaBase
import Derived.Test.YtigigmffigjpeaaReads
import Derived.Test.YtigigmffigjpeaaBytesS
import Derived.Deep.RegionHeld3
namespace Go.Proofs.Ytigigmffigjpeaa.fnExactBytesSwap
open Go.ChangeShapes Go.WideShapes Go.ChangeAt Go.RowKit
set_option linter.unusedVariables false

set_option maxRecDepth 100000 in
set_option maxHeartbeats 4000000 in
theorem walk (v0 : Value) (v1 : Value) (v2 : Value) (w : World) (h0 : Arg w 24 v0) (h1 : Arg w 22 v1) (h2 : Arg w 22 v2) :
    Calls Try.prog 13 #[v0, v1, v2] w fun e w' => e = .returned (.bool true) ∧ Below w.heap.size w w' := by
  obtain ⟨m0, rfl, b0⟩ := arg_uint64 h0
  clear h0
  obtain ⟨d1_0, m1, rfl, i1, b1⟩ := argByteS h1
  have R_aA := Lib.hid i1.lies
  obtain ⟨a1, cap1, rfl, _, hx1, _⟩ := byteSIn_shape i1
  clear i1
  clear h1
  obtain ⟨d2_0, m2, rfl, i2, b2⟩ := argByteS h2
  have R_aB := Lib.hid i2.lies
  obtain ⟨a2, cap2, rfl, _, hx2, _⟩ := byteSIn_shape i2
  clear i2
  clear h2
  have B : Hid (Below w.heap.size w w) := Lib.hid (Below.refl _ _)
  have B0s : 0 ≤ w.heap.size := Nat.zero_le _
  by_cases g1 : 1048576 < m1.length
  · go_enter Try.func13, Try.ntmps13
    go_wp2
    go_ret
    exact ⟨rfl, B.out⟩
  have hs1 : szByteS m1 ≤ 1048576 := by unfold szByteS; omega
  by_cases g2 : 1048576 < m2.length
  · go_enter Try.func13, Try.ntmps13
    go_wp2
    go_ret
    exact ⟨rfl, B.out⟩
  have hs2 : szByteS m2 ≤ 1048576 := by unfold szByteS; omega
  go_enter Try.func13, Try.ntmps13
  go_wp2_with fail
  refine (uToByteS (.slice a1 m1.length cap1) m1 _ hs1 R_aA.out.now).mono ?_
  rintro e w1 ⟨t0_0, rfl, ho, hb⟩
  obtain ⟨t0_a0, t0_n0, t0_c0, rfl⟩ := ho.shape
  have s_w1 : w.heap.size ≤ w1.heap.size := by have := hb.size; simpa only [size_box, size_drew] using this
  replace B := Lib.hid (below_seq B.out hb)
  replace R_aA := Lib.hid (R_aA.out.below hb)
  replace R_aB := Lib.hid (R_aB.out.below hb)
  have A_t0_ := Lib.hid (ho.lies (Nat.le_refl _))
  clear ho hb
  go_wp2_with fail
  refine (uToByteS (.slice a2 m2.length cap2) m2 _ hs2 R_aB.out.now).mono ?_
  rintro e w2 ⟨t1_0, rfl, ho, hb⟩
  obtain ⟨t1_a0, t1_n0, t1_c0, rfl⟩ := ho.shape
  have s_w2 : w1.heap.size ≤ w2.heap.size := by have := hb.size; simpa only [size_box, size_drew] using this
  replace B := Lib.hid (below_seq B.out hb)
  replace R_aA := Lib.hid (R_aA.out.below hb)
  replace R_aB := Lib.hid (R_aB.out.below hb)
  replace A_t0_ := Lib.hid (A_t0_.out.below hb)
  have A_t1_ := Lib.hid (ho.lies (Nat.le_refl _))
  clear ho hb
  go_wp2_with fail
  refine (uSpecBytesSwap m0 (.slice t0_a0 t0_n0 t0_c0) m1 (.slice t1_a0 t1_n0 t1_c0) m2 _ A_t0_.out.now.read A_t1_.out.now.read b0).mono ?_
  rintro e w3 ⟨w0_0, w1_0, mid_w0, rfl, ho_w0, ho_w1, hm0_w0, hm1_w0, hb⟩
  obtain ⟨w0_a0, w0_n0, w0_c0, rfl⟩ := ho_w0.shape
  obtain ⟨w1_a0, w1_n0, w1_c0, rfl⟩ := ho_w1.shape
  clear A_t0_ A_t1_
  have ht_w0 : mid_w0 ≤ w3.heap.size := by omega
  have s_w3 : w2.heap.size ≤ w3.heap.size := by have := hb.size; simpa only [size_box, size_drew] using this
  replace B := Lib.hid (below_seq B.out hb)
  replace R_aA := Lib.hid (R_aA.out.below hb)
  replace R_aB := Lib.hid (R_aB.out.below hb)
  have A_w0 := Lib.hid (ho_w0.lies ht_w0)
  have A_w1 := Lib.hid (ho_w1.lies (Nat.le_refl _))
  clear ho_w0 ho_w1 hb
  go_wp2_with fail
  refine (uToByteS (.slice a1 m1.length cap1) m1 _ hs1 R_aA.out.now).mono ?_
  rintro e w4 ⟨x10, rfl, ho, hb⟩
  obtain ⟨x1a0, x1n0, x1c0, rfl⟩ := ho.shape
  have s_w4 : w3.heap.size ≤ w4.heap.size := by have := hb.size; simpa only [size_box, size_drew] using this
  replace B := Lib.hid (below_seq B.out hb)
  replace R_aA := Lib.hid (R_aA.out.below hb)
  replace R_aB := Lib.hid (R_aB.out.below hb)
  replace A_w0 := Lib.hid (A_w0.out.below hb)
  replace A_w1 := Lib.hid (A_w1.out.below hb)
  have A_x1 := Lib.hid (ho.lies (Nat.le_refl _))
  clear ho hb
  go_wp2_with fail
  refine (uToByteS (.slice a2 m2.length cap2) m2 _ hs2 R_aB.out.now).mono ?_
  rintro e w5 ⟨x20, rfl, ho, hb⟩
  obtain ⟨x2a0, x2n0, x2c0, rfl⟩ := ho.shape
  have s_w5 : w4.heap.size ≤ w5.heap.size := by have := hb.size; simpa only [size_box, size_drew] using this
  replace B := Lib.hid (below_seq B.out hb)
  replace R_aA := Lib.hid (R_aA.out.below hb)
  replace R_aB := Lib.hid (R_aB.out.below hb)
  replace A_w0 := Lib.hid (A_w0.out.below hb)
  replace A_w1 := Lib.hid (A_w1.out.below hb)
  replace A_x1 := Lib.hid (A_x1.out.below hb)
  have A_x2 := Lib.hid (ho.lies (Nat.le_refl _))
  clear ho hb
  go_wp2_with fail
  refine (uImplBytesSwap m0 (.slice x1a0 x1n0 x1c0) m1 (.slice x2a0 x2n0 x2c0) m2 _ A_x1.out.now.read A_x2.out.now.read b0).mono ?_
  rintro e w6 ⟨g0_0, g1_0, mid_g0, rfl, ho_g0, ho_g1, hm0_g0, hm1_g0, hb⟩
  obtain ⟨g0_a0, g0_n0, g0_c0, rfl⟩ := ho_g0.shape
  obtain ⟨g1_a0, g1_n0, g1_c0, rfl⟩ := ho_g1.shape
  have ht_g0 : mid_g0 ≤ w6.heap.size := by omega
  have s_w6 : w5.heap.size ≤ w6.heap.size := by have := hb.size; simpa only [size_box, size_drew] using this
  replace B := Lib.hid (below_seq B.out hb)
  replace R_aA := Lib.hid (R_aA.out.below hb)
  replace R_aB := Lib.hid (R_aB.out.below hb)
  replace A_w0 := Lib.hid (A_w0.out.below hb)
  replace A_w1 := Lib.hid (A_w1.out.below hb)
  replace A_x1 := Lib.hid (A_x1.out.below hb)
  replace A_x2 := Lib.hid (A_x2.out.below hb)
  have A_g0 := Lib.hid (ho_g0.lies ht_g0)
  have A_g1 := Lib.hid (ho_g1.lies (Nat.le_refl _))
  clear ho_g0 ho_g1 hb
  have bd_g0 : szByteS (selB m0 m2 m1) ≤ 1000000000000 := selB_bd m0 m2 m1
  have bd_g1 : szByteS (selB m0 m1 m2) ≤ 1000000000000 := selB_bd m0 m1 m2
  go_wp2_with fail
  refine (uEqByteS (.slice g0_a0 g0_n0 g0_c0) (.slice w0_a0 w0_n0 w0_c0) (selB m0 m2 m1) _ A_g0.out.now.read A_w0.out.now.read).mono ?_
  rintro e w7 ⟨rfl, hb⟩
  have s_w7 : w6.heap.size ≤ w7.heap.size := by have := hb.size; simpa only [size_box, size_drew] using this
  replace B := Lib.hid (below_seq B.out hb)
  replace R_aA := Lib.hid (R_aA.out.below hb)
  replace R_aB := Lib.hid (R_aB.out.below hb)
  replace A_w0 := Lib.hid (A_w0.out.below hb)
  replace A_w1 := Lib.hid (A_w1.out.below hb)
  replace A_x1 := Lib.hid (A_x1.out.below hb)
  replace A_x2 := Lib.hid (A_x2.out.below hb)
  replace A_g0 := Lib.hid (A_g0.out.below hb)
  replace A_g1 := Lib.hid (A_g1.out.below hb)
  clear hb
  go_wp2_with fail
  refine (uEqByteS (.slice g1_a0 g1_n0 g1_c0) (.slice w1_a0 w1_n0 w1_c0) (selB m0 m1 m2) _ A_g1.out.now.read A_w1.out.now.read).mono ?_
  rintro e w8 ⟨rfl, hb⟩
  have s_w8 : w7.heap.size ≤ w8.heap.size := by have := hb.size; simpa only [size_box, size_drew] using this
  replace B := Lib.hid (below_seq B.out hb)
  replace R_aA := Lib.hid (R_aA.out.below hb)
  replace R_aB := Lib.hid (R_aB.out.below hb)
  replace A_w0 := Lib.hid (A_w0.out.below hb)
  replace A_w1 := Lib.hid (A_w1.out.below hb)
  replace A_x1 := Lib.hid (A_x1.out.below hb)
  replace A_x2 := Lib.hid (A_x2.out.below hb)
  replace A_g0 := Lib.hid (A_g0.out.below hb)
  replace A_g1 := Lib.hid (A_g1.out.below hb)
  clear hb
  go_wp2_with fail
  refine (uToByteS (.slice a1 m1.length cap1) m1 _ hs1 R_aA.out.now).mono ?_
  rintro e w9 ⟨te8_0, rfl, ho, hb⟩
  obtain ⟨te8_a0, te8_n0, te8_c0, rfl⟩ := ho.shape
  have s_w9 : w8.heap.size ≤ w9.heap.size := by have := hb.size; simpa only [size_box, size_drew] using this
  replace B := Lib.hid (below_seq B.out hb)
  replace R_aA := Lib.hid (R_aA.out.below hb)
  replace R_aB := Lib.hid (R_aB.out.below hb)
  replace A_w0 := Lib.hid (A_w0.out.below hb)
  replace A_w1 := Lib.hid (A_w1.out.below hb)
  replace A_x1 := Lib.hid (A_x1.out.below hb)
  replace A_x2 := Lib.hid (A_x2.out.below hb)
  replace A_g0 := Lib.hid (A_g0.out.below hb)
  replace A_g1 := Lib.hid (A_g1.out.below hb)
  have A_te8_ := Lib.hid (ho.lies (Nat.le_refl _))
  clear ho hb
  go_wp2_with fail
  refine (uEqByteS (.slice x1a0 x1n0 x1c0) (.slice te8_a0 te8_n0 te8_c0) m1 _ A_x1.out.now.read A_te8_.out.now.read).mono ?_
  rintro e w10 ⟨rfl, hb⟩
  have s_w10 : w9.heap.size ≤ w10.heap.size := by have := hb.size; simpa only [size_box, size_drew] using this
  replace B := Lib.hid (below_seq B.out hb)
  replace R_aA := Lib.hid (R_aA.out.below hb)
  replace R_aB := Lib.hid (R_aB.out.below hb)
  replace A_w0 := Lib.hid (A_w0.out.below hb)
  replace A_w1 := Lib.hid (A_w1.out.below hb)
  replace A_x1 := Lib.hid (A_x1.out.below hb)
  replace A_x2 := Lib.hid (A_x2.out.below hb)
  replace A_g0 := Lib.hid (A_g0.out.below hb)
  replace A_g1 := Lib.hid (A_g1.out.below hb)
  replace A_te8_ := Lib.hid (A_te8_.out.below hb)
  clear hb
  clear A_te8_
  go_wp2_with fail
  refine (uToByteS (.slice a2 m2.length cap2) m2 _ hs2 R_aB.out.now).mono ?_
  rintro e w11 ⟨te10_0, rfl, ho, hb⟩
  obtain ⟨te10_a0, te10_n0, te10_c0, rfl⟩ := ho.shape
  have s_w11 : w10.heap.size ≤ w11.heap.size := by have := hb.size; simpa only [size_box, size_drew] using this
  replace B := Lib.hid (below_seq B.out hb)
  replace R_aA := Lib.hid (R_aA.out.below hb)
  replace R_aB := Lib.hid (R_aB.out.below hb)
  replace A_w0 := Lib.hid (A_w0.out.below hb)
  replace A_w1 := Lib.hid (A_w1.out.below hb)
  replace A_x1 := Lib.hid (A_x1.out.below hb)
  replace A_x2 := Lib.hid (A_x2.out.below hb)
  replace A_g0 := Lib.hid (A_g0.out.below hb)
  replace A_g1 := Lib.hid (A_g1.out.below hb)
  have A_te10_ := Lib.hid (ho.lies (Nat.le_refl _))
  clear ho hb
  go_wp2_with fail
  refine (uEqByteS (.slice x2a0 x2n0 x2c0) (.slice te10_a0 te10_n0 te10_c0) m2 _ A_x2.out.now.read A_te10_.out.now.read).mono ?_
  rintro e w12 ⟨rfl, hb⟩
  have s_w12 : w11.heap.size ≤ w12.heap.size := by have := hb.size; simpa only [size_box, size_drew] using this
  replace B := Lib.hid (below_seq B.out hb)
  replace R_aA := Lib.hid (R_aA.out.below hb)
  replace R_aB := Lib.hid (R_aB.out.below hb)
  replace A_w0 := Lib.hid (A_w0.out.below hb)
  replace A_w1 := Lib.hid (A_w1.out.below hb)
  replace A_x1 := Lib.hid (A_x1.out.below hb)
  replace A_x2 := Lib.hid (A_x2.out.below hb)
  replace A_g0 := Lib.hid (A_g0.out.below hb)
  replace A_g1 := Lib.hid (A_g1.out.below hb)
  replace A_te10_ := Lib.hid (A_te10_.out.below hb)
  clear hb
  clear A_te10_
  go_wp2_with fail
  refine (uMarkByteS w3.heap.size w4.heap.size 1 (.slice x1a0 x1n0 x1c0) m1 _ (by omega) A_x1.out.now).mono ?_
  rintro e w13 ⟨k13, rfl, hk, ho, hc⟩
  have bd_k13 : k13 ≤ 2000000000000 := by omega
  have HK_k13 := Lib.hid hk
  have s_w13 : w12.heap.size ≤ w13.heap.size := by have := hc.size; simpa only [size_box, size_drew] using this
  have ho_t := A_x1.out.top
  clear A_x1
  replace B := Lib.hid (hc.below B.out (by have := B0s; omega))
  replace R_aA := Lib.hid (R_aA.out.chg hc (by have := B0s; omega))
  replace R_aB := Lib.hid (R_aB.out.chg hc (by have := B0s; omega))
  replace A_w0 := Lib.hid (A_w0.out.chg hc (by have := B0s; omega))
  replace A_w1 := Lib.hid (A_w1.out.chg hc (by have := B0s; omega))
  replace A_x2 := Lib.hid (A_x2.out.chg hc (by have := B0s; omega))
  replace A_g0 := Lib.hid (A_g0.out.chg hc (by have := B0s; omega))
  replace A_g1 := Lib.hid (A_g1.out.chg hc (by have := B0s; omega))
  have A_x1 := Lib.hid (ho.lies (Nat.le_trans ho_t s_w13))
  clear hk ho hc ho_t
  go_wp2_with fail
  refine (uMarkByteS w4.heap.size w5.heap.size k13 (.slice x2a0 x2n0 x2c0) m2 _ (by omega) A_x2.out.now).mono ?_
  rintro e w14 ⟨k14, rfl, hk, ho, hc⟩
  have bd_k14 : k14 ≤ 4000000000000 := by omega
  have HK_k14 := Lib.hid hk
  have s_w14 : w13.heap.size ≤ w14.heap.size := by have := hc.size; simpa only [size_box, size_drew] using this
  have ho_t := A_x2.out.top
  clear A_x2
  replace B := Lib.hid (hc.below B.out (by have := B0s; omega))
  replace R_aA := Lib.hid (R_aA.out.chg hc (by have := B0s; omega))
  replace R_aB := Lib.hid (R_aB.out.chg hc (by have := B0s; omega))
  replace A_w0 := Lib.hid (A_w0.out.chg hc (by have := B0s; omega))
  replace A_w1 := Lib.hid (A_w1.out.chg hc (by have := B0s; omega))
  replace A_g0 := Lib.hid (A_g0.out.chg hc (by have := B0s; omega))
  replace A_g1 := Lib.hid (A_g1.out.chg hc (by have := B0s; omega))
  replace A_x1 := Lib.hid (A_x1.out.chg hc (by have := B0s; omega))
  have A_x2 := Lib.hid (ho.lies (Nat.le_trans ho_t s_w14))
  clear hk ho hc ho_t
  go_wp2_with fail
  refine (uEqByteS (.slice g0_a0 g0_n0 g0_c0) (.slice w0_a0 w0_n0 w0_c0) (selB m0 m2 m1) _ A_g0.out.now.read A_w0.out.now.read).mono ?_
  rintro e w15 ⟨rfl, hb⟩
  have s_w15 : w14.heap.size ≤ w15.heap.size := by have := hb.size; simpa only [size_box, size_drew] using this
  replace B := Lib.hid (below_seq B.out hb)
  replace R_aA := Lib.hid (R_aA.out.below hb)
  replace R_aB := Lib.hid (R_aB.out.below hb)
  replace A_w0 := Lib.hid (A_w0.out.below hb)
  replace A_w1 := Lib.hid (A_w1.out.below hb)
  replace A_g0 := Lib.hid (A_g0.out.below hb)
  replace A_g1 := Lib.hid (A_g1.out.below hb)
  replace A_x1 := Lib.hid (A_x1.out.below hb)
  replace A_x2 := Lib.hid (A_x2.out.below hb)
  clear hb
  go_wp2_with fail
  refine (uEqByteS (.slice g1_a0 g1_n0 g1_c0) (.slice w1_a0 w1_n0 w1_c0) (selB m0 m1 m2) _ A_g1.out.now.read A_w1.out.now.read).mono ?_
  rintro e w16 ⟨rfl, hb⟩
  have s_w16 : w15.heap.size ≤ w16.heap.size := by have := hb.size; simpa only [size_box, size_drew] using this
  replace B := Lib.hid (below_seq B.out hb)
  replace R_aA := Lib.hid (R_aA.out.below hb)
  replace R_aB := Lib.hid (R_aB.out.below hb)
  replace A_w0 := Lib.hid (A_w0.out.below hb)
  replace A_w1 := Lib.hid (A_w1.out.below hb)
  replace A_g0 := Lib.hid (A_g0.out.below hb)
  replace A_g1 := Lib.hid (A_g1.out.below hb)
  replace A_x1 := Lib.hid (A_x1.out.below hb)
  replace A_x2 := Lib.hid (A_x2.out.below hb)
  clear hb
  go_wp2_with fail
  refine (uMarkByteS w5.heap.size mid_g0 1 (.slice g0_a0 g0_n0 g0_c0) (selB m0 m2 m1) _ (by have := bd_g0; omega) A_g0.out.now).mono ?_
  rintro e w17 ⟨k17, rfl, hk, ho, hc⟩
  have bd_k17 : k17 ≤ 2000000000000 := by have := bd_g0; omega
  have HK_k17 := Lib.hid hk
  have s_w17 : w16.heap.size ≤ w17.heap.size := by have := hc.size; simpa only [size_box, size_drew] using this
  have ho_t := A_g0.out.top
  clear A_g0
  replace B := Lib.hid (hc.below B.out (by have := B0s; omega))
  replace R_aA := Lib.hid (R_aA.out.chg hc (by have := B0s; omega))
  replace R_aB := Lib.hid (R_aB.out.chg hc (by have := B0s; omega))
  replace A_w0 := Lib.hid (A_w0.out.chg hc (by have := B0s; omega))
  replace A_w1 := Lib.hid (A_w1.out.chg hc (by have := B0s; omega))
  replace A_g1 := Lib.hid (A_g1.out.chg hc (by have := B0s; omega))
  replace A_x1 := Lib.hid (A_x1.out.chg hc (by have := B0s; omega))
  replace A_x2 := Lib.hid (A_x2.out.chg hc (by have := B0s; omega))
  have A_g0 := Lib.hid (ho.lies (Nat.le_trans ho_t s_w17))
  clear hk ho hc ho_t
  go_wp2_with fail
  refine (uMarkByteS mid_g0 w6.heap.size k17 (.slice g1_a0 g1_n0 g1_c0) (selB m0 m1 m2) _ (by have := bd_g1; omega) A_g1.out.now).mono ?_
  rintro e w18 ⟨k18, rfl, hk, ho, hc⟩
  have bd_k18 : k18 ≤ 4000000000000 := by have := bd_g1; omega
  have HK_k18 := Lib.hid hk
  have s_w18 : w17.heap.size ≤ w18.heap.size := by have := hc.size; simpa only [size_box, size_drew] using this
  have ho_t := A_g1.out.top
  clear A_g1
  replace B := Lib.hid (hc.below B.out (by have := B0s; omega))
  replace R_aA := Lib.hid (R_aA.out.chg hc (by have := B0s; omega))
  replace R_aB := Lib.hid (R_aB.out.chg hc (by have := B0s; omega))
  replace A_w0 := Lib.hid (A_w0.out.chg hc (by have := B0s; omega))
  replace A_w1 := Lib.hid (A_w1.out.chg hc (by have := B0s; omega))
  replace A_x1 := Lib.hid (A_x1.out.chg hc (by have := B0s; omega))
  replace A_x2 := Lib.hid (A_x2.out.chg hc (by have := B0s; omega))
  replace A_g0 := Lib.hid (A_g0.out.chg hc (by have := B0s; omega))
  have A_g1 := Lib.hid (ho.lies (Nat.le_trans ho_t s_w18))
  clear hk ho hc ho_t
  go_wp2_with fail
  refine (uHeldByteS 1 (.slice g0_a0 g0_n0 g0_c0) (selB m0 m2 m1) _ (by have := HK_k17.out; omega) A_g0.out.now.read).mono ?_
  rintro e w19 ⟨k19, rfl, hk, hb⟩
  have hkk : k19 = k17 := by have := HK_k17.out; omega
  rw [hkk]
  clear hk hkk
  have s_w19 : w18.heap.size ≤ w19.heap.size := by have := hb.size; simpa only [size_box, size_drew] using this
  replace B := Lib.hid (below_seq B.out hb)
  replace R_aA := Lib.hid (R_aA.out.below hb)
  replace R_aB := Lib.hid (R_aB.out.below hb)
  replace A_w0 := Lib.hid (A_w0.out.below hb)
  replace A_w1 := Lib.hid (A_w1.out.below hb)
  replace A_x1 := Lib.hid (A_x1.out.below hb)
  replace A_x2 := Lib.hid (A_x2.out.below hb)
  replace A_g0 := Lib.hid (A_g0.out.below hb)
  replace A_g1 := Lib.hid (A_g1.out.below hb)
  clear hb
  go_wp2_with fail
  refine (uHeldByteS k17 (.slice g1_a0 g1_n0 g1_c0) (selB m0 m1 m2) _ (by have := HK_k18.out; omega) A_g1.out.now.read).mono ?_
  rintro e w20 ⟨k20, rfl, hk, hb⟩
  have hkk : k20 = k18 := by have := HK_k18.out; omega
  rw [hkk]
  clear hk hkk
  have s_w20 : w19.heap.size ≤ w20.heap.size := by have := hb.size; simpa only [size_box, size_drew] using this
  replace B := Lib.hid (below_seq B.out hb)
  replace R_aA := Lib.hid (R_aA.out.below hb)
  replace R_aB := Lib.hid (R_aB.out.below hb)
  replace A_w0 := Lib.hid (A_w0.out.below hb)
  replace A_w1 := Lib.hid (A_w1.out.below hb)
  replace A_x1 := Lib.hid (A_x1.out.below hb)
  replace A_x2 := Lib.hid (A_x2.out.below hb)
  replace A_g0 := Lib.hid (A_g0.out.below hb)
  replace A_g1 := Lib.hid (A_g1.out.below hb)
  clear hb
  go_wp2_with fail
  refine (uToByteS (.slice a1 m1.length cap1) m1 _ hs1 R_aA.out.now).mono ?_
  rintro e w21 ⟨t20_0, rfl, ho, hb⟩
  obtain ⟨t20_a0, t20_n0, t20_c0, rfl⟩ := ho.shape
  have s_w21 : w20.heap.size ≤ w21.heap.size := by have := hb.size; simpa only [size_box, size_drew] using this
  replace B := Lib.hid (below_seq B.out hb)
  replace R_aA := Lib.hid (R_aA.out.below hb)
  replace R_aB := Lib.hid (R_aB.out.below hb)
  replace A_w0 := Lib.hid (A_w0.out.below hb)
  replace A_w1 := Lib.hid (A_w1.out.below hb)
  replace A_x1 := Lib.hid (A_x1.out.below hb)
  replace A_x2 := Lib.hid (A_x2.out.below hb)
  replace A_g0 := Lib.hid (A_g0.out.below hb)
  replace A_g1 := Lib.hid (A_g1.out.below hb)
  have A_t20_ := Lib.hid (ho.lies (Nat.le_refl _))
  clear ho hb
  go_wp2_with fail
  refine (uToByteS (.slice a2 m2.length cap2) m2 _ hs2 R_aB.out.now).mono ?_
  rintro e w22 ⟨t21_0, rfl, ho, hb⟩
  obtain ⟨t21_a0, t21_n0, t21_c0, rfl⟩ := ho.shape
  have s_w22 : w21.heap.size ≤ w22.heap.size := by have := hb.size; simpa only [size_box, size_drew] using this
  replace B := Lib.hid (below_seq B.out hb)
  replace R_aA := Lib.hid (R_aA.out.below hb)
  replace R_aB := Lib.hid (R_aB.out.below hb)
  replace A_w0 := Lib.hid (A_w0.out.below hb)
  replace A_w1 := Lib.hid (A_w1.out.below hb)
  replace A_x1 := Lib.hid (A_x1.out.below hb)
  replace A_x2 := Lib.hid (A_x2.out.below hb)
  replace A_g0 := Lib.hid (A_g0.out.below hb)
  replace A_g1 := Lib.hid (A_g1.out.below hb)
  replace A_t20_ := Lib.hid (A_t20_.out.below hb)
  have A_t21_ := Lib.hid (ho.lies (Nat.le_refl _))
  clear ho hb
  go_wp2_with fail
  refine (uImplBytesSwap m0 (.slice t20_a0 t20_n0 t20_c0) m1 (.slice t21_a0 t21_n0 t21_c0) m2 _ A_t20_.out.now.read A_t21_.out.now.read b0).mono ?_
  rintro e w23 ⟨h0_0, h1_0, mid_h0, rfl, ho_h0, ho_h1, hm0_h0, hm1_h0, hb⟩
  obtain ⟨h0_a0, h0_n0, h0_c0, rfl⟩ := ho_h0.shape
  obtain ⟨h1_a0, h1_n0, h1_c0, rfl⟩ := ho_h1.shape
  clear A_t20_ A_t21_
  have ht_h0 : mid_h0 ≤ w23.heap.size := by omega
  have s_w23 : w22.heap.size ≤ w23.heap.size := by have := hb.size; simpa only [size_box, size_drew] using this
  replace B := Lib.hid (below_seq B.out hb)
  replace R_aA := Lib.hid (R_aA.out.below hb)
  replace R_aB := Lib.hid (R_aB.out.below hb)
  replace A_w0 := Lib.hid (A_w0.out.below hb)
  replace A_w1 := Lib.hid (A_w1.out.below hb)
  replace A_x1 := Lib.hid (A_x1.out.below hb)
  replace A_x2 := Lib.hid (A_x2.out.below hb)
  replace A_g0 := Lib.hid (A_g0.out.below hb)
  replace A_g1 := Lib.hid (A_g1.out.below hb)
  have A_h0 := Lib.hid (ho_h0.lies ht_h0)
  have A_h1 := Lib.hid (ho_h1.lies (Nat.le_refl _))
  clear ho_h0 ho_h1 hb
  go_wp2_with fail
  refine (uEqByteS (.slice h0_a0 h0_n0 h0_c0) (.slice w0_a0 w0_n0 w0_c0) (selB m0 m2 m1) _ A_h0.out.now.read A_w0.out.now.read).mono ?_
  rintro e w24 ⟨rfl, hb⟩
  have s_w24 : w23.heap.size ≤ w24.heap.size := by have := hb.size; simpa only [size_box, size_drew] using this
  replace B := Lib.hid (below_seq B.out hb)
  replace R_aA := Lib.hid (R_aA.out.below hb)
  replace R_aB := Lib.hid (R_aB.out.below hb)
  replace A_w0 := Lib.hid (A_w0.out.below hb)
  replace A_w1 := Lib.hid (A_w1.out.below hb)
  replace A_x1 := Lib.hid (A_x1.out.below hb)
  replace A_x2 := Lib.hid (A_x2.out.below hb)
  replace A_g0 := Lib.hid (A_g0.out.below hb)
  replace A_g1 := Lib.hid (A_g1.out.below hb)
  replace A_h0 := Lib.hid (A_h0.out.below hb)
  replace A_h1 := Lib.hid (A_h1.out.below hb)
  clear hb
  go_wp2_with fail
  refine (uEqByteS (.slice h1_a0 h1_n0 h1_c0) (.slice w1_a0 w1_n0 w1_c0) (selB m0 m1 m2) _ A_h1.out.now.read A_w1.out.now.read).mono ?_
  rintro e w25 ⟨rfl, hb⟩
  have s_w25 : w24.heap.size ≤ w25.heap.size := by have := hb.size; simpa only [size_box, size_drew] using this
  replace B := Lib.hid (below_seq B.out hb)
  replace R_aA := Lib.hid (R_aA.out.below hb)
  replace R_aB := Lib.hid (R_aB.out.below hb)
  replace A_w0 := Lib.hid (A_w0.out.below hb)
  replace A_w1 := Lib.hid (A_w1.out.below hb)
  replace A_x1 := Lib.hid (A_x1.out.below hb)
  replace A_x2 := Lib.hid (A_x2.out.below hb)
  replace A_g0 := Lib.hid (A_g0.out.below hb)
  replace A_g1 := Lib.hid (A_g1.out.below hb)
  replace A_h0 := Lib.hid (A_h0.out.below hb)
  replace A_h1 := Lib.hid (A_h1.out.below hb)
  clear hb
  go_wp2_with fail
  refine (uHeldByteS 1 (.slice g0_a0 g0_n0 g0_c0) (selB m0 m2 m1) _ (by have := HK_k17.out; omega) A_g0.out.now.read).mono ?_
  rintro e w26 ⟨k26, rfl, hk, hb⟩
  have hkk : k26 = k17 := by have := HK_k17.out; omega
  rw [hkk]
  clear hk hkk
  have s_w26 : w25.heap.size ≤ w26.heap.size := by have := hb.size; simpa only [size_box, size_drew] using this
  replace B := Lib.hid (below_seq B.out hb)
  replace R_aA := Lib.hid (R_aA.out.below hb)
  replace R_aB := Lib.hid (R_aB.out.below hb)
  replace A_w0 := Lib.hid (A_w0.out.below hb)
  replace A_w1 := Lib.hid (A_w1.out.below hb)
  replace A_x1 := Lib.hid (A_x1.out.below hb)
  replace A_x2 := Lib.hid (A_x2.out.below hb)
  replace A_g0 := Lib.hid (A_g0.out.below hb)
  replace A_g1 := Lib.hid (A_g1.out.below hb)
  replace A_h0 := Lib.hid (A_h0.out.below hb)
  replace A_h1 := Lib.hid (A_h1.out.below hb)
  clear hb
  go_wp2_with fail
  refine (uHeldByteS k17 (.slice g1_a0 g1_n0 g1_c0) (selB m0 m1 m2) _ (by have := HK_k18.out; omega) A_g1.out.now.read).mono ?_
  rintro e w27 ⟨k27, rfl, hk, hb⟩
  have hkk : k27 = k18 := by have := HK_k18.out; omega
  rw [hkk]
  clear hk hkk
  have s_w27 : w26.heap.size ≤ w27.heap.size := by have := hb.size; simpa only [size_box, size_drew] using this
  replace B := Lib.hid (below_seq B.out hb)
  replace R_aA := Lib.hid (R_aA.out.below hb)
  replace R_aB := Lib.hid (R_aB.out.below hb)
  replace A_w0 := Lib.hid (A_w0.out.below hb)
  replace A_w1 := Lib.hid (A_w1.out.below hb)
  replace A_x1 := Lib.hid (A_x1.out.below hb)
  replace A_x2 := Lib.hid (A_x2.out.below hb)
  replace A_g0 := Lib.hid (A_g0.out.below hb)
  replace A_g1 := Lib.hid (A_g1.out.below hb)
  replace A_h0 := Lib.hid (A_h0.out.below hb)
  replace A_h1 := Lib.hid (A_h1.out.below hb)
  clear hb
  go_wp2
  go_ret
  exact ⟨rfl, B.out⟩

set_option maxRecDepth 100000 in
theorem lifted (os : Os) (started : os.Started) (H : Type) (enc : TypeId × Value → H) :
    ReturnsInHanded {} Try.checked os 13 .any (Rows.fnExactBytesSwapSpec.pre6 enc Try.prog Try.f13 Rows.fnExactBytesSwapRow.domain false) (Rows.fnExactBytesSwapSpec.post enc Try.prog Try.f13 false true false false) := by
  refine returnsInHanded_of_change (C := Try.checked) own started (by kernel_rfl) Try.func13
    (ChangeSpec.witness6 (enc := enc) (C := Try.checked) false ⟨#[], #[.int .u64 0, .slice none 0 0, .slice none 0 0], []⟩ 8 (by kernel_rfl) (by kernel_rfl) (by kernel_rfl) (by kernel_rfl)) ?_
  intro W base args ds gs before hval0 hW hcnd _
  have hval : ∀ (j : Nat) t v, Try.f13.params[j]? = some t → args[j]? = some v → Value.okWide Try.prog W .any base t v := hval0
  have hW' := hW
  obtain ⟨p, q, hA0, hV, rfl, hfz, hnd⟩ := hW
  have hA : DataW.TrodAll enc Try.prog W 0 (fun _ => true) true Try.f13.params.toList args.toList ds p := hA0
  rw [Try.params13] at hA hval
  obtain ⟨v0, vs0, d0, ds0, p0, q0, hargs, rfl, rfl, h0, r0⟩ := trodAll_cons hA
  obtain ⟨v1, vs1, d1, ds1, p1, q1, rfl, rfl, rfl, h1, r1⟩ := trodAll_cons r0
  obtain ⟨v2, vs2, d2, ds2, p2, q2, rfl, rfl, rfl, h2, r2⟩ := trodAll_cons r1
  obtain ⟨rfl, rfl, rfl⟩ := trodAll_nil r2
  obtain rfl : args = #[v0, v1, v2] := by cases args; simp_all
  obtain ⟨rfl, rfl⟩ := trodVars_none hV
  have lt0 : ∀ x ∈ p0, x.block < W.heap.size := by obtain ⟨m, hm⟩ := h0; exact DataW.trod_lt m _ _ _ hm
  have lt1 : ∀ x ∈ p1, x.block < W.heap.size := by obtain ⟨m, hm⟩ := h1; exact DataW.trod_lt m _ _ _ hm
  have lt2 : ∀ x ∈ p2, x.block < W.heap.size := by obtain ⟨m, hm⟩ := h2; exact DataW.trod_lt m _ _ _ hm
  clear hA0 hval0
  refine (walk v0 v1 v2 W ⟨⟨base, hval 0 24 v0 rfl rfl⟩, Rd.of h0⟩ ⟨⟨base, hval 1 22 v1 rfl rfl⟩, Rd.of h1⟩ ⟨⟨base, hval 2 22 v2 rfl rfl⟩, Rd.of h2⟩).mono fun e W' ⟨he, bel⟩ => ?_
  subst he
  exact ⟨_, rfl, _, _, _, [], _, [], hW', trodAll_mk1 (shut_bool Try.underlying4 _), (trodAll_cons_mk (Below.trod laidOut (by kernel_rfl) (of_decide_eq_true (by kernel_rfl)) h0 bel lt0) (trodAll_cons_mk (Below.trod laidOut (by kernel_rfl) (of_decide_eq_true (by kernel_rfl)) h1 bel lt1) (trodAll_cons_mk (Below.trod laidOut (by kernel_rfl) (of_decide_eq_true (by kernel_rfl)) h2 bel lt2) trodAll_mk0))), rfl, bel.frame _, fun h => by cases h⟩

theorem over : Rows.fnExactBytesSwapRow.holds Try.pinned (OpenSpec.ofChange Rows.fnExactBytesSwapSpec) :=
  OpenClaim.holds_of_wide 13 Try.f13 rfl rfl rfl rfl rfl rfl rfl ⟨rfl, rfl, rfl, rfl, rfl⟩ rfl rfl rfl rfl rfl (by kernel_rfl) Try.func13 (by kernel_rfl)
    (of_decide_eq_true (by kernel_rfl)) (by unfold Func.isWrapper; first | (rw [if_pos (by decide +kernel)]; kernel_rfl) | (rw [if_neg (by decide +kernel)]; exact ⟨rfl, rfl⟩))
    (fun os started H enc _ => lifted os started H enc)
end Go.Proofs.Ytigigmffigjpeaa.fnExactBytesSwap
namespace Go.Proofs.Ytigigmffigjpeaa
/-- BytesSwap answers as its model, at every argument. -/
theorem fnExactBytesSwap_holds : Rows.FnExactBytesSwapSaid := fnExactBytesSwap.over
end Go.Proofs.Ytigigmffigjpeaa
