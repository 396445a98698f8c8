/- For every argument: the law FnExactRecOf answers true, that is, RecOf answers as its model and writes into no argument; its answer owns its memory. No condition. -/
import Derived.Test.YtkcplnmhonhmaaaBase
import Derived.Test.YtkcplnmhonhmaaaReads
import Derived.Test.YtkcplnmhonhmaaaRecW
import Derived.Test.YtkcplnmhonhmaaaRecK
import Derived.Deep.RegionHeld3
namespace Go.Proofs.Ytkcplnmhonhmaaa.fnExactRecOf
open Go.ChangeShapes Go.WideShapes Go.ChangeAt Go.RowKit
set_option linter.unusedVariables false

set_option maxRecDepth 100000 in
set_option maxHeartbeats 4000000 in
theorem walk (v0 : Value) (w : World) (h0 : Arg w 36 v0) :
    Calls Try.prog 6 #[v0] w fun e w' => e = .returned (.bool true) ∧ Below w.heap.size w w' := by
  obtain ⟨d0_0, d0_1, d0_2, d0_3, m0, rfl, i0, b0⟩ := argRec h0
  have R_aR := Lib.hid i0.lies
  clear i0
  clear h0
  have B : Hid (Below w.heap.size w w) := Lib.hid (Below.refl _ _)
  have B0s : 0 ≤ w.heap.size := Nat.zero_le _
  replace B := Lib.hid (below_box B.out (.cells #[d0_0, d0_1, d0_2, d0_3] 36))
  replace R_aR := Lib.hid (R_aR.out.box (.cells #[d0_0, d0_1, d0_2, d0_3] 36))
  have K_aR := Lib.hid (lies_box w (.cells #[d0_0, d0_1, d0_2, d0_3] 36))
  by_cases g0 : 1048576 - (szRec m0 : Int) < 0
  · go_enter Try.func6, Try.ntmps6
    have c_aR_0 : (w.alloc (.cells #[d0_0, d0_1, d0_2, d0_3] 36)).cell? ⟨w.heap.size, 0, none⟩ = some d0_0 := cur_cell K_aR.out.now 0
    have c_aR_1 : (w.alloc (.cells #[d0_0, d0_1, d0_2, d0_3] 36)).cell? ⟨w.heap.size, 1, none⟩ = some d0_1 := cur_cell K_aR.out.now 1
    have c_aR_2 : (w.alloc (.cells #[d0_0, d0_1, d0_2, d0_3] 36)).cell? ⟨w.heap.size, 2, none⟩ = some d0_2 := cur_cell K_aR.out.now 2
    have c_aR_3 : (w.alloc (.cells #[d0_0, d0_1, d0_2, d0_3] 36)).cell? ⟨w.heap.size, 3, none⟩ = some d0_3 := cur_cell K_aR.out.now 3
    go_wp2_with fail
    clear c_aR_0 c_aR_1 c_aR_2 c_aR_3
    refine (uSzRec d0_0 d0_1 d0_2 d0_3 m0 1048576 _ (by omega) (by omega) R_aR.out.now b0).mono ?_
    rintro e w1 ⟨rfl, hb⟩
    rw [szI_no (by omega)]
    replace B := Lib.hid (below_seq B.out hb)
    replace R_aR := Lib.hid (R_aR.out.below hb)
    replace K_aR := Lib.hid (K_aR.out.below hb)
    clear hb
    go_wp2
    go_ret
    exact ⟨rfl, B.out⟩
  have hs0 : szRec m0 ≤ 1048576 := by omega
  go_enter Try.func6, Try.ntmps6
  have c_aR_0 : (w.alloc (.cells #[d0_0, d0_1, d0_2, d0_3] 36)).cell? ⟨w.heap.size, 0, none⟩ = some d0_0 := cur_cell K_aR.out.now 0
  have c_aR_1 : (w.alloc (.cells #[d0_0, d0_1, d0_2, d0_3] 36)).cell? ⟨w.heap.size, 1, none⟩ = some d0_1 := cur_cell K_aR.out.now 1
  have c_aR_2 : (w.alloc (.cells #[d0_0, d0_1, d0_2, d0_3] 36)).cell? ⟨w.heap.size, 2, none⟩ = some d0_2 := cur_cell K_aR.out.now 2
  have c_aR_3 : (w.alloc (.cells #[d0_0, d0_1, d0_2, d0_3] 36)).cell? ⟨w.heap.size, 3, none⟩ = some d0_3 := cur_cell K_aR.out.now 3
  go_wp2_with fail
  clear c_aR_0 c_aR_1 c_aR_2 c_aR_3
  refine (uSzRec d0_0 d0_1 d0_2 d0_3 m0 1048576 _ (by omega) (by omega) R_aR.out.now b0).mono ?_
  rintro e w1 ⟨rfl, hb⟩
  rw [szI_yes (by omega)]
  have s_w1 : w.heap.size + 1 ≤ w1.heap.size := by have := hb.size; simpa only [size_box, size_drew] using this
  replace B := Lib.hid (below_seq B.out hb)
  replace R_aR := Lib.hid (R_aR.out.below hb)
  replace K_aR := Lib.hid (K_aR.out.below hb)
  clear hb
  have c_aR_0 : w1.cell? ⟨w.heap.size, 0, none⟩ = some d0_0 := cur_cell K_aR.out.now 0
  have c_aR_1 : w1.cell? ⟨w.heap.size, 1, none⟩ = some d0_1 := cur_cell K_aR.out.now 1
  have c_aR_2 : w1.cell? ⟨w.heap.size, 2, none⟩ = some d0_2 := cur_cell K_aR.out.now 2
  have c_aR_3 : w1.cell? ⟨w.heap.size, 3, none⟩ = some d0_3 := cur_cell K_aR.out.now 3
  go_wp2_with fail
  clear c_aR_0 c_aR_1 c_aR_2 c_aR_3
  refine (uToRec d0_0 d0_1 d0_2 d0_3 m0 _ hs0 R_aR.out.now).mono ?_
  rintro e w2 ⟨t1_0, t1_1, t1_2, t1_3, rfl, ho, hb⟩
  obtain ⟨t1_b0, t1_z1, t1_z2, t1_t3, rfl, rfl, rfl, rfl⟩ := ho.shape
  have s_w2 : w1.heap.size ≤ w2.heap.size := by have := hb.size; simpa only [size_box, size_drew] using this
  replace B := Lib.hid (below_seq B.out hb)
  replace R_aR := Lib.hid (R_aR.out.below hb)
  replace K_aR := Lib.hid (K_aR.out.below hb)
  have A_t1_ := Lib.hid (ho.lies (Nat.le_refl _))
  clear ho hb
  have c_aR_0 : w2.cell? ⟨w.heap.size, 0, none⟩ = some d0_0 := cur_cell K_aR.out.now 0
  have c_aR_1 : w2.cell? ⟨w.heap.size, 1, none⟩ = some d0_1 := cur_cell K_aR.out.now 1
  have c_aR_2 : w2.cell? ⟨w.heap.size, 2, none⟩ = some d0_2 := cur_cell K_aR.out.now 2
  have c_aR_3 : w2.cell? ⟨w.heap.size, 3, none⟩ = some d0_3 := cur_cell K_aR.out.now 3
  go_wp2_with fail
  clear c_aR_0 c_aR_1 c_aR_2 c_aR_3
  refine (uSpecRecOf (.bool t1_b0) (.int .i64 t1_z1) (.int .i64 t1_z2) (.string t1_t3) m0 _ A_t1_.out.now.read b0).mono ?_
  rintro e w3 ⟨w0_0, rfl, ho_w0, hb⟩
  obtain ⟨w0_a0, w0_n0, w0_c0, rfl⟩ := ho_w0.shape
  clear A_t1_
  have s_w3 : w2.heap.size ≤ w3.heap.size := by have := hb.size; simpa only [size_box, size_drew] using this
  replace B := Lib.hid (below_seq B.out hb)
  replace R_aR := Lib.hid (R_aR.out.below hb)
  replace K_aR := Lib.hid (K_aR.out.below hb)
  have A_w0 := Lib.hid (ho_w0.lies (Nat.le_refl _))
  clear ho_w0 hb
  have c_aR_0 : w3.cell? ⟨w.heap.size, 0, none⟩ = some d0_0 := cur_cell K_aR.out.now 0
  have c_aR_1 : w3.cell? ⟨w.heap.size, 1, none⟩ = some d0_1 := cur_cell K_aR.out.now 1
  have c_aR_2 : w3.cell? ⟨w.heap.size, 2, none⟩ = some d0_2 := cur_cell K_aR.out.now 2
  have c_aR_3 : w3.cell? ⟨w.heap.size, 3, none⟩ = some d0_3 := cur_cell K_aR.out.now 3
  go_wp2_with fail
  clear c_aR_0 c_aR_1 c_aR_2 c_aR_3
  refine (uToRec d0_0 d0_1 d0_2 d0_3 m0 _ hs0 R_aR.out.now).mono ?_
  rintro e w4 ⟨t3_0, t3_1, t3_2, t3_3, rfl, ho, hb⟩
  obtain ⟨t3_b0, t3_z1, t3_z2, t3_t3, rfl, rfl, rfl, rfl⟩ := ho.shape
  have s_w4 : w3.heap.size ≤ w4.heap.size := by have := hb.size; simpa only [size_box, size_drew] using this
  replace B := Lib.hid (below_seq B.out hb)
  replace R_aR := Lib.hid (R_aR.out.below hb)
  replace K_aR := Lib.hid (K_aR.out.below hb)
  replace A_w0 := Lib.hid (A_w0.out.below hb)
  have A_t3_ := Lib.hid (ho.lies (Nat.le_refl _))
  clear ho hb
  have c_aR_0 : w4.cell? ⟨w.heap.size, 0, none⟩ = some d0_0 := cur_cell K_aR.out.now 0
  have c_aR_1 : w4.cell? ⟨w.heap.size, 1, none⟩ = some d0_1 := cur_cell K_aR.out.now 1
  have c_aR_2 : w4.cell? ⟨w.heap.size, 2, none⟩ = some d0_2 := cur_cell K_aR.out.now 2
  have c_aR_3 : w4.cell? ⟨w.heap.size, 3, none⟩ = some d0_3 := cur_cell K_aR.out.now 3
  go_wp2_with fail
  clear c_aR_0 c_aR_1 c_aR_2 c_aR_3
  refine (uImplRecOf (.bool t3_b0) (.int .i64 t3_z1) (.int .i64 t3_z2) (.string t3_t3) m0 _ A_t3_.out.now.read b0).mono ?_
  rintro e w5 ⟨g0_0, rfl, ho_g0, hb⟩
  obtain ⟨g0_a0, g0_n0, g0_c0, rfl⟩ := ho_g0.shape
  clear A_t3_
  have s_w5 : w4.heap.size ≤ w5.heap.size := by have := hb.size; simpa only [size_box, size_drew] using this
  replace B := Lib.hid (below_seq B.out hb)
  replace R_aR := Lib.hid (R_aR.out.below hb)
  replace K_aR := Lib.hid (K_aR.out.below hb)
  replace A_w0 := Lib.hid (A_w0.out.below hb)
  have A_g0 := Lib.hid (ho_g0.lies (Nat.le_refl _))
  clear ho_g0 hb
  have bd_g0 : szByteS (recOfL m0) ≤ 1000000000000 := recOfL_bd m0
  have c_aR_0 : w5.cell? ⟨w.heap.size, 0, none⟩ = some d0_0 := cur_cell K_aR.out.now 0
  have c_aR_1 : w5.cell? ⟨w.heap.size, 1, none⟩ = some d0_1 := cur_cell K_aR.out.now 1
  have c_aR_2 : w5.cell? ⟨w.heap.size, 2, none⟩ = some d0_2 := cur_cell K_aR.out.now 2
  have c_aR_3 : w5.cell? ⟨w.heap.size, 3, none⟩ = some d0_3 := cur_cell K_aR.out.now 3
  go_wp2_with fail
  clear c_aR_0 c_aR_1 c_aR_2 c_aR_3
  refine (uEqByteS (.slice g0_a0 g0_n0 g0_c0) (.slice w0_a0 w0_n0 w0_c0) (recOfL m0) _ A_g0.out.now.read A_w0.out.now.read).mono ?_
  rintro e w6 ⟨rfl, hb⟩
  have s_w6 : w5.heap.size ≤ w6.heap.size := by have := hb.size; simpa only [size_box, size_drew] using this
  replace B := Lib.hid (below_seq B.out hb)
  replace R_aR := Lib.hid (R_aR.out.below hb)
  replace K_aR := Lib.hid (K_aR.out.below hb)
  replace A_w0 := Lib.hid (A_w0.out.below hb)
  replace A_g0 := Lib.hid (A_g0.out.below hb)
  clear hb
  have c_aR_0 : w6.cell? ⟨w.heap.size, 0, none⟩ = some d0_0 := cur_cell K_aR.out.now 0
  have c_aR_1 : w6.cell? ⟨w.heap.size, 1, none⟩ = some d0_1 := cur_cell K_aR.out.now 1
  have c_aR_2 : w6.cell? ⟨w.heap.size, 2, none⟩ = some d0_2 := cur_cell K_aR.out.now 2
  have c_aR_3 : w6.cell? ⟨w.heap.size, 3, none⟩ = some d0_3 := cur_cell K_aR.out.now 3
  go_wp2_with fail
  clear c_aR_0 c_aR_1 c_aR_2 c_aR_3
  refine (uMarkByteS w4.heap.size w5.heap.size 1 (.slice g0_a0 g0_n0 g0_c0) (recOfL m0) _ (by have := bd_g0; omega) A_g0.out.now).mono ?_
  rintro e w7 ⟨k7, rfl, hk, ho, hc⟩
  have bd_k7 : k7 ≤ 2000000000000 := by have := bd_g0; omega
  have HK_k7 := Lib.hid hk
  have s_w7 : w6.heap.size ≤ w7.heap.size := by have := hc.size; simpa only [size_box, size_drew] using this
  have ho_t := A_g0.out.top
  clear A_g0
  replace B := Lib.hid (hc.below B.out (by have := B0s; omega))
  replace R_aR := Lib.hid (R_aR.out.chg hc (by have := B0s; omega))
  replace K_aR := Lib.hid (K_aR.out.chg hc (by have := B0s; omega))
  replace A_w0 := Lib.hid (A_w0.out.chg hc (by have := B0s; omega))
  have A_g0 := Lib.hid (ho.lies (Nat.le_trans ho_t s_w7))
  clear hk ho hc ho_t
  have c_aR_0 : w7.cell? ⟨w.heap.size, 0, none⟩ = some d0_0 := cur_cell K_aR.out.now 0
  have c_aR_1 : w7.cell? ⟨w.heap.size, 1, none⟩ = some d0_1 := cur_cell K_aR.out.now 1
  have c_aR_2 : w7.cell? ⟨w.heap.size, 2, none⟩ = some d0_2 := cur_cell K_aR.out.now 2
  have c_aR_3 : w7.cell? ⟨w.heap.size, 3, none⟩ = some d0_3 := cur_cell K_aR.out.now 3
  go_wp2_with fail
  clear c_aR_0 c_aR_1 c_aR_2 c_aR_3
  refine (uHeldByteS 1 (.slice g0_a0 g0_n0 g0_c0) (recOfL m0) _ (by have := HK_k7.out; omega) A_g0.out.now.read).mono ?_
  rintro e w8 ⟨k8, rfl, hk, hb⟩
  have hkk : k8 = k7 := by have := HK_k7.out; omega
  rw [hkk]
  clear hk hkk
  have s_w8 : w7.heap.size ≤ w8.heap.size := by have := hb.size; simpa only [size_box, size_drew] using this
  replace B := Lib.hid (below_seq B.out hb)
  replace R_aR := Lib.hid (R_aR.out.below hb)
  replace K_aR := Lib.hid (K_aR.out.below hb)
  replace A_w0 := Lib.hid (A_w0.out.below hb)
  replace A_g0 := Lib.hid (A_g0.out.below hb)
  clear hb
  have c_aR_0 : w8.cell? ⟨w.heap.size, 0, none⟩ = some d0_0 := cur_cell K_aR.out.now 0
  have c_aR_1 : w8.cell? ⟨w.heap.size, 1, none⟩ = some d0_1 := cur_cell K_aR.out.now 1
  have c_aR_2 : w8.cell? ⟨w.heap.size, 2, none⟩ = some d0_2 := cur_cell K_aR.out.now 2
  have c_aR_3 : w8.cell? ⟨w.heap.size, 3, none⟩ = some d0_3 := cur_cell K_aR.out.now 3
  go_wp2_with fail
  clear c_aR_0 c_aR_1 c_aR_2 c_aR_3
  refine (uToRec d0_0 d0_1 d0_2 d0_3 m0 _ hs0 R_aR.out.now).mono ?_
  rintro e w9 ⟨t8_0, t8_1, t8_2, t8_3, rfl, ho, hb⟩
  obtain ⟨t8_b0, t8_z1, t8_z2, t8_t3, rfl, rfl, rfl, rfl⟩ := ho.shape
  have s_w9 : w8.heap.size ≤ w9.heap.size := by have := hb.size; simpa only [size_box, size_drew] using this
  replace B := Lib.hid (below_seq B.out hb)
  replace R_aR := Lib.hid (R_aR.out.below hb)
  replace K_aR := Lib.hid (K_aR.out.below hb)
  replace A_w0 := Lib.hid (A_w0.out.below hb)
  replace A_g0 := Lib.hid (A_g0.out.below hb)
  have A_t8_ := Lib.hid (ho.lies (Nat.le_refl _))
  clear ho hb
  have c_aR_0 : w9.cell? ⟨w.heap.size, 0, none⟩ = some d0_0 := cur_cell K_aR.out.now 0
  have c_aR_1 : w9.cell? ⟨w.heap.size, 1, none⟩ = some d0_1 := cur_cell K_aR.out.now 1
  have c_aR_2 : w9.cell? ⟨w.heap.size, 2, none⟩ = some d0_2 := cur_cell K_aR.out.now 2
  have c_aR_3 : w9.cell? ⟨w.heap.size, 3, none⟩ = some d0_3 := cur_cell K_aR.out.now 3
  go_wp2_with fail
  clear c_aR_0 c_aR_1 c_aR_2 c_aR_3
  refine (uImplRecOf (.bool t8_b0) (.int .i64 t8_z1) (.int .i64 t8_z2) (.string t8_t3) m0 _ A_t8_.out.now.read b0).mono ?_
  rintro e w10 ⟨h0_0, rfl, ho_h0, hb⟩
  obtain ⟨h0_a0, h0_n0, h0_c0, rfl⟩ := ho_h0.shape
  clear A_t8_
  have s_w10 : w9.heap.size ≤ w10.heap.size := by have := hb.size; simpa only [size_box, size_drew] using this
  replace B := Lib.hid (below_seq B.out hb)
  replace R_aR := Lib.hid (R_aR.out.below hb)
  replace K_aR := Lib.hid (K_aR.out.below hb)
  replace A_w0 := Lib.hid (A_w0.out.below hb)
  replace A_g0 := Lib.hid (A_g0.out.below hb)
  have A_h0 := Lib.hid (ho_h0.lies (Nat.le_refl _))
  clear ho_h0 hb
  have c_aR_0 : w10.cell? ⟨w.heap.size, 0, none⟩ = some d0_0 := cur_cell K_aR.out.now 0
  have c_aR_1 : w10.cell? ⟨w.heap.size, 1, none⟩ = some d0_1 := cur_cell K_aR.out.now 1
  have c_aR_2 : w10.cell? ⟨w.heap.size, 2, none⟩ = some d0_2 := cur_cell K_aR.out.now 2
  have c_aR_3 : w10.cell? ⟨w.heap.size, 3, none⟩ = some d0_3 := cur_cell K_aR.out.now 3
  go_wp2_with fail
  clear c_aR_0 c_aR_1 c_aR_2 c_aR_3
  refine (uEqByteS (.slice h0_a0 h0_n0 h0_c0) (.slice w0_a0 w0_n0 w0_c0) (recOfL m0) _ A_h0.out.now.read A_w0.out.now.read).mono ?_
  rintro e w11 ⟨rfl, hb⟩
  have s_w11 : w10.heap.size ≤ w11.heap.size := by have := hb.size; simpa only [size_box, size_drew] using this
  replace B := Lib.hid (below_seq B.out hb)
  replace R_aR := Lib.hid (R_aR.out.below hb)
  replace K_aR := Lib.hid (K_aR.out.below hb)
  replace A_w0 := Lib.hid (A_w0.out.below hb)
  replace A_g0 := Lib.hid (A_g0.out.below hb)
  replace A_h0 := Lib.hid (A_h0.out.below hb)
  clear hb
  have c_aR_0 : w11.cell? ⟨w.heap.size, 0, none⟩ = some d0_0 := cur_cell K_aR.out.now 0
  have c_aR_1 : w11.cell? ⟨w.heap.size, 1, none⟩ = some d0_1 := cur_cell K_aR.out.now 1
  have c_aR_2 : w11.cell? ⟨w.heap.size, 2, none⟩ = some d0_2 := cur_cell K_aR.out.now 2
  have c_aR_3 : w11.cell? ⟨w.heap.size, 3, none⟩ = some d0_3 := cur_cell K_aR.out.now 3
  go_wp2_with fail
  clear c_aR_0 c_aR_1 c_aR_2 c_aR_3
  refine (uHeldByteS 1 (.slice g0_a0 g0_n0 g0_c0) (recOfL m0) _ (by have := HK_k7.out; omega) A_g0.out.now.read).mono ?_
  rintro e w12 ⟨k12, rfl, hk, hb⟩
  have hkk : k12 = k7 := by have := HK_k7.out; omega
  rw [hkk]
  clear hk hkk
  have s_w12 : w11.heap.size ≤ w12.heap.size := by have := hb.size; simpa only [size_box, size_drew] using this
  replace B := Lib.hid (below_seq B.out hb)
  replace R_aR := Lib.hid (R_aR.out.below hb)
  replace K_aR := Lib.hid (K_aR.out.below hb)
  replace A_w0 := Lib.hid (A_w0.out.below hb)
  replace A_g0 := Lib.hid (A_g0.out.below hb)
  replace A_h0 := Lib.hid (A_h0.out.below hb)
  clear hb
  have c_aR_0 : w12.cell? ⟨w.heap.size, 0, none⟩ = some d0_0 := cur_cell K_aR.out.now 0
  have c_aR_1 : w12.cell? ⟨w.heap.size, 1, none⟩ = some d0_1 := cur_cell K_aR.out.now 1
  have c_aR_2 : w12.cell? ⟨w.heap.size, 2, none⟩ = some d0_2 := cur_cell K_aR.out.now 2
  have c_aR_3 : w12.cell? ⟨w.heap.size, 3, none⟩ = some d0_3 := cur_cell K_aR.out.now 3
  go_wp2
  go_ret
  exact ⟨rfl, B.out⟩

set_option maxRecDepth 100000 in
theorem lifted (os : Os) (started : os.Started) (H : Type) (enc : TypeId × Value → H) :
    ReturnsInHanded {} Try.checked os 6 .any (Rows.fnExactRecOfSpec.pre6 enc Try.prog Try.f6 Rows.fnExactRecOfRow.domain false) (Rows.fnExactRecOfSpec.post enc Try.prog Try.f6 false true false false) := by
  refine returnsInHanded_of_change (C := Try.checked) own started (by kernel_rfl) Try.func6
    (ChangeSpec.witness6 (enc := enc) (C := Try.checked) false ⟨#[], #[.agg #[.bool false, .int .i64 0, .int .i64 0, .string ⟨#[]⟩]], []⟩ 8 (by kernel_rfl) (by kernel_rfl) (by kernel_rfl) (by kernel_rfl)) ?_
  intro W base args ds gs before hval0 hW hcnd _
  have hval : ∀ (j : Nat) t v, Try.f6.params[j]? = some t → args[j]? = some v → Value.okWide Try.prog W .any base t v := hval0
  have hW' := hW
  obtain ⟨p, q, hA0, hV, rfl, hfz, hnd⟩ := hW
  have hA : DataW.TrodAll enc Try.prog W 0 (fun _ => true) true Try.f6.params.toList args.toList ds p := hA0
  rw [Try.params6] at hA hval
  obtain ⟨v0, vs0, d0, ds0, p0, q0, hargs, rfl, rfl, h0, r0⟩ := trodAll_cons hA
  obtain ⟨rfl, rfl, rfl⟩ := trodAll_nil r0
  obtain rfl : args = #[v0] := by cases args; simp_all
  obtain ⟨rfl, rfl⟩ := trodVars_none hV
  have lt0 : ∀ x ∈ p0, x.block < W.heap.size := by obtain ⟨m, hm⟩ := h0; exact DataW.trod_lt m _ _ _ hm
  clear hA0 hval0
  refine (walk v0 W ⟨⟨base, hval 0 36 v0 rfl rfl⟩, Rd.of h0⟩).mono fun e W' ⟨he, bel⟩ => ?_
  subst he
  exact ⟨_, rfl, _, _, _, [], _, [], hW', trodAll_mk1 (shut_bool Try.underlying4 _), (trodAll_cons_mk (Below.trod laidOut (by kernel_rfl) (of_decide_eq_true (by kernel_rfl)) h0 bel lt0) trodAll_mk0), rfl, bel.frame _, fun h => by cases h⟩

theorem over : Rows.fnExactRecOfRow.holds Try.pinned (OpenSpec.ofChange Rows.fnExactRecOfSpec) :=
  OpenClaim.holds_of_wide 6 Try.f6 rfl rfl rfl rfl rfl rfl rfl ⟨rfl, rfl, rfl, rfl, rfl⟩ rfl rfl rfl rfl rfl (by kernel_rfl) Try.func6 (by kernel_rfl)
    (of_decide_eq_true (by kernel_rfl)) (by unfold Func.isWrapper; first | (rw [if_pos (by decide +kernel)]; kernel_rfl) | (rw [if_neg (by decide +kernel)]; exact ⟨rfl, rfl⟩))
    (fun os started H enc _ => lifted os started H enc)
end Go.Proofs.Ytkcplnmhonhmaaa.fnExactRecOf
namespace Go.Proofs.Ytkcplnmhonhmaaa
/-- RecOf answers as its model, at every argument. -/
theorem fnExactRecOf_holds : Rows.FnExactRecOfSaid := fnExactRecOf.over
end Go.Proofs.Ytkcplnmhonhmaaa
