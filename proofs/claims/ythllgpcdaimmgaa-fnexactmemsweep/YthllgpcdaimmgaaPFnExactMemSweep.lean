/- For every argument: the law FnExactMemSweep answers true, that is, MemSweep answers as its model and writes into no argument; its answer owns its memory. No condition. -/
import Derived.Test.YthllgpcdaimmgaaBase
import Derived.Test.YthllgpcdaimmgaaReads
import Derived.Test.YthllgpcdaimmgaaMemK
import Derived.Test.YthllgpcdaimmgaaMemSI
import Derived.Test.YthllgpcdaimmgaaMemSS
import Derived.Deep.RegionHeld3
namespace Go.Proofs.Ythllgpcdaimmgaa.fnExactMemSweep
open Go.ChangeShapes Go.WideShapes Go.ChangeAt Go.RowKit
set_option linter.unusedVariables false

set_option maxRecDepth 100000 in
set_option maxHeartbeats 4000000 in
theorem walk (v0 : Value) (w : World) (h0 : Arg w 25 v0) :
    Calls Try.prog 7 #[v0] w fun e w' => e = .returned (.bool true) ∧ Below w.heap.size w w' := by
  obtain ⟨d0_0, d0_1, d0_2, m0, rfl, i0, b0⟩ := argMem h0
  have R_aM := Lib.hid i0.lies
  clear i0
  clear h0
  have B : Hid (Below w.heap.size w w) := Lib.hid (Below.refl _ _)
  have B0s : 0 ≤ w.heap.size := Nat.zero_le _
  replace B := Lib.hid (below_box B.out (.cells #[d0_0, d0_1, d0_2] 25))
  replace R_aM := Lib.hid (R_aM.out.box (.cells #[d0_0, d0_1, d0_2] 25))
  have K_aM := Lib.hid (lies_box w (.cells #[d0_0, d0_1, d0_2] 25))
  by_cases g0 : 1048576 - (szMem m0 : Int) < 0
  · go_enter Try.func7, Try.ntmps7
    have c_aM_0 : (w.alloc (.cells #[d0_0, d0_1, d0_2] 25)).cell? ⟨w.heap.size, 0, none⟩ = some d0_0 := cur_cell K_aM.out.now 0
    have c_aM_1 : (w.alloc (.cells #[d0_0, d0_1, d0_2] 25)).cell? ⟨w.heap.size, 1, none⟩ = some d0_1 := cur_cell K_aM.out.now 1
    have c_aM_2 : (w.alloc (.cells #[d0_0, d0_1, d0_2] 25)).cell? ⟨w.heap.size, 2, none⟩ = some d0_2 := cur_cell K_aM.out.now 2
    go_wp2_with fail
    clear c_aM_0 c_aM_1 c_aM_2
    refine (uSzMem d0_0 d0_1 d0_2 m0 1048576 _ (by omega) (by omega) R_aM.out.now).mono ?_
    rintro e w1 ⟨rfl, hb⟩
    rw [szI_no (by omega)]
    replace B := Lib.hid (below_seq B.out hb)
    replace R_aM := Lib.hid (R_aM.out.below hb)
    replace K_aM := Lib.hid (K_aM.out.below hb)
    clear hb
    go_wp2
    go_ret
    exact ⟨rfl, B.out⟩
  have hs0 : szMem m0 ≤ 1048576 := by omega
  have hm0 : mcMem m0 ≤ 1000000000000 := mcMem_le hs0
  go_enter Try.func7, Try.ntmps7
  have c_aM_0 : (w.alloc (.cells #[d0_0, d0_1, d0_2] 25)).cell? ⟨w.heap.size, 0, none⟩ = some d0_0 := cur_cell K_aM.out.now 0
  have c_aM_1 : (w.alloc (.cells #[d0_0, d0_1, d0_2] 25)).cell? ⟨w.heap.size, 1, none⟩ = some d0_1 := cur_cell K_aM.out.now 1
  have c_aM_2 : (w.alloc (.cells #[d0_0, d0_1, d0_2] 25)).cell? ⟨w.heap.size, 2, none⟩ = some d0_2 := cur_cell K_aM.out.now 2
  go_wp2_with fail
  clear c_aM_0 c_aM_1 c_aM_2
  refine (uSzMem d0_0 d0_1 d0_2 m0 1048576 _ (by omega) (by omega) R_aM.out.now).mono ?_
  rintro e w1 ⟨rfl, hb⟩
  rw [szI_yes (by omega)]
  have s_w1 : w.heap.size + 1 ≤ w1.heap.size := by have := hb.size; simpa only [size_box, size_drew] using this
  replace B := Lib.hid (below_seq B.out hb)
  replace R_aM := Lib.hid (R_aM.out.below hb)
  replace K_aM := Lib.hid (K_aM.out.below hb)
  clear hb
  have c_aM_0 : w1.cell? ⟨w.heap.size, 0, none⟩ = some d0_0 := cur_cell K_aM.out.now 0
  have c_aM_1 : w1.cell? ⟨w.heap.size, 1, none⟩ = some d0_1 := cur_cell K_aM.out.now 1
  have c_aM_2 : w1.cell? ⟨w.heap.size, 2, none⟩ = some d0_2 := cur_cell K_aM.out.now 2
  go_wp2_with fail
  clear c_aM_0 c_aM_1 c_aM_2
  refine (uToMem d0_0 d0_1 d0_2 m0 _ hs0 R_aM.out.now).mono ?_
  rintro e w2 ⟨t1_0, t1_1, t1_2, rfl, ho, hb⟩
  obtain ⟨t1_z0, t1_a1, t1_n1, t1_c1, t1_a2, t1_n2, t1_c2, rfl, rfl, rfl⟩ := ho.shape
  have s_w2 : w1.heap.size ≤ w2.heap.size := by have := hb.size; simpa only [size_box, size_drew] using this
  replace B := Lib.hid (below_seq B.out hb)
  replace R_aM := Lib.hid (R_aM.out.below hb)
  replace K_aM := Lib.hid (K_aM.out.below hb)
  have A_t1_ := Lib.hid (ho.lies (Nat.le_refl _))
  clear ho hb
  have c_aM_0 : w2.cell? ⟨w.heap.size, 0, none⟩ = some d0_0 := cur_cell K_aM.out.now 0
  have c_aM_1 : w2.cell? ⟨w.heap.size, 1, none⟩ = some d0_1 := cur_cell K_aM.out.now 1
  have c_aM_2 : w2.cell? ⟨w.heap.size, 2, none⟩ = some d0_2 := cur_cell K_aM.out.now 2
  go_wp2_with fail
  clear c_aM_0 c_aM_1 c_aM_2
  refine (uSpecMemSweep (.int .i64 t1_z0) (.slice t1_a1 t1_n1 t1_c1) (.slice t1_a2 t1_n2 t1_c2) m0 _ A_t1_.out.now.read).mono ?_
  rintro e w3 ⟨w0_0, w0_1, w0_2, w1_0, rfl, hoJ, hb⟩
  obtain ⟨w0_z0, w0_a1, w0_n1, w0_c1, w0_a2, w0_n2, w0_c2, rfl, rfl, rfl⟩ := hoJ.shape
  obtain ⟨w1_a0, w1_n0, w1_c0, rfl⟩ := hoJ.more.shape
  clear A_t1_
  have s_w3 : w2.heap.size ≤ w3.heap.size := by have := hb.size; simpa only [size_box, size_drew] using this
  replace B := Lib.hid (below_seq B.out hb)
  replace R_aM := Lib.hid (R_aM.out.below hb)
  replace K_aM := Lib.hid (K_aM.out.below hb)
  have A_w0 := Lib.hid (hoJ.lies (Nat.le_refl _))
  clear hoJ hb
  replace B := Lib.hid (below_box B.out (.cells #[.int .i64 w0_z0, .slice w0_a1 w0_n1 w0_c1, .slice w0_a2 w0_n2 w0_c2] 31))
  replace R_aM := Lib.hid (R_aM.out.box (.cells #[.int .i64 w0_z0, .slice w0_a1 w0_n1 w0_c1, .slice w0_a2 w0_n2 w0_c2] 31))
  replace K_aM := Lib.hid (K_aM.out.box (.cells #[.int .i64 w0_z0, .slice w0_a1 w0_n1 w0_c1, .slice w0_a2 w0_n2 w0_c2] 31))
  replace A_w0 := Lib.hid (A_w0.out.box (.cells #[.int .i64 w0_z0, .slice w0_a1 w0_n1 w0_c1, .slice w0_a2 w0_n2 w0_c2] 31))
  have K_w0 := Lib.hid (lies_box w3 (.cells #[.int .i64 w0_z0, .slice w0_a1 w0_n1 w0_c1, .slice w0_a2 w0_n2 w0_c2] 31))
  have c_aM_0 : (w3.alloc (.cells #[.int .i64 w0_z0, .slice w0_a1 w0_n1 w0_c1, .slice w0_a2 w0_n2 w0_c2] 31)).cell? ⟨w.heap.size, 0, none⟩ = some d0_0 := cur_cell K_aM.out.now 0
  have c_aM_1 : (w3.alloc (.cells #[.int .i64 w0_z0, .slice w0_a1 w0_n1 w0_c1, .slice w0_a2 w0_n2 w0_c2] 31)).cell? ⟨w.heap.size, 1, none⟩ = some d0_1 := cur_cell K_aM.out.now 1
  have c_aM_2 : (w3.alloc (.cells #[.int .i64 w0_z0, .slice w0_a1 w0_n1 w0_c1, .slice w0_a2 w0_n2 w0_c2] 31)).cell? ⟨w.heap.size, 2, none⟩ = some d0_2 := cur_cell K_aM.out.now 2
  have c_w0_0 : (w3.alloc (.cells #[.int .i64 w0_z0, .slice w0_a1 w0_n1 w0_c1, .slice w0_a2 w0_n2 w0_c2] 31)).cell? ⟨w3.heap.size, 0, none⟩ = some (.int .i64 w0_z0) := cur_cell K_w0.out.now 0
  have c_w0_1 : (w3.alloc (.cells #[.int .i64 w0_z0, .slice w0_a1 w0_n1 w0_c1, .slice w0_a2 w0_n2 w0_c2] 31)).cell? ⟨w3.heap.size, 1, none⟩ = some (.slice w0_a1 w0_n1 w0_c1) := cur_cell K_w0.out.now 1
  have c_w0_2 : (w3.alloc (.cells #[.int .i64 w0_z0, .slice w0_a1 w0_n1 w0_c1, .slice w0_a2 w0_n2 w0_c2] 31)).cell? ⟨w3.heap.size, 2, none⟩ = some (.slice w0_a2 w0_n2 w0_c2) := cur_cell K_w0.out.now 2
  go_wp2_with fail
  clear c_aM_0 c_aM_1 c_aM_2 c_w0_0 c_w0_1 c_w0_2
  refine (uToMem d0_0 d0_1 d0_2 m0 _ hs0 R_aM.out.now).mono ?_
  rintro e w4 ⟨x00, x01, x02, rfl, ho, hb⟩
  obtain ⟨x0z0, x0a1, x0n1, x0c1, x0a2, x0n2, x0c2, rfl, rfl, rfl⟩ := ho.shape
  have s_w4 : w3.heap.size + 1 ≤ w4.heap.size := by have := hb.size; simpa only [size_box, size_drew] using this
  replace B := Lib.hid (below_seq B.out hb)
  replace R_aM := Lib.hid (R_aM.out.below hb)
  replace K_aM := Lib.hid (K_aM.out.below hb)
  replace A_w0 := Lib.hid (A_w0.out.below hb)
  replace K_w0 := Lib.hid (K_w0.out.below hb)
  simp only [size_box] at ho
  have A_x0 := Lib.hid (ho.lies (Nat.le_refl _))
  clear ho hb
  replace B := Lib.hid (below_box B.out (.cells #[.int .i64 x0z0, .slice x0a1 x0n1 x0c1, .slice x0a2 x0n2 x0c2] 31))
  replace R_aM := Lib.hid (R_aM.out.box (.cells #[.int .i64 x0z0, .slice x0a1 x0n1 x0c1, .slice x0a2 x0n2 x0c2] 31))
  replace K_aM := Lib.hid (K_aM.out.box (.cells #[.int .i64 x0z0, .slice x0a1 x0n1 x0c1, .slice x0a2 x0n2 x0c2] 31))
  replace A_w0 := Lib.hid (A_w0.out.box (.cells #[.int .i64 x0z0, .slice x0a1 x0n1 x0c1, .slice x0a2 x0n2 x0c2] 31))
  replace K_w0 := Lib.hid (K_w0.out.box (.cells #[.int .i64 x0z0, .slice x0a1 x0n1 x0c1, .slice x0a2 x0n2 x0c2] 31))
  replace A_x0 := Lib.hid (A_x0.out.box (.cells #[.int .i64 x0z0, .slice x0a1 x0n1 x0c1, .slice x0a2 x0n2 x0c2] 31))
  have K_x0 := Lib.hid (lies_box w4 (.cells #[.int .i64 x0z0, .slice x0a1 x0n1 x0c1, .slice x0a2 x0n2 x0c2] 31))
  have c_aM_0 : (w4.alloc (.cells #[.int .i64 x0z0, .slice x0a1 x0n1 x0c1, .slice x0a2 x0n2 x0c2] 31)).cell? ⟨w.heap.size, 0, none⟩ = some d0_0 := cur_cell K_aM.out.now 0
  have c_aM_1 : (w4.alloc (.cells #[.int .i64 x0z0, .slice x0a1 x0n1 x0c1, .slice x0a2 x0n2 x0c2] 31)).cell? ⟨w.heap.size, 1, none⟩ = some d0_1 := cur_cell K_aM.out.now 1
  have c_aM_2 : (w4.alloc (.cells #[.int .i64 x0z0, .slice x0a1 x0n1 x0c1, .slice x0a2 x0n2 x0c2] 31)).cell? ⟨w.heap.size, 2, none⟩ = some d0_2 := cur_cell K_aM.out.now 2
  have c_w0_0 : (w4.alloc (.cells #[.int .i64 x0z0, .slice x0a1 x0n1 x0c1, .slice x0a2 x0n2 x0c2] 31)).cell? ⟨w3.heap.size, 0, none⟩ = some (.int .i64 w0_z0) := cur_cell K_w0.out.now 0
  have c_w0_1 : (w4.alloc (.cells #[.int .i64 x0z0, .slice x0a1 x0n1 x0c1, .slice x0a2 x0n2 x0c2] 31)).cell? ⟨w3.heap.size, 1, none⟩ = some (.slice w0_a1 w0_n1 w0_c1) := cur_cell K_w0.out.now 1
  have c_w0_2 : (w4.alloc (.cells #[.int .i64 x0z0, .slice x0a1 x0n1 x0c1, .slice x0a2 x0n2 x0c2] 31)).cell? ⟨w3.heap.size, 2, none⟩ = some (.slice w0_a2 w0_n2 w0_c2) := cur_cell K_w0.out.now 2
  have c_x0_0 : (w4.alloc (.cells #[.int .i64 x0z0, .slice x0a1 x0n1 x0c1, .slice x0a2 x0n2 x0c2] 31)).cell? ⟨w4.heap.size, 0, none⟩ = some (.int .i64 x0z0) := cur_cell K_x0.out.now 0
  have c_x0_1 : (w4.alloc (.cells #[.int .i64 x0z0, .slice x0a1 x0n1 x0c1, .slice x0a2 x0n2 x0c2] 31)).cell? ⟨w4.heap.size, 1, none⟩ = some (.slice x0a1 x0n1 x0c1) := cur_cell K_x0.out.now 1
  have c_x0_2 : (w4.alloc (.cells #[.int .i64 x0z0, .slice x0a1 x0n1 x0c1, .slice x0a2 x0n2 x0c2] 31)).cell? ⟨w4.heap.size, 2, none⟩ = some (.slice x0a2 x0n2 x0c2) := cur_cell K_x0.out.now 2
  go_wp2_with fail
  clear c_aM_0 c_aM_1 c_aM_2 c_w0_0 c_w0_1 c_w0_2 c_x0_0 c_x0_1 c_x0_2
  refine (uImplMemSweep (.int .i64 x0z0) (.slice x0a1 x0n1 x0c1) (.slice x0a2 x0n2 x0c2) m0 _ A_x0.out.now.read).mono ?_
  rintro e w5 ⟨g0_0, g0_1, g0_2, g1_0, rfl, hoJ, hb⟩
  obtain ⟨g0_z0, g0_a1, g0_n1, g0_c1, g0_a2, g0_n2, g0_c2, rfl, rfl, rfl⟩ := hoJ.shape
  obtain ⟨g1_a0, g1_n0, g1_c0, rfl⟩ := hoJ.more.shape
  have s_w5 : w4.heap.size + 1 ≤ w5.heap.size := by have := hb.size; simpa only [size_box, size_drew] using this
  replace B := Lib.hid (below_seq B.out hb)
  replace R_aM := Lib.hid (R_aM.out.below hb)
  replace K_aM := Lib.hid (K_aM.out.below hb)
  replace A_w0 := Lib.hid (A_w0.out.below hb)
  replace K_w0 := Lib.hid (K_w0.out.below hb)
  replace A_x0 := Lib.hid (A_x0.out.below hb)
  replace K_x0 := Lib.hid (K_x0.out.below hb)
  simp only [size_box] at hoJ
  have A_g0 := Lib.hid (hoJ.lies (Nat.le_refl _))
  clear hoJ hb
  replace B := Lib.hid (below_box B.out (.cells #[.int .i64 g0_z0, .slice g0_a1 g0_n1 g0_c1, .slice g0_a2 g0_n2 g0_c2] 31))
  replace R_aM := Lib.hid (R_aM.out.box (.cells #[.int .i64 g0_z0, .slice g0_a1 g0_n1 g0_c1, .slice g0_a2 g0_n2 g0_c2] 31))
  replace K_aM := Lib.hid (K_aM.out.box (.cells #[.int .i64 g0_z0, .slice g0_a1 g0_n1 g0_c1, .slice g0_a2 g0_n2 g0_c2] 31))
  replace A_w0 := Lib.hid (A_w0.out.box (.cells #[.int .i64 g0_z0, .slice g0_a1 g0_n1 g0_c1, .slice g0_a2 g0_n2 g0_c2] 31))
  replace K_w0 := Lib.hid (K_w0.out.box (.cells #[.int .i64 g0_z0, .slice g0_a1 g0_n1 g0_c1, .slice g0_a2 g0_n2 g0_c2] 31))
  replace A_x0 := Lib.hid (A_x0.out.box (.cells #[.int .i64 g0_z0, .slice g0_a1 g0_n1 g0_c1, .slice g0_a2 g0_n2 g0_c2] 31))
  replace K_x0 := Lib.hid (K_x0.out.box (.cells #[.int .i64 g0_z0, .slice g0_a1 g0_n1 g0_c1, .slice g0_a2 g0_n2 g0_c2] 31))
  replace A_g0 := Lib.hid (A_g0.out.box (.cells #[.int .i64 g0_z0, .slice g0_a1 g0_n1 g0_c1, .slice g0_a2 g0_n2 g0_c2] 31))
  have K_g0 := Lib.hid (lies_box w5 (.cells #[.int .i64 g0_z0, .slice g0_a1 g0_n1 g0_c1, .slice g0_a2 g0_n2 g0_c2] 31))
  have bd_g0 : mcMem (sweepM m0) ≤ 1000000000000 := sweepM_bd m0 hs0
  have bd_g1 : szByteS (sweepD m0) ≤ 1000000000000 := sweepD_bd m0
  have c_aM_0 : (w5.alloc (.cells #[.int .i64 g0_z0, .slice g0_a1 g0_n1 g0_c1, .slice g0_a2 g0_n2 g0_c2] 31)).cell? ⟨w.heap.size, 0, none⟩ = some d0_0 := cur_cell K_aM.out.now 0
  have c_aM_1 : (w5.alloc (.cells #[.int .i64 g0_z0, .slice g0_a1 g0_n1 g0_c1, .slice g0_a2 g0_n2 g0_c2] 31)).cell? ⟨w.heap.size, 1, none⟩ = some d0_1 := cur_cell K_aM.out.now 1
  have c_aM_2 : (w5.alloc (.cells #[.int .i64 g0_z0, .slice g0_a1 g0_n1 g0_c1, .slice g0_a2 g0_n2 g0_c2] 31)).cell? ⟨w.heap.size, 2, none⟩ = some d0_2 := cur_cell K_aM.out.now 2
  have c_w0_0 : (w5.alloc (.cells #[.int .i64 g0_z0, .slice g0_a1 g0_n1 g0_c1, .slice g0_a2 g0_n2 g0_c2] 31)).cell? ⟨w3.heap.size, 0, none⟩ = some (.int .i64 w0_z0) := cur_cell K_w0.out.now 0
  have c_w0_1 : (w5.alloc (.cells #[.int .i64 g0_z0, .slice g0_a1 g0_n1 g0_c1, .slice g0_a2 g0_n2 g0_c2] 31)).cell? ⟨w3.heap.size, 1, none⟩ = some (.slice w0_a1 w0_n1 w0_c1) := cur_cell K_w0.out.now 1
  have c_w0_2 : (w5.alloc (.cells #[.int .i64 g0_z0, .slice g0_a1 g0_n1 g0_c1, .slice g0_a2 g0_n2 g0_c2] 31)).cell? ⟨w3.heap.size, 2, none⟩ = some (.slice w0_a2 w0_n2 w0_c2) := cur_cell K_w0.out.now 2
  have c_x0_0 : (w5.alloc (.cells #[.int .i64 g0_z0, .slice g0_a1 g0_n1 g0_c1, .slice g0_a2 g0_n2 g0_c2] 31)).cell? ⟨w4.heap.size, 0, none⟩ = some (.int .i64 x0z0) := cur_cell K_x0.out.now 0
  have c_x0_1 : (w5.alloc (.cells #[.int .i64 g0_z0, .slice g0_a1 g0_n1 g0_c1, .slice g0_a2 g0_n2 g0_c2] 31)).cell? ⟨w4.heap.size, 1, none⟩ = some (.slice x0a1 x0n1 x0c1) := cur_cell K_x0.out.now 1
  have c_x0_2 : (w5.alloc (.cells #[.int .i64 g0_z0, .slice g0_a1 g0_n1 g0_c1, .slice g0_a2 g0_n2 g0_c2] 31)).cell? ⟨w4.heap.size, 2, none⟩ = some (.slice x0a2 x0n2 x0c2) := cur_cell K_x0.out.now 2
  have c_g0_0 : (w5.alloc (.cells #[.int .i64 g0_z0, .slice g0_a1 g0_n1 g0_c1, .slice g0_a2 g0_n2 g0_c2] 31)).cell? ⟨w5.heap.size, 0, none⟩ = some (.int .i64 g0_z0) := cur_cell K_g0.out.now 0
  have c_g0_1 : (w5.alloc (.cells #[.int .i64 g0_z0, .slice g0_a1 g0_n1 g0_c1, .slice g0_a2 g0_n2 g0_c2] 31)).cell? ⟨w5.heap.size, 1, none⟩ = some (.slice g0_a1 g0_n1 g0_c1) := cur_cell K_g0.out.now 1
  have c_g0_2 : (w5.alloc (.cells #[.int .i64 g0_z0, .slice g0_a1 g0_n1 g0_c1, .slice g0_a2 g0_n2 g0_c2] 31)).cell? ⟨w5.heap.size, 2, none⟩ = some (.slice g0_a2 g0_n2 g0_c2) := cur_cell K_g0.out.now 2
  go_wp2_with fail
  clear c_aM_0 c_aM_1 c_aM_2 c_w0_0 c_w0_1 c_w0_2 c_x0_0 c_x0_1 c_x0_2 c_g0_0 c_g0_1 c_g0_2
  refine (uEqMem (.int .i64 g0_z0) (.slice g0_a1 g0_n1 g0_c1) (.slice g0_a2 g0_n2 g0_c2) (.int .i64 w0_z0) (.slice w0_a1 w0_n1 w0_c1) (.slice w0_a2 w0_n2 w0_c2) (sweepM m0) _ A_g0.out.now.read A_w0.out.now.read).mono ?_
  rintro e w6 ⟨rfl, hb⟩
  have s_w6 : w5.heap.size + 1 ≤ w6.heap.size := by have := hb.size; simpa only [size_box, size_drew] using this
  replace B := Lib.hid (below_seq B.out hb)
  replace R_aM := Lib.hid (R_aM.out.below hb)
  replace K_aM := Lib.hid (K_aM.out.below hb)
  replace A_w0 := Lib.hid (A_w0.out.below hb)
  replace K_w0 := Lib.hid (K_w0.out.below hb)
  replace A_x0 := Lib.hid (A_x0.out.below hb)
  replace K_x0 := Lib.hid (K_x0.out.below hb)
  replace A_g0 := Lib.hid (A_g0.out.below hb)
  replace K_g0 := Lib.hid (K_g0.out.below hb)
  clear hb
  have c_aM_0 : w6.cell? ⟨w.heap.size, 0, none⟩ = some d0_0 := cur_cell K_aM.out.now 0
  have c_aM_1 : w6.cell? ⟨w.heap.size, 1, none⟩ = some d0_1 := cur_cell K_aM.out.now 1
  have c_aM_2 : w6.cell? ⟨w.heap.size, 2, none⟩ = some d0_2 := cur_cell K_aM.out.now 2
  have c_w0_0 : w6.cell? ⟨w3.heap.size, 0, none⟩ = some (.int .i64 w0_z0) := cur_cell K_w0.out.now 0
  have c_w0_1 : w6.cell? ⟨w3.heap.size, 1, none⟩ = some (.slice w0_a1 w0_n1 w0_c1) := cur_cell K_w0.out.now 1
  have c_w0_2 : w6.cell? ⟨w3.heap.size, 2, none⟩ = some (.slice w0_a2 w0_n2 w0_c2) := cur_cell K_w0.out.now 2
  have c_x0_0 : w6.cell? ⟨w4.heap.size, 0, none⟩ = some (.int .i64 x0z0) := cur_cell K_x0.out.now 0
  have c_x0_1 : w6.cell? ⟨w4.heap.size, 1, none⟩ = some (.slice x0a1 x0n1 x0c1) := cur_cell K_x0.out.now 1
  have c_x0_2 : w6.cell? ⟨w4.heap.size, 2, none⟩ = some (.slice x0a2 x0n2 x0c2) := cur_cell K_x0.out.now 2
  have c_g0_0 : w6.cell? ⟨w5.heap.size, 0, none⟩ = some (.int .i64 g0_z0) := cur_cell K_g0.out.now 0
  have c_g0_1 : w6.cell? ⟨w5.heap.size, 1, none⟩ = some (.slice g0_a1 g0_n1 g0_c1) := cur_cell K_g0.out.now 1
  have c_g0_2 : w6.cell? ⟨w5.heap.size, 2, none⟩ = some (.slice g0_a2 g0_n2 g0_c2) := cur_cell K_g0.out.now 2
  go_wp2_with fail
  clear c_aM_0 c_aM_1 c_aM_2 c_w0_0 c_w0_1 c_w0_2 c_x0_0 c_x0_1 c_x0_2 c_g0_0 c_g0_1 c_g0_2
  refine (uEqByteS (.slice g1_a0 g1_n0 g1_c0) (.slice w1_a0 w1_n0 w1_c0) (sweepD m0) _ A_g0.out.now.more.read A_w0.out.now.more.read).mono ?_
  rintro e w7 ⟨rfl, hb⟩
  have s_w7 : w6.heap.size ≤ w7.heap.size := by have := hb.size; simpa only [size_box, size_drew] using this
  replace B := Lib.hid (below_seq B.out hb)
  replace R_aM := Lib.hid (R_aM.out.below hb)
  replace K_aM := Lib.hid (K_aM.out.below hb)
  replace A_w0 := Lib.hid (A_w0.out.below hb)
  replace K_w0 := Lib.hid (K_w0.out.below hb)
  replace A_x0 := Lib.hid (A_x0.out.below hb)
  replace K_x0 := Lib.hid (K_x0.out.below hb)
  replace A_g0 := Lib.hid (A_g0.out.below hb)
  replace K_g0 := Lib.hid (K_g0.out.below hb)
  clear hb
  have c_aM_0 : w7.cell? ⟨w.heap.size, 0, none⟩ = some d0_0 := cur_cell K_aM.out.now 0
  have c_aM_1 : w7.cell? ⟨w.heap.size, 1, none⟩ = some d0_1 := cur_cell K_aM.out.now 1
  have c_aM_2 : w7.cell? ⟨w.heap.size, 2, none⟩ = some d0_2 := cur_cell K_aM.out.now 2
  have c_w0_0 : w7.cell? ⟨w3.heap.size, 0, none⟩ = some (.int .i64 w0_z0) := cur_cell K_w0.out.now 0
  have c_w0_1 : w7.cell? ⟨w3.heap.size, 1, none⟩ = some (.slice w0_a1 w0_n1 w0_c1) := cur_cell K_w0.out.now 1
  have c_w0_2 : w7.cell? ⟨w3.heap.size, 2, none⟩ = some (.slice w0_a2 w0_n2 w0_c2) := cur_cell K_w0.out.now 2
  have c_x0_0 : w7.cell? ⟨w4.heap.size, 0, none⟩ = some (.int .i64 x0z0) := cur_cell K_x0.out.now 0
  have c_x0_1 : w7.cell? ⟨w4.heap.size, 1, none⟩ = some (.slice x0a1 x0n1 x0c1) := cur_cell K_x0.out.now 1
  have c_x0_2 : w7.cell? ⟨w4.heap.size, 2, none⟩ = some (.slice x0a2 x0n2 x0c2) := cur_cell K_x0.out.now 2
  have c_g0_0 : w7.cell? ⟨w5.heap.size, 0, none⟩ = some (.int .i64 g0_z0) := cur_cell K_g0.out.now 0
  have c_g0_1 : w7.cell? ⟨w5.heap.size, 1, none⟩ = some (.slice g0_a1 g0_n1 g0_c1) := cur_cell K_g0.out.now 1
  have c_g0_2 : w7.cell? ⟨w5.heap.size, 2, none⟩ = some (.slice g0_a2 g0_n2 g0_c2) := cur_cell K_g0.out.now 2
  go_wp2_with fail
  replace B := Lib.hid (below_drew B.out)
  replace R_aM := Lib.hid R_aM.out.drew
  replace K_aM := Lib.hid K_aM.out.drew
  replace A_w0 := Lib.hid A_w0.out.drew
  replace K_w0 := Lib.hid K_w0.out.drew
  replace A_x0 := Lib.hid A_x0.out.drew
  replace K_x0 := Lib.hid K_x0.out.drew
  replace A_g0 := Lib.hid A_g0.out.drew
  replace K_g0 := Lib.hid K_g0.out.drew
  go_region_held3 (fun w' => w'.cell? ⟨w.heap.size, 0, none⟩ = some d0_0 ∧ w'.cell? ⟨w.heap.size, 1, none⟩ = some d0_1 ∧ w'.cell? ⟨w.heap.size, 2, none⟩ = some d0_2 ∧ w'.cell? ⟨w4.heap.size, 0, none⟩ = some (.int .i64 x0z0) ∧ w'.cell? ⟨w4.heap.size, 1, none⟩ = some (.slice x0a1 x0n1 x0c1) ∧ w'.cell? ⟨w4.heap.size, 2, none⟩ = some (.slice x0a2 x0n2 x0c2))
    (first | go_keep | exact ⟨cur_cell K_aM.out.now 0, cur_cell K_aM.out.now 1, cur_cell K_aM.out.now 2, cur_cell K_x0.out.now 0, cur_cell K_x0.out.now 1, cur_cell K_x0.out.now 2⟩)
    (first
      | (go_at_call 10; refine (uToMem d0_0 d0_1 d0_2 m0 _ hs0 R_aM.out.now).mono ?_; rintro e w8 ⟨tt9_0, tt9_1, tt9_2, rfl, ho, hb⟩; have A_tt := Lib.hid (ho.lies (Nat.le_refl _)); have s_w8 : w7.heap.size ≤ w8.heap.size := (by have := hb.size; simpa only [size_box, size_drew] using this); replace B := Lib.hid (below_seq B.out hb); replace R_aM := Lib.hid (R_aM.out.below hb); replace K_aM := Lib.hid (K_aM.out.below hb); replace A_w0 := Lib.hid (A_w0.out.below hb); replace K_w0 := Lib.hid (K_w0.out.below hb); replace A_x0 := Lib.hid (A_x0.out.below hb); replace K_x0 := Lib.hid (K_x0.out.below hb); replace A_g0 := Lib.hid (A_g0.out.below hb); replace K_g0 := Lib.hid (K_g0.out.below hb); clear ho hb)
      | (go_at_call 12; refine (uEqMem (.int .i64 x0z0) (.slice x0a1 x0n1 x0c1) (.slice x0a2 x0n2 x0c2) tt9_0 tt9_1 tt9_2 m0 _ A_x0.out.now.read A_tt.out.now.read).mono ?_; rintro e w9 ⟨rfl, hb⟩; have s_w9 : w8.heap.size ≤ w9.heap.size := hb.size; replace B := Lib.hid (below_seq B.out hb); replace R_aM := Lib.hid (R_aM.out.below hb); replace K_aM := Lib.hid (K_aM.out.below hb); replace A_w0 := Lib.hid (A_w0.out.below hb); replace K_w0 := Lib.hid (K_w0.out.below hb); replace A_x0 := Lib.hid (A_x0.out.below hb); replace K_x0 := Lib.hid (K_x0.out.below hb); replace A_g0 := Lib.hid (A_g0.out.below hb); replace K_g0 := Lib.hid (K_g0.out.below hb); clear hb A_tt))
  clear c_aM_0 c_aM_1 c_aM_2 c_w0_0 c_w0_1 c_w0_2 c_x0_0 c_x0_1 c_x0_2 c_g0_0 c_g0_1 c_g0_2
  have c_aM_0 : w9.cell? ⟨w.heap.size, 0, none⟩ = some d0_0 := cur_cell K_aM.out.now 0
  have c_aM_1 : w9.cell? ⟨w.heap.size, 1, none⟩ = some d0_1 := cur_cell K_aM.out.now 1
  have c_aM_2 : w9.cell? ⟨w.heap.size, 2, none⟩ = some d0_2 := cur_cell K_aM.out.now 2
  have c_w0_0 : w9.cell? ⟨w3.heap.size, 0, none⟩ = some (.int .i64 w0_z0) := cur_cell K_w0.out.now 0
  have c_w0_1 : w9.cell? ⟨w3.heap.size, 1, none⟩ = some (.slice w0_a1 w0_n1 w0_c1) := cur_cell K_w0.out.now 1
  have c_w0_2 : w9.cell? ⟨w3.heap.size, 2, none⟩ = some (.slice w0_a2 w0_n2 w0_c2) := cur_cell K_w0.out.now 2
  have c_x0_0 : w9.cell? ⟨w4.heap.size, 0, none⟩ = some (.int .i64 x0z0) := cur_cell K_x0.out.now 0
  have c_x0_1 : w9.cell? ⟨w4.heap.size, 1, none⟩ = some (.slice x0a1 x0n1 x0c1) := cur_cell K_x0.out.now 1
  have c_x0_2 : w9.cell? ⟨w4.heap.size, 2, none⟩ = some (.slice x0a2 x0n2 x0c2) := cur_cell K_x0.out.now 2
  have c_g0_0 : w9.cell? ⟨w5.heap.size, 0, none⟩ = some (.int .i64 g0_z0) := cur_cell K_g0.out.now 0
  have c_g0_1 : w9.cell? ⟨w5.heap.size, 1, none⟩ = some (.slice g0_a1 g0_n1 g0_c1) := cur_cell K_g0.out.now 1
  have c_g0_2 : w9.cell? ⟨w5.heap.size, 2, none⟩ = some (.slice g0_a2 g0_n2 g0_c2) := cur_cell K_g0.out.now 2
  go_wp2_with fail
  clear c_aM_0 c_aM_1 c_aM_2 c_w0_0 c_w0_1 c_w0_2 c_x0_0 c_x0_1 c_x0_2 c_g0_0 c_g0_1 c_g0_2
  refine (uMarkMem (w3.heap.size + 1) w4.heap.size 1 (.int .i64 x0z0) (.slice x0a1 x0n1 x0c1) (.slice x0a2 x0n2 x0c2) m0 _ (by omega) A_x0.out.top A_x0.out.now).mono ?_
  rintro e w10 ⟨k10, rfl, hk, ho, hc⟩
  have bd_k10 : k10 ≤ 2000000000000 := by omega
  have HK_k10 := Lib.hid hk
  have s_w10 : w9.heap.size ≤ w10.heap.size := by have := hc.size; simpa only [size_box, size_drew] using this
  have ho_t := A_x0.out.top
  clear A_x0
  replace B := Lib.hid (hc.below B.out (by have := B0s; omega))
  replace R_aM := Lib.hid (R_aM.out.chg hc (by have := B0s; omega))
  replace K_aM := Lib.hid (K_aM.out.chg hc (by have := B0s; omega))
  replace A_w0 := Lib.hid (A_w0.out.chg hc (by have := B0s; omega))
  replace K_w0 := Lib.hid (K_w0.out.chg hc (by have := B0s; omega))
  replace K_x0 := Lib.hid (K_x0.out.chg hc (by have := B0s; omega))
  replace A_g0 := Lib.hid (A_g0.out.chg hc (by have := B0s; omega))
  replace K_g0 := Lib.hid (K_g0.out.chg hc (by have := B0s; omega))
  have A_x0 := Lib.hid (ho.lies (Nat.le_trans ho_t s_w10))
  clear hk ho hc ho_t
  have c_aM_0 : w10.cell? ⟨w.heap.size, 0, none⟩ = some d0_0 := cur_cell K_aM.out.now 0
  have c_aM_1 : w10.cell? ⟨w.heap.size, 1, none⟩ = some d0_1 := cur_cell K_aM.out.now 1
  have c_aM_2 : w10.cell? ⟨w.heap.size, 2, none⟩ = some d0_2 := cur_cell K_aM.out.now 2
  have c_w0_0 : w10.cell? ⟨w3.heap.size, 0, none⟩ = some (.int .i64 w0_z0) := cur_cell K_w0.out.now 0
  have c_w0_1 : w10.cell? ⟨w3.heap.size, 1, none⟩ = some (.slice w0_a1 w0_n1 w0_c1) := cur_cell K_w0.out.now 1
  have c_w0_2 : w10.cell? ⟨w3.heap.size, 2, none⟩ = some (.slice w0_a2 w0_n2 w0_c2) := cur_cell K_w0.out.now 2
  have c_x0_0 : w10.cell? ⟨w4.heap.size, 0, none⟩ = some (.int .i64 x0z0) := cur_cell K_x0.out.now 0
  have c_x0_1 : w10.cell? ⟨w4.heap.size, 1, none⟩ = some (.slice x0a1 x0n1 x0c1) := cur_cell K_x0.out.now 1
  have c_x0_2 : w10.cell? ⟨w4.heap.size, 2, none⟩ = some (.slice x0a2 x0n2 x0c2) := cur_cell K_x0.out.now 2
  have c_g0_0 : w10.cell? ⟨w5.heap.size, 0, none⟩ = some (.int .i64 g0_z0) := cur_cell K_g0.out.now 0
  have c_g0_1 : w10.cell? ⟨w5.heap.size, 1, none⟩ = some (.slice g0_a1 g0_n1 g0_c1) := cur_cell K_g0.out.now 1
  have c_g0_2 : w10.cell? ⟨w5.heap.size, 2, none⟩ = some (.slice g0_a2 g0_n2 g0_c2) := cur_cell K_g0.out.now 2
  go_wp2_with fail
  clear c_aM_0 c_aM_1 c_aM_2 c_w0_0 c_w0_1 c_w0_2 c_x0_0 c_x0_1 c_x0_2 c_g0_0 c_g0_1 c_g0_2
  refine (uEqMem (.int .i64 g0_z0) (.slice g0_a1 g0_n1 g0_c1) (.slice g0_a2 g0_n2 g0_c2) (.int .i64 w0_z0) (.slice w0_a1 w0_n1 w0_c1) (.slice w0_a2 w0_n2 w0_c2) (sweepM m0) _ A_g0.out.now.read A_w0.out.now.read).mono ?_
  rintro e w11 ⟨rfl, hb⟩
  have s_w11 : w10.heap.size ≤ w11.heap.size := by have := hb.size; simpa only [size_box, size_drew] using this
  replace B := Lib.hid (below_seq B.out hb)
  replace R_aM := Lib.hid (R_aM.out.below hb)
  replace K_aM := Lib.hid (K_aM.out.below hb)
  replace A_w0 := Lib.hid (A_w0.out.below hb)
  replace K_w0 := Lib.hid (K_w0.out.below hb)
  replace K_x0 := Lib.hid (K_x0.out.below hb)
  replace A_g0 := Lib.hid (A_g0.out.below hb)
  replace K_g0 := Lib.hid (K_g0.out.below hb)
  replace A_x0 := Lib.hid (A_x0.out.below hb)
  clear hb
  have c_aM_0 : w11.cell? ⟨w.heap.size, 0, none⟩ = some d0_0 := cur_cell K_aM.out.now 0
  have c_aM_1 : w11.cell? ⟨w.heap.size, 1, none⟩ = some d0_1 := cur_cell K_aM.out.now 1
  have c_aM_2 : w11.cell? ⟨w.heap.size, 2, none⟩ = some d0_2 := cur_cell K_aM.out.now 2
  have c_w0_0 : w11.cell? ⟨w3.heap.size, 0, none⟩ = some (.int .i64 w0_z0) := cur_cell K_w0.out.now 0
  have c_w0_1 : w11.cell? ⟨w3.heap.size, 1, none⟩ = some (.slice w0_a1 w0_n1 w0_c1) := cur_cell K_w0.out.now 1
  have c_w0_2 : w11.cell? ⟨w3.heap.size, 2, none⟩ = some (.slice w0_a2 w0_n2 w0_c2) := cur_cell K_w0.out.now 2
  have c_x0_0 : w11.cell? ⟨w4.heap.size, 0, none⟩ = some (.int .i64 x0z0) := cur_cell K_x0.out.now 0
  have c_x0_1 : w11.cell? ⟨w4.heap.size, 1, none⟩ = some (.slice x0a1 x0n1 x0c1) := cur_cell K_x0.out.now 1
  have c_x0_2 : w11.cell? ⟨w4.heap.size, 2, none⟩ = some (.slice x0a2 x0n2 x0c2) := cur_cell K_x0.out.now 2
  have c_g0_0 : w11.cell? ⟨w5.heap.size, 0, none⟩ = some (.int .i64 g0_z0) := cur_cell K_g0.out.now 0
  have c_g0_1 : w11.cell? ⟨w5.heap.size, 1, none⟩ = some (.slice g0_a1 g0_n1 g0_c1) := cur_cell K_g0.out.now 1
  have c_g0_2 : w11.cell? ⟨w5.heap.size, 2, none⟩ = some (.slice g0_a2 g0_n2 g0_c2) := cur_cell K_g0.out.now 2
  go_wp2_with fail
  clear c_aM_0 c_aM_1 c_aM_2 c_w0_0 c_w0_1 c_w0_2 c_x0_0 c_x0_1 c_x0_2 c_g0_0 c_g0_1 c_g0_2
  refine (uEqByteS (.slice g1_a0 g1_n0 g1_c0) (.slice w1_a0 w1_n0 w1_c0) (sweepD m0) _ A_g0.out.now.more.read A_w0.out.now.more.read).mono ?_
  rintro e w12 ⟨rfl, hb⟩
  have s_w12 : w11.heap.size ≤ w12.heap.size := by have := hb.size; simpa only [size_box, size_drew] using this
  replace B := Lib.hid (below_seq B.out hb)
  replace R_aM := Lib.hid (R_aM.out.below hb)
  replace K_aM := Lib.hid (K_aM.out.below hb)
  replace A_w0 := Lib.hid (A_w0.out.below hb)
  replace K_w0 := Lib.hid (K_w0.out.below hb)
  replace K_x0 := Lib.hid (K_x0.out.below hb)
  replace A_g0 := Lib.hid (A_g0.out.below hb)
  replace K_g0 := Lib.hid (K_g0.out.below hb)
  replace A_x0 := Lib.hid (A_x0.out.below hb)
  clear hb
  have c_aM_0 : w12.cell? ⟨w.heap.size, 0, none⟩ = some d0_0 := cur_cell K_aM.out.now 0
  have c_aM_1 : w12.cell? ⟨w.heap.size, 1, none⟩ = some d0_1 := cur_cell K_aM.out.now 1
  have c_aM_2 : w12.cell? ⟨w.heap.size, 2, none⟩ = some d0_2 := cur_cell K_aM.out.now 2
  have c_w0_0 : w12.cell? ⟨w3.heap.size, 0, none⟩ = some (.int .i64 w0_z0) := cur_cell K_w0.out.now 0
  have c_w0_1 : w12.cell? ⟨w3.heap.size, 1, none⟩ = some (.slice w0_a1 w0_n1 w0_c1) := cur_cell K_w0.out.now 1
  have c_w0_2 : w12.cell? ⟨w3.heap.size, 2, none⟩ = some (.slice w0_a2 w0_n2 w0_c2) := cur_cell K_w0.out.now 2
  have c_x0_0 : w12.cell? ⟨w4.heap.size, 0, none⟩ = some (.int .i64 x0z0) := cur_cell K_x0.out.now 0
  have c_x0_1 : w12.cell? ⟨w4.heap.size, 1, none⟩ = some (.slice x0a1 x0n1 x0c1) := cur_cell K_x0.out.now 1
  have c_x0_2 : w12.cell? ⟨w4.heap.size, 2, none⟩ = some (.slice x0a2 x0n2 x0c2) := cur_cell K_x0.out.now 2
  have c_g0_0 : w12.cell? ⟨w5.heap.size, 0, none⟩ = some (.int .i64 g0_z0) := cur_cell K_g0.out.now 0
  have c_g0_1 : w12.cell? ⟨w5.heap.size, 1, none⟩ = some (.slice g0_a1 g0_n1 g0_c1) := cur_cell K_g0.out.now 1
  have c_g0_2 : w12.cell? ⟨w5.heap.size, 2, none⟩ = some (.slice g0_a2 g0_n2 g0_c2) := cur_cell K_g0.out.now 2
  go_wp2_with fail
  clear c_aM_0 c_aM_1 c_aM_2 c_w0_0 c_w0_1 c_w0_2 c_x0_0 c_x0_1 c_x0_2 c_g0_0 c_g0_1 c_g0_2
  refine (uMarkMemX (w4.heap.size + 1) w5.heap.size 1 (.int .i64 g0_z0) (.slice g0_a1 g0_n1 g0_c1) (.slice g0_a2 g0_n2 g0_c2) (sweepM m0) [.slice g1_a0 g1_n0 g1_c0] [(sweepD m0)] _ (by have := bd_g0; omega) A_g0.out.top A_g0.out.now).mono ?_
  rintro e w13 ⟨k13, rfl, hk, ho, hc⟩
  have bd_k13 : k13 ≤ 2000000000000 := by have := bd_g0; omega
  have HK_k13 := Lib.hid hk
  have s_w13 : w12.heap.size ≤ w13.heap.size := by have := hc.size; simpa only [size_box, size_drew] using this
  have ho_t := A_g0.out.top
  clear A_g0
  replace B := Lib.hid (hc.below B.out (by have := B0s; omega))
  replace R_aM := Lib.hid (R_aM.out.chg hc (by have := B0s; omega))
  replace K_aM := Lib.hid (K_aM.out.chg hc (by have := B0s; omega))
  replace A_w0 := Lib.hid (A_w0.out.chg hc (by have := B0s; omega))
  replace K_w0 := Lib.hid (K_w0.out.chg hc (by have := B0s; omega))
  replace K_x0 := Lib.hid (K_x0.out.chg hc (by have := B0s; omega))
  replace K_g0 := Lib.hid (K_g0.out.chg hc (by have := B0s; omega))
  replace A_x0 := Lib.hid (A_x0.out.chg hc (by have := B0s; omega))
  have A_g0 := Lib.hid (ho.lies (Nat.le_trans ho_t s_w13))
  clear hk ho hc ho_t
  have c_aM_0 : w13.cell? ⟨w.heap.size, 0, none⟩ = some d0_0 := cur_cell K_aM.out.now 0
  have c_aM_1 : w13.cell? ⟨w.heap.size, 1, none⟩ = some d0_1 := cur_cell K_aM.out.now 1
  have c_aM_2 : w13.cell? ⟨w.heap.size, 2, none⟩ = some d0_2 := cur_cell K_aM.out.now 2
  have c_w0_0 : w13.cell? ⟨w3.heap.size, 0, none⟩ = some (.int .i64 w0_z0) := cur_cell K_w0.out.now 0
  have c_w0_1 : w13.cell? ⟨w3.heap.size, 1, none⟩ = some (.slice w0_a1 w0_n1 w0_c1) := cur_cell K_w0.out.now 1
  have c_w0_2 : w13.cell? ⟨w3.heap.size, 2, none⟩ = some (.slice w0_a2 w0_n2 w0_c2) := cur_cell K_w0.out.now 2
  have c_x0_0 : w13.cell? ⟨w4.heap.size, 0, none⟩ = some (.int .i64 x0z0) := cur_cell K_x0.out.now 0
  have c_x0_1 : w13.cell? ⟨w4.heap.size, 1, none⟩ = some (.slice x0a1 x0n1 x0c1) := cur_cell K_x0.out.now 1
  have c_x0_2 : w13.cell? ⟨w4.heap.size, 2, none⟩ = some (.slice x0a2 x0n2 x0c2) := cur_cell K_x0.out.now 2
  have c_g0_0 : w13.cell? ⟨w5.heap.size, 0, none⟩ = some (.int .i64 g0_z0) := cur_cell K_g0.out.now 0
  have c_g0_1 : w13.cell? ⟨w5.heap.size, 1, none⟩ = some (.slice g0_a1 g0_n1 g0_c1) := cur_cell K_g0.out.now 1
  have c_g0_2 : w13.cell? ⟨w5.heap.size, 2, none⟩ = some (.slice g0_a2 g0_n2 g0_c2) := cur_cell K_g0.out.now 2
  go_wp2_with fail
  clear c_aM_0 c_aM_1 c_aM_2 c_w0_0 c_w0_1 c_w0_2 c_x0_0 c_x0_1 c_x0_2 c_g0_0 c_g0_1 c_g0_2
  refine (uMarkMemB (w4.heap.size + 1) w5.heap.size k13 [.int .i64 g0_z0, .slice g0_a1 g0_n1 g0_c1, .slice g0_a2 g0_n2 g0_c2] (mkMem 1 (sweepM m0)) (.slice g1_a0 g1_n0 g1_c0) (sweepD m0) _ (by have := bd_g1; omega) A_g0.out.now).mono ?_
  rintro e w14 ⟨k14, rfl, hk, ho, hc⟩
  have bd_k14 : k14 ≤ 4000000000000 := by have := bd_g1; omega
  have HK_k14 := Lib.hid hk
  have s_w14 : w13.heap.size ≤ w14.heap.size := by have := hc.size; simpa only [size_box, size_drew] using this
  have ho_t := A_g0.out.top
  clear A_g0
  replace B := Lib.hid (hc.below B.out (by have := B0s; omega))
  replace R_aM := Lib.hid (R_aM.out.chg hc (by have := B0s; omega))
  replace K_aM := Lib.hid (K_aM.out.chg hc (by have := B0s; omega))
  replace A_w0 := Lib.hid (A_w0.out.chg hc (by have := B0s; omega))
  replace K_w0 := Lib.hid (K_w0.out.chg hc (by have := B0s; omega))
  replace K_x0 := Lib.hid (K_x0.out.chg hc (by have := B0s; omega))
  replace K_g0 := Lib.hid (K_g0.out.chg hc (by have := B0s; omega))
  replace A_x0 := Lib.hid (A_x0.out.chg hc (by have := B0s; omega))
  have A_g0 := Lib.hid (ho.lies (Nat.le_trans ho_t s_w14))
  clear hk ho hc ho_t
  have c_aM_0 : w14.cell? ⟨w.heap.size, 0, none⟩ = some d0_0 := cur_cell K_aM.out.now 0
  have c_aM_1 : w14.cell? ⟨w.heap.size, 1, none⟩ = some d0_1 := cur_cell K_aM.out.now 1
  have c_aM_2 : w14.cell? ⟨w.heap.size, 2, none⟩ = some d0_2 := cur_cell K_aM.out.now 2
  have c_w0_0 : w14.cell? ⟨w3.heap.size, 0, none⟩ = some (.int .i64 w0_z0) := cur_cell K_w0.out.now 0
  have c_w0_1 : w14.cell? ⟨w3.heap.size, 1, none⟩ = some (.slice w0_a1 w0_n1 w0_c1) := cur_cell K_w0.out.now 1
  have c_w0_2 : w14.cell? ⟨w3.heap.size, 2, none⟩ = some (.slice w0_a2 w0_n2 w0_c2) := cur_cell K_w0.out.now 2
  have c_x0_0 : w14.cell? ⟨w4.heap.size, 0, none⟩ = some (.int .i64 x0z0) := cur_cell K_x0.out.now 0
  have c_x0_1 : w14.cell? ⟨w4.heap.size, 1, none⟩ = some (.slice x0a1 x0n1 x0c1) := cur_cell K_x0.out.now 1
  have c_x0_2 : w14.cell? ⟨w4.heap.size, 2, none⟩ = some (.slice x0a2 x0n2 x0c2) := cur_cell K_x0.out.now 2
  have c_g0_0 : w14.cell? ⟨w5.heap.size, 0, none⟩ = some (.int .i64 g0_z0) := cur_cell K_g0.out.now 0
  have c_g0_1 : w14.cell? ⟨w5.heap.size, 1, none⟩ = some (.slice g0_a1 g0_n1 g0_c1) := cur_cell K_g0.out.now 1
  have c_g0_2 : w14.cell? ⟨w5.heap.size, 2, none⟩ = some (.slice g0_a2 g0_n2 g0_c2) := cur_cell K_g0.out.now 2
  go_wp2_with fail
  clear c_aM_0 c_aM_1 c_aM_2 c_w0_0 c_w0_1 c_w0_2 c_x0_0 c_x0_1 c_x0_2 c_g0_0 c_g0_1 c_g0_2
  refine (uHeldMem 1 (.int .i64 g0_z0) (.slice g0_a1 g0_n1 g0_c1) (.slice g0_a2 g0_n2 g0_c2) (sweepM m0) _ (by have := HK_k13.out; omega) A_g0.out.now.read).mono ?_
  rintro e w15 ⟨k15, rfl, hk, hb⟩
  have hkk : k15 = k13 := by have := HK_k13.out; omega
  rw [hkk]
  clear hk hkk
  have s_w15 : w14.heap.size ≤ w15.heap.size := by have := hb.size; simpa only [size_box, size_drew] using this
  replace B := Lib.hid (below_seq B.out hb)
  replace R_aM := Lib.hid (R_aM.out.below hb)
  replace K_aM := Lib.hid (K_aM.out.below hb)
  replace A_w0 := Lib.hid (A_w0.out.below hb)
  replace K_w0 := Lib.hid (K_w0.out.below hb)
  replace K_x0 := Lib.hid (K_x0.out.below hb)
  replace K_g0 := Lib.hid (K_g0.out.below hb)
  replace A_x0 := Lib.hid (A_x0.out.below hb)
  replace A_g0 := Lib.hid (A_g0.out.below hb)
  clear hb
  have c_aM_0 : w15.cell? ⟨w.heap.size, 0, none⟩ = some d0_0 := cur_cell K_aM.out.now 0
  have c_aM_1 : w15.cell? ⟨w.heap.size, 1, none⟩ = some d0_1 := cur_cell K_aM.out.now 1
  have c_aM_2 : w15.cell? ⟨w.heap.size, 2, none⟩ = some d0_2 := cur_cell K_aM.out.now 2
  have c_w0_0 : w15.cell? ⟨w3.heap.size, 0, none⟩ = some (.int .i64 w0_z0) := cur_cell K_w0.out.now 0
  have c_w0_1 : w15.cell? ⟨w3.heap.size, 1, none⟩ = some (.slice w0_a1 w0_n1 w0_c1) := cur_cell K_w0.out.now 1
  have c_w0_2 : w15.cell? ⟨w3.heap.size, 2, none⟩ = some (.slice w0_a2 w0_n2 w0_c2) := cur_cell K_w0.out.now 2
  have c_x0_0 : w15.cell? ⟨w4.heap.size, 0, none⟩ = some (.int .i64 x0z0) := cur_cell K_x0.out.now 0
  have c_x0_1 : w15.cell? ⟨w4.heap.size, 1, none⟩ = some (.slice x0a1 x0n1 x0c1) := cur_cell K_x0.out.now 1
  have c_x0_2 : w15.cell? ⟨w4.heap.size, 2, none⟩ = some (.slice x0a2 x0n2 x0c2) := cur_cell K_x0.out.now 2
  have c_g0_0 : w15.cell? ⟨w5.heap.size, 0, none⟩ = some (.int .i64 g0_z0) := cur_cell K_g0.out.now 0
  have c_g0_1 : w15.cell? ⟨w5.heap.size, 1, none⟩ = some (.slice g0_a1 g0_n1 g0_c1) := cur_cell K_g0.out.now 1
  have c_g0_2 : w15.cell? ⟨w5.heap.size, 2, none⟩ = some (.slice g0_a2 g0_n2 g0_c2) := cur_cell K_g0.out.now 2
  go_wp2_with fail
  clear c_aM_0 c_aM_1 c_aM_2 c_w0_0 c_w0_1 c_w0_2 c_x0_0 c_x0_1 c_x0_2 c_g0_0 c_g0_1 c_g0_2
  refine (uHeldByteS k13 (.slice g1_a0 g1_n0 g1_c0) (sweepD m0) _ (by have := HK_k14.out; omega) A_g0.out.now.more.read).mono ?_
  rintro e w16 ⟨k16, rfl, hk, hb⟩
  have hkk : k16 = k14 := by have := HK_k14.out; omega
  rw [hkk]
  clear hk hkk
  have s_w16 : w15.heap.size ≤ w16.heap.size := by have := hb.size; simpa only [size_box, size_drew] using this
  replace B := Lib.hid (below_seq B.out hb)
  replace R_aM := Lib.hid (R_aM.out.below hb)
  replace K_aM := Lib.hid (K_aM.out.below hb)
  replace A_w0 := Lib.hid (A_w0.out.below hb)
  replace K_w0 := Lib.hid (K_w0.out.below hb)
  replace K_x0 := Lib.hid (K_x0.out.below hb)
  replace K_g0 := Lib.hid (K_g0.out.below hb)
  replace A_x0 := Lib.hid (A_x0.out.below hb)
  replace A_g0 := Lib.hid (A_g0.out.below hb)
  clear hb
  have c_aM_0 : w16.cell? ⟨w.heap.size, 0, none⟩ = some d0_0 := cur_cell K_aM.out.now 0
  have c_aM_1 : w16.cell? ⟨w.heap.size, 1, none⟩ = some d0_1 := cur_cell K_aM.out.now 1
  have c_aM_2 : w16.cell? ⟨w.heap.size, 2, none⟩ = some d0_2 := cur_cell K_aM.out.now 2
  have c_w0_0 : w16.cell? ⟨w3.heap.size, 0, none⟩ = some (.int .i64 w0_z0) := cur_cell K_w0.out.now 0
  have c_w0_1 : w16.cell? ⟨w3.heap.size, 1, none⟩ = some (.slice w0_a1 w0_n1 w0_c1) := cur_cell K_w0.out.now 1
  have c_w0_2 : w16.cell? ⟨w3.heap.size, 2, none⟩ = some (.slice w0_a2 w0_n2 w0_c2) := cur_cell K_w0.out.now 2
  have c_x0_0 : w16.cell? ⟨w4.heap.size, 0, none⟩ = some (.int .i64 x0z0) := cur_cell K_x0.out.now 0
  have c_x0_1 : w16.cell? ⟨w4.heap.size, 1, none⟩ = some (.slice x0a1 x0n1 x0c1) := cur_cell K_x0.out.now 1
  have c_x0_2 : w16.cell? ⟨w4.heap.size, 2, none⟩ = some (.slice x0a2 x0n2 x0c2) := cur_cell K_x0.out.now 2
  have c_g0_0 : w16.cell? ⟨w5.heap.size, 0, none⟩ = some (.int .i64 g0_z0) := cur_cell K_g0.out.now 0
  have c_g0_1 : w16.cell? ⟨w5.heap.size, 1, none⟩ = some (.slice g0_a1 g0_n1 g0_c1) := cur_cell K_g0.out.now 1
  have c_g0_2 : w16.cell? ⟨w5.heap.size, 2, none⟩ = some (.slice g0_a2 g0_n2 g0_c2) := cur_cell K_g0.out.now 2
  go_wp2_with fail
  clear c_aM_0 c_aM_1 c_aM_2 c_w0_0 c_w0_1 c_w0_2 c_x0_0 c_x0_1 c_x0_2 c_g0_0 c_g0_1 c_g0_2
  refine (uToMem d0_0 d0_1 d0_2 m0 _ hs0 R_aM.out.now).mono ?_
  rintro e w17 ⟨t16_0, t16_1, t16_2, rfl, ho, hb⟩
  obtain ⟨t16_z0, t16_a1, t16_n1, t16_c1, t16_a2, t16_n2, t16_c2, rfl, rfl, rfl⟩ := ho.shape
  have s_w17 : w16.heap.size ≤ w17.heap.size := by have := hb.size; simpa only [size_box, size_drew] using this
  replace B := Lib.hid (below_seq B.out hb)
  replace R_aM := Lib.hid (R_aM.out.below hb)
  replace K_aM := Lib.hid (K_aM.out.below hb)
  replace A_w0 := Lib.hid (A_w0.out.below hb)
  replace K_w0 := Lib.hid (K_w0.out.below hb)
  replace K_x0 := Lib.hid (K_x0.out.below hb)
  replace K_g0 := Lib.hid (K_g0.out.below hb)
  replace A_x0 := Lib.hid (A_x0.out.below hb)
  replace A_g0 := Lib.hid (A_g0.out.below hb)
  have A_t16_ := Lib.hid (ho.lies (Nat.le_refl _))
  clear ho hb
  have c_aM_0 : w17.cell? ⟨w.heap.size, 0, none⟩ = some d0_0 := cur_cell K_aM.out.now 0
  have c_aM_1 : w17.cell? ⟨w.heap.size, 1, none⟩ = some d0_1 := cur_cell K_aM.out.now 1
  have c_aM_2 : w17.cell? ⟨w.heap.size, 2, none⟩ = some d0_2 := cur_cell K_aM.out.now 2
  have c_w0_0 : w17.cell? ⟨w3.heap.size, 0, none⟩ = some (.int .i64 w0_z0) := cur_cell K_w0.out.now 0
  have c_w0_1 : w17.cell? ⟨w3.heap.size, 1, none⟩ = some (.slice w0_a1 w0_n1 w0_c1) := cur_cell K_w0.out.now 1
  have c_w0_2 : w17.cell? ⟨w3.heap.size, 2, none⟩ = some (.slice w0_a2 w0_n2 w0_c2) := cur_cell K_w0.out.now 2
  have c_x0_0 : w17.cell? ⟨w4.heap.size, 0, none⟩ = some (.int .i64 x0z0) := cur_cell K_x0.out.now 0
  have c_x0_1 : w17.cell? ⟨w4.heap.size, 1, none⟩ = some (.slice x0a1 x0n1 x0c1) := cur_cell K_x0.out.now 1
  have c_x0_2 : w17.cell? ⟨w4.heap.size, 2, none⟩ = some (.slice x0a2 x0n2 x0c2) := cur_cell K_x0.out.now 2
  have c_g0_0 : w17.cell? ⟨w5.heap.size, 0, none⟩ = some (.int .i64 g0_z0) := cur_cell K_g0.out.now 0
  have c_g0_1 : w17.cell? ⟨w5.heap.size, 1, none⟩ = some (.slice g0_a1 g0_n1 g0_c1) := cur_cell K_g0.out.now 1
  have c_g0_2 : w17.cell? ⟨w5.heap.size, 2, none⟩ = some (.slice g0_a2 g0_n2 g0_c2) := cur_cell K_g0.out.now 2
  go_wp2_with fail
  clear c_aM_0 c_aM_1 c_aM_2 c_w0_0 c_w0_1 c_w0_2 c_x0_0 c_x0_1 c_x0_2 c_g0_0 c_g0_1 c_g0_2
  refine (uImplMemSweep (.int .i64 t16_z0) (.slice t16_a1 t16_n1 t16_c1) (.slice t16_a2 t16_n2 t16_c2) m0 _ A_t16_.out.now.read).mono ?_
  rintro e w18 ⟨h0_0, h0_1, h0_2, h1_0, rfl, hoJ, hb⟩
  obtain ⟨h0_z0, h0_a1, h0_n1, h0_c1, h0_a2, h0_n2, h0_c2, rfl, rfl, rfl⟩ := hoJ.shape
  obtain ⟨h1_a0, h1_n0, h1_c0, rfl⟩ := hoJ.more.shape
  clear A_t16_
  have s_w18 : w17.heap.size ≤ w18.heap.size := by have := hb.size; simpa only [size_box, size_drew] using this
  replace B := Lib.hid (below_seq B.out hb)
  replace R_aM := Lib.hid (R_aM.out.below hb)
  replace K_aM := Lib.hid (K_aM.out.below hb)
  replace A_w0 := Lib.hid (A_w0.out.below hb)
  replace K_w0 := Lib.hid (K_w0.out.below hb)
  replace K_x0 := Lib.hid (K_x0.out.below hb)
  replace K_g0 := Lib.hid (K_g0.out.below hb)
  replace A_x0 := Lib.hid (A_x0.out.below hb)
  replace A_g0 := Lib.hid (A_g0.out.below hb)
  have A_h0 := Lib.hid (hoJ.lies (Nat.le_refl _))
  clear hoJ hb
  replace B := Lib.hid (below_box B.out (.cells #[.int .i64 h0_z0, .slice h0_a1 h0_n1 h0_c1, .slice h0_a2 h0_n2 h0_c2] 31))
  replace R_aM := Lib.hid (R_aM.out.box (.cells #[.int .i64 h0_z0, .slice h0_a1 h0_n1 h0_c1, .slice h0_a2 h0_n2 h0_c2] 31))
  replace K_aM := Lib.hid (K_aM.out.box (.cells #[.int .i64 h0_z0, .slice h0_a1 h0_n1 h0_c1, .slice h0_a2 h0_n2 h0_c2] 31))
  replace A_w0 := Lib.hid (A_w0.out.box (.cells #[.int .i64 h0_z0, .slice h0_a1 h0_n1 h0_c1, .slice h0_a2 h0_n2 h0_c2] 31))
  replace K_w0 := Lib.hid (K_w0.out.box (.cells #[.int .i64 h0_z0, .slice h0_a1 h0_n1 h0_c1, .slice h0_a2 h0_n2 h0_c2] 31))
  replace K_x0 := Lib.hid (K_x0.out.box (.cells #[.int .i64 h0_z0, .slice h0_a1 h0_n1 h0_c1, .slice h0_a2 h0_n2 h0_c2] 31))
  replace K_g0 := Lib.hid (K_g0.out.box (.cells #[.int .i64 h0_z0, .slice h0_a1 h0_n1 h0_c1, .slice h0_a2 h0_n2 h0_c2] 31))
  replace A_x0 := Lib.hid (A_x0.out.box (.cells #[.int .i64 h0_z0, .slice h0_a1 h0_n1 h0_c1, .slice h0_a2 h0_n2 h0_c2] 31))
  replace A_g0 := Lib.hid (A_g0.out.box (.cells #[.int .i64 h0_z0, .slice h0_a1 h0_n1 h0_c1, .slice h0_a2 h0_n2 h0_c2] 31))
  replace A_h0 := Lib.hid (A_h0.out.box (.cells #[.int .i64 h0_z0, .slice h0_a1 h0_n1 h0_c1, .slice h0_a2 h0_n2 h0_c2] 31))
  have K_h0 := Lib.hid (lies_box w18 (.cells #[.int .i64 h0_z0, .slice h0_a1 h0_n1 h0_c1, .slice h0_a2 h0_n2 h0_c2] 31))
  have c_aM_0 : (w18.alloc (.cells #[.int .i64 h0_z0, .slice h0_a1 h0_n1 h0_c1, .slice h0_a2 h0_n2 h0_c2] 31)).cell? ⟨w.heap.size, 0, none⟩ = some d0_0 := cur_cell K_aM.out.now 0
  have c_aM_1 : (w18.alloc (.cells #[.int .i64 h0_z0, .slice h0_a1 h0_n1 h0_c1, .slice h0_a2 h0_n2 h0_c2] 31)).cell? ⟨w.heap.size, 1, none⟩ = some d0_1 := cur_cell K_aM.out.now 1
  have c_aM_2 : (w18.alloc (.cells #[.int .i64 h0_z0, .slice h0_a1 h0_n1 h0_c1, .slice h0_a2 h0_n2 h0_c2] 31)).cell? ⟨w.heap.size, 2, none⟩ = some d0_2 := cur_cell K_aM.out.now 2
  have c_w0_0 : (w18.alloc (.cells #[.int .i64 h0_z0, .slice h0_a1 h0_n1 h0_c1, .slice h0_a2 h0_n2 h0_c2] 31)).cell? ⟨w3.heap.size, 0, none⟩ = some (.int .i64 w0_z0) := cur_cell K_w0.out.now 0
  have c_w0_1 : (w18.alloc (.cells #[.int .i64 h0_z0, .slice h0_a1 h0_n1 h0_c1, .slice h0_a2 h0_n2 h0_c2] 31)).cell? ⟨w3.heap.size, 1, none⟩ = some (.slice w0_a1 w0_n1 w0_c1) := cur_cell K_w0.out.now 1
  have c_w0_2 : (w18.alloc (.cells #[.int .i64 h0_z0, .slice h0_a1 h0_n1 h0_c1, .slice h0_a2 h0_n2 h0_c2] 31)).cell? ⟨w3.heap.size, 2, none⟩ = some (.slice w0_a2 w0_n2 w0_c2) := cur_cell K_w0.out.now 2
  have c_x0_0 : (w18.alloc (.cells #[.int .i64 h0_z0, .slice h0_a1 h0_n1 h0_c1, .slice h0_a2 h0_n2 h0_c2] 31)).cell? ⟨w4.heap.size, 0, none⟩ = some (.int .i64 x0z0) := cur_cell K_x0.out.now 0
  have c_x0_1 : (w18.alloc (.cells #[.int .i64 h0_z0, .slice h0_a1 h0_n1 h0_c1, .slice h0_a2 h0_n2 h0_c2] 31)).cell? ⟨w4.heap.size, 1, none⟩ = some (.slice x0a1 x0n1 x0c1) := cur_cell K_x0.out.now 1
  have c_x0_2 : (w18.alloc (.cells #[.int .i64 h0_z0, .slice h0_a1 h0_n1 h0_c1, .slice h0_a2 h0_n2 h0_c2] 31)).cell? ⟨w4.heap.size, 2, none⟩ = some (.slice x0a2 x0n2 x0c2) := cur_cell K_x0.out.now 2
  have c_g0_0 : (w18.alloc (.cells #[.int .i64 h0_z0, .slice h0_a1 h0_n1 h0_c1, .slice h0_a2 h0_n2 h0_c2] 31)).cell? ⟨w5.heap.size, 0, none⟩ = some (.int .i64 g0_z0) := cur_cell K_g0.out.now 0
  have c_g0_1 : (w18.alloc (.cells #[.int .i64 h0_z0, .slice h0_a1 h0_n1 h0_c1, .slice h0_a2 h0_n2 h0_c2] 31)).cell? ⟨w5.heap.size, 1, none⟩ = some (.slice g0_a1 g0_n1 g0_c1) := cur_cell K_g0.out.now 1
  have c_g0_2 : (w18.alloc (.cells #[.int .i64 h0_z0, .slice h0_a1 h0_n1 h0_c1, .slice h0_a2 h0_n2 h0_c2] 31)).cell? ⟨w5.heap.size, 2, none⟩ = some (.slice g0_a2 g0_n2 g0_c2) := cur_cell K_g0.out.now 2
  have c_h0_0 : (w18.alloc (.cells #[.int .i64 h0_z0, .slice h0_a1 h0_n1 h0_c1, .slice h0_a2 h0_n2 h0_c2] 31)).cell? ⟨w18.heap.size, 0, none⟩ = some (.int .i64 h0_z0) := cur_cell K_h0.out.now 0
  have c_h0_1 : (w18.alloc (.cells #[.int .i64 h0_z0, .slice h0_a1 h0_n1 h0_c1, .slice h0_a2 h0_n2 h0_c2] 31)).cell? ⟨w18.heap.size, 1, none⟩ = some (.slice h0_a1 h0_n1 h0_c1) := cur_cell K_h0.out.now 1
  have c_h0_2 : (w18.alloc (.cells #[.int .i64 h0_z0, .slice h0_a1 h0_n1 h0_c1, .slice h0_a2 h0_n2 h0_c2] 31)).cell? ⟨w18.heap.size, 2, none⟩ = some (.slice h0_a2 h0_n2 h0_c2) := cur_cell K_h0.out.now 2
  go_wp2_with fail
  clear c_aM_0 c_aM_1 c_aM_2 c_w0_0 c_w0_1 c_w0_2 c_x0_0 c_x0_1 c_x0_2 c_g0_0 c_g0_1 c_g0_2 c_h0_0 c_h0_1 c_h0_2
  refine (uEqMem (.int .i64 h0_z0) (.slice h0_a1 h0_n1 h0_c1) (.slice h0_a2 h0_n2 h0_c2) (.int .i64 w0_z0) (.slice w0_a1 w0_n1 w0_c1) (.slice w0_a2 w0_n2 w0_c2) (sweepM m0) _ A_h0.out.now.read A_w0.out.now.read).mono ?_
  rintro e w19 ⟨rfl, hb⟩
  have s_w19 : w18.heap.size + 1 ≤ w19.heap.size := by have := hb.size; simpa only [size_box, size_drew] using this
  replace B := Lib.hid (below_seq B.out hb)
  replace R_aM := Lib.hid (R_aM.out.below hb)
  replace K_aM := Lib.hid (K_aM.out.below hb)
  replace A_w0 := Lib.hid (A_w0.out.below hb)
  replace K_w0 := Lib.hid (K_w0.out.below hb)
  replace K_x0 := Lib.hid (K_x0.out.below hb)
  replace K_g0 := Lib.hid (K_g0.out.below hb)
  replace A_x0 := Lib.hid (A_x0.out.below hb)
  replace A_g0 := Lib.hid (A_g0.out.below hb)
  replace A_h0 := Lib.hid (A_h0.out.below hb)
  replace K_h0 := Lib.hid (K_h0.out.below hb)
  clear hb
  have c_aM_0 : w19.cell? ⟨w.heap.size, 0, none⟩ = some d0_0 := cur_cell K_aM.out.now 0
  have c_aM_1 : w19.cell? ⟨w.heap.size, 1, none⟩ = some d0_1 := cur_cell K_aM.out.now 1
  have c_aM_2 : w19.cell? ⟨w.heap.size, 2, none⟩ = some d0_2 := cur_cell K_aM.out.now 2
  have c_w0_0 : w19.cell? ⟨w3.heap.size, 0, none⟩ = some (.int .i64 w0_z0) := cur_cell K_w0.out.now 0
  have c_w0_1 : w19.cell? ⟨w3.heap.size, 1, none⟩ = some (.slice w0_a1 w0_n1 w0_c1) := cur_cell K_w0.out.now 1
  have c_w0_2 : w19.cell? ⟨w3.heap.size, 2, none⟩ = some (.slice w0_a2 w0_n2 w0_c2) := cur_cell K_w0.out.now 2
  have c_x0_0 : w19.cell? ⟨w4.heap.size, 0, none⟩ = some (.int .i64 x0z0) := cur_cell K_x0.out.now 0
  have c_x0_1 : w19.cell? ⟨w4.heap.size, 1, none⟩ = some (.slice x0a1 x0n1 x0c1) := cur_cell K_x0.out.now 1
  have c_x0_2 : w19.cell? ⟨w4.heap.size, 2, none⟩ = some (.slice x0a2 x0n2 x0c2) := cur_cell K_x0.out.now 2
  have c_g0_0 : w19.cell? ⟨w5.heap.size, 0, none⟩ = some (.int .i64 g0_z0) := cur_cell K_g0.out.now 0
  have c_g0_1 : w19.cell? ⟨w5.heap.size, 1, none⟩ = some (.slice g0_a1 g0_n1 g0_c1) := cur_cell K_g0.out.now 1
  have c_g0_2 : w19.cell? ⟨w5.heap.size, 2, none⟩ = some (.slice g0_a2 g0_n2 g0_c2) := cur_cell K_g0.out.now 2
  have c_h0_0 : w19.cell? ⟨w18.heap.size, 0, none⟩ = some (.int .i64 h0_z0) := cur_cell K_h0.out.now 0
  have c_h0_1 : w19.cell? ⟨w18.heap.size, 1, none⟩ = some (.slice h0_a1 h0_n1 h0_c1) := cur_cell K_h0.out.now 1
  have c_h0_2 : w19.cell? ⟨w18.heap.size, 2, none⟩ = some (.slice h0_a2 h0_n2 h0_c2) := cur_cell K_h0.out.now 2
  go_wp2_with fail
  clear c_aM_0 c_aM_1 c_aM_2 c_w0_0 c_w0_1 c_w0_2 c_x0_0 c_x0_1 c_x0_2 c_g0_0 c_g0_1 c_g0_2 c_h0_0 c_h0_1 c_h0_2
  refine (uEqByteS (.slice h1_a0 h1_n0 h1_c0) (.slice w1_a0 w1_n0 w1_c0) (sweepD m0) _ A_h0.out.now.more.read A_w0.out.now.more.read).mono ?_
  rintro e w20 ⟨rfl, hb⟩
  have s_w20 : w19.heap.size ≤ w20.heap.size := by have := hb.size; simpa only [size_box, size_drew] using this
  replace B := Lib.hid (below_seq B.out hb)
  replace R_aM := Lib.hid (R_aM.out.below hb)
  replace K_aM := Lib.hid (K_aM.out.below hb)
  replace A_w0 := Lib.hid (A_w0.out.below hb)
  replace K_w0 := Lib.hid (K_w0.out.below hb)
  replace K_x0 := Lib.hid (K_x0.out.below hb)
  replace K_g0 := Lib.hid (K_g0.out.below hb)
  replace A_x0 := Lib.hid (A_x0.out.below hb)
  replace A_g0 := Lib.hid (A_g0.out.below hb)
  replace A_h0 := Lib.hid (A_h0.out.below hb)
  replace K_h0 := Lib.hid (K_h0.out.below hb)
  clear hb
  have c_aM_0 : w20.cell? ⟨w.heap.size, 0, none⟩ = some d0_0 := cur_cell K_aM.out.now 0
  have c_aM_1 : w20.cell? ⟨w.heap.size, 1, none⟩ = some d0_1 := cur_cell K_aM.out.now 1
  have c_aM_2 : w20.cell? ⟨w.heap.size, 2, none⟩ = some d0_2 := cur_cell K_aM.out.now 2
  have c_w0_0 : w20.cell? ⟨w3.heap.size, 0, none⟩ = some (.int .i64 w0_z0) := cur_cell K_w0.out.now 0
  have c_w0_1 : w20.cell? ⟨w3.heap.size, 1, none⟩ = some (.slice w0_a1 w0_n1 w0_c1) := cur_cell K_w0.out.now 1
  have c_w0_2 : w20.cell? ⟨w3.heap.size, 2, none⟩ = some (.slice w0_a2 w0_n2 w0_c2) := cur_cell K_w0.out.now 2
  have c_x0_0 : w20.cell? ⟨w4.heap.size, 0, none⟩ = some (.int .i64 x0z0) := cur_cell K_x0.out.now 0
  have c_x0_1 : w20.cell? ⟨w4.heap.size, 1, none⟩ = some (.slice x0a1 x0n1 x0c1) := cur_cell K_x0.out.now 1
  have c_x0_2 : w20.cell? ⟨w4.heap.size, 2, none⟩ = some (.slice x0a2 x0n2 x0c2) := cur_cell K_x0.out.now 2
  have c_g0_0 : w20.cell? ⟨w5.heap.size, 0, none⟩ = some (.int .i64 g0_z0) := cur_cell K_g0.out.now 0
  have c_g0_1 : w20.cell? ⟨w5.heap.size, 1, none⟩ = some (.slice g0_a1 g0_n1 g0_c1) := cur_cell K_g0.out.now 1
  have c_g0_2 : w20.cell? ⟨w5.heap.size, 2, none⟩ = some (.slice g0_a2 g0_n2 g0_c2) := cur_cell K_g0.out.now 2
  have c_h0_0 : w20.cell? ⟨w18.heap.size, 0, none⟩ = some (.int .i64 h0_z0) := cur_cell K_h0.out.now 0
  have c_h0_1 : w20.cell? ⟨w18.heap.size, 1, none⟩ = some (.slice h0_a1 h0_n1 h0_c1) := cur_cell K_h0.out.now 1
  have c_h0_2 : w20.cell? ⟨w18.heap.size, 2, none⟩ = some (.slice h0_a2 h0_n2 h0_c2) := cur_cell K_h0.out.now 2
  go_wp2_with fail
  clear c_aM_0 c_aM_1 c_aM_2 c_w0_0 c_w0_1 c_w0_2 c_x0_0 c_x0_1 c_x0_2 c_g0_0 c_g0_1 c_g0_2 c_h0_0 c_h0_1 c_h0_2
  refine (uHeldMem 1 (.int .i64 g0_z0) (.slice g0_a1 g0_n1 g0_c1) (.slice g0_a2 g0_n2 g0_c2) (sweepM m0) _ (by have := HK_k13.out; omega) A_g0.out.now.read).mono ?_
  rintro e w21 ⟨k21, rfl, hk, hb⟩
  have hkk : k21 = k13 := by have := HK_k13.out; omega
  rw [hkk]
  clear hk hkk
  have s_w21 : w20.heap.size ≤ w21.heap.size := by have := hb.size; simpa only [size_box, size_drew] using this
  replace B := Lib.hid (below_seq B.out hb)
  replace R_aM := Lib.hid (R_aM.out.below hb)
  replace K_aM := Lib.hid (K_aM.out.below hb)
  replace A_w0 := Lib.hid (A_w0.out.below hb)
  replace K_w0 := Lib.hid (K_w0.out.below hb)
  replace K_x0 := Lib.hid (K_x0.out.below hb)
  replace K_g0 := Lib.hid (K_g0.out.below hb)
  replace A_x0 := Lib.hid (A_x0.out.below hb)
  replace A_g0 := Lib.hid (A_g0.out.below hb)
  replace A_h0 := Lib.hid (A_h0.out.below hb)
  replace K_h0 := Lib.hid (K_h0.out.below hb)
  clear hb
  have c_aM_0 : w21.cell? ⟨w.heap.size, 0, none⟩ = some d0_0 := cur_cell K_aM.out.now 0
  have c_aM_1 : w21.cell? ⟨w.heap.size, 1, none⟩ = some d0_1 := cur_cell K_aM.out.now 1
  have c_aM_2 : w21.cell? ⟨w.heap.size, 2, none⟩ = some d0_2 := cur_cell K_aM.out.now 2
  have c_w0_0 : w21.cell? ⟨w3.heap.size, 0, none⟩ = some (.int .i64 w0_z0) := cur_cell K_w0.out.now 0
  have c_w0_1 : w21.cell? ⟨w3.heap.size, 1, none⟩ = some (.slice w0_a1 w0_n1 w0_c1) := cur_cell K_w0.out.now 1
  have c_w0_2 : w21.cell? ⟨w3.heap.size, 2, none⟩ = some (.slice w0_a2 w0_n2 w0_c2) := cur_cell K_w0.out.now 2
  have c_x0_0 : w21.cell? ⟨w4.heap.size, 0, none⟩ = some (.int .i64 x0z0) := cur_cell K_x0.out.now 0
  have c_x0_1 : w21.cell? ⟨w4.heap.size, 1, none⟩ = some (.slice x0a1 x0n1 x0c1) := cur_cell K_x0.out.now 1
  have c_x0_2 : w21.cell? ⟨w4.heap.size, 2, none⟩ = some (.slice x0a2 x0n2 x0c2) := cur_cell K_x0.out.now 2
  have c_g0_0 : w21.cell? ⟨w5.heap.size, 0, none⟩ = some (.int .i64 g0_z0) := cur_cell K_g0.out.now 0
  have c_g0_1 : w21.cell? ⟨w5.heap.size, 1, none⟩ = some (.slice g0_a1 g0_n1 g0_c1) := cur_cell K_g0.out.now 1
  have c_g0_2 : w21.cell? ⟨w5.heap.size, 2, none⟩ = some (.slice g0_a2 g0_n2 g0_c2) := cur_cell K_g0.out.now 2
  have c_h0_0 : w21.cell? ⟨w18.heap.size, 0, none⟩ = some (.int .i64 h0_z0) := cur_cell K_h0.out.now 0
  have c_h0_1 : w21.cell? ⟨w18.heap.size, 1, none⟩ = some (.slice h0_a1 h0_n1 h0_c1) := cur_cell K_h0.out.now 1
  have c_h0_2 : w21.cell? ⟨w18.heap.size, 2, none⟩ = some (.slice h0_a2 h0_n2 h0_c2) := cur_cell K_h0.out.now 2
  go_wp2_with fail
  clear c_aM_0 c_aM_1 c_aM_2 c_w0_0 c_w0_1 c_w0_2 c_x0_0 c_x0_1 c_x0_2 c_g0_0 c_g0_1 c_g0_2 c_h0_0 c_h0_1 c_h0_2
  refine (uHeldByteS k13 (.slice g1_a0 g1_n0 g1_c0) (sweepD m0) _ (by have := HK_k14.out; omega) A_g0.out.now.more.read).mono ?_
  rintro e w22 ⟨k22, rfl, hk, hb⟩
  have hkk : k22 = k14 := by have := HK_k14.out; omega
  rw [hkk]
  clear hk hkk
  have s_w22 : w21.heap.size ≤ w22.heap.size := by have := hb.size; simpa only [size_box, size_drew] using this
  replace B := Lib.hid (below_seq B.out hb)
  replace R_aM := Lib.hid (R_aM.out.below hb)
  replace K_aM := Lib.hid (K_aM.out.below hb)
  replace A_w0 := Lib.hid (A_w0.out.below hb)
  replace K_w0 := Lib.hid (K_w0.out.below hb)
  replace K_x0 := Lib.hid (K_x0.out.below hb)
  replace K_g0 := Lib.hid (K_g0.out.below hb)
  replace A_x0 := Lib.hid (A_x0.out.below hb)
  replace A_g0 := Lib.hid (A_g0.out.below hb)
  replace A_h0 := Lib.hid (A_h0.out.below hb)
  replace K_h0 := Lib.hid (K_h0.out.below hb)
  clear hb
  have c_aM_0 : w22.cell? ⟨w.heap.size, 0, none⟩ = some d0_0 := cur_cell K_aM.out.now 0
  have c_aM_1 : w22.cell? ⟨w.heap.size, 1, none⟩ = some d0_1 := cur_cell K_aM.out.now 1
  have c_aM_2 : w22.cell? ⟨w.heap.size, 2, none⟩ = some d0_2 := cur_cell K_aM.out.now 2
  have c_w0_0 : w22.cell? ⟨w3.heap.size, 0, none⟩ = some (.int .i64 w0_z0) := cur_cell K_w0.out.now 0
  have c_w0_1 : w22.cell? ⟨w3.heap.size, 1, none⟩ = some (.slice w0_a1 w0_n1 w0_c1) := cur_cell K_w0.out.now 1
  have c_w0_2 : w22.cell? ⟨w3.heap.size, 2, none⟩ = some (.slice w0_a2 w0_n2 w0_c2) := cur_cell K_w0.out.now 2
  have c_x0_0 : w22.cell? ⟨w4.heap.size, 0, none⟩ = some (.int .i64 x0z0) := cur_cell K_x0.out.now 0
  have c_x0_1 : w22.cell? ⟨w4.heap.size, 1, none⟩ = some (.slice x0a1 x0n1 x0c1) := cur_cell K_x0.out.now 1
  have c_x0_2 : w22.cell? ⟨w4.heap.size, 2, none⟩ = some (.slice x0a2 x0n2 x0c2) := cur_cell K_x0.out.now 2
  have c_g0_0 : w22.cell? ⟨w5.heap.size, 0, none⟩ = some (.int .i64 g0_z0) := cur_cell K_g0.out.now 0
  have c_g0_1 : w22.cell? ⟨w5.heap.size, 1, none⟩ = some (.slice g0_a1 g0_n1 g0_c1) := cur_cell K_g0.out.now 1
  have c_g0_2 : w22.cell? ⟨w5.heap.size, 2, none⟩ = some (.slice g0_a2 g0_n2 g0_c2) := cur_cell K_g0.out.now 2
  have c_h0_0 : w22.cell? ⟨w18.heap.size, 0, none⟩ = some (.int .i64 h0_z0) := cur_cell K_h0.out.now 0
  have c_h0_1 : w22.cell? ⟨w18.heap.size, 1, none⟩ = some (.slice h0_a1 h0_n1 h0_c1) := cur_cell K_h0.out.now 1
  have c_h0_2 : w22.cell? ⟨w18.heap.size, 2, none⟩ = some (.slice h0_a2 h0_n2 h0_c2) := cur_cell K_h0.out.now 2
  go_wp2
  go_ret
  exact ⟨rfl, B.out⟩

set_option maxRecDepth 100000 in
theorem lifted (os : Os) (started : os.Started) (H : Type) (enc : TypeId × Value → H) :
    ReturnsInHanded {} Try.checked os 7 .any (Rows.fnExactMemSweepSpec.pre6 enc Try.prog Try.f7 Rows.fnExactMemSweepRow.domain false) (Rows.fnExactMemSweepSpec.post enc Try.prog Try.f7 false true false false) := by
  refine returnsInHanded_of_change (C := Try.checked) own started (by kernel_rfl) Try.func7
    (ChangeSpec.witness6 (enc := enc) (C := Try.checked) false ⟨#[], #[.agg #[.int .i64 0, .slice none 0 0, .slice none 0 0]], []⟩ 8 (by kernel_rfl) (by kernel_rfl) (by kernel_rfl) (by kernel_rfl)) ?_
  intro W base args ds gs before hval0 hW hcnd _
  have hval : ∀ (j : Nat) t v, Try.f7.params[j]? = some t → args[j]? = some v → Value.okWide Try.prog W .any base t v := hval0
  have hW' := hW
  obtain ⟨p, q, hA0, hV, rfl, hfz, hnd⟩ := hW
  have hA : DataW.TrodAll enc Try.prog W 0 (fun _ => true) true Try.f7.params.toList args.toList ds p := hA0
  rw [Try.params7] at hA hval
  obtain ⟨v0, vs0, d0, ds0, p0, q0, hargs, rfl, rfl, h0, r0⟩ := trodAll_cons hA
  obtain ⟨rfl, rfl, rfl⟩ := trodAll_nil r0
  obtain rfl : args = #[v0] := by cases args; simp_all
  obtain ⟨rfl, rfl⟩ := trodVars_none hV
  have lt0 : ∀ x ∈ p0, x.block < W.heap.size := by obtain ⟨m, hm⟩ := h0; exact DataW.trod_lt m _ _ _ hm
  clear hA0 hval0
  refine (walk v0 W ⟨⟨base, hval 0 25 v0 rfl rfl⟩, Rd.of h0⟩).mono fun e W' ⟨he, bel⟩ => ?_
  subst he
  exact ⟨_, rfl, _, _, _, [], _, [], hW', trodAll_mk1 (shut_bool Try.underlying4 _), (trodAll_cons_mk (Below.trod laidOut (by kernel_rfl) (of_decide_eq_true (by kernel_rfl)) h0 bel lt0) trodAll_mk0), rfl, bel.frame _, fun h => by cases h⟩

theorem over : Rows.fnExactMemSweepRow.holds Try.pinned (OpenSpec.ofChange Rows.fnExactMemSweepSpec) :=
  OpenClaim.holds_of_wide 7 Try.f7 rfl rfl rfl rfl rfl rfl rfl ⟨rfl, rfl, rfl, rfl, rfl⟩ rfl rfl rfl rfl rfl (by kernel_rfl) Try.func7 (by kernel_rfl)
    (of_decide_eq_true (by kernel_rfl)) (by unfold Func.isWrapper; first | (rw [if_pos (by decide +kernel)]; kernel_rfl) | (rw [if_neg (by decide +kernel)]; exact ⟨rfl, rfl⟩))
    (fun os started H enc _ => lifted os started H enc)
end Go.Proofs.Ythllgpcdaimmgaa.fnExactMemSweep
namespace Go.Proofs.Ythllgpcdaimmgaa
/-- MemSweep answers as its model, at every argument. -/
theorem fnExactMemSweep_holds : Rows.FnExactMemSweepSaid := fnExactMemSweep.over
end Go.Proofs.Ythllgpcdaimmgaa
