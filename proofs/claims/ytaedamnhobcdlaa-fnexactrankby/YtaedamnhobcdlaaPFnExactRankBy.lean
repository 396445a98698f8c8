/- For every argument: the law FnExactRankBy answers true, that is, RankBy answers as its model and writes into no argument; its answer owns its memory. No condition. -/
import Derived.Test.YtaedamnhobcdlaaJBase
import Derived.Test.YtaedamnhobcdlaaJSeg
import Derived.Test.YtaedamnhobcdlaaJRkB
import Derived.Test.YtaedamnhobcdlaaJRkO
import Derived.Test.YtaedamnhobcdlaaJRecU
import Derived.Deep.RegionHeld3
namespace Go.Proofs.Ytaedamnhobcdlaa.fnExactRankBy
open Go.ChangeShapes Go.WideShapes Go.ChangeAt Go.RowKit
set_option linter.unusedVariables false
set_option linter.unusedSimpArgs false

set_option maxRecDepth 100000 in
set_option maxHeartbeats 4000000 in
theorem walk (v0 : Value) (v1 : Value) (w : World) (h0 : Arg w 50 v0) (h1 : Arg w 43 v1) :
    Calls Try.prog 8 #[v0, v1] w fun e w' => e = .returned (.bool true) ∧ Below w.heap.size w w' := by
  obtain ⟨d0_0, d0_1, m0, rfl, i0, b0⟩ := argNet h0
  have R_aN := Lib.hid i0.lies
  clear i0
  clear h0
  obtain ⟨d1_0, m1, rfl, i1, b1⟩ := argRecS h1
  have R_aList := Lib.hid i1.lies
  obtain ⟨a1, cap1, rfl, _, hx1, _⟩ := recSIn_shape i1
  clear i1
  clear h1
  have B : Hid (Below w.heap.size w w) := Lib.hid (Below.refl _ _)
  have B0s : 0 ≤ w.heap.size := Nat.zero_le _
  replace B := Lib.hid (below_box B.out (.cells #[d0_0, d0_1] 50))
  replace R_aN := Lib.hid (R_aN.out.box (.cells #[d0_0, d0_1] 50))
  replace R_aList := Lib.hid (R_aList.out.box (.cells #[d0_0, d0_1] 50))
  have K_aN := Lib.hid (lies_box w (.cells #[d0_0, d0_1] 50))
  by_cases g0 : 1048576 - (szNet m0 : Int) < 0
  · go_enter Try.func8, Try.ntmps8
    have c_aN_0 : (w.alloc (.cells #[d0_0, d0_1] 50)).cell? ⟨w.heap.size, 0, none⟩ = some d0_0 := cur_cell K_aN.out.now 0
    have c_aN_1 : (w.alloc (.cells #[d0_0, d0_1] 50)).cell? ⟨w.heap.size, 1, none⟩ = some d0_1 := cur_cell K_aN.out.now 1
    go_wp2_with fail
    clear c_aN_0 c_aN_1
    refine (uSzNet d0_0 d0_1 m0 1048576 _ (by omega) (by omega) R_aN.out.now).mono ?_
    rintro e w1 ⟨rfl, hb⟩
    rw [szI_no (by omega)]
    replace B := Lib.hid (below_seq B.out hb)
    replace R_aN := Lib.hid (R_aN.out.below hb)
    replace R_aList := Lib.hid (R_aList.out.below hb)
    replace K_aN := Lib.hid (K_aN.out.below hb)
    clear hb
    go_wp2
    go_ret
    exact ⟨rfl, B.out⟩
  have hs0 : szNet m0 ≤ 1048576 := by omega
  have hm0 : mcNet m0 ≤ 1000000000000 := mcNet_le hs0
  by_cases g1 : 1048576 - (szNet m0 : Int) - (szRecS m1 : Int) < 0
  · go_enter Try.func8, Try.ntmps8
    have c_aN_0 : (w.alloc (.cells #[d0_0, d0_1] 50)).cell? ⟨w.heap.size, 0, none⟩ = some d0_0 := cur_cell K_aN.out.now 0
    have c_aN_1 : (w.alloc (.cells #[d0_0, d0_1] 50)).cell? ⟨w.heap.size, 1, none⟩ = some d0_1 := cur_cell K_aN.out.now 1
    go_wp2_with fail
    clear c_aN_0 c_aN_1
    refine (uSzNet d0_0 d0_1 m0 1048576 _ (by omega) (by omega) R_aN.out.now).mono ?_
    rintro e w1 ⟨rfl, hb⟩
    rw [szI_yes (by omega)]
    replace B := Lib.hid (below_seq B.out hb)
    replace R_aN := Lib.hid (R_aN.out.below hb)
    replace R_aList := Lib.hid (R_aList.out.below hb)
    replace K_aN := Lib.hid (K_aN.out.below hb)
    clear hb
    have c_aN_0 : w1.cell? ⟨w.heap.size, 0, none⟩ = some d0_0 := cur_cell K_aN.out.now 0
    have c_aN_1 : w1.cell? ⟨w.heap.size, 1, none⟩ = some d0_1 := cur_cell K_aN.out.now 1
    go_wp2_with fail
    clear c_aN_0 c_aN_1
    refine (uSzRecS (.slice a1 m1.length cap1) m1 (1048576 - (szNet m0 : Int)) _ (by omega) (by omega) R_aList.out.now b1).mono ?_
    rintro e w2 ⟨rfl, hb⟩
    rw [szI_no (by omega)]
    replace B := Lib.hid (below_seq B.out hb)
    replace R_aN := Lib.hid (R_aN.out.below hb)
    replace R_aList := Lib.hid (R_aList.out.below hb)
    replace K_aN := Lib.hid (K_aN.out.below hb)
    clear hb
    go_wp2
    go_ret
    exact ⟨rfl, B.out⟩
  have hs1 : szRecS m1 ≤ 1048576 := by omega
  have hm1 : mcRecS m1 ≤ 1000000000000 := mcRecS_le hs1
  go_enter Try.func8, Try.ntmps8
  have c_aN_0 : (w.alloc (.cells #[d0_0, d0_1] 50)).cell? ⟨w.heap.size, 0, none⟩ = some d0_0 := cur_cell K_aN.out.now 0
  have c_aN_1 : (w.alloc (.cells #[d0_0, d0_1] 50)).cell? ⟨w.heap.size, 1, none⟩ = some d0_1 := cur_cell K_aN.out.now 1
  go_wp2_with fail
  clear c_aN_0 c_aN_1
  refine (uSzNet d0_0 d0_1 m0 1048576 _ (by omega) (by omega) R_aN.out.now).mono ?_
  rintro e w1 ⟨rfl, hb⟩
  rw [szI_yes (by omega)]
  have s_w1 : w.heap.size + 1 ≤ w1.heap.size := by have := hb.size; simpa only [size_box, size_drew] using this
  replace B := Lib.hid (below_seq B.out hb)
  replace R_aN := Lib.hid (R_aN.out.below hb)
  replace R_aList := Lib.hid (R_aList.out.below hb)
  replace K_aN := Lib.hid (K_aN.out.below hb)
  clear hb
  have c_aN_0 : w1.cell? ⟨w.heap.size, 0, none⟩ = some d0_0 := cur_cell K_aN.out.now 0
  have c_aN_1 : w1.cell? ⟨w.heap.size, 1, none⟩ = some d0_1 := cur_cell K_aN.out.now 1
  go_wp2_with fail
  clear c_aN_0 c_aN_1
  refine (uSzRecS (.slice a1 m1.length cap1) m1 (1048576 - (szNet m0 : Int)) _ (by omega) (by omega) R_aList.out.now b1).mono ?_
  rintro e w2 ⟨rfl, hb⟩
  rw [szI_yes (by omega)]
  have s_w2 : w1.heap.size ≤ w2.heap.size := by have := hb.size; simpa only [size_box, size_drew] using this
  replace B := Lib.hid (below_seq B.out hb)
  replace R_aN := Lib.hid (R_aN.out.below hb)
  replace R_aList := Lib.hid (R_aList.out.below hb)
  replace K_aN := Lib.hid (K_aN.out.below hb)
  clear hb
  have c_aN_0 : w2.cell? ⟨w.heap.size, 0, none⟩ = some d0_0 := cur_cell K_aN.out.now 0
  have c_aN_1 : w2.cell? ⟨w.heap.size, 1, none⟩ = some d0_1 := cur_cell K_aN.out.now 1
  go_wp2_with fail
  clear c_aN_0 c_aN_1
  refine (uToNet d0_0 d0_1 m0 _ hs0 R_aN.out.now).mono ?_
  rintro e w3 ⟨t2_0, t2_1, rfl, ho, hb⟩
  obtain ⟨t2_z0, t2_a1, t2_n1, t2_c1, rfl, rfl⟩ := ho.shape
  have s_w3 : w2.heap.size ≤ w3.heap.size := by have := hb.size; simpa only [size_box, size_drew] using this
  replace B := Lib.hid (below_seq B.out hb)
  replace R_aN := Lib.hid (R_aN.out.below hb)
  replace R_aList := Lib.hid (R_aList.out.below hb)
  replace K_aN := Lib.hid (K_aN.out.below hb)
  have A_t2_ := Lib.hid (ho.lies (Nat.le_refl _))
  clear ho hb
  have c_aN_0 : w3.cell? ⟨w.heap.size, 0, none⟩ = some d0_0 := cur_cell K_aN.out.now 0
  have c_aN_1 : w3.cell? ⟨w.heap.size, 1, none⟩ = some d0_1 := cur_cell K_aN.out.now 1
  go_wp2_with fail
  clear c_aN_0 c_aN_1
  refine (uToRecS (.slice a1 m1.length cap1) m1 _ hs1 R_aList.out.now).mono ?_
  rintro e w4 ⟨t3_0, rfl, ho, hb⟩
  obtain ⟨t3_a0, t3_n0, t3_c0, rfl⟩ := ho.shape
  have s_w4 : w3.heap.size ≤ w4.heap.size := by have := hb.size; simpa only [size_box, size_drew] using this
  replace B := Lib.hid (below_seq B.out hb)
  replace R_aN := Lib.hid (R_aN.out.below hb)
  replace R_aList := Lib.hid (R_aList.out.below hb)
  replace K_aN := Lib.hid (K_aN.out.below hb)
  replace A_t2_ := Lib.hid (A_t2_.out.below hb)
  have A_t3_ := Lib.hid (ho.lies (Nat.le_refl _))
  clear ho hb
  have c_aN_0 : w4.cell? ⟨w.heap.size, 0, none⟩ = some d0_0 := cur_cell K_aN.out.now 0
  have c_aN_1 : w4.cell? ⟨w.heap.size, 1, none⟩ = some d0_1 := cur_cell K_aN.out.now 1
  go_wp2_with fail
  clear c_aN_0 c_aN_1
  refine (uSpecRankBy (.int .i64 t2_z0) (.slice t2_a1 t2_n1 t2_c1) m0 (.slice t3_a0 t3_n0 t3_c0) m1 _ A_t2_.out.now.read A_t3_.out.now.read b1).mono ?_
  rintro e w5 ⟨w0_0, rfl, ho_w0, hb⟩
  obtain ⟨w0_a0, w0_n0, w0_c0, rfl⟩ := ho_w0.shape
  clear A_t2_ A_t3_
  have s_w5 : w4.heap.size ≤ w5.heap.size := by have := hb.size; simpa only [size_box, size_drew] using this
  replace B := Lib.hid (below_seq B.out hb)
  replace R_aN := Lib.hid (R_aN.out.below hb)
  replace R_aList := Lib.hid (R_aList.out.below hb)
  replace K_aN := Lib.hid (K_aN.out.below hb)
  have A_w0 := Lib.hid (ho_w0.lies (Nat.le_refl _))
  clear ho_w0 hb
  have c_aN_0 : w5.cell? ⟨w.heap.size, 0, none⟩ = some d0_0 := cur_cell K_aN.out.now 0
  have c_aN_1 : w5.cell? ⟨w.heap.size, 1, none⟩ = some d0_1 := cur_cell K_aN.out.now 1
  go_wp2_with fail
  clear c_aN_0 c_aN_1
  refine (uToNet d0_0 d0_1 m0 _ hs0 R_aN.out.now).mono ?_
  rintro e w6 ⟨x00, x01, rfl, ho, hb⟩
  obtain ⟨x0z0, x0a1, x0n1, x0c1, rfl, rfl⟩ := ho.shape
  have s_w6 : w5.heap.size ≤ w6.heap.size := by have := hb.size; simpa only [size_box, size_drew] using this
  replace B := Lib.hid (below_seq B.out hb)
  replace R_aN := Lib.hid (R_aN.out.below hb)
  replace R_aList := Lib.hid (R_aList.out.below hb)
  replace K_aN := Lib.hid (K_aN.out.below hb)
  replace A_w0 := Lib.hid (A_w0.out.below hb)
  have A_x0 := Lib.hid (ho.lies (Nat.le_refl _))
  clear ho hb
  replace B := Lib.hid (below_box B.out (.cells #[.int .i64 x0z0, .slice x0a1 x0n1 x0c1] 36))
  replace R_aN := Lib.hid (R_aN.out.box (.cells #[.int .i64 x0z0, .slice x0a1 x0n1 x0c1] 36))
  replace R_aList := Lib.hid (R_aList.out.box (.cells #[.int .i64 x0z0, .slice x0a1 x0n1 x0c1] 36))
  replace K_aN := Lib.hid (K_aN.out.box (.cells #[.int .i64 x0z0, .slice x0a1 x0n1 x0c1] 36))
  replace A_w0 := Lib.hid (A_w0.out.box (.cells #[.int .i64 x0z0, .slice x0a1 x0n1 x0c1] 36))
  replace A_x0 := Lib.hid (A_x0.out.box (.cells #[.int .i64 x0z0, .slice x0a1 x0n1 x0c1] 36))
  have K_x0 := Lib.hid (lies_box w6 (.cells #[.int .i64 x0z0, .slice x0a1 x0n1 x0c1] 36))
  have c_aN_0 : (w6.alloc (.cells #[.int .i64 x0z0, .slice x0a1 x0n1 x0c1] 36)).cell? ⟨w.heap.size, 0, none⟩ = some d0_0 := cur_cell K_aN.out.now 0
  have c_aN_1 : (w6.alloc (.cells #[.int .i64 x0z0, .slice x0a1 x0n1 x0c1] 36)).cell? ⟨w.heap.size, 1, none⟩ = some d0_1 := cur_cell K_aN.out.now 1
  have c_x0_0 : (w6.alloc (.cells #[.int .i64 x0z0, .slice x0a1 x0n1 x0c1] 36)).cell? ⟨w6.heap.size, 0, none⟩ = some (.int .i64 x0z0) := cur_cell K_x0.out.now 0
  have c_x0_1 : (w6.alloc (.cells #[.int .i64 x0z0, .slice x0a1 x0n1 x0c1] 36)).cell? ⟨w6.heap.size, 1, none⟩ = some (.slice x0a1 x0n1 x0c1) := cur_cell K_x0.out.now 1
  go_wp2_with fail
  clear c_aN_0 c_aN_1 c_x0_0 c_x0_1
  refine (uToRecS (.slice a1 m1.length cap1) m1 _ hs1 R_aList.out.now).mono ?_
  rintro e w7 ⟨x10, rfl, ho, hb⟩
  obtain ⟨x1a0, x1n0, x1c0, rfl⟩ := ho.shape
  have s_w7 : w6.heap.size + 1 ≤ w7.heap.size := by have := hb.size; simpa only [size_box, size_drew] using this
  replace B := Lib.hid (below_seq B.out hb)
  replace R_aN := Lib.hid (R_aN.out.below hb)
  replace R_aList := Lib.hid (R_aList.out.below hb)
  replace K_aN := Lib.hid (K_aN.out.below hb)
  replace A_w0 := Lib.hid (A_w0.out.below hb)
  replace A_x0 := Lib.hid (A_x0.out.below hb)
  replace K_x0 := Lib.hid (K_x0.out.below hb)
  simp only [size_box] at ho
  have A_x1 := Lib.hid (ho.lies (Nat.le_refl _))
  clear ho hb
  have c_aN_0 : w7.cell? ⟨w.heap.size, 0, none⟩ = some d0_0 := cur_cell K_aN.out.now 0
  have c_aN_1 : w7.cell? ⟨w.heap.size, 1, none⟩ = some d0_1 := cur_cell K_aN.out.now 1
  have c_x0_0 : w7.cell? ⟨w6.heap.size, 0, none⟩ = some (.int .i64 x0z0) := cur_cell K_x0.out.now 0
  have c_x0_1 : w7.cell? ⟨w6.heap.size, 1, none⟩ = some (.slice x0a1 x0n1 x0c1) := cur_cell K_x0.out.now 1
  go_wp2_with fail
  clear c_aN_0 c_aN_1 c_x0_0 c_x0_1
  refine (uImplRankBy (.int .i64 x0z0) (.slice x0a1 x0n1 x0c1) m0 (.slice x1a0 x1n0 x1c0) m1 _ A_x0.out.now.read A_x1.out.now.read b1).mono ?_
  rintro e w8 ⟨g0_0, rfl, ho_g0, hb⟩
  obtain ⟨g0_a0, g0_n0, g0_c0, rfl⟩ := ho_g0.shape
  have s_w8 : w7.heap.size ≤ w8.heap.size := by have := hb.size; simpa only [size_box, size_drew] using this
  replace B := Lib.hid (below_seq B.out hb)
  replace R_aN := Lib.hid (R_aN.out.below hb)
  replace R_aList := Lib.hid (R_aList.out.below hb)
  replace K_aN := Lib.hid (K_aN.out.below hb)
  replace A_w0 := Lib.hid (A_w0.out.below hb)
  replace A_x0 := Lib.hid (A_x0.out.below hb)
  replace K_x0 := Lib.hid (K_x0.out.below hb)
  replace A_x1 := Lib.hid (A_x1.out.below hb)
  have A_g0 := Lib.hid (ho_g0.lies (Nat.le_refl _))
  clear ho_g0 hb
  have bd_g0 : mcRecS (rankByM m0 m1) ≤ 1000000000000 := rankByM_bd m0 m1
  have c_aN_0 : w8.cell? ⟨w.heap.size, 0, none⟩ = some d0_0 := cur_cell K_aN.out.now 0
  have c_aN_1 : w8.cell? ⟨w.heap.size, 1, none⟩ = some d0_1 := cur_cell K_aN.out.now 1
  have c_x0_0 : w8.cell? ⟨w6.heap.size, 0, none⟩ = some (.int .i64 x0z0) := cur_cell K_x0.out.now 0
  have c_x0_1 : w8.cell? ⟨w6.heap.size, 1, none⟩ = some (.slice x0a1 x0n1 x0c1) := cur_cell K_x0.out.now 1
  go_wp2_with fail
  clear c_aN_0 c_aN_1 c_x0_0 c_x0_1
  refine (uEqRecS (.slice g0_a0 g0_n0 g0_c0) (.slice w0_a0 w0_n0 w0_c0) (rankByM m0 m1) _ A_g0.out.now.read A_w0.out.now.read).mono ?_
  rintro e w9 ⟨rfl, hb⟩
  have s_w9 : w8.heap.size ≤ w9.heap.size := by have := hb.size; simpa only [size_box, size_drew] using this
  replace B := Lib.hid (below_seq B.out hb)
  replace R_aN := Lib.hid (R_aN.out.below hb)
  replace R_aList := Lib.hid (R_aList.out.below hb)
  replace K_aN := Lib.hid (K_aN.out.below hb)
  replace A_w0 := Lib.hid (A_w0.out.below hb)
  replace A_x0 := Lib.hid (A_x0.out.below hb)
  replace K_x0 := Lib.hid (K_x0.out.below hb)
  replace A_x1 := Lib.hid (A_x1.out.below hb)
  replace A_g0 := Lib.hid (A_g0.out.below hb)
  clear hb
  have c_aN_0 : w9.cell? ⟨w.heap.size, 0, none⟩ = some d0_0 := cur_cell K_aN.out.now 0
  have c_aN_1 : w9.cell? ⟨w.heap.size, 1, none⟩ = some d0_1 := cur_cell K_aN.out.now 1
  have c_x0_0 : w9.cell? ⟨w6.heap.size, 0, none⟩ = some (.int .i64 x0z0) := cur_cell K_x0.out.now 0
  have c_x0_1 : w9.cell? ⟨w6.heap.size, 1, none⟩ = some (.slice x0a1 x0n1 x0c1) := cur_cell K_x0.out.now 1
  go_wp2_with fail
  replace B := Lib.hid (below_drew B.out)
  replace R_aN := Lib.hid R_aN.out.drew
  replace R_aList := Lib.hid R_aList.out.drew
  replace K_aN := Lib.hid K_aN.out.drew
  replace A_w0 := Lib.hid A_w0.out.drew
  replace A_x0 := Lib.hid A_x0.out.drew
  replace K_x0 := Lib.hid K_x0.out.drew
  replace A_x1 := Lib.hid A_x1.out.drew
  replace A_g0 := Lib.hid A_g0.out.drew
  go_region_held3 (fun w' => w'.cell? ⟨w.heap.size, 0, none⟩ = some d0_0 ∧ w'.cell? ⟨w.heap.size, 1, none⟩ = some d0_1 ∧ w'.cell? ⟨w6.heap.size, 0, none⟩ = some (.int .i64 x0z0) ∧ w'.cell? ⟨w6.heap.size, 1, none⟩ = some (.slice x0a1 x0n1 x0c1))
    (first | go_keep | exact ⟨cur_cell K_aN.out.now 0, cur_cell K_aN.out.now 1, cur_cell K_x0.out.now 0, cur_cell K_x0.out.now 1⟩)
    (first
      | (go_at_call 36; refine (uToNet d0_0 d0_1 m0 _ hs0 R_aN.out.now).mono ?_; rintro e w10 ⟨tt11_0, tt11_1, rfl, ho, hb⟩; have A_tt := Lib.hid (ho.lies (Nat.le_refl _)); have s_w10 : w9.heap.size ≤ w10.heap.size := (by have := hb.size; simpa only [size_box, size_drew] using this); replace B := Lib.hid (below_seq B.out hb); replace R_aN := Lib.hid (R_aN.out.below hb); replace R_aList := Lib.hid (R_aList.out.below hb); replace K_aN := Lib.hid (K_aN.out.below hb); replace A_w0 := Lib.hid (A_w0.out.below hb); replace A_x0 := Lib.hid (A_x0.out.below hb); replace K_x0 := Lib.hid (K_x0.out.below hb); replace A_x1 := Lib.hid (A_x1.out.below hb); replace A_g0 := Lib.hid (A_g0.out.below hb); clear ho hb)
      | (go_at_call 37; refine (uEqNet (.int .i64 x0z0) (.slice x0a1 x0n1 x0c1) tt11_0 tt11_1 m0 _ A_x0.out.now.read A_tt.out.now.read).mono ?_; rintro e w11 ⟨rfl, hb⟩; have s_w11 : w10.heap.size ≤ w11.heap.size := hb.size; replace B := Lib.hid (below_seq B.out hb); replace R_aN := Lib.hid (R_aN.out.below hb); replace R_aList := Lib.hid (R_aList.out.below hb); replace K_aN := Lib.hid (K_aN.out.below hb); replace A_w0 := Lib.hid (A_w0.out.below hb); replace A_x0 := Lib.hid (A_x0.out.below hb); replace K_x0 := Lib.hid (K_x0.out.below hb); replace A_x1 := Lib.hid (A_x1.out.below hb); replace A_g0 := Lib.hid (A_g0.out.below hb); clear hb A_tt))
  clear c_aN_0 c_aN_1 c_x0_0 c_x0_1
  have c_aN_0 : w11.cell? ⟨w.heap.size, 0, none⟩ = some d0_0 := cur_cell K_aN.out.now 0
  have c_aN_1 : w11.cell? ⟨w.heap.size, 1, none⟩ = some d0_1 := cur_cell K_aN.out.now 1
  have c_x0_0 : w11.cell? ⟨w6.heap.size, 0, none⟩ = some (.int .i64 x0z0) := cur_cell K_x0.out.now 0
  have c_x0_1 : w11.cell? ⟨w6.heap.size, 1, none⟩ = some (.slice x0a1 x0n1 x0c1) := cur_cell K_x0.out.now 1
  go_wp2_with fail
  clear c_aN_0 c_aN_1 c_x0_0 c_x0_1
  refine (uToRecS (.slice a1 m1.length cap1) m1 _ hs1 R_aList.out.now).mono ?_
  rintro e w12 ⟨te11_0, rfl, ho, hb⟩
  obtain ⟨te11_a0, te11_n0, te11_c0, rfl⟩ := ho.shape
  have s_w12 : w11.heap.size ≤ w12.heap.size := by have := hb.size; simpa only [size_box, size_drew] using this
  replace B := Lib.hid (below_seq B.out hb)
  replace R_aN := Lib.hid (R_aN.out.below hb)
  replace R_aList := Lib.hid (R_aList.out.below hb)
  replace K_aN := Lib.hid (K_aN.out.below hb)
  replace A_w0 := Lib.hid (A_w0.out.below hb)
  replace A_x0 := Lib.hid (A_x0.out.below hb)
  replace K_x0 := Lib.hid (K_x0.out.below hb)
  replace A_x1 := Lib.hid (A_x1.out.below hb)
  replace A_g0 := Lib.hid (A_g0.out.below hb)
  have A_te11_ := Lib.hid (ho.lies (Nat.le_refl _))
  clear ho hb
  have c_aN_0 : w12.cell? ⟨w.heap.size, 0, none⟩ = some d0_0 := cur_cell K_aN.out.now 0
  have c_aN_1 : w12.cell? ⟨w.heap.size, 1, none⟩ = some d0_1 := cur_cell K_aN.out.now 1
  have c_x0_0 : w12.cell? ⟨w6.heap.size, 0, none⟩ = some (.int .i64 x0z0) := cur_cell K_x0.out.now 0
  have c_x0_1 : w12.cell? ⟨w6.heap.size, 1, none⟩ = some (.slice x0a1 x0n1 x0c1) := cur_cell K_x0.out.now 1
  go_wp2_with fail
  clear c_aN_0 c_aN_1 c_x0_0 c_x0_1
  refine (uEqRecS (.slice x1a0 x1n0 x1c0) (.slice te11_a0 te11_n0 te11_c0) m1 _ A_x1.out.now.read A_te11_.out.now.read).mono ?_
  rintro e w13 ⟨rfl, hb⟩
  have s_w13 : w12.heap.size ≤ w13.heap.size := by have := hb.size; simpa only [size_box, size_drew] using this
  replace B := Lib.hid (below_seq B.out hb)
  replace R_aN := Lib.hid (R_aN.out.below hb)
  replace R_aList := Lib.hid (R_aList.out.below hb)
  replace K_aN := Lib.hid (K_aN.out.below hb)
  replace A_w0 := Lib.hid (A_w0.out.below hb)
  replace A_x0 := Lib.hid (A_x0.out.below hb)
  replace K_x0 := Lib.hid (K_x0.out.below hb)
  replace A_x1 := Lib.hid (A_x1.out.below hb)
  replace A_g0 := Lib.hid (A_g0.out.below hb)
  replace A_te11_ := Lib.hid (A_te11_.out.below hb)
  clear hb
  clear A_te11_
  have c_aN_0 : w13.cell? ⟨w.heap.size, 0, none⟩ = some d0_0 := cur_cell K_aN.out.now 0
  have c_aN_1 : w13.cell? ⟨w.heap.size, 1, none⟩ = some d0_1 := cur_cell K_aN.out.now 1
  have c_x0_0 : w13.cell? ⟨w6.heap.size, 0, none⟩ = some (.int .i64 x0z0) := cur_cell K_x0.out.now 0
  have c_x0_1 : w13.cell? ⟨w6.heap.size, 1, none⟩ = some (.slice x0a1 x0n1 x0c1) := cur_cell K_x0.out.now 1
  go_wp2_with fail
  clear c_aN_0 c_aN_1 c_x0_0 c_x0_1
  refine (uMarkNet w5.heap.size w6.heap.size 1 (.int .i64 x0z0) (.slice x0a1 x0n1 x0c1) m0 _ (by omega) A_x0.out.top A_x0.out.now).mono ?_
  rintro e w14 ⟨k14, rfl, hk, ho, hc⟩
  have bd_k14 : k14 ≤ 2000000000000 := by omega
  have HK_k14 := Lib.hid hk
  have s_w14 : w13.heap.size ≤ w14.heap.size := by have := hc.size; simpa only [size_box, size_drew] using this
  have ho_t := A_x0.out.top
  clear A_x0
  replace B := Lib.hid (hc.below B.out (by have := B0s; omega))
  replace R_aN := Lib.hid (R_aN.out.chg hc (by have := B0s; omega))
  replace R_aList := Lib.hid (R_aList.out.chg hc (by have := B0s; omega))
  replace K_aN := Lib.hid (K_aN.out.chg hc (by have := B0s; omega))
  replace A_w0 := Lib.hid (A_w0.out.chg hc (by have := B0s; omega))
  replace K_x0 := Lib.hid (K_x0.out.chg hc (by have := B0s; omega))
  replace A_x1 := Lib.hid (A_x1.out.chg hc (by have := B0s; omega))
  replace A_g0 := Lib.hid (A_g0.out.chg hc (by have := B0s; omega))
  have A_x0 := Lib.hid (ho.lies (Nat.le_trans ho_t s_w14))
  clear hk ho hc ho_t
  have c_aN_0 : w14.cell? ⟨w.heap.size, 0, none⟩ = some d0_0 := cur_cell K_aN.out.now 0
  have c_aN_1 : w14.cell? ⟨w.heap.size, 1, none⟩ = some d0_1 := cur_cell K_aN.out.now 1
  have c_x0_0 : w14.cell? ⟨w6.heap.size, 0, none⟩ = some (.int .i64 x0z0) := cur_cell K_x0.out.now 0
  have c_x0_1 : w14.cell? ⟨w6.heap.size, 1, none⟩ = some (.slice x0a1 x0n1 x0c1) := cur_cell K_x0.out.now 1
  go_wp2_with fail
  clear c_aN_0 c_aN_1 c_x0_0 c_x0_1
  refine (uMarkRecS (w6.heap.size + 1) w7.heap.size k14 (.slice x1a0 x1n0 x1c0) m1 _ (by omega) A_x1.out.now).mono ?_
  rintro e w15 ⟨k15, rfl, hk, ho, hc⟩
  have bd_k15 : k15 ≤ 4000000000000 := by omega
  have HK_k15 := Lib.hid hk
  have s_w15 : w14.heap.size ≤ w15.heap.size := by have := hc.size; simpa only [size_box, size_drew] using this
  have ho_t := A_x1.out.top
  clear A_x1
  replace B := Lib.hid (hc.below B.out (by have := B0s; omega))
  replace R_aN := Lib.hid (R_aN.out.chg hc (by have := B0s; omega))
  replace R_aList := Lib.hid (R_aList.out.chg hc (by have := B0s; omega))
  replace K_aN := Lib.hid (K_aN.out.chg hc (by have := B0s; omega))
  replace A_w0 := Lib.hid (A_w0.out.chg hc (by have := B0s; omega))
  replace K_x0 := Lib.hid (K_x0.out.chg hc (by have := B0s; omega))
  replace A_g0 := Lib.hid (A_g0.out.chg hc (by have := B0s; omega))
  replace A_x0 := Lib.hid (A_x0.out.chg hc (by have := B0s; omega))
  have A_x1 := Lib.hid (ho.lies (Nat.le_trans ho_t s_w15))
  clear hk ho hc ho_t
  have c_aN_0 : w15.cell? ⟨w.heap.size, 0, none⟩ = some d0_0 := cur_cell K_aN.out.now 0
  have c_aN_1 : w15.cell? ⟨w.heap.size, 1, none⟩ = some d0_1 := cur_cell K_aN.out.now 1
  have c_x0_0 : w15.cell? ⟨w6.heap.size, 0, none⟩ = some (.int .i64 x0z0) := cur_cell K_x0.out.now 0
  have c_x0_1 : w15.cell? ⟨w6.heap.size, 1, none⟩ = some (.slice x0a1 x0n1 x0c1) := cur_cell K_x0.out.now 1
  go_wp2_with fail
  clear c_aN_0 c_aN_1 c_x0_0 c_x0_1
  refine (uEqRecS (.slice g0_a0 g0_n0 g0_c0) (.slice w0_a0 w0_n0 w0_c0) (rankByM m0 m1) _ A_g0.out.now.read A_w0.out.now.read).mono ?_
  rintro e w16 ⟨rfl, hb⟩
  have s_w16 : w15.heap.size ≤ w16.heap.size := by have := hb.size; simpa only [size_box, size_drew] using this
  replace B := Lib.hid (below_seq B.out hb)
  replace R_aN := Lib.hid (R_aN.out.below hb)
  replace R_aList := Lib.hid (R_aList.out.below hb)
  replace K_aN := Lib.hid (K_aN.out.below hb)
  replace A_w0 := Lib.hid (A_w0.out.below hb)
  replace K_x0 := Lib.hid (K_x0.out.below hb)
  replace A_g0 := Lib.hid (A_g0.out.below hb)
  replace A_x0 := Lib.hid (A_x0.out.below hb)
  replace A_x1 := Lib.hid (A_x1.out.below hb)
  clear hb
  have c_aN_0 : w16.cell? ⟨w.heap.size, 0, none⟩ = some d0_0 := cur_cell K_aN.out.now 0
  have c_aN_1 : w16.cell? ⟨w.heap.size, 1, none⟩ = some d0_1 := cur_cell K_aN.out.now 1
  have c_x0_0 : w16.cell? ⟨w6.heap.size, 0, none⟩ = some (.int .i64 x0z0) := cur_cell K_x0.out.now 0
  have c_x0_1 : w16.cell? ⟨w6.heap.size, 1, none⟩ = some (.slice x0a1 x0n1 x0c1) := cur_cell K_x0.out.now 1
  go_wp2_with fail
  clear c_aN_0 c_aN_1 c_x0_0 c_x0_1
  refine (uMarkRecS w7.heap.size w8.heap.size 1 (.slice g0_a0 g0_n0 g0_c0) (rankByM m0 m1) _ (by have := bd_g0; omega) A_g0.out.now).mono ?_
  rintro e w17 ⟨k17, rfl, hk, ho, hc⟩
  have bd_k17 : k17 ≤ 2000000000000 := by have := bd_g0; omega
  have HK_k17 := Lib.hid hk
  have s_w17 : w16.heap.size ≤ w17.heap.size := by have := hc.size; simpa only [size_box, size_drew] using this
  have ho_t := A_g0.out.top
  clear A_g0
  replace B := Lib.hid (hc.below B.out (by have := B0s; omega))
  replace R_aN := Lib.hid (R_aN.out.chg hc (by have := B0s; omega))
  replace R_aList := Lib.hid (R_aList.out.chg hc (by have := B0s; omega))
  replace K_aN := Lib.hid (K_aN.out.chg hc (by have := B0s; omega))
  replace A_w0 := Lib.hid (A_w0.out.chg hc (by have := B0s; omega))
  replace K_x0 := Lib.hid (K_x0.out.chg hc (by have := B0s; omega))
  replace A_x0 := Lib.hid (A_x0.out.chg hc (by have := B0s; omega))
  replace A_x1 := Lib.hid (A_x1.out.chg hc (by have := B0s; omega))
  have A_g0 := Lib.hid (ho.lies (Nat.le_trans ho_t s_w17))
  clear hk ho hc ho_t
  have c_aN_0 : w17.cell? ⟨w.heap.size, 0, none⟩ = some d0_0 := cur_cell K_aN.out.now 0
  have c_aN_1 : w17.cell? ⟨w.heap.size, 1, none⟩ = some d0_1 := cur_cell K_aN.out.now 1
  have c_x0_0 : w17.cell? ⟨w6.heap.size, 0, none⟩ = some (.int .i64 x0z0) := cur_cell K_x0.out.now 0
  have c_x0_1 : w17.cell? ⟨w6.heap.size, 1, none⟩ = some (.slice x0a1 x0n1 x0c1) := cur_cell K_x0.out.now 1
  go_wp2_with fail
  clear c_aN_0 c_aN_1 c_x0_0 c_x0_1
  refine (uHeldRecS 1 (.slice g0_a0 g0_n0 g0_c0) (rankByM m0 m1) _ (by have := HK_k17.out; omega) A_g0.out.now.read).mono ?_
  rintro e w18 ⟨k18, rfl, hk, hb⟩
  have hkk : k18 = k17 := by have := HK_k17.out; omega
  rw [hkk]
  clear hk hkk
  have s_w18 : w17.heap.size ≤ w18.heap.size := by have := hb.size; simpa only [size_box, size_drew] using this
  replace B := Lib.hid (below_seq B.out hb)
  replace R_aN := Lib.hid (R_aN.out.below hb)
  replace R_aList := Lib.hid (R_aList.out.below hb)
  replace K_aN := Lib.hid (K_aN.out.below hb)
  replace A_w0 := Lib.hid (A_w0.out.below hb)
  replace K_x0 := Lib.hid (K_x0.out.below hb)
  replace A_x0 := Lib.hid (A_x0.out.below hb)
  replace A_x1 := Lib.hid (A_x1.out.below hb)
  replace A_g0 := Lib.hid (A_g0.out.below hb)
  clear hb
  have c_aN_0 : w18.cell? ⟨w.heap.size, 0, none⟩ = some d0_0 := cur_cell K_aN.out.now 0
  have c_aN_1 : w18.cell? ⟨w.heap.size, 1, none⟩ = some d0_1 := cur_cell K_aN.out.now 1
  have c_x0_0 : w18.cell? ⟨w6.heap.size, 0, none⟩ = some (.int .i64 x0z0) := cur_cell K_x0.out.now 0
  have c_x0_1 : w18.cell? ⟨w6.heap.size, 1, none⟩ = some (.slice x0a1 x0n1 x0c1) := cur_cell K_x0.out.now 1
  go_wp2_with fail
  clear c_aN_0 c_aN_1 c_x0_0 c_x0_1
  refine (uToNet d0_0 d0_1 m0 _ hs0 R_aN.out.now).mono ?_
  rintro e w19 ⟨t18_0, t18_1, rfl, ho, hb⟩
  obtain ⟨t18_z0, t18_a1, t18_n1, t18_c1, rfl, rfl⟩ := ho.shape
  have s_w19 : w18.heap.size ≤ w19.heap.size := by have := hb.size; simpa only [size_box, size_drew] using this
  replace B := Lib.hid (below_seq B.out hb)
  replace R_aN := Lib.hid (R_aN.out.below hb)
  replace R_aList := Lib.hid (R_aList.out.below hb)
  replace K_aN := Lib.hid (K_aN.out.below hb)
  replace A_w0 := Lib.hid (A_w0.out.below hb)
  replace K_x0 := Lib.hid (K_x0.out.below hb)
  replace A_x0 := Lib.hid (A_x0.out.below hb)
  replace A_x1 := Lib.hid (A_x1.out.below hb)
  replace A_g0 := Lib.hid (A_g0.out.below hb)
  have A_t18_ := Lib.hid (ho.lies (Nat.le_refl _))
  clear ho hb
  have c_aN_0 : w19.cell? ⟨w.heap.size, 0, none⟩ = some d0_0 := cur_cell K_aN.out.now 0
  have c_aN_1 : w19.cell? ⟨w.heap.size, 1, none⟩ = some d0_1 := cur_cell K_aN.out.now 1
  have c_x0_0 : w19.cell? ⟨w6.heap.size, 0, none⟩ = some (.int .i64 x0z0) := cur_cell K_x0.out.now 0
  have c_x0_1 : w19.cell? ⟨w6.heap.size, 1, none⟩ = some (.slice x0a1 x0n1 x0c1) := cur_cell K_x0.out.now 1
  go_wp2_with fail
  clear c_aN_0 c_aN_1 c_x0_0 c_x0_1
  refine (uToRecS (.slice a1 m1.length cap1) m1 _ hs1 R_aList.out.now).mono ?_
  rintro e w20 ⟨t19_0, rfl, ho, hb⟩
  obtain ⟨t19_a0, t19_n0, t19_c0, rfl⟩ := ho.shape
  have s_w20 : w19.heap.size ≤ w20.heap.size := by have := hb.size; simpa only [size_box, size_drew] using this
  replace B := Lib.hid (below_seq B.out hb)
  replace R_aN := Lib.hid (R_aN.out.below hb)
  replace R_aList := Lib.hid (R_aList.out.below hb)
  replace K_aN := Lib.hid (K_aN.out.below hb)
  replace A_w0 := Lib.hid (A_w0.out.below hb)
  replace K_x0 := Lib.hid (K_x0.out.below hb)
  replace A_x0 := Lib.hid (A_x0.out.below hb)
  replace A_x1 := Lib.hid (A_x1.out.below hb)
  replace A_g0 := Lib.hid (A_g0.out.below hb)
  replace A_t18_ := Lib.hid (A_t18_.out.below hb)
  have A_t19_ := Lib.hid (ho.lies (Nat.le_refl _))
  clear ho hb
  have c_aN_0 : w20.cell? ⟨w.heap.size, 0, none⟩ = some d0_0 := cur_cell K_aN.out.now 0
  have c_aN_1 : w20.cell? ⟨w.heap.size, 1, none⟩ = some d0_1 := cur_cell K_aN.out.now 1
  have c_x0_0 : w20.cell? ⟨w6.heap.size, 0, none⟩ = some (.int .i64 x0z0) := cur_cell K_x0.out.now 0
  have c_x0_1 : w20.cell? ⟨w6.heap.size, 1, none⟩ = some (.slice x0a1 x0n1 x0c1) := cur_cell K_x0.out.now 1
  go_wp2_with fail
  clear c_aN_0 c_aN_1 c_x0_0 c_x0_1
  refine (uImplRankBy (.int .i64 t18_z0) (.slice t18_a1 t18_n1 t18_c1) m0 (.slice t19_a0 t19_n0 t19_c0) m1 _ A_t18_.out.now.read A_t19_.out.now.read b1).mono ?_
  rintro e w21 ⟨h0_0, rfl, ho_h0, hb⟩
  obtain ⟨h0_a0, h0_n0, h0_c0, rfl⟩ := ho_h0.shape
  clear A_t18_ A_t19_
  have s_w21 : w20.heap.size ≤ w21.heap.size := by have := hb.size; simpa only [size_box, size_drew] using this
  replace B := Lib.hid (below_seq B.out hb)
  replace R_aN := Lib.hid (R_aN.out.below hb)
  replace R_aList := Lib.hid (R_aList.out.below hb)
  replace K_aN := Lib.hid (K_aN.out.below hb)
  replace A_w0 := Lib.hid (A_w0.out.below hb)
  replace K_x0 := Lib.hid (K_x0.out.below hb)
  replace A_x0 := Lib.hid (A_x0.out.below hb)
  replace A_x1 := Lib.hid (A_x1.out.below hb)
  replace A_g0 := Lib.hid (A_g0.out.below hb)
  have A_h0 := Lib.hid (ho_h0.lies (Nat.le_refl _))
  clear ho_h0 hb
  have c_aN_0 : w21.cell? ⟨w.heap.size, 0, none⟩ = some d0_0 := cur_cell K_aN.out.now 0
  have c_aN_1 : w21.cell? ⟨w.heap.size, 1, none⟩ = some d0_1 := cur_cell K_aN.out.now 1
  have c_x0_0 : w21.cell? ⟨w6.heap.size, 0, none⟩ = some (.int .i64 x0z0) := cur_cell K_x0.out.now 0
  have c_x0_1 : w21.cell? ⟨w6.heap.size, 1, none⟩ = some (.slice x0a1 x0n1 x0c1) := cur_cell K_x0.out.now 1
  go_wp2_with fail
  clear c_aN_0 c_aN_1 c_x0_0 c_x0_1
  refine (uEqRecS (.slice h0_a0 h0_n0 h0_c0) (.slice w0_a0 w0_n0 w0_c0) (rankByM m0 m1) _ A_h0.out.now.read A_w0.out.now.read).mono ?_
  rintro e w22 ⟨rfl, hb⟩
  have s_w22 : w21.heap.size ≤ w22.heap.size := by have := hb.size; simpa only [size_box, size_drew] using this
  replace B := Lib.hid (below_seq B.out hb)
  replace R_aN := Lib.hid (R_aN.out.below hb)
  replace R_aList := Lib.hid (R_aList.out.below hb)
  replace K_aN := Lib.hid (K_aN.out.below hb)
  replace A_w0 := Lib.hid (A_w0.out.below hb)
  replace K_x0 := Lib.hid (K_x0.out.below hb)
  replace A_x0 := Lib.hid (A_x0.out.below hb)
  replace A_x1 := Lib.hid (A_x1.out.below hb)
  replace A_g0 := Lib.hid (A_g0.out.below hb)
  replace A_h0 := Lib.hid (A_h0.out.below hb)
  clear hb
  have c_aN_0 : w22.cell? ⟨w.heap.size, 0, none⟩ = some d0_0 := cur_cell K_aN.out.now 0
  have c_aN_1 : w22.cell? ⟨w.heap.size, 1, none⟩ = some d0_1 := cur_cell K_aN.out.now 1
  have c_x0_0 : w22.cell? ⟨w6.heap.size, 0, none⟩ = some (.int .i64 x0z0) := cur_cell K_x0.out.now 0
  have c_x0_1 : w22.cell? ⟨w6.heap.size, 1, none⟩ = some (.slice x0a1 x0n1 x0c1) := cur_cell K_x0.out.now 1
  go_wp2_with fail
  clear c_aN_0 c_aN_1 c_x0_0 c_x0_1
  refine (uHeldRecS 1 (.slice g0_a0 g0_n0 g0_c0) (rankByM m0 m1) _ (by have := HK_k17.out; omega) A_g0.out.now.read).mono ?_
  rintro e w23 ⟨k23, rfl, hk, hb⟩
  have hkk : k23 = k17 := by have := HK_k17.out; omega
  rw [hkk]
  clear hk hkk
  have s_w23 : w22.heap.size ≤ w23.heap.size := by have := hb.size; simpa only [size_box, size_drew] using this
  replace B := Lib.hid (below_seq B.out hb)
  replace R_aN := Lib.hid (R_aN.out.below hb)
  replace R_aList := Lib.hid (R_aList.out.below hb)
  replace K_aN := Lib.hid (K_aN.out.below hb)
  replace A_w0 := Lib.hid (A_w0.out.below hb)
  replace K_x0 := Lib.hid (K_x0.out.below hb)
  replace A_x0 := Lib.hid (A_x0.out.below hb)
  replace A_x1 := Lib.hid (A_x1.out.below hb)
  replace A_g0 := Lib.hid (A_g0.out.below hb)
  replace A_h0 := Lib.hid (A_h0.out.below hb)
  clear hb
  have c_aN_0 : w23.cell? ⟨w.heap.size, 0, none⟩ = some d0_0 := cur_cell K_aN.out.now 0
  have c_aN_1 : w23.cell? ⟨w.heap.size, 1, none⟩ = some d0_1 := cur_cell K_aN.out.now 1
  have c_x0_0 : w23.cell? ⟨w6.heap.size, 0, none⟩ = some (.int .i64 x0z0) := cur_cell K_x0.out.now 0
  have c_x0_1 : w23.cell? ⟨w6.heap.size, 1, none⟩ = some (.slice x0a1 x0n1 x0c1) := cur_cell K_x0.out.now 1
  go_wp2
  go_ret
  exact ⟨rfl, B.out⟩

set_option maxRecDepth 100000 in
theorem lifted (os : Os) (started : os.Started) (H : Type) (enc : TypeId × Value → H) :
    ReturnsInHanded {} Try.checked os 8 .any (Rows.fnExactRankBySpec.pre6 enc Try.prog Try.f8 Rows.fnExactRankByRow.domain false) (Rows.fnExactRankBySpec.post enc Try.prog Try.f8 false true false false) := by
  refine returnsInHanded_of_change (C := Try.checked) own started (by kernel_rfl) Try.func8
    (ChangeSpec.witness6 (enc := enc) (C := Try.checked) false ⟨#[], #[.agg #[.int .i64 0, .slice none 0 0], .slice none 0 0], []⟩ 8 (by kernel_rfl) (by kernel_rfl) (by kernel_rfl) (by kernel_rfl)) ?_
  intro W base args ds gs before hval0 hW hcnd _
  have hval : ∀ (j : Nat) t v, Try.f8.params[j]? = some t → args[j]? = some v → Value.okWide Try.prog W .any base t v := hval0
  have hW' := hW
  obtain ⟨p, q, hA0, hV, rfl, hfz, hnd⟩ := hW
  have hA : DataW.TrodAll enc Try.prog W 0 (fun _ => true) true Try.f8.params.toList args.toList ds p := hA0
  rw [Try.params8] at hA hval
  obtain ⟨v0, vs0, d0, ds0, p0, q0, hargs, rfl, rfl, h0, r0⟩ := trodAll_cons hA
  obtain ⟨v1, vs1, d1, ds1, p1, q1, rfl, rfl, rfl, h1, r1⟩ := trodAll_cons r0
  obtain ⟨rfl, rfl, rfl⟩ := trodAll_nil r1
  obtain rfl : args = #[v0, v1] := by cases args; simp_all
  obtain ⟨rfl, rfl⟩ := trodVars_none hV
  have lt0 : ∀ x ∈ p0, x.block < W.heap.size := by obtain ⟨m, hm⟩ := h0; exact DataW.trod_lt m _ _ _ hm
  have lt1 : ∀ x ∈ p1, x.block < W.heap.size := by obtain ⟨m, hm⟩ := h1; exact DataW.trod_lt m _ _ _ hm
  clear hA0 hval0
  refine (walk v0 v1 W ⟨⟨base, hval 0 50 v0 rfl rfl⟩, Rd.of h0⟩ ⟨⟨base, hval 1 43 v1 rfl rfl⟩, Rd.of h1⟩).mono fun e W' ⟨he, bel⟩ => ?_
  subst he
  exact ⟨_, rfl, _, _, _, [], _, [], hW', trodAll_mk1 (shut_bool Try.underlying4 _), (trodAll_cons_mk (Below.trod laidOut (by kernel_rfl) (of_decide_eq_true (by kernel_rfl)) h0 bel lt0) (trodAll_cons_mk (Below.trod laidOut (by kernel_rfl) (of_decide_eq_true (by kernel_rfl)) h1 bel lt1) trodAll_mk0)), rfl, bel.frame _, fun h => by cases h⟩

theorem over : Rows.fnExactRankByRow.holds Try.pinned (OpenSpec.ofChange Rows.fnExactRankBySpec) :=
  OpenClaim.holds_of_wide 8 Try.f8 rfl rfl rfl rfl rfl rfl rfl ⟨rfl, rfl, rfl, rfl, rfl⟩ rfl rfl rfl rfl rfl (by kernel_rfl) Try.func8 (by kernel_rfl)
    (of_decide_eq_true (by kernel_rfl)) (by unfold Func.isWrapper; first | (rw [if_pos (by decide +kernel)]; kernel_rfl) | (rw [if_neg (by decide +kernel)]; exact ⟨rfl, rfl⟩))
    (fun os started H enc _ => lifted os started H enc)
end Go.Proofs.Ytaedamnhobcdlaa.fnExactRankBy
namespace Go.Proofs.Ytaedamnhobcdlaa
/-- RankBy answers as its model, at every argument. -/
theorem fnExactRankBy_holds : Rows.FnExactRankBySaid := fnExactRankBy.over
end Go.Proofs.Ytaedamnhobcdlaa
