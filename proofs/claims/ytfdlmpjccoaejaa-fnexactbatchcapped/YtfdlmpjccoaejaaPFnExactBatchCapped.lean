/- For every argument: the law FnExactBatchCapped answers true, that is, BatchCapped answers as its model and writes into no argument; its answer owns its memory. No condition. -/
import Derived.Test.YtfdlmpjccoaejaaBase
import Derived.Test.YtfdlmpjccoaejaaReads
import Derived.Test.YtfdlmpjccoaejaaBaX
import Derived.Deep.RegionHeld3
namespace Go.Proofs.Ytfdlmpjccoaejaa.fnExactBatchCapped
open Go.ChangeShapes Go.WideShapes Go.ChangeAt Go.RowKit
set_option linter.unusedVariables false

set_option maxRecDepth 100000 in
set_option maxHeartbeats 4000000 in
theorem walk (v0 : Value) (v1 : Value) (w : World) (h0 : Arg w 9 v0) (h1 : Arg w 52 v1) :
    Calls Try.prog 13 #[v0, v1] w fun e w' => e = .returned (.bool true) ∧ Below w.heap.size w w' := by
  obtain ⟨m0, rfl, b0⟩ := arg_string h0
  clear h0
  obtain ⟨d1_0, d1_1, d1_2, m1, rfl, i1, b1⟩ := argPlanes h1
  have R_aS := Lib.hid i1.lies
  clear i1
  clear h1
  have B : Hid (Below w.heap.size w w) := Lib.hid (Below.refl _ _)
  have B0s : 0 ≤ w.heap.size := Nat.zero_le _
  replace B := Lib.hid (below_box B.out (.cells #[d1_0, d1_1, d1_2] 52))
  replace R_aS := Lib.hid (R_aS.out.box (.cells #[d1_0, d1_1, d1_2] 52))
  have K_aS := Lib.hid (lies_box w (.cells #[d1_0, d1_1, d1_2] 52))
  by_cases g0 : 1048576 < m0.size
  · go_enter Try.func13, Try.ntmps13
    go_wp2
    go_ret
    exact ⟨rfl, B.out⟩
  by_cases g1 : 1048576 - (szPlanes m1 : Int) < 0
  · go_enter Try.func13, Try.ntmps13
    have c_aS_0 : (w.alloc (.cells #[d1_0, d1_1, d1_2] 52)).cell? ⟨w.heap.size, 0, none⟩ = some d1_0 := cur_cell K_aS.out.now 0
    have c_aS_1 : (w.alloc (.cells #[d1_0, d1_1, d1_2] 52)).cell? ⟨w.heap.size, 1, none⟩ = some d1_1 := cur_cell K_aS.out.now 1
    have c_aS_2 : (w.alloc (.cells #[d1_0, d1_1, d1_2] 52)).cell? ⟨w.heap.size, 2, none⟩ = some d1_2 := cur_cell K_aS.out.now 2
    go_wp2_with fail
    clear c_aS_0 c_aS_1 c_aS_2
    refine (uSzPlanes d1_0 d1_1 d1_2 m1 1048576 _ (by omega) (by omega) R_aS.out.now).mono ?_
    rintro e w1 ⟨rfl, hb⟩
    rw [szI_no (by omega)]
    replace B := Lib.hid (below_seq B.out hb)
    replace R_aS := Lib.hid (R_aS.out.below hb)
    replace K_aS := Lib.hid (K_aS.out.below hb)
    clear hb
    go_wp2
    go_ret
    exact ⟨rfl, B.out⟩
  have hs1 : szPlanes m1 ≤ 1048576 := by omega
  go_enter Try.func13, Try.ntmps13
  have c_aS_0 : (w.alloc (.cells #[d1_0, d1_1, d1_2] 52)).cell? ⟨w.heap.size, 0, none⟩ = some d1_0 := cur_cell K_aS.out.now 0
  have c_aS_1 : (w.alloc (.cells #[d1_0, d1_1, d1_2] 52)).cell? ⟨w.heap.size, 1, none⟩ = some d1_1 := cur_cell K_aS.out.now 1
  have c_aS_2 : (w.alloc (.cells #[d1_0, d1_1, d1_2] 52)).cell? ⟨w.heap.size, 2, none⟩ = some d1_2 := cur_cell K_aS.out.now 2
  go_wp2_with fail
  clear c_aS_0 c_aS_1 c_aS_2
  refine (uSzPlanes d1_0 d1_1 d1_2 m1 1048576 _ (by omega) (by omega) R_aS.out.now).mono ?_
  rintro e w1 ⟨rfl, hb⟩
  rw [szI_yes (by omega)]
  have s_w1 : w.heap.size + 1 ≤ w1.heap.size := by have := hb.size; simpa only [size_box, size_drew] using this
  replace B := Lib.hid (below_seq B.out hb)
  replace R_aS := Lib.hid (R_aS.out.below hb)
  replace K_aS := Lib.hid (K_aS.out.below hb)
  clear hb
  have c_aS_0 : w1.cell? ⟨w.heap.size, 0, none⟩ = some d1_0 := cur_cell K_aS.out.now 0
  have c_aS_1 : w1.cell? ⟨w.heap.size, 1, none⟩ = some d1_1 := cur_cell K_aS.out.now 1
  have c_aS_2 : w1.cell? ⟨w.heap.size, 2, none⟩ = some d1_2 := cur_cell K_aS.out.now 2
  go_wp2_with fail
  clear c_aS_0 c_aS_1 c_aS_2
  refine (uToPlanes d1_0 d1_1 d1_2 m1 _ hs1 R_aS.out.now).mono ?_
  rintro e w2 ⟨t1_0, t1_1, t1_2, rfl, ho, hb⟩
  obtain ⟨t1_z0, t1_a1, t1_n1, t1_c1, t1_a2, t1_n2, t1_c2, rfl, rfl, rfl⟩ := ho.shape
  have s_w2 : w1.heap.size ≤ w2.heap.size := by have := hb.size; simpa only [size_box, size_drew] using this
  replace B := Lib.hid (below_seq B.out hb)
  replace R_aS := Lib.hid (R_aS.out.below hb)
  replace K_aS := Lib.hid (K_aS.out.below hb)
  have A_t1_ := Lib.hid (ho.lies (Nat.le_refl _))
  clear ho hb
  have c_aS_0 : w2.cell? ⟨w.heap.size, 0, none⟩ = some d1_0 := cur_cell K_aS.out.now 0
  have c_aS_1 : w2.cell? ⟨w.heap.size, 1, none⟩ = some d1_1 := cur_cell K_aS.out.now 1
  have c_aS_2 : w2.cell? ⟨w.heap.size, 2, none⟩ = some d1_2 := cur_cell K_aS.out.now 2
  go_wp2_with fail
  clear c_aS_0 c_aS_1 c_aS_2
  refine (uSpecBatchCapped m0 (.int .i64 t1_z0) (.slice t1_a1 t1_n1 t1_c1) (.slice t1_a2 t1_n2 t1_c2) m1 _ A_t1_.out.now.read b0 b1).mono ?_
  rintro e w3 ⟨w0_0, rfl, ho_w0, hb⟩
  obtain ⟨w0_a0, w0_n0, w0_c0, rfl⟩ := ho_w0.shape
  clear A_t1_
  have s_w3 : w2.heap.size ≤ w3.heap.size := by have := hb.size; simpa only [size_box, size_drew] using this
  replace B := Lib.hid (below_seq B.out hb)
  replace R_aS := Lib.hid (R_aS.out.below hb)
  replace K_aS := Lib.hid (K_aS.out.below hb)
  have A_w0 := Lib.hid (ho_w0.lies (Nat.le_refl _))
  clear ho_w0 hb
  have c_aS_0 : w3.cell? ⟨w.heap.size, 0, none⟩ = some d1_0 := cur_cell K_aS.out.now 0
  have c_aS_1 : w3.cell? ⟨w.heap.size, 1, none⟩ = some d1_1 := cur_cell K_aS.out.now 1
  have c_aS_2 : w3.cell? ⟨w.heap.size, 2, none⟩ = some d1_2 := cur_cell K_aS.out.now 2
  go_wp2_with fail
  clear c_aS_0 c_aS_1 c_aS_2
  refine (uToPlanes d1_0 d1_1 d1_2 m1 _ hs1 R_aS.out.now).mono ?_
  rintro e w4 ⟨x10, x11, x12, rfl, ho, hb⟩
  obtain ⟨x1z0, x1a1, x1n1, x1c1, x1a2, x1n2, x1c2, rfl, rfl, rfl⟩ := ho.shape
  have s_w4 : w3.heap.size ≤ w4.heap.size := by have := hb.size; simpa only [size_box, size_drew] using this
  replace B := Lib.hid (below_seq B.out hb)
  replace R_aS := Lib.hid (R_aS.out.below hb)
  replace K_aS := Lib.hid (K_aS.out.below hb)
  replace A_w0 := Lib.hid (A_w0.out.below hb)
  have A_x1 := Lib.hid (ho.lies (Nat.le_refl _))
  clear ho hb
  replace B := Lib.hid (below_box B.out (.cells #[.int .i64 x1z0, .slice x1a1 x1n1 x1c1, .slice x1a2 x1n2 x1c2] 28))
  replace R_aS := Lib.hid (R_aS.out.box (.cells #[.int .i64 x1z0, .slice x1a1 x1n1 x1c1, .slice x1a2 x1n2 x1c2] 28))
  replace K_aS := Lib.hid (K_aS.out.box (.cells #[.int .i64 x1z0, .slice x1a1 x1n1 x1c1, .slice x1a2 x1n2 x1c2] 28))
  replace A_w0 := Lib.hid (A_w0.out.box (.cells #[.int .i64 x1z0, .slice x1a1 x1n1 x1c1, .slice x1a2 x1n2 x1c2] 28))
  replace A_x1 := Lib.hid (A_x1.out.box (.cells #[.int .i64 x1z0, .slice x1a1 x1n1 x1c1, .slice x1a2 x1n2 x1c2] 28))
  have K_x1 := Lib.hid (lies_box w4 (.cells #[.int .i64 x1z0, .slice x1a1 x1n1 x1c1, .slice x1a2 x1n2 x1c2] 28))
  have c_aS_0 : (w4.alloc (.cells #[.int .i64 x1z0, .slice x1a1 x1n1 x1c1, .slice x1a2 x1n2 x1c2] 28)).cell? ⟨w.heap.size, 0, none⟩ = some d1_0 := cur_cell K_aS.out.now 0
  have c_aS_1 : (w4.alloc (.cells #[.int .i64 x1z0, .slice x1a1 x1n1 x1c1, .slice x1a2 x1n2 x1c2] 28)).cell? ⟨w.heap.size, 1, none⟩ = some d1_1 := cur_cell K_aS.out.now 1
  have c_aS_2 : (w4.alloc (.cells #[.int .i64 x1z0, .slice x1a1 x1n1 x1c1, .slice x1a2 x1n2 x1c2] 28)).cell? ⟨w.heap.size, 2, none⟩ = some d1_2 := cur_cell K_aS.out.now 2
  have c_x1_0 : (w4.alloc (.cells #[.int .i64 x1z0, .slice x1a1 x1n1 x1c1, .slice x1a2 x1n2 x1c2] 28)).cell? ⟨w4.heap.size, 0, none⟩ = some (.int .i64 x1z0) := cur_cell K_x1.out.now 0
  have c_x1_1 : (w4.alloc (.cells #[.int .i64 x1z0, .slice x1a1 x1n1 x1c1, .slice x1a2 x1n2 x1c2] 28)).cell? ⟨w4.heap.size, 1, none⟩ = some (.slice x1a1 x1n1 x1c1) := cur_cell K_x1.out.now 1
  have c_x1_2 : (w4.alloc (.cells #[.int .i64 x1z0, .slice x1a1 x1n1 x1c1, .slice x1a2 x1n2 x1c2] 28)).cell? ⟨w4.heap.size, 2, none⟩ = some (.slice x1a2 x1n2 x1c2) := cur_cell K_x1.out.now 2
  go_wp2_with fail
  clear c_aS_0 c_aS_1 c_aS_2 c_x1_0 c_x1_1 c_x1_2
  refine (uImplBatchCapped m0 (.int .i64 x1z0) (.slice x1a1 x1n1 x1c1) (.slice x1a2 x1n2 x1c2) m1 _ A_x1.out.now.read b0 b1).mono ?_
  rintro e w5 ⟨g0_0, rfl, ho_g0, hb⟩
  obtain ⟨g0_a0, g0_n0, g0_c0, rfl⟩ := ho_g0.shape
  have s_w5 : w4.heap.size + 1 ≤ w5.heap.size := by have := hb.size; simpa only [size_box, size_drew] using this
  replace B := Lib.hid (below_seq B.out hb)
  replace R_aS := Lib.hid (R_aS.out.below hb)
  replace K_aS := Lib.hid (K_aS.out.below hb)
  replace A_w0 := Lib.hid (A_w0.out.below hb)
  replace A_x1 := Lib.hid (A_x1.out.below hb)
  replace K_x1 := Lib.hid (K_x1.out.below hb)
  simp only [size_box] at ho_g0
  have A_g0 := Lib.hid (ho_g0.lies (Nat.le_refl _))
  clear ho_g0 hb
  have bd_g0 : szIntS (batchM m0.data.toList m1) ≤ 1000000000000 := batchM_bd m0.data.toList m1
  have c_aS_0 : w5.cell? ⟨w.heap.size, 0, none⟩ = some d1_0 := cur_cell K_aS.out.now 0
  have c_aS_1 : w5.cell? ⟨w.heap.size, 1, none⟩ = some d1_1 := cur_cell K_aS.out.now 1
  have c_aS_2 : w5.cell? ⟨w.heap.size, 2, none⟩ = some d1_2 := cur_cell K_aS.out.now 2
  have c_x1_0 : w5.cell? ⟨w4.heap.size, 0, none⟩ = some (.int .i64 x1z0) := cur_cell K_x1.out.now 0
  have c_x1_1 : w5.cell? ⟨w4.heap.size, 1, none⟩ = some (.slice x1a1 x1n1 x1c1) := cur_cell K_x1.out.now 1
  have c_x1_2 : w5.cell? ⟨w4.heap.size, 2, none⟩ = some (.slice x1a2 x1n2 x1c2) := cur_cell K_x1.out.now 2
  go_wp2_with fail
  clear c_aS_0 c_aS_1 c_aS_2 c_x1_0 c_x1_1 c_x1_2
  refine (uEqIntS (.slice g0_a0 g0_n0 g0_c0) (.slice w0_a0 w0_n0 w0_c0) (batchM m0.data.toList m1) _ A_g0.out.now.read A_w0.out.now.read).mono ?_
  rintro e w6 ⟨rfl, hb⟩
  have s_w6 : w5.heap.size ≤ w6.heap.size := by have := hb.size; simpa only [size_box, size_drew] using this
  replace B := Lib.hid (below_seq B.out hb)
  replace R_aS := Lib.hid (R_aS.out.below hb)
  replace K_aS := Lib.hid (K_aS.out.below hb)
  replace A_w0 := Lib.hid (A_w0.out.below hb)
  replace A_x1 := Lib.hid (A_x1.out.below hb)
  replace K_x1 := Lib.hid (K_x1.out.below hb)
  replace A_g0 := Lib.hid (A_g0.out.below hb)
  clear hb
  have c_aS_0 : w6.cell? ⟨w.heap.size, 0, none⟩ = some d1_0 := cur_cell K_aS.out.now 0
  have c_aS_1 : w6.cell? ⟨w.heap.size, 1, none⟩ = some d1_1 := cur_cell K_aS.out.now 1
  have c_aS_2 : w6.cell? ⟨w.heap.size, 2, none⟩ = some d1_2 := cur_cell K_aS.out.now 2
  have c_x1_0 : w6.cell? ⟨w4.heap.size, 0, none⟩ = some (.int .i64 x1z0) := cur_cell K_x1.out.now 0
  have c_x1_1 : w6.cell? ⟨w4.heap.size, 1, none⟩ = some (.slice x1a1 x1n1 x1c1) := cur_cell K_x1.out.now 1
  have c_x1_2 : w6.cell? ⟨w4.heap.size, 2, none⟩ = some (.slice x1a2 x1n2 x1c2) := cur_cell K_x1.out.now 2
  go_wp2_with fail
  replace B := Lib.hid (below_drew B.out)
  replace R_aS := Lib.hid R_aS.out.drew
  replace K_aS := Lib.hid K_aS.out.drew
  replace A_w0 := Lib.hid A_w0.out.drew
  replace A_x1 := Lib.hid A_x1.out.drew
  replace K_x1 := Lib.hid K_x1.out.drew
  replace A_g0 := Lib.hid A_g0.out.drew
  go_region_held3 (fun w' => w'.cell? ⟨w.heap.size, 0, none⟩ = some d1_0 ∧ w'.cell? ⟨w.heap.size, 1, none⟩ = some d1_1 ∧ w'.cell? ⟨w.heap.size, 2, none⟩ = some d1_2 ∧ w'.cell? ⟨w4.heap.size, 0, none⟩ = some (.int .i64 x1z0) ∧ w'.cell? ⟨w4.heap.size, 1, none⟩ = some (.slice x1a1 x1n1 x1c1) ∧ w'.cell? ⟨w4.heap.size, 2, none⟩ = some (.slice x1a2 x1n2 x1c2))
    (first | go_keep | exact ⟨cur_cell K_aS.out.now 0, cur_cell K_aS.out.now 1, cur_cell K_aS.out.now 2, cur_cell K_x1.out.now 0, cur_cell K_x1.out.now 1, cur_cell K_x1.out.now 2⟩)
    (first
      | (go_at_call 41; refine (uToPlanes d1_0 d1_1 d1_2 m1 _ hs1 R_aS.out.now).mono ?_; rintro e w7 ⟨tt8_0, tt8_1, tt8_2, rfl, ho, hb⟩; have A_tt := Lib.hid (ho.lies (Nat.le_refl _)); have s_w7 : w6.heap.size ≤ w7.heap.size := (by have := hb.size; simpa only [size_box, size_drew] using this); replace B := Lib.hid (below_seq B.out hb); replace R_aS := Lib.hid (R_aS.out.below hb); replace K_aS := Lib.hid (K_aS.out.below hb); replace A_w0 := Lib.hid (A_w0.out.below hb); replace A_x1 := Lib.hid (A_x1.out.below hb); replace K_x1 := Lib.hid (K_x1.out.below hb); replace A_g0 := Lib.hid (A_g0.out.below hb); clear ho hb)
      | (go_at_call 34; refine (uEqPlanes (.int .i64 x1z0) (.slice x1a1 x1n1 x1c1) (.slice x1a2 x1n2 x1c2) tt8_0 tt8_1 tt8_2 m1 _ A_x1.out.now.read A_tt.out.now.read).mono ?_; rintro e w8 ⟨rfl, hb⟩; have s_w8 : w7.heap.size ≤ w8.heap.size := hb.size; replace B := Lib.hid (below_seq B.out hb); replace R_aS := Lib.hid (R_aS.out.below hb); replace K_aS := Lib.hid (K_aS.out.below hb); replace A_w0 := Lib.hid (A_w0.out.below hb); replace A_x1 := Lib.hid (A_x1.out.below hb); replace K_x1 := Lib.hid (K_x1.out.below hb); replace A_g0 := Lib.hid (A_g0.out.below hb); clear hb A_tt))
  clear c_aS_0 c_aS_1 c_aS_2 c_x1_0 c_x1_1 c_x1_2
  have c_aS_0 : w8.cell? ⟨w.heap.size, 0, none⟩ = some d1_0 := cur_cell K_aS.out.now 0
  have c_aS_1 : w8.cell? ⟨w.heap.size, 1, none⟩ = some d1_1 := cur_cell K_aS.out.now 1
  have c_aS_2 : w8.cell? ⟨w.heap.size, 2, none⟩ = some d1_2 := cur_cell K_aS.out.now 2
  have c_x1_0 : w8.cell? ⟨w4.heap.size, 0, none⟩ = some (.int .i64 x1z0) := cur_cell K_x1.out.now 0
  have c_x1_1 : w8.cell? ⟨w4.heap.size, 1, none⟩ = some (.slice x1a1 x1n1 x1c1) := cur_cell K_x1.out.now 1
  have c_x1_2 : w8.cell? ⟨w4.heap.size, 2, none⟩ = some (.slice x1a2 x1n2 x1c2) := cur_cell K_x1.out.now 2
  go_wp2_with fail
  clear c_aS_0 c_aS_1 c_aS_2 c_x1_0 c_x1_1 c_x1_2
  refine (uMarkPlanes w3.heap.size w4.heap.size 1 (.int .i64 x1z0) (.slice x1a1 x1n1 x1c1) (.slice x1a2 x1n2 x1c2) m1 _ (by omega) A_x1.out.top A_x1.out.now).mono ?_
  rintro e w9 ⟨k9, rfl, hk, ho, hc⟩
  have bd_k9 : k9 ≤ 2000000000000 := by omega
  have HK_k9 := Lib.hid hk
  have s_w9 : w8.heap.size ≤ w9.heap.size := by have := hc.size; simpa only [size_box, size_drew] using this
  have ho_t := A_x1.out.top
  clear A_x1
  replace B := Lib.hid (hc.below B.out (by have := B0s; omega))
  replace R_aS := Lib.hid (R_aS.out.chg hc (by have := B0s; omega))
  replace K_aS := Lib.hid (K_aS.out.chg hc (by have := B0s; omega))
  replace A_w0 := Lib.hid (A_w0.out.chg hc (by have := B0s; omega))
  replace K_x1 := Lib.hid (K_x1.out.chg hc (by have := B0s; omega))
  replace A_g0 := Lib.hid (A_g0.out.chg hc (by have := B0s; omega))
  have A_x1 := Lib.hid (ho.lies (Nat.le_trans ho_t s_w9))
  clear hk ho hc ho_t
  have c_aS_0 : w9.cell? ⟨w.heap.size, 0, none⟩ = some d1_0 := cur_cell K_aS.out.now 0
  have c_aS_1 : w9.cell? ⟨w.heap.size, 1, none⟩ = some d1_1 := cur_cell K_aS.out.now 1
  have c_aS_2 : w9.cell? ⟨w.heap.size, 2, none⟩ = some d1_2 := cur_cell K_aS.out.now 2
  have c_x1_0 : w9.cell? ⟨w4.heap.size, 0, none⟩ = some (.int .i64 x1z0) := cur_cell K_x1.out.now 0
  have c_x1_1 : w9.cell? ⟨w4.heap.size, 1, none⟩ = some (.slice x1a1 x1n1 x1c1) := cur_cell K_x1.out.now 1
  have c_x1_2 : w9.cell? ⟨w4.heap.size, 2, none⟩ = some (.slice x1a2 x1n2 x1c2) := cur_cell K_x1.out.now 2
  go_wp2_with fail
  clear c_aS_0 c_aS_1 c_aS_2 c_x1_0 c_x1_1 c_x1_2
  refine (uEqIntS (.slice g0_a0 g0_n0 g0_c0) (.slice w0_a0 w0_n0 w0_c0) (batchM m0.data.toList m1) _ A_g0.out.now.read A_w0.out.now.read).mono ?_
  rintro e w10 ⟨rfl, hb⟩
  have s_w10 : w9.heap.size ≤ w10.heap.size := by have := hb.size; simpa only [size_box, size_drew] using this
  replace B := Lib.hid (below_seq B.out hb)
  replace R_aS := Lib.hid (R_aS.out.below hb)
  replace K_aS := Lib.hid (K_aS.out.below hb)
  replace A_w0 := Lib.hid (A_w0.out.below hb)
  replace K_x1 := Lib.hid (K_x1.out.below hb)
  replace A_g0 := Lib.hid (A_g0.out.below hb)
  replace A_x1 := Lib.hid (A_x1.out.below hb)
  clear hb
  have c_aS_0 : w10.cell? ⟨w.heap.size, 0, none⟩ = some d1_0 := cur_cell K_aS.out.now 0
  have c_aS_1 : w10.cell? ⟨w.heap.size, 1, none⟩ = some d1_1 := cur_cell K_aS.out.now 1
  have c_aS_2 : w10.cell? ⟨w.heap.size, 2, none⟩ = some d1_2 := cur_cell K_aS.out.now 2
  have c_x1_0 : w10.cell? ⟨w4.heap.size, 0, none⟩ = some (.int .i64 x1z0) := cur_cell K_x1.out.now 0
  have c_x1_1 : w10.cell? ⟨w4.heap.size, 1, none⟩ = some (.slice x1a1 x1n1 x1c1) := cur_cell K_x1.out.now 1
  have c_x1_2 : w10.cell? ⟨w4.heap.size, 2, none⟩ = some (.slice x1a2 x1n2 x1c2) := cur_cell K_x1.out.now 2
  go_wp2_with fail
  clear c_aS_0 c_aS_1 c_aS_2 c_x1_0 c_x1_1 c_x1_2
  refine (uMarkIntS (w4.heap.size + 1) w5.heap.size 1 (.slice g0_a0 g0_n0 g0_c0) (batchM m0.data.toList m1) _ (by have := bd_g0; omega) A_g0.out.now).mono ?_
  rintro e w11 ⟨k11, rfl, hk, ho, hc⟩
  have bd_k11 : k11 ≤ 2000000000000 := by have := bd_g0; omega
  have HK_k11 := Lib.hid hk
  have s_w11 : w10.heap.size ≤ w11.heap.size := by have := hc.size; simpa only [size_box, size_drew] using this
  have ho_t := A_g0.out.top
  clear A_g0
  replace B := Lib.hid (hc.below B.out (by have := B0s; omega))
  replace R_aS := Lib.hid (R_aS.out.chg hc (by have := B0s; omega))
  replace K_aS := Lib.hid (K_aS.out.chg hc (by have := B0s; omega))
  replace A_w0 := Lib.hid (A_w0.out.chg hc (by have := B0s; omega))
  replace K_x1 := Lib.hid (K_x1.out.chg hc (by have := B0s; omega))
  replace A_x1 := Lib.hid (A_x1.out.chg hc (by have := B0s; omega))
  have A_g0 := Lib.hid (ho.lies (Nat.le_trans ho_t s_w11))
  clear hk ho hc ho_t
  have c_aS_0 : w11.cell? ⟨w.heap.size, 0, none⟩ = some d1_0 := cur_cell K_aS.out.now 0
  have c_aS_1 : w11.cell? ⟨w.heap.size, 1, none⟩ = some d1_1 := cur_cell K_aS.out.now 1
  have c_aS_2 : w11.cell? ⟨w.heap.size, 2, none⟩ = some d1_2 := cur_cell K_aS.out.now 2
  have c_x1_0 : w11.cell? ⟨w4.heap.size, 0, none⟩ = some (.int .i64 x1z0) := cur_cell K_x1.out.now 0
  have c_x1_1 : w11.cell? ⟨w4.heap.size, 1, none⟩ = some (.slice x1a1 x1n1 x1c1) := cur_cell K_x1.out.now 1
  have c_x1_2 : w11.cell? ⟨w4.heap.size, 2, none⟩ = some (.slice x1a2 x1n2 x1c2) := cur_cell K_x1.out.now 2
  go_wp2_with fail
  clear c_aS_0 c_aS_1 c_aS_2 c_x1_0 c_x1_1 c_x1_2
  refine (uHeldIntS 1 (.slice g0_a0 g0_n0 g0_c0) (batchM m0.data.toList m1) _ (by have := HK_k11.out; omega) A_g0.out.now.read).mono ?_
  rintro e w12 ⟨k12, rfl, hk, hb⟩
  have hkk : k12 = k11 := by have := HK_k11.out; omega
  rw [hkk]
  clear hk hkk
  have s_w12 : w11.heap.size ≤ w12.heap.size := by have := hb.size; simpa only [size_box, size_drew] using this
  replace B := Lib.hid (below_seq B.out hb)
  replace R_aS := Lib.hid (R_aS.out.below hb)
  replace K_aS := Lib.hid (K_aS.out.below hb)
  replace A_w0 := Lib.hid (A_w0.out.below hb)
  replace K_x1 := Lib.hid (K_x1.out.below hb)
  replace A_x1 := Lib.hid (A_x1.out.below hb)
  replace A_g0 := Lib.hid (A_g0.out.below hb)
  clear hb
  have c_aS_0 : w12.cell? ⟨w.heap.size, 0, none⟩ = some d1_0 := cur_cell K_aS.out.now 0
  have c_aS_1 : w12.cell? ⟨w.heap.size, 1, none⟩ = some d1_1 := cur_cell K_aS.out.now 1
  have c_aS_2 : w12.cell? ⟨w.heap.size, 2, none⟩ = some d1_2 := cur_cell K_aS.out.now 2
  have c_x1_0 : w12.cell? ⟨w4.heap.size, 0, none⟩ = some (.int .i64 x1z0) := cur_cell K_x1.out.now 0
  have c_x1_1 : w12.cell? ⟨w4.heap.size, 1, none⟩ = some (.slice x1a1 x1n1 x1c1) := cur_cell K_x1.out.now 1
  have c_x1_2 : w12.cell? ⟨w4.heap.size, 2, none⟩ = some (.slice x1a2 x1n2 x1c2) := cur_cell K_x1.out.now 2
  go_wp2_with fail
  clear c_aS_0 c_aS_1 c_aS_2 c_x1_0 c_x1_1 c_x1_2
  refine (uToPlanes d1_0 d1_1 d1_2 m1 _ hs1 R_aS.out.now).mono ?_
  rintro e w13 ⟨t12_0, t12_1, t12_2, rfl, ho, hb⟩
  obtain ⟨t12_z0, t12_a1, t12_n1, t12_c1, t12_a2, t12_n2, t12_c2, rfl, rfl, rfl⟩ := ho.shape
  have s_w13 : w12.heap.size ≤ w13.heap.size := by have := hb.size; simpa only [size_box, size_drew] using this
  replace B := Lib.hid (below_seq B.out hb)
  replace R_aS := Lib.hid (R_aS.out.below hb)
  replace K_aS := Lib.hid (K_aS.out.below hb)
  replace A_w0 := Lib.hid (A_w0.out.below hb)
  replace K_x1 := Lib.hid (K_x1.out.below hb)
  replace A_x1 := Lib.hid (A_x1.out.below hb)
  replace A_g0 := Lib.hid (A_g0.out.below hb)
  have A_t12_ := Lib.hid (ho.lies (Nat.le_refl _))
  clear ho hb
  have c_aS_0 : w13.cell? ⟨w.heap.size, 0, none⟩ = some d1_0 := cur_cell K_aS.out.now 0
  have c_aS_1 : w13.cell? ⟨w.heap.size, 1, none⟩ = some d1_1 := cur_cell K_aS.out.now 1
  have c_aS_2 : w13.cell? ⟨w.heap.size, 2, none⟩ = some d1_2 := cur_cell K_aS.out.now 2
  have c_x1_0 : w13.cell? ⟨w4.heap.size, 0, none⟩ = some (.int .i64 x1z0) := cur_cell K_x1.out.now 0
  have c_x1_1 : w13.cell? ⟨w4.heap.size, 1, none⟩ = some (.slice x1a1 x1n1 x1c1) := cur_cell K_x1.out.now 1
  have c_x1_2 : w13.cell? ⟨w4.heap.size, 2, none⟩ = some (.slice x1a2 x1n2 x1c2) := cur_cell K_x1.out.now 2
  go_wp2_with fail
  clear c_aS_0 c_aS_1 c_aS_2 c_x1_0 c_x1_1 c_x1_2
  refine (uImplBatchCapped m0 (.int .i64 t12_z0) (.slice t12_a1 t12_n1 t12_c1) (.slice t12_a2 t12_n2 t12_c2) m1 _ A_t12_.out.now.read b0 b1).mono ?_
  rintro e w14 ⟨h0_0, rfl, ho_h0, hb⟩
  obtain ⟨h0_a0, h0_n0, h0_c0, rfl⟩ := ho_h0.shape
  clear A_t12_
  have s_w14 : w13.heap.size ≤ w14.heap.size := by have := hb.size; simpa only [size_box, size_drew] using this
  replace B := Lib.hid (below_seq B.out hb)
  replace R_aS := Lib.hid (R_aS.out.below hb)
  replace K_aS := Lib.hid (K_aS.out.below hb)
  replace A_w0 := Lib.hid (A_w0.out.below hb)
  replace K_x1 := Lib.hid (K_x1.out.below hb)
  replace A_x1 := Lib.hid (A_x1.out.below hb)
  replace A_g0 := Lib.hid (A_g0.out.below hb)
  have A_h0 := Lib.hid (ho_h0.lies (Nat.le_refl _))
  clear ho_h0 hb
  have c_aS_0 : w14.cell? ⟨w.heap.size, 0, none⟩ = some d1_0 := cur_cell K_aS.out.now 0
  have c_aS_1 : w14.cell? ⟨w.heap.size, 1, none⟩ = some d1_1 := cur_cell K_aS.out.now 1
  have c_aS_2 : w14.cell? ⟨w.heap.size, 2, none⟩ = some d1_2 := cur_cell K_aS.out.now 2
  have c_x1_0 : w14.cell? ⟨w4.heap.size, 0, none⟩ = some (.int .i64 x1z0) := cur_cell K_x1.out.now 0
  have c_x1_1 : w14.cell? ⟨w4.heap.size, 1, none⟩ = some (.slice x1a1 x1n1 x1c1) := cur_cell K_x1.out.now 1
  have c_x1_2 : w14.cell? ⟨w4.heap.size, 2, none⟩ = some (.slice x1a2 x1n2 x1c2) := cur_cell K_x1.out.now 2
  go_wp2_with fail
  clear c_aS_0 c_aS_1 c_aS_2 c_x1_0 c_x1_1 c_x1_2
  refine (uEqIntS (.slice h0_a0 h0_n0 h0_c0) (.slice w0_a0 w0_n0 w0_c0) (batchM m0.data.toList m1) _ A_h0.out.now.read A_w0.out.now.read).mono ?_
  rintro e w15 ⟨rfl, hb⟩
  have s_w15 : w14.heap.size ≤ w15.heap.size := by have := hb.size; simpa only [size_box, size_drew] using this
  replace B := Lib.hid (below_seq B.out hb)
  replace R_aS := Lib.hid (R_aS.out.below hb)
  replace K_aS := Lib.hid (K_aS.out.below hb)
  replace A_w0 := Lib.hid (A_w0.out.below hb)
  replace K_x1 := Lib.hid (K_x1.out.below hb)
  replace A_x1 := Lib.hid (A_x1.out.below hb)
  replace A_g0 := Lib.hid (A_g0.out.below hb)
  replace A_h0 := Lib.hid (A_h0.out.below hb)
  clear hb
  have c_aS_0 : w15.cell? ⟨w.heap.size, 0, none⟩ = some d1_0 := cur_cell K_aS.out.now 0
  have c_aS_1 : w15.cell? ⟨w.heap.size, 1, none⟩ = some d1_1 := cur_cell K_aS.out.now 1
  have c_aS_2 : w15.cell? ⟨w.heap.size, 2, none⟩ = some d1_2 := cur_cell K_aS.out.now 2
  have c_x1_0 : w15.cell? ⟨w4.heap.size, 0, none⟩ = some (.int .i64 x1z0) := cur_cell K_x1.out.now 0
  have c_x1_1 : w15.cell? ⟨w4.heap.size, 1, none⟩ = some (.slice x1a1 x1n1 x1c1) := cur_cell K_x1.out.now 1
  have c_x1_2 : w15.cell? ⟨w4.heap.size, 2, none⟩ = some (.slice x1a2 x1n2 x1c2) := cur_cell K_x1.out.now 2
  go_wp2_with fail
  clear c_aS_0 c_aS_1 c_aS_2 c_x1_0 c_x1_1 c_x1_2
  refine (uHeldIntS 1 (.slice g0_a0 g0_n0 g0_c0) (batchM m0.data.toList m1) _ (by have := HK_k11.out; omega) A_g0.out.now.read).mono ?_
  rintro e w16 ⟨k16, rfl, hk, hb⟩
  have hkk : k16 = k11 := by have := HK_k11.out; omega
  rw [hkk]
  clear hk hkk
  have s_w16 : w15.heap.size ≤ w16.heap.size := by have := hb.size; simpa only [size_box, size_drew] using this
  replace B := Lib.hid (below_seq B.out hb)
  replace R_aS := Lib.hid (R_aS.out.below hb)
  replace K_aS := Lib.hid (K_aS.out.below hb)
  replace A_w0 := Lib.hid (A_w0.out.below hb)
  replace K_x1 := Lib.hid (K_x1.out.below hb)
  replace A_x1 := Lib.hid (A_x1.out.below hb)
  replace A_g0 := Lib.hid (A_g0.out.below hb)
  replace A_h0 := Lib.hid (A_h0.out.below hb)
  clear hb
  have c_aS_0 : w16.cell? ⟨w.heap.size, 0, none⟩ = some d1_0 := cur_cell K_aS.out.now 0
  have c_aS_1 : w16.cell? ⟨w.heap.size, 1, none⟩ = some d1_1 := cur_cell K_aS.out.now 1
  have c_aS_2 : w16.cell? ⟨w.heap.size, 2, none⟩ = some d1_2 := cur_cell K_aS.out.now 2
  have c_x1_0 : w16.cell? ⟨w4.heap.size, 0, none⟩ = some (.int .i64 x1z0) := cur_cell K_x1.out.now 0
  have c_x1_1 : w16.cell? ⟨w4.heap.size, 1, none⟩ = some (.slice x1a1 x1n1 x1c1) := cur_cell K_x1.out.now 1
  have c_x1_2 : w16.cell? ⟨w4.heap.size, 2, none⟩ = some (.slice x1a2 x1n2 x1c2) := cur_cell K_x1.out.now 2
  go_wp2
  go_ret
  exact ⟨rfl, B.out⟩

set_option maxRecDepth 100000 in
theorem lifted (os : Os) (started : os.Started) (H : Type) (enc : TypeId × Value → H) :
    ReturnsInHanded {} Try.checked os 13 .any (Rows.fnExactBatchCappedSpec.pre6 enc Try.prog Try.f13 Rows.fnExactBatchCappedRow.domain false) (Rows.fnExactBatchCappedSpec.post enc Try.prog Try.f13 false true false false) := by
  refine returnsInHanded_of_change (C := Try.checked) own started (by kernel_rfl) Try.func13
    (ChangeSpec.witness6 (enc := enc) (C := Try.checked) false ⟨#[], #[.string ⟨#[]⟩, .agg #[.int .i64 0, .slice none 0 0, .slice none 0 0]], []⟩ 8 (by kernel_rfl) (by kernel_rfl) (by kernel_rfl) (by kernel_rfl)) ?_
  intro W base args ds gs before hval0 hW hcnd _
  have hval : ∀ (j : Nat) t v, Try.f13.params[j]? = some t → args[j]? = some v → Value.okWide Try.prog W .any base t v := hval0
  have hW' := hW
  obtain ⟨p, q, hA0, hV, rfl, hfz, hnd⟩ := hW
  have hA : DataW.TrodAll enc Try.prog W 0 (fun _ => true) true Try.f13.params.toList args.toList ds p := hA0
  rw [Try.params13] at hA hval
  obtain ⟨v0, vs0, d0, ds0, p0, q0, hargs, rfl, rfl, h0, r0⟩ := trodAll_cons hA
  obtain ⟨v1, vs1, d1, ds1, p1, q1, rfl, rfl, rfl, h1, r1⟩ := trodAll_cons r0
  obtain ⟨rfl, rfl, rfl⟩ := trodAll_nil r1
  obtain rfl : args = #[v0, v1] := by cases args; simp_all
  obtain ⟨rfl, rfl⟩ := trodVars_none hV
  have lt0 : ∀ x ∈ p0, x.block < W.heap.size := by obtain ⟨m, hm⟩ := h0; exact DataW.trod_lt m _ _ _ hm
  have lt1 : ∀ x ∈ p1, x.block < W.heap.size := by obtain ⟨m, hm⟩ := h1; exact DataW.trod_lt m _ _ _ hm
  clear hA0 hval0
  refine (walk v0 v1 W ⟨⟨base, hval 0 9 v0 rfl rfl⟩, Rd.of h0⟩ ⟨⟨base, hval 1 52 v1 rfl rfl⟩, Rd.of h1⟩).mono fun e W' ⟨he, bel⟩ => ?_
  subst he
  exact ⟨_, rfl, _, _, _, [], _, [], hW', trodAll_mk1 (shut_bool Try.underlying4 _), (trodAll_cons_mk (Below.trod laidOut (by kernel_rfl) (of_decide_eq_true (by kernel_rfl)) h0 bel lt0) (trodAll_cons_mk (Below.trod laidOut (by kernel_rfl) (of_decide_eq_true (by kernel_rfl)) h1 bel lt1) trodAll_mk0)), rfl, bel.frame _, fun h => by cases h⟩

theorem over : Rows.fnExactBatchCappedRow.holds Try.pinned (OpenSpec.ofChange Rows.fnExactBatchCappedSpec) :=
  OpenClaim.holds_of_wide 13 Try.f13 rfl rfl rfl rfl rfl rfl rfl ⟨rfl, rfl, rfl, rfl, rfl⟩ rfl rfl rfl rfl rfl (by kernel_rfl) Try.func13 (by kernel_rfl)
    (of_decide_eq_true (by kernel_rfl)) (by unfold Func.isWrapper; first | (rw [if_pos (by decide +kernel)]; kernel_rfl) | (rw [if_neg (by decide +kernel)]; exact ⟨rfl, rfl⟩))
    (fun os started H enc _ => lifted os started H enc)
end Go.Proofs.Ytfdlmpjccoaejaa.fnExactBatchCapped
namespace Go.Proofs.Ytfdlmpjccoaejaa
/-- BatchCapped answers as its model, at every argument. -/
theorem fnExactBatchCapped_holds : Rows.FnExactBatchCappedSaid := fnExactBatchCapped.over
end Go.Proofs.Ytfdlmpjccoaejaa
