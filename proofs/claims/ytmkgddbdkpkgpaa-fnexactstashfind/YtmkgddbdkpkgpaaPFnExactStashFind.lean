/- For every argument: the law FnExactStashFind answers true, that is, StashFind answers as its model and writes into no argument; its answer owns its memory. No condition. -/
import Derived.Test.YtmkgddbdkpkgpaaJS1
import Derived.Test.YtmkgddbdkpkgpaaJS8
import Derived.Test.YtmkgddbdkpkgpaaJS47
import Derived.Test.YtmkgddbdkpkgpaaJS26
import Derived.Test.YtmkgddbdkpkgpaaJS50
import Derived.Deep.RegionHeld3
namespace Go.Proofs.Ytmkgddbdkpkgpaa.fnExactStashFind
open Go.ChangeShapes Go.WideShapes Go.ChangeAt Go.RowKit
set_option linter.unusedVariables false
set_option linter.unusedSimpArgs false

set_option maxRecDepth 100000 in
set_option maxHeartbeats 4000000 in
theorem walk (v0 : Value) (v1 : Value) (w : World) (h0 : Arg w 47 v0) (h1 : Arg w 3 v1) :
    Calls Try.prog 7 #[v0, v1] w fun e w' => e = .returned (.bool true) ∧ Below w.heap.size w w' := by
  obtain ⟨d0_0, m0, rfl, i0, b0⟩ := argBlockS h0
  have R_aList := Lib.hid i0.lies
  obtain ⟨a0, cap0, rfl, _, hx0, _⟩ := blockSIn_at i0
  clear i0
  clear h0
  obtain ⟨m1, rfl, b1⟩ := arg_int h1
  clear h1
  have B : Hid (Below w.heap.size w w) := Lib.hid (Below.refl _ _)
  have B0s : 0 ≤ w.heap.size := Nat.zero_le _
  by_cases g0 : 1048576 - (szBlockS m0 : Int) < 0
  · go_enter Try.func7, Try.ntmps7
    go_wp2_with fail
    refine (uSzBlockS (.slice a0 m0.length cap0) m0 1048576 _ (by omega) (by omega) R_aList.out.now).mono ?_
    rintro e w1 ⟨rfl, hb⟩
    rw [szI_no (by omega)]
    replace B := Lib.hid (below_seq B.out hb)
    replace R_aList := Lib.hid (R_aList.out.below hb)
    clear hb
    go_wp2
    go_ret
    exact ⟨rfl, B.out⟩
  have hs0 : szBlockS m0 ≤ 1048576 := by omega
  have hm0 : mcBlockS m0 ≤ 1000000000000 := mcBlockS_le hs0
  go_enter Try.func7, Try.ntmps7
  go_wp2_with fail
  refine (uSzBlockS (.slice a0 m0.length cap0) m0 1048576 _ (by omega) (by omega) R_aList.out.now).mono ?_
  rintro e w1 ⟨rfl, hb⟩
  rw [szI_yes (by omega)]
  have s_w1 : w.heap.size ≤ w1.heap.size := by have := hb.size; simpa only [size_box, size_drew] using this
  replace B := Lib.hid (below_seq B.out hb)
  replace R_aList := Lib.hid (R_aList.out.below hb)
  clear hb
  go_wp2_with fail
  refine (uToBlockS (.slice a0 m0.length cap0) m0 _ hs0 R_aList.out.now).mono ?_
  rintro e w2 ⟨t1_0, rfl, ho, hb⟩
  obtain ⟨t1_a0, t1_n0, t1_c0, rfl⟩ := ho.shape
  have s_w2 : w1.heap.size ≤ w2.heap.size := by have := hb.size; simpa only [size_box, size_drew] using this
  replace B := Lib.hid (below_seq B.out hb)
  replace R_aList := Lib.hid (R_aList.out.below hb)
  have A_t1_ := Lib.hid (ho.lies (Nat.le_refl _))
  clear ho hb
  go_wp2_with fail
  refine (uSpecStashFind (.slice t1_a0 t1_n0 t1_c0) m0 m1 _ A_t1_.out.now.read b1 hs0).mono ?_
  rintro e w3 ⟨w0_0, w0_1, w0_2, rfl, ho_w0, hb⟩
  obtain ⟨w0_z0, w0_z1, w0_a2, w0_n2, w0_c2, rfl, rfl, rfl⟩ := ho_w0.shape
  clear A_t1_
  have s_w3 : w2.heap.size ≤ w3.heap.size := by have := hb.size; simpa only [size_box, size_drew] using this
  replace B := Lib.hid (below_seq B.out hb)
  replace R_aList := Lib.hid (R_aList.out.below hb)
  have A_w0 := Lib.hid (ho_w0.lies (Nat.le_refl _))
  clear ho_w0 hb
  replace B := Lib.hid (below_box B.out (.cells #[.int .i64 w0_z0, .int .i64 w0_z1, .slice w0_a2 w0_n2 w0_c2] 26))
  replace R_aList := Lib.hid (R_aList.out.box (.cells #[.int .i64 w0_z0, .int .i64 w0_z1, .slice w0_a2 w0_n2 w0_c2] 26))
  replace A_w0 := Lib.hid (A_w0.out.box (.cells #[.int .i64 w0_z0, .int .i64 w0_z1, .slice w0_a2 w0_n2 w0_c2] 26))
  have K_w0 := Lib.hid (lies_box w3 (.cells #[.int .i64 w0_z0, .int .i64 w0_z1, .slice w0_a2 w0_n2 w0_c2] 26))
  have c_w0_0 : (w3.alloc (.cells #[.int .i64 w0_z0, .int .i64 w0_z1, .slice w0_a2 w0_n2 w0_c2] 26)).cell? ⟨w3.heap.size, 0, none⟩ = some (.int .i64 w0_z0) := cur_cell K_w0.out.now 0
  have c_w0_1 : (w3.alloc (.cells #[.int .i64 w0_z0, .int .i64 w0_z1, .slice w0_a2 w0_n2 w0_c2] 26)).cell? ⟨w3.heap.size, 1, none⟩ = some (.int .i64 w0_z1) := cur_cell K_w0.out.now 1
  have c_w0_2 : (w3.alloc (.cells #[.int .i64 w0_z0, .int .i64 w0_z1, .slice w0_a2 w0_n2 w0_c2] 26)).cell? ⟨w3.heap.size, 2, none⟩ = some (.slice w0_a2 w0_n2 w0_c2) := cur_cell K_w0.out.now 2
  go_wp2_with fail
  clear c_w0_0 c_w0_1 c_w0_2
  refine (uToBlockS (.slice a0 m0.length cap0) m0 _ hs0 R_aList.out.now).mono ?_
  rintro e w4 ⟨x00, rfl, ho, hb⟩
  obtain ⟨x0a0, x0n0, x0c0, rfl⟩ := ho.shape
  have s_w4 : w3.heap.size + 1 ≤ w4.heap.size := by have := hb.size; simpa only [size_box, size_drew] using this
  replace B := Lib.hid (below_seq B.out hb)
  replace R_aList := Lib.hid (R_aList.out.below hb)
  replace A_w0 := Lib.hid (A_w0.out.below hb)
  replace K_w0 := Lib.hid (K_w0.out.below hb)
  simp only [size_box] at ho
  have A_x0 := Lib.hid (ho.lies (Nat.le_refl _))
  clear ho hb
  have c_w0_0 : w4.cell? ⟨w3.heap.size, 0, none⟩ = some (.int .i64 w0_z0) := cur_cell K_w0.out.now 0
  have c_w0_1 : w4.cell? ⟨w3.heap.size, 1, none⟩ = some (.int .i64 w0_z1) := cur_cell K_w0.out.now 1
  have c_w0_2 : w4.cell? ⟨w3.heap.size, 2, none⟩ = some (.slice w0_a2 w0_n2 w0_c2) := cur_cell K_w0.out.now 2
  go_wp2_with fail
  clear c_w0_0 c_w0_1 c_w0_2
  refine (uImplStashFind (.slice x0a0 x0n0 x0c0) m0 m1 _ A_x0.out.now.read b1 hs0).mono ?_
  rintro e w5 ⟨g0_0, g0_1, g0_2, rfl, ho_g0, hb⟩
  obtain ⟨g0_z0, g0_z1, g0_a2, g0_n2, g0_c2, rfl, rfl, rfl⟩ := ho_g0.shape
  have s_w5 : w4.heap.size ≤ w5.heap.size := by have := hb.size; simpa only [size_box, size_drew] using this
  replace B := Lib.hid (below_seq B.out hb)
  replace R_aList := Lib.hid (R_aList.out.below hb)
  replace A_w0 := Lib.hid (A_w0.out.below hb)
  replace K_w0 := Lib.hid (K_w0.out.below hb)
  replace A_x0 := Lib.hid (A_x0.out.below hb)
  have A_g0 := Lib.hid (ho_g0.lies (Nat.le_refl _))
  clear ho_g0 hb
  replace B := Lib.hid (below_box B.out (.cells #[.int .i64 g0_z0, .int .i64 g0_z1, .slice g0_a2 g0_n2 g0_c2] 26))
  replace R_aList := Lib.hid (R_aList.out.box (.cells #[.int .i64 g0_z0, .int .i64 g0_z1, .slice g0_a2 g0_n2 g0_c2] 26))
  replace A_w0 := Lib.hid (A_w0.out.box (.cells #[.int .i64 g0_z0, .int .i64 g0_z1, .slice g0_a2 g0_n2 g0_c2] 26))
  replace K_w0 := Lib.hid (K_w0.out.box (.cells #[.int .i64 g0_z0, .int .i64 g0_z1, .slice g0_a2 g0_n2 g0_c2] 26))
  replace A_x0 := Lib.hid (A_x0.out.box (.cells #[.int .i64 g0_z0, .int .i64 g0_z1, .slice g0_a2 g0_n2 g0_c2] 26))
  replace A_g0 := Lib.hid (A_g0.out.box (.cells #[.int .i64 g0_z0, .int .i64 g0_z1, .slice g0_a2 g0_n2 g0_c2] 26))
  have K_g0 := Lib.hid (lies_box w5 (.cells #[.int .i64 g0_z0, .int .i64 g0_z1, .slice g0_a2 g0_n2 g0_c2] 26))
  have bd_g0 : szBlock (sFindM m0 m1) ≤ 1000000000000 := sFindM_bd m0 m1 hs0
  have c_w0_0 : (w5.alloc (.cells #[.int .i64 g0_z0, .int .i64 g0_z1, .slice g0_a2 g0_n2 g0_c2] 26)).cell? ⟨w3.heap.size, 0, none⟩ = some (.int .i64 w0_z0) := cur_cell K_w0.out.now 0
  have c_w0_1 : (w5.alloc (.cells #[.int .i64 g0_z0, .int .i64 g0_z1, .slice g0_a2 g0_n2 g0_c2] 26)).cell? ⟨w3.heap.size, 1, none⟩ = some (.int .i64 w0_z1) := cur_cell K_w0.out.now 1
  have c_w0_2 : (w5.alloc (.cells #[.int .i64 g0_z0, .int .i64 g0_z1, .slice g0_a2 g0_n2 g0_c2] 26)).cell? ⟨w3.heap.size, 2, none⟩ = some (.slice w0_a2 w0_n2 w0_c2) := cur_cell K_w0.out.now 2
  have c_g0_0 : (w5.alloc (.cells #[.int .i64 g0_z0, .int .i64 g0_z1, .slice g0_a2 g0_n2 g0_c2] 26)).cell? ⟨w5.heap.size, 0, none⟩ = some (.int .i64 g0_z0) := cur_cell K_g0.out.now 0
  have c_g0_1 : (w5.alloc (.cells #[.int .i64 g0_z0, .int .i64 g0_z1, .slice g0_a2 g0_n2 g0_c2] 26)).cell? ⟨w5.heap.size, 1, none⟩ = some (.int .i64 g0_z1) := cur_cell K_g0.out.now 1
  have c_g0_2 : (w5.alloc (.cells #[.int .i64 g0_z0, .int .i64 g0_z1, .slice g0_a2 g0_n2 g0_c2] 26)).cell? ⟨w5.heap.size, 2, none⟩ = some (.slice g0_a2 g0_n2 g0_c2) := cur_cell K_g0.out.now 2
  go_wp2_with fail
  clear c_w0_0 c_w0_1 c_w0_2 c_g0_0 c_g0_1 c_g0_2
  refine (uEqBlock (.int .i64 g0_z0) (.int .i64 g0_z1) (.slice g0_a2 g0_n2 g0_c2) (.int .i64 w0_z0) (.int .i64 w0_z1) (.slice w0_a2 w0_n2 w0_c2) (sFindM m0 m1) _ A_g0.out.now.read A_w0.out.now.read).mono ?_
  rintro e w6 ⟨rfl, hb⟩
  have s_w6 : w5.heap.size + 1 ≤ w6.heap.size := by have := hb.size; simpa only [size_box, size_drew] using this
  replace B := Lib.hid (below_seq B.out hb)
  replace R_aList := Lib.hid (R_aList.out.below hb)
  replace A_w0 := Lib.hid (A_w0.out.below hb)
  replace K_w0 := Lib.hid (K_w0.out.below hb)
  replace A_x0 := Lib.hid (A_x0.out.below hb)
  replace A_g0 := Lib.hid (A_g0.out.below hb)
  replace K_g0 := Lib.hid (K_g0.out.below hb)
  clear hb
  have c_w0_0 : w6.cell? ⟨w3.heap.size, 0, none⟩ = some (.int .i64 w0_z0) := cur_cell K_w0.out.now 0
  have c_w0_1 : w6.cell? ⟨w3.heap.size, 1, none⟩ = some (.int .i64 w0_z1) := cur_cell K_w0.out.now 1
  have c_w0_2 : w6.cell? ⟨w3.heap.size, 2, none⟩ = some (.slice w0_a2 w0_n2 w0_c2) := cur_cell K_w0.out.now 2
  have c_g0_0 : w6.cell? ⟨w5.heap.size, 0, none⟩ = some (.int .i64 g0_z0) := cur_cell K_g0.out.now 0
  have c_g0_1 : w6.cell? ⟨w5.heap.size, 1, none⟩ = some (.int .i64 g0_z1) := cur_cell K_g0.out.now 1
  have c_g0_2 : w6.cell? ⟨w5.heap.size, 2, none⟩ = some (.slice g0_a2 g0_n2 g0_c2) := cur_cell K_g0.out.now 2
  go_wp2_with fail
  clear c_w0_0 c_w0_1 c_w0_2 c_g0_0 c_g0_1 c_g0_2
  refine (uToBlockS (.slice a0 m0.length cap0) m0 _ hs0 R_aList.out.now).mono ?_
  rintro e w7 ⟨te6_0, rfl, ho, hb⟩
  obtain ⟨te6_a0, te6_n0, te6_c0, rfl⟩ := ho.shape
  have s_w7 : w6.heap.size ≤ w7.heap.size := by have := hb.size; simpa only [size_box, size_drew] using this
  replace B := Lib.hid (below_seq B.out hb)
  replace R_aList := Lib.hid (R_aList.out.below hb)
  replace A_w0 := Lib.hid (A_w0.out.below hb)
  replace K_w0 := Lib.hid (K_w0.out.below hb)
  replace A_x0 := Lib.hid (A_x0.out.below hb)
  replace A_g0 := Lib.hid (A_g0.out.below hb)
  replace K_g0 := Lib.hid (K_g0.out.below hb)
  have A_te6_ := Lib.hid (ho.lies (Nat.le_refl _))
  clear ho hb
  have c_w0_0 : w7.cell? ⟨w3.heap.size, 0, none⟩ = some (.int .i64 w0_z0) := cur_cell K_w0.out.now 0
  have c_w0_1 : w7.cell? ⟨w3.heap.size, 1, none⟩ = some (.int .i64 w0_z1) := cur_cell K_w0.out.now 1
  have c_w0_2 : w7.cell? ⟨w3.heap.size, 2, none⟩ = some (.slice w0_a2 w0_n2 w0_c2) := cur_cell K_w0.out.now 2
  have c_g0_0 : w7.cell? ⟨w5.heap.size, 0, none⟩ = some (.int .i64 g0_z0) := cur_cell K_g0.out.now 0
  have c_g0_1 : w7.cell? ⟨w5.heap.size, 1, none⟩ = some (.int .i64 g0_z1) := cur_cell K_g0.out.now 1
  have c_g0_2 : w7.cell? ⟨w5.heap.size, 2, none⟩ = some (.slice g0_a2 g0_n2 g0_c2) := cur_cell K_g0.out.now 2
  go_wp2_with fail
  clear c_w0_0 c_w0_1 c_w0_2 c_g0_0 c_g0_1 c_g0_2
  refine (uEqBlockS (.slice x0a0 x0n0 x0c0) (.slice te6_a0 te6_n0 te6_c0) m0 _ A_x0.out.now.read A_te6_.out.now.read).mono ?_
  rintro e w8 ⟨rfl, hb⟩
  have s_w8 : w7.heap.size ≤ w8.heap.size := by have := hb.size; simpa only [size_box, size_drew] using this
  replace B := Lib.hid (below_seq B.out hb)
  replace R_aList := Lib.hid (R_aList.out.below hb)
  replace A_w0 := Lib.hid (A_w0.out.below hb)
  replace K_w0 := Lib.hid (K_w0.out.below hb)
  replace A_x0 := Lib.hid (A_x0.out.below hb)
  replace A_g0 := Lib.hid (A_g0.out.below hb)
  replace K_g0 := Lib.hid (K_g0.out.below hb)
  replace A_te6_ := Lib.hid (A_te6_.out.below hb)
  clear hb
  clear A_te6_
  have c_w0_0 : w8.cell? ⟨w3.heap.size, 0, none⟩ = some (.int .i64 w0_z0) := cur_cell K_w0.out.now 0
  have c_w0_1 : w8.cell? ⟨w3.heap.size, 1, none⟩ = some (.int .i64 w0_z1) := cur_cell K_w0.out.now 1
  have c_w0_2 : w8.cell? ⟨w3.heap.size, 2, none⟩ = some (.slice w0_a2 w0_n2 w0_c2) := cur_cell K_w0.out.now 2
  have c_g0_0 : w8.cell? ⟨w5.heap.size, 0, none⟩ = some (.int .i64 g0_z0) := cur_cell K_g0.out.now 0
  have c_g0_1 : w8.cell? ⟨w5.heap.size, 1, none⟩ = some (.int .i64 g0_z1) := cur_cell K_g0.out.now 1
  have c_g0_2 : w8.cell? ⟨w5.heap.size, 2, none⟩ = some (.slice g0_a2 g0_n2 g0_c2) := cur_cell K_g0.out.now 2
  go_wp2_with fail
  clear c_w0_0 c_w0_1 c_w0_2 c_g0_0 c_g0_1 c_g0_2
  refine (uMarkBlockS (w3.heap.size + 1) w4.heap.size 1 (.slice x0a0 x0n0 x0c0) m0 _ (by omega) A_x0.out.now).mono ?_
  rintro e w9 ⟨k9, rfl, hk, ho, hc⟩
  have bd_k9 : k9 ≤ 2000000000000 := by omega
  have HK_k9 := Lib.hid hk
  have s_w9 : w8.heap.size ≤ w9.heap.size := by have := hc.size; simpa only [size_box, size_drew] using this
  have ho_t := A_x0.out.top
  clear A_x0
  replace B := Lib.hid (hc.below B.out (by have := B0s; omega))
  replace R_aList := Lib.hid (R_aList.out.chg hc (by have := B0s; omega))
  replace A_w0 := Lib.hid (A_w0.out.chg hc (by have := B0s; omega))
  replace K_w0 := Lib.hid (K_w0.out.chg hc (by have := B0s; omega))
  replace A_g0 := Lib.hid (A_g0.out.chg hc (by have := B0s; omega))
  replace K_g0 := Lib.hid (K_g0.out.chg hc (by have := B0s; omega))
  have A_x0 := Lib.hid (ho.lies (Nat.le_trans ho_t s_w9))
  clear hk ho hc ho_t
  have c_w0_0 : w9.cell? ⟨w3.heap.size, 0, none⟩ = some (.int .i64 w0_z0) := cur_cell K_w0.out.now 0
  have c_w0_1 : w9.cell? ⟨w3.heap.size, 1, none⟩ = some (.int .i64 w0_z1) := cur_cell K_w0.out.now 1
  have c_w0_2 : w9.cell? ⟨w3.heap.size, 2, none⟩ = some (.slice w0_a2 w0_n2 w0_c2) := cur_cell K_w0.out.now 2
  have c_g0_0 : w9.cell? ⟨w5.heap.size, 0, none⟩ = some (.int .i64 g0_z0) := cur_cell K_g0.out.now 0
  have c_g0_1 : w9.cell? ⟨w5.heap.size, 1, none⟩ = some (.int .i64 g0_z1) := cur_cell K_g0.out.now 1
  have c_g0_2 : w9.cell? ⟨w5.heap.size, 2, none⟩ = some (.slice g0_a2 g0_n2 g0_c2) := cur_cell K_g0.out.now 2
  go_wp2_with fail
  clear c_w0_0 c_w0_1 c_w0_2 c_g0_0 c_g0_1 c_g0_2
  refine (uEqBlock (.int .i64 g0_z0) (.int .i64 g0_z1) (.slice g0_a2 g0_n2 g0_c2) (.int .i64 w0_z0) (.int .i64 w0_z1) (.slice w0_a2 w0_n2 w0_c2) (sFindM m0 m1) _ A_g0.out.now.read A_w0.out.now.read).mono ?_
  rintro e w10 ⟨rfl, hb⟩
  have s_w10 : w9.heap.size ≤ w10.heap.size := by have := hb.size; simpa only [size_box, size_drew] using this
  replace B := Lib.hid (below_seq B.out hb)
  replace R_aList := Lib.hid (R_aList.out.below hb)
  replace A_w0 := Lib.hid (A_w0.out.below hb)
  replace K_w0 := Lib.hid (K_w0.out.below hb)
  replace A_g0 := Lib.hid (A_g0.out.below hb)
  replace K_g0 := Lib.hid (K_g0.out.below hb)
  replace A_x0 := Lib.hid (A_x0.out.below hb)
  clear hb
  have c_w0_0 : w10.cell? ⟨w3.heap.size, 0, none⟩ = some (.int .i64 w0_z0) := cur_cell K_w0.out.now 0
  have c_w0_1 : w10.cell? ⟨w3.heap.size, 1, none⟩ = some (.int .i64 w0_z1) := cur_cell K_w0.out.now 1
  have c_w0_2 : w10.cell? ⟨w3.heap.size, 2, none⟩ = some (.slice w0_a2 w0_n2 w0_c2) := cur_cell K_w0.out.now 2
  have c_g0_0 : w10.cell? ⟨w5.heap.size, 0, none⟩ = some (.int .i64 g0_z0) := cur_cell K_g0.out.now 0
  have c_g0_1 : w10.cell? ⟨w5.heap.size, 1, none⟩ = some (.int .i64 g0_z1) := cur_cell K_g0.out.now 1
  have c_g0_2 : w10.cell? ⟨w5.heap.size, 2, none⟩ = some (.slice g0_a2 g0_n2 g0_c2) := cur_cell K_g0.out.now 2
  go_wp2_with fail
  clear c_w0_0 c_w0_1 c_w0_2 c_g0_0 c_g0_1 c_g0_2
  refine (uMarkBlock w4.heap.size w5.heap.size 1 (.int .i64 g0_z0) (.int .i64 g0_z1) (.slice g0_a2 g0_n2 g0_c2) (sFindM m0 m1) _ (by have := bd_g0; omega) A_g0.out.top A_g0.out.now).mono ?_
  rintro e w11 ⟨k11, rfl, hk, ho, hc⟩
  have bd_k11 : k11 ≤ 2000000000000 := by have := bd_g0; omega
  have HK_k11 := Lib.hid hk
  have s_w11 : w10.heap.size ≤ w11.heap.size := by have := hc.size; simpa only [size_box, size_drew] using this
  have ho_t := A_g0.out.top
  clear A_g0
  replace B := Lib.hid (hc.below B.out (by have := B0s; omega))
  replace R_aList := Lib.hid (R_aList.out.chg hc (by have := B0s; omega))
  replace A_w0 := Lib.hid (A_w0.out.chg hc (by have := B0s; omega))
  replace K_w0 := Lib.hid (K_w0.out.chg hc (by have := B0s; omega))
  replace K_g0 := Lib.hid (K_g0.out.chg hc (by have := B0s; omega))
  replace A_x0 := Lib.hid (A_x0.out.chg hc (by have := B0s; omega))
  have A_g0 := Lib.hid (ho.lies (Nat.le_trans ho_t s_w11))
  clear hk ho hc ho_t
  have c_w0_0 : w11.cell? ⟨w3.heap.size, 0, none⟩ = some (.int .i64 w0_z0) := cur_cell K_w0.out.now 0
  have c_w0_1 : w11.cell? ⟨w3.heap.size, 1, none⟩ = some (.int .i64 w0_z1) := cur_cell K_w0.out.now 1
  have c_w0_2 : w11.cell? ⟨w3.heap.size, 2, none⟩ = some (.slice w0_a2 w0_n2 w0_c2) := cur_cell K_w0.out.now 2
  have c_g0_0 : w11.cell? ⟨w5.heap.size, 0, none⟩ = some (.int .i64 g0_z0) := cur_cell K_g0.out.now 0
  have c_g0_1 : w11.cell? ⟨w5.heap.size, 1, none⟩ = some (.int .i64 g0_z1) := cur_cell K_g0.out.now 1
  have c_g0_2 : w11.cell? ⟨w5.heap.size, 2, none⟩ = some (.slice g0_a2 g0_n2 g0_c2) := cur_cell K_g0.out.now 2
  go_wp2_with fail
  clear c_w0_0 c_w0_1 c_w0_2 c_g0_0 c_g0_1 c_g0_2
  refine (uHeldBlock 1 (.int .i64 g0_z0) (.int .i64 g0_z1) (.slice g0_a2 g0_n2 g0_c2) (sFindM m0 m1) _ (by have := HK_k11.out; omega) A_g0.out.now.read).mono ?_
  rintro e w12 ⟨k12, rfl, hk, hb⟩
  have hkk : k12 = k11 := by have := HK_k11.out; omega
  rw [hkk]
  clear hk hkk
  have s_w12 : w11.heap.size ≤ w12.heap.size := by have := hb.size; simpa only [size_box, size_drew] using this
  replace B := Lib.hid (below_seq B.out hb)
  replace R_aList := Lib.hid (R_aList.out.below hb)
  replace A_w0 := Lib.hid (A_w0.out.below hb)
  replace K_w0 := Lib.hid (K_w0.out.below hb)
  replace K_g0 := Lib.hid (K_g0.out.below hb)
  replace A_x0 := Lib.hid (A_x0.out.below hb)
  replace A_g0 := Lib.hid (A_g0.out.below hb)
  clear hb
  have c_w0_0 : w12.cell? ⟨w3.heap.size, 0, none⟩ = some (.int .i64 w0_z0) := cur_cell K_w0.out.now 0
  have c_w0_1 : w12.cell? ⟨w3.heap.size, 1, none⟩ = some (.int .i64 w0_z1) := cur_cell K_w0.out.now 1
  have c_w0_2 : w12.cell? ⟨w3.heap.size, 2, none⟩ = some (.slice w0_a2 w0_n2 w0_c2) := cur_cell K_w0.out.now 2
  have c_g0_0 : w12.cell? ⟨w5.heap.size, 0, none⟩ = some (.int .i64 g0_z0) := cur_cell K_g0.out.now 0
  have c_g0_1 : w12.cell? ⟨w5.heap.size, 1, none⟩ = some (.int .i64 g0_z1) := cur_cell K_g0.out.now 1
  have c_g0_2 : w12.cell? ⟨w5.heap.size, 2, none⟩ = some (.slice g0_a2 g0_n2 g0_c2) := cur_cell K_g0.out.now 2
  go_wp2_with fail
  clear c_w0_0 c_w0_1 c_w0_2 c_g0_0 c_g0_1 c_g0_2
  refine (uToBlockS (.slice a0 m0.length cap0) m0 _ hs0 R_aList.out.now).mono ?_
  rintro e w13 ⟨t12_0, rfl, ho, hb⟩
  obtain ⟨t12_a0, t12_n0, t12_c0, rfl⟩ := ho.shape
  have s_w13 : w12.heap.size ≤ w13.heap.size := by have := hb.size; simpa only [size_box, size_drew] using this
  replace B := Lib.hid (below_seq B.out hb)
  replace R_aList := Lib.hid (R_aList.out.below hb)
  replace A_w0 := Lib.hid (A_w0.out.below hb)
  replace K_w0 := Lib.hid (K_w0.out.below hb)
  replace K_g0 := Lib.hid (K_g0.out.below hb)
  replace A_x0 := Lib.hid (A_x0.out.below hb)
  replace A_g0 := Lib.hid (A_g0.out.below hb)
  have A_t12_ := Lib.hid (ho.lies (Nat.le_refl _))
  clear ho hb
  have c_w0_0 : w13.cell? ⟨w3.heap.size, 0, none⟩ = some (.int .i64 w0_z0) := cur_cell K_w0.out.now 0
  have c_w0_1 : w13.cell? ⟨w3.heap.size, 1, none⟩ = some (.int .i64 w0_z1) := cur_cell K_w0.out.now 1
  have c_w0_2 : w13.cell? ⟨w3.heap.size, 2, none⟩ = some (.slice w0_a2 w0_n2 w0_c2) := cur_cell K_w0.out.now 2
  have c_g0_0 : w13.cell? ⟨w5.heap.size, 0, none⟩ = some (.int .i64 g0_z0) := cur_cell K_g0.out.now 0
  have c_g0_1 : w13.cell? ⟨w5.heap.size, 1, none⟩ = some (.int .i64 g0_z1) := cur_cell K_g0.out.now 1
  have c_g0_2 : w13.cell? ⟨w5.heap.size, 2, none⟩ = some (.slice g0_a2 g0_n2 g0_c2) := cur_cell K_g0.out.now 2
  go_wp2_with fail
  clear c_w0_0 c_w0_1 c_w0_2 c_g0_0 c_g0_1 c_g0_2
  refine (uImplStashFind (.slice t12_a0 t12_n0 t12_c0) m0 m1 _ A_t12_.out.now.read b1 hs0).mono ?_
  rintro e w14 ⟨h0_0, h0_1, h0_2, rfl, ho_h0, hb⟩
  obtain ⟨h0_z0, h0_z1, h0_a2, h0_n2, h0_c2, rfl, rfl, rfl⟩ := ho_h0.shape
  clear A_t12_
  have s_w14 : w13.heap.size ≤ w14.heap.size := by have := hb.size; simpa only [size_box, size_drew] using this
  replace B := Lib.hid (below_seq B.out hb)
  replace R_aList := Lib.hid (R_aList.out.below hb)
  replace A_w0 := Lib.hid (A_w0.out.below hb)
  replace K_w0 := Lib.hid (K_w0.out.below hb)
  replace K_g0 := Lib.hid (K_g0.out.below hb)
  replace A_x0 := Lib.hid (A_x0.out.below hb)
  replace A_g0 := Lib.hid (A_g0.out.below hb)
  have A_h0 := Lib.hid (ho_h0.lies (Nat.le_refl _))
  clear ho_h0 hb
  replace B := Lib.hid (below_box B.out (.cells #[.int .i64 h0_z0, .int .i64 h0_z1, .slice h0_a2 h0_n2 h0_c2] 26))
  replace R_aList := Lib.hid (R_aList.out.box (.cells #[.int .i64 h0_z0, .int .i64 h0_z1, .slice h0_a2 h0_n2 h0_c2] 26))
  replace A_w0 := Lib.hid (A_w0.out.box (.cells #[.int .i64 h0_z0, .int .i64 h0_z1, .slice h0_a2 h0_n2 h0_c2] 26))
  replace K_w0 := Lib.hid (K_w0.out.box (.cells #[.int .i64 h0_z0, .int .i64 h0_z1, .slice h0_a2 h0_n2 h0_c2] 26))
  replace K_g0 := Lib.hid (K_g0.out.box (.cells #[.int .i64 h0_z0, .int .i64 h0_z1, .slice h0_a2 h0_n2 h0_c2] 26))
  replace A_x0 := Lib.hid (A_x0.out.box (.cells #[.int .i64 h0_z0, .int .i64 h0_z1, .slice h0_a2 h0_n2 h0_c2] 26))
  replace A_g0 := Lib.hid (A_g0.out.box (.cells #[.int .i64 h0_z0, .int .i64 h0_z1, .slice h0_a2 h0_n2 h0_c2] 26))
  replace A_h0 := Lib.hid (A_h0.out.box (.cells #[.int .i64 h0_z0, .int .i64 h0_z1, .slice h0_a2 h0_n2 h0_c2] 26))
  have K_h0 := Lib.hid (lies_box w14 (.cells #[.int .i64 h0_z0, .int .i64 h0_z1, .slice h0_a2 h0_n2 h0_c2] 26))
  have c_w0_0 : (w14.alloc (.cells #[.int .i64 h0_z0, .int .i64 h0_z1, .slice h0_a2 h0_n2 h0_c2] 26)).cell? ⟨w3.heap.size, 0, none⟩ = some (.int .i64 w0_z0) := cur_cell K_w0.out.now 0
  have c_w0_1 : (w14.alloc (.cells #[.int .i64 h0_z0, .int .i64 h0_z1, .slice h0_a2 h0_n2 h0_c2] 26)).cell? ⟨w3.heap.size, 1, none⟩ = some (.int .i64 w0_z1) := cur_cell K_w0.out.now 1
  have c_w0_2 : (w14.alloc (.cells #[.int .i64 h0_z0, .int .i64 h0_z1, .slice h0_a2 h0_n2 h0_c2] 26)).cell? ⟨w3.heap.size, 2, none⟩ = some (.slice w0_a2 w0_n2 w0_c2) := cur_cell K_w0.out.now 2
  have c_g0_0 : (w14.alloc (.cells #[.int .i64 h0_z0, .int .i64 h0_z1, .slice h0_a2 h0_n2 h0_c2] 26)).cell? ⟨w5.heap.size, 0, none⟩ = some (.int .i64 g0_z0) := cur_cell K_g0.out.now 0
  have c_g0_1 : (w14.alloc (.cells #[.int .i64 h0_z0, .int .i64 h0_z1, .slice h0_a2 h0_n2 h0_c2] 26)).cell? ⟨w5.heap.size, 1, none⟩ = some (.int .i64 g0_z1) := cur_cell K_g0.out.now 1
  have c_g0_2 : (w14.alloc (.cells #[.int .i64 h0_z0, .int .i64 h0_z1, .slice h0_a2 h0_n2 h0_c2] 26)).cell? ⟨w5.heap.size, 2, none⟩ = some (.slice g0_a2 g0_n2 g0_c2) := cur_cell K_g0.out.now 2
  have c_h0_0 : (w14.alloc (.cells #[.int .i64 h0_z0, .int .i64 h0_z1, .slice h0_a2 h0_n2 h0_c2] 26)).cell? ⟨w14.heap.size, 0, none⟩ = some (.int .i64 h0_z0) := cur_cell K_h0.out.now 0
  have c_h0_1 : (w14.alloc (.cells #[.int .i64 h0_z0, .int .i64 h0_z1, .slice h0_a2 h0_n2 h0_c2] 26)).cell? ⟨w14.heap.size, 1, none⟩ = some (.int .i64 h0_z1) := cur_cell K_h0.out.now 1
  have c_h0_2 : (w14.alloc (.cells #[.int .i64 h0_z0, .int .i64 h0_z1, .slice h0_a2 h0_n2 h0_c2] 26)).cell? ⟨w14.heap.size, 2, none⟩ = some (.slice h0_a2 h0_n2 h0_c2) := cur_cell K_h0.out.now 2
  go_wp2_with fail
  clear c_w0_0 c_w0_1 c_w0_2 c_g0_0 c_g0_1 c_g0_2 c_h0_0 c_h0_1 c_h0_2
  refine (uEqBlock (.int .i64 h0_z0) (.int .i64 h0_z1) (.slice h0_a2 h0_n2 h0_c2) (.int .i64 w0_z0) (.int .i64 w0_z1) (.slice w0_a2 w0_n2 w0_c2) (sFindM m0 m1) _ A_h0.out.now.read A_w0.out.now.read).mono ?_
  rintro e w15 ⟨rfl, hb⟩
  have s_w15 : w14.heap.size + 1 ≤ w15.heap.size := by have := hb.size; simpa only [size_box, size_drew] using this
  replace B := Lib.hid (below_seq B.out hb)
  replace R_aList := Lib.hid (R_aList.out.below hb)
  replace A_w0 := Lib.hid (A_w0.out.below hb)
  replace K_w0 := Lib.hid (K_w0.out.below hb)
  replace K_g0 := Lib.hid (K_g0.out.below hb)
  replace A_x0 := Lib.hid (A_x0.out.below hb)
  replace A_g0 := Lib.hid (A_g0.out.below hb)
  replace A_h0 := Lib.hid (A_h0.out.below hb)
  replace K_h0 := Lib.hid (K_h0.out.below hb)
  clear hb
  have c_w0_0 : w15.cell? ⟨w3.heap.size, 0, none⟩ = some (.int .i64 w0_z0) := cur_cell K_w0.out.now 0
  have c_w0_1 : w15.cell? ⟨w3.heap.size, 1, none⟩ = some (.int .i64 w0_z1) := cur_cell K_w0.out.now 1
  have c_w0_2 : w15.cell? ⟨w3.heap.size, 2, none⟩ = some (.slice w0_a2 w0_n2 w0_c2) := cur_cell K_w0.out.now 2
  have c_g0_0 : w15.cell? ⟨w5.heap.size, 0, none⟩ = some (.int .i64 g0_z0) := cur_cell K_g0.out.now 0
  have c_g0_1 : w15.cell? ⟨w5.heap.size, 1, none⟩ = some (.int .i64 g0_z1) := cur_cell K_g0.out.now 1
  have c_g0_2 : w15.cell? ⟨w5.heap.size, 2, none⟩ = some (.slice g0_a2 g0_n2 g0_c2) := cur_cell K_g0.out.now 2
  have c_h0_0 : w15.cell? ⟨w14.heap.size, 0, none⟩ = some (.int .i64 h0_z0) := cur_cell K_h0.out.now 0
  have c_h0_1 : w15.cell? ⟨w14.heap.size, 1, none⟩ = some (.int .i64 h0_z1) := cur_cell K_h0.out.now 1
  have c_h0_2 : w15.cell? ⟨w14.heap.size, 2, none⟩ = some (.slice h0_a2 h0_n2 h0_c2) := cur_cell K_h0.out.now 2
  go_wp2_with fail
  clear c_w0_0 c_w0_1 c_w0_2 c_g0_0 c_g0_1 c_g0_2 c_h0_0 c_h0_1 c_h0_2
  refine (uHeldBlock 1 (.int .i64 g0_z0) (.int .i64 g0_z1) (.slice g0_a2 g0_n2 g0_c2) (sFindM m0 m1) _ (by have := HK_k11.out; omega) A_g0.out.now.read).mono ?_
  rintro e w16 ⟨k16, rfl, hk, hb⟩
  have hkk : k16 = k11 := by have := HK_k11.out; omega
  rw [hkk]
  clear hk hkk
  have s_w16 : w15.heap.size ≤ w16.heap.size := by have := hb.size; simpa only [size_box, size_drew] using this
  replace B := Lib.hid (below_seq B.out hb)
  replace R_aList := Lib.hid (R_aList.out.below hb)
  replace A_w0 := Lib.hid (A_w0.out.below hb)
  replace K_w0 := Lib.hid (K_w0.out.below hb)
  replace K_g0 := Lib.hid (K_g0.out.below hb)
  replace A_x0 := Lib.hid (A_x0.out.below hb)
  replace A_g0 := Lib.hid (A_g0.out.below hb)
  replace A_h0 := Lib.hid (A_h0.out.below hb)
  replace K_h0 := Lib.hid (K_h0.out.below hb)
  clear hb
  have c_w0_0 : w16.cell? ⟨w3.heap.size, 0, none⟩ = some (.int .i64 w0_z0) := cur_cell K_w0.out.now 0
  have c_w0_1 : w16.cell? ⟨w3.heap.size, 1, none⟩ = some (.int .i64 w0_z1) := cur_cell K_w0.out.now 1
  have c_w0_2 : w16.cell? ⟨w3.heap.size, 2, none⟩ = some (.slice w0_a2 w0_n2 w0_c2) := cur_cell K_w0.out.now 2
  have c_g0_0 : w16.cell? ⟨w5.heap.size, 0, none⟩ = some (.int .i64 g0_z0) := cur_cell K_g0.out.now 0
  have c_g0_1 : w16.cell? ⟨w5.heap.size, 1, none⟩ = some (.int .i64 g0_z1) := cur_cell K_g0.out.now 1
  have c_g0_2 : w16.cell? ⟨w5.heap.size, 2, none⟩ = some (.slice g0_a2 g0_n2 g0_c2) := cur_cell K_g0.out.now 2
  have c_h0_0 : w16.cell? ⟨w14.heap.size, 0, none⟩ = some (.int .i64 h0_z0) := cur_cell K_h0.out.now 0
  have c_h0_1 : w16.cell? ⟨w14.heap.size, 1, none⟩ = some (.int .i64 h0_z1) := cur_cell K_h0.out.now 1
  have c_h0_2 : w16.cell? ⟨w14.heap.size, 2, none⟩ = some (.slice h0_a2 h0_n2 h0_c2) := cur_cell K_h0.out.now 2
  go_wp2
  go_ret
  exact ⟨rfl, B.out⟩

set_option maxRecDepth 100000 in
theorem lifted (os : Os) (started : os.Started) (H : Type) (enc : TypeId × Value → H) :
    ReturnsInHanded {} Try.checked os 7 .any (Rows.fnExactStashFindSpec.pre6 enc Try.prog Try.f7 Rows.fnExactStashFindRow.domain false) (Rows.fnExactStashFindSpec.post enc Try.prog Try.f7 false true false false) := by
  refine returnsInHanded_of_change (C := Try.checked) own started (by kernel_rfl) Try.func7
    (ChangeSpec.witness6 (enc := enc) (C := Try.checked) false ⟨#[], #[.slice none 0 0, .int .i64 0], []⟩ 8 (by kernel_rfl) (by kernel_rfl) (by kernel_rfl) (by kernel_rfl)) ?_
  intro W base args ds gs before hval0 hW hcnd _
  have hval : ∀ (j : Nat) t v, Try.f7.params[j]? = some t → args[j]? = some v → Value.okWide Try.prog W .any base t v := hval0
  have hW' := hW
  obtain ⟨p, q, hA0, hV, rfl, hfz, hnd⟩ := hW
  have hA : DataW.TrodAll enc Try.prog W 0 (fun _ => true) true Try.f7.params.toList args.toList ds p := hA0
  rw [Try.params7] at hA hval
  obtain ⟨v0, vs0, d0, ds0, p0, q0, hargs, rfl, rfl, h0, r0⟩ := trodAll_cons hA
  obtain ⟨v1, vs1, d1, ds1, p1, q1, rfl, rfl, rfl, h1, r1⟩ := trodAll_cons r0
  obtain ⟨rfl, rfl, rfl⟩ := trodAll_nil r1
  obtain rfl : args = #[v0, v1] := by cases args; simp_all
  obtain ⟨rfl, rfl⟩ := trodVars_none hV
  have lt0 : ∀ x ∈ p0, x.block < W.heap.size := by obtain ⟨m, hm⟩ := h0; exact DataW.trod_lt m _ _ _ hm
  have lt1 : ∀ x ∈ p1, x.block < W.heap.size := by obtain ⟨m, hm⟩ := h1; exact DataW.trod_lt m _ _ _ hm
  clear hA0 hval0
  refine (walk v0 v1 W ⟨⟨base, hval 0 47 v0 rfl rfl⟩, Rd.of h0⟩ ⟨⟨base, hval 1 3 v1 rfl rfl⟩, Rd.of h1⟩).mono fun e W' ⟨he, bel⟩ => ?_
  subst he
  exact ⟨_, rfl, _, _, _, [], _, [], hW', trodAll_mk1 (shut_bool Try.underlying4 _), (trodAll_cons_mk (Below.trod laidOut (by kernel_rfl) (of_decide_eq_true (by kernel_rfl)) h0 bel lt0) (trodAll_cons_mk (Below.trod laidOut (by kernel_rfl) (of_decide_eq_true (by kernel_rfl)) h1 bel lt1) trodAll_mk0)), rfl, bel.frame _, fun h => by cases h⟩

theorem over : Rows.fnExactStashFindRow.holds Try.pinned (OpenSpec.ofChange Rows.fnExactStashFindSpec) :=
  OpenClaim.holds_of_wide 7 Try.f7 rfl rfl rfl rfl rfl rfl rfl ⟨rfl, rfl, rfl, rfl, rfl⟩ rfl rfl rfl rfl rfl (by kernel_rfl) Try.func7 (by kernel_rfl)
    (of_decide_eq_true (by kernel_rfl)) (by unfold Func.isWrapper; first | (rw [if_pos (by decide +kernel)]; kernel_rfl) | (rw [if_neg (by decide +kernel)]; exact ⟨rfl, rfl⟩))
    (fun os started H enc _ => lifted os started H enc)
end Go.Proofs.Ytmkgddbdkpkgpaa.fnExactStashFind
namespace Go.Proofs.Ytmkgddbdkpkgpaa
/-- StashFind answers as its model, at every argument. -/
theorem fnExactStashFind_holds : Rows.FnExactStashFindSaid := fnExactStashFind.over
end Go.Proofs.Ytmkgddbdkpkgpaa
