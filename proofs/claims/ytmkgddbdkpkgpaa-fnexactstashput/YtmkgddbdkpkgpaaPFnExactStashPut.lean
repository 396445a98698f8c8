/- For every argument: the law FnExactStashPut answers true, that is, StashPut answers as its model and writes into no argument; its answer owns its memory. No condition. -/
import Derived.Test.YtmkgddbdkpkgpaaJS1
import Derived.Test.YtmkgddbdkpkgpaaJS8
import Derived.Test.YtmkgddbdkpkgpaaJS47
import Derived.Test.YtmkgddbdkpkgpaaJS26
import Derived.Test.YtmkgddbdkpkgpaaJS50
import Derived.Deep.RegionHeld3
namespace Go.Proofs.Ytmkgddbdkpkgpaa.fnExactStashPut
open Go.ChangeShapes Go.WideShapes Go.ChangeAt Go.RowKit
set_option linter.unusedVariables false
set_option linter.unusedSimpArgs false

set_option maxRecDepth 100000 in
set_option maxHeartbeats 4000000 in
theorem walk (v0 : Value) (v1 : Value) (v2 : Value) (v3 : Value) (w : World) (h0 : Arg w 47 v0) (h1 : Arg w 51 v1) (h2 : Arg w 3 v2) (h3 : Arg w 3 v3) :
    Calls Try.prog 6 #[v0, v1, v2, v3] w fun e w' => e = .returned (.bool true) ∧ Below w.heap.size w w' := by
  obtain ⟨d0_0, m0, rfl, i0, b0⟩ := argBlockS h0
  have R_aList := Lib.hid i0.lies
  obtain ⟨a0, cap0, rfl, _, hx0, _⟩ := blockSIn_at i0
  clear i0
  clear h0
  obtain ⟨d1_0, d1_1, d1_2, m1, rfl, i1, b1⟩ := argBlock h1
  have R_aB := Lib.hid i1.lies
  clear i1
  clear h1
  obtain ⟨m2, rfl, b2⟩ := arg_int h2
  clear h2
  obtain ⟨m3, rfl, b3⟩ := arg_int h3
  clear h3
  have B : Hid (Below w.heap.size w w) := Lib.hid (Below.refl _ _)
  have B0s : 0 ≤ w.heap.size := Nat.zero_le _
  replace B := Lib.hid (below_box B.out (.cells #[d1_0, d1_1, d1_2] 51))
  replace R_aList := Lib.hid (R_aList.out.box (.cells #[d1_0, d1_1, d1_2] 51))
  replace R_aB := Lib.hid (R_aB.out.box (.cells #[d1_0, d1_1, d1_2] 51))
  have K_aB := Lib.hid (lies_box w (.cells #[d1_0, d1_1, d1_2] 51))
  by_cases g0 : 1048576 - (szBlockS m0 : Int) < 0
  · go_enter Try.func6, Try.ntmps6
    have c_aB_0 : (w.alloc (.cells #[d1_0, d1_1, d1_2] 51)).cell? ⟨w.heap.size, 0, none⟩ = some d1_0 := cur_cell K_aB.out.now 0
    have c_aB_1 : (w.alloc (.cells #[d1_0, d1_1, d1_2] 51)).cell? ⟨w.heap.size, 1, none⟩ = some d1_1 := cur_cell K_aB.out.now 1
    have c_aB_2 : (w.alloc (.cells #[d1_0, d1_1, d1_2] 51)).cell? ⟨w.heap.size, 2, none⟩ = some d1_2 := cur_cell K_aB.out.now 2
    go_wp2_with fail
    clear c_aB_0 c_aB_1 c_aB_2
    refine (uSzBlockS (.slice a0 m0.length cap0) m0 1048576 _ (by omega) (by omega) R_aList.out.now).mono ?_
    rintro e w1 ⟨rfl, hb⟩
    rw [szI_no (by omega)]
    replace B := Lib.hid (below_seq B.out hb)
    replace R_aList := Lib.hid (R_aList.out.below hb)
    replace R_aB := Lib.hid (R_aB.out.below hb)
    replace K_aB := Lib.hid (K_aB.out.below hb)
    clear hb
    go_wp2
    go_ret
    exact ⟨rfl, B.out⟩
  have hs0 : szBlockS m0 ≤ 1048576 := by omega
  have hm0 : mcBlockS m0 ≤ 1000000000000 := mcBlockS_le hs0
  by_cases g1 : 1048576 - (szBlockS m0 : Int) - (szBlock m1 : Int) < 0
  · go_enter Try.func6, Try.ntmps6
    have c_aB_0 : (w.alloc (.cells #[d1_0, d1_1, d1_2] 51)).cell? ⟨w.heap.size, 0, none⟩ = some d1_0 := cur_cell K_aB.out.now 0
    have c_aB_1 : (w.alloc (.cells #[d1_0, d1_1, d1_2] 51)).cell? ⟨w.heap.size, 1, none⟩ = some d1_1 := cur_cell K_aB.out.now 1
    have c_aB_2 : (w.alloc (.cells #[d1_0, d1_1, d1_2] 51)).cell? ⟨w.heap.size, 2, none⟩ = some d1_2 := cur_cell K_aB.out.now 2
    go_wp2_with fail
    clear c_aB_0 c_aB_1 c_aB_2
    refine (uSzBlockS (.slice a0 m0.length cap0) m0 1048576 _ (by omega) (by omega) R_aList.out.now).mono ?_
    rintro e w1 ⟨rfl, hb⟩
    rw [szI_yes (by omega)]
    replace B := Lib.hid (below_seq B.out hb)
    replace R_aList := Lib.hid (R_aList.out.below hb)
    replace R_aB := Lib.hid (R_aB.out.below hb)
    replace K_aB := Lib.hid (K_aB.out.below hb)
    clear hb
    have c_aB_0 : w1.cell? ⟨w.heap.size, 0, none⟩ = some d1_0 := cur_cell K_aB.out.now 0
    have c_aB_1 : w1.cell? ⟨w.heap.size, 1, none⟩ = some d1_1 := cur_cell K_aB.out.now 1
    have c_aB_2 : w1.cell? ⟨w.heap.size, 2, none⟩ = some d1_2 := cur_cell K_aB.out.now 2
    go_wp2_with fail
    clear c_aB_0 c_aB_1 c_aB_2
    refine (uSzBlock d1_0 d1_1 d1_2 m1 (1048576 - (szBlockS m0 : Int)) _ (by omega) (by omega) R_aB.out.now).mono ?_
    rintro e w2 ⟨rfl, hb⟩
    rw [szI_no (by omega)]
    replace B := Lib.hid (below_seq B.out hb)
    replace R_aList := Lib.hid (R_aList.out.below hb)
    replace R_aB := Lib.hid (R_aB.out.below hb)
    replace K_aB := Lib.hid (K_aB.out.below hb)
    clear hb
    go_wp2
    go_ret
    exact ⟨rfl, B.out⟩
  have hs1 : szBlock m1 ≤ 1048576 := by omega
  go_enter Try.func6, Try.ntmps6
  have c_aB_0 : (w.alloc (.cells #[d1_0, d1_1, d1_2] 51)).cell? ⟨w.heap.size, 0, none⟩ = some d1_0 := cur_cell K_aB.out.now 0
  have c_aB_1 : (w.alloc (.cells #[d1_0, d1_1, d1_2] 51)).cell? ⟨w.heap.size, 1, none⟩ = some d1_1 := cur_cell K_aB.out.now 1
  have c_aB_2 : (w.alloc (.cells #[d1_0, d1_1, d1_2] 51)).cell? ⟨w.heap.size, 2, none⟩ = some d1_2 := cur_cell K_aB.out.now 2
  go_wp2_with fail
  clear c_aB_0 c_aB_1 c_aB_2
  refine (uSzBlockS (.slice a0 m0.length cap0) m0 1048576 _ (by omega) (by omega) R_aList.out.now).mono ?_
  rintro e w1 ⟨rfl, hb⟩
  rw [szI_yes (by omega)]
  have s_w1 : w.heap.size + 1 ≤ w1.heap.size := by have := hb.size; simpa only [size_box, size_drew] using this
  replace B := Lib.hid (below_seq B.out hb)
  replace R_aList := Lib.hid (R_aList.out.below hb)
  replace R_aB := Lib.hid (R_aB.out.below hb)
  replace K_aB := Lib.hid (K_aB.out.below hb)
  clear hb
  have c_aB_0 : w1.cell? ⟨w.heap.size, 0, none⟩ = some d1_0 := cur_cell K_aB.out.now 0
  have c_aB_1 : w1.cell? ⟨w.heap.size, 1, none⟩ = some d1_1 := cur_cell K_aB.out.now 1
  have c_aB_2 : w1.cell? ⟨w.heap.size, 2, none⟩ = some d1_2 := cur_cell K_aB.out.now 2
  go_wp2_with fail
  clear c_aB_0 c_aB_1 c_aB_2
  refine (uSzBlock d1_0 d1_1 d1_2 m1 (1048576 - (szBlockS m0 : Int)) _ (by omega) (by omega) R_aB.out.now).mono ?_
  rintro e w2 ⟨rfl, hb⟩
  rw [szI_yes (by omega)]
  have s_w2 : w1.heap.size ≤ w2.heap.size := by have := hb.size; simpa only [size_box, size_drew] using this
  replace B := Lib.hid (below_seq B.out hb)
  replace R_aList := Lib.hid (R_aList.out.below hb)
  replace R_aB := Lib.hid (R_aB.out.below hb)
  replace K_aB := Lib.hid (K_aB.out.below hb)
  clear hb
  have KP2 := Lib.hid (fun w' (hb : Below w2.heap.size w2 w') => (show w'.cell? ⟨w.heap.size, 0, none⟩ = some d1_0 ∧ w'.cell? ⟨w.heap.size, 1, none⟩ = some d1_1 ∧ w'.cell? ⟨w.heap.size, 2, none⟩ = some d1_2 from ⟨cur_cell (K_aB.out.below hb).now 0, cur_cell (K_aB.out.below hb).now 1, cur_cell (K_aB.out.below hb).now 2⟩))
  have HD2 := Lib.hid (below_drew (Below.refl w2.heap.size w2))
  have U2_0 := Lib.hid (fun w' (hb : Below w2.heap.size w2 w') => uToBlockS (.slice a0 m0.length cap0) m0 w' hs0 ((R_aList.out.below hb).now))
  have U2_1 := Lib.hid (fun w' (hb : Below w2.heap.size w2 w') => uToBlock d1_0 d1_1 d1_2 m1 w' hs1 ((R_aB.out.below hb).now))
  go_wp2_with fail
  go_region_held3 (fun w' => w'.cell? ⟨w.heap.size, 0, none⟩ = some d1_0 ∧ w'.cell? ⟨w.heap.size, 1, none⟩ = some d1_1 ∧ w'.cell? ⟨w.heap.size, 2, none⟩ = some d1_2)
    (exact KP2.out _ HD2.out)
    (first
      | (go_at_call 27; refine (U2_0.out _ HD2.out).mono ?_; rintro e w3 ⟨q2_0_0, rfl, ho, hb⟩; have A2_0 := Lib.hid (ho.lies (Nat.le_refl _)); have HD2 := Lib.hid (below_seq HD2.out hb); clear hb ho U2_0)
      | (go_at_call 31; refine (U2_1.out _ HD2.out).mono ?_; rintro e w4 ⟨q2_1_0, q2_1_1, q2_1_2, rfl, ho, hb⟩; have A2_1 := Lib.hid (ho.lies (Nat.le_refl _)); have A2_0 := Lib.hid (A2_0.out.below hb); have HD2 := Lib.hid (below_seq HD2.out hb); clear hb ho U2_1)
      | (go_at_call 13; refine (uSpecStashPut q2_0_0 m0 q2_1_0 q2_1_1 q2_1_2 m1 m2 m3 _ A2_0.out.now.read A2_1.out.now.read b2 b3 hs0 hs1).mono ?_; rintro e w5 ⟨w0_0, rfl, ho, hb⟩; obtain ⟨w0_a0, w0_n0, w0_c0, rfl⟩ := ho.shape; have AR2 := Lib.hid (ho.lies (Nat.le_refl _)); have HD2 := Lib.hid (below_seq HD2.out hb); clear hb ho A2_0 A2_1))
  have hb := HD2.out
  clear KP2 HD2
  have s_w5 : w2.heap.size ≤ w5.heap.size := by have := hb.size; simpa only [size_box, size_drew] using this
  replace B := Lib.hid (below_seq B.out hb)
  replace R_aList := Lib.hid (R_aList.out.below hb)
  replace R_aB := Lib.hid (R_aB.out.below hb)
  replace K_aB := Lib.hid (K_aB.out.below hb)
  clear hb
  have A_w0 := Lib.hid AR2.out
  clear AR2
  have c_aB_0 : w5.cell? ⟨w.heap.size, 0, none⟩ = some d1_0 := cur_cell K_aB.out.now 0
  have c_aB_1 : w5.cell? ⟨w.heap.size, 1, none⟩ = some d1_1 := cur_cell K_aB.out.now 1
  have c_aB_2 : w5.cell? ⟨w.heap.size, 2, none⟩ = some d1_2 := cur_cell K_aB.out.now 2
  go_wp2_with fail
  clear c_aB_0 c_aB_1 c_aB_2
  refine (uToBlockS (.slice a0 m0.length cap0) m0 _ hs0 R_aList.out.now).mono ?_
  rintro e w6 ⟨x00, rfl, ho, hb⟩
  obtain ⟨x0a0, x0n0, x0c0, rfl⟩ := ho.shape
  have s_w6 : w5.heap.size ≤ w6.heap.size := by have := hb.size; simpa only [size_box, size_drew] using this
  replace B := Lib.hid (below_seq B.out hb)
  replace R_aList := Lib.hid (R_aList.out.below hb)
  replace R_aB := Lib.hid (R_aB.out.below hb)
  replace K_aB := Lib.hid (K_aB.out.below hb)
  replace A_w0 := Lib.hid (A_w0.out.below hb)
  have A_x0 := Lib.hid (ho.lies (Nat.le_refl _))
  clear ho hb
  have c_aB_0 : w6.cell? ⟨w.heap.size, 0, none⟩ = some d1_0 := cur_cell K_aB.out.now 0
  have c_aB_1 : w6.cell? ⟨w.heap.size, 1, none⟩ = some d1_1 := cur_cell K_aB.out.now 1
  have c_aB_2 : w6.cell? ⟨w.heap.size, 2, none⟩ = some d1_2 := cur_cell K_aB.out.now 2
  go_wp2_with fail
  clear c_aB_0 c_aB_1 c_aB_2
  refine (uToBlock d1_0 d1_1 d1_2 m1 _ hs1 R_aB.out.now).mono ?_
  rintro e w7 ⟨x10, x11, x12, rfl, ho, hb⟩
  obtain ⟨x1z0, x1z1, x1a2, x1n2, x1c2, rfl, rfl, rfl⟩ := ho.shape
  have s_w7 : w6.heap.size ≤ w7.heap.size := by have := hb.size; simpa only [size_box, size_drew] using this
  replace B := Lib.hid (below_seq B.out hb)
  replace R_aList := Lib.hid (R_aList.out.below hb)
  replace R_aB := Lib.hid (R_aB.out.below hb)
  replace K_aB := Lib.hid (K_aB.out.below hb)
  replace A_w0 := Lib.hid (A_w0.out.below hb)
  replace A_x0 := Lib.hid (A_x0.out.below hb)
  have A_x1 := Lib.hid (ho.lies (Nat.le_refl _))
  clear ho hb
  replace B := Lib.hid (below_box B.out (.cells #[.int .i64 x1z0, .int .i64 x1z1, .slice x1a2 x1n2 x1c2] 26))
  replace R_aList := Lib.hid (R_aList.out.box (.cells #[.int .i64 x1z0, .int .i64 x1z1, .slice x1a2 x1n2 x1c2] 26))
  replace R_aB := Lib.hid (R_aB.out.box (.cells #[.int .i64 x1z0, .int .i64 x1z1, .slice x1a2 x1n2 x1c2] 26))
  replace K_aB := Lib.hid (K_aB.out.box (.cells #[.int .i64 x1z0, .int .i64 x1z1, .slice x1a2 x1n2 x1c2] 26))
  replace A_w0 := Lib.hid (A_w0.out.box (.cells #[.int .i64 x1z0, .int .i64 x1z1, .slice x1a2 x1n2 x1c2] 26))
  replace A_x0 := Lib.hid (A_x0.out.box (.cells #[.int .i64 x1z0, .int .i64 x1z1, .slice x1a2 x1n2 x1c2] 26))
  replace A_x1 := Lib.hid (A_x1.out.box (.cells #[.int .i64 x1z0, .int .i64 x1z1, .slice x1a2 x1n2 x1c2] 26))
  have K_x1 := Lib.hid (lies_box w7 (.cells #[.int .i64 x1z0, .int .i64 x1z1, .slice x1a2 x1n2 x1c2] 26))
  have c_aB_0 : (w7.alloc (.cells #[.int .i64 x1z0, .int .i64 x1z1, .slice x1a2 x1n2 x1c2] 26)).cell? ⟨w.heap.size, 0, none⟩ = some d1_0 := cur_cell K_aB.out.now 0
  have c_aB_1 : (w7.alloc (.cells #[.int .i64 x1z0, .int .i64 x1z1, .slice x1a2 x1n2 x1c2] 26)).cell? ⟨w.heap.size, 1, none⟩ = some d1_1 := cur_cell K_aB.out.now 1
  have c_aB_2 : (w7.alloc (.cells #[.int .i64 x1z0, .int .i64 x1z1, .slice x1a2 x1n2 x1c2] 26)).cell? ⟨w.heap.size, 2, none⟩ = some d1_2 := cur_cell K_aB.out.now 2
  have c_x1_0 : (w7.alloc (.cells #[.int .i64 x1z0, .int .i64 x1z1, .slice x1a2 x1n2 x1c2] 26)).cell? ⟨w7.heap.size, 0, none⟩ = some (.int .i64 x1z0) := cur_cell K_x1.out.now 0
  have c_x1_1 : (w7.alloc (.cells #[.int .i64 x1z0, .int .i64 x1z1, .slice x1a2 x1n2 x1c2] 26)).cell? ⟨w7.heap.size, 1, none⟩ = some (.int .i64 x1z1) := cur_cell K_x1.out.now 1
  have c_x1_2 : (w7.alloc (.cells #[.int .i64 x1z0, .int .i64 x1z1, .slice x1a2 x1n2 x1c2] 26)).cell? ⟨w7.heap.size, 2, none⟩ = some (.slice x1a2 x1n2 x1c2) := cur_cell K_x1.out.now 2
  go_wp2_with fail
  clear c_aB_0 c_aB_1 c_aB_2 c_x1_0 c_x1_1 c_x1_2
  refine (uImplStashPut (.slice x0a0 x0n0 x0c0) m0 (.int .i64 x1z0) (.int .i64 x1z1) (.slice x1a2 x1n2 x1c2) m1 m2 m3 _ A_x0.out.now.read A_x1.out.now.read b2 b3 hs0 hs1).mono ?_
  rintro e w8 ⟨g0_0, rfl, ho_g0, hb⟩
  obtain ⟨g0_a0, g0_n0, g0_c0, rfl⟩ := ho_g0.shape
  have s_w8 : w7.heap.size + 1 ≤ w8.heap.size := by have := hb.size; simpa only [size_box, size_drew] using this
  replace B := Lib.hid (below_seq B.out hb)
  replace R_aList := Lib.hid (R_aList.out.below hb)
  replace R_aB := Lib.hid (R_aB.out.below hb)
  replace K_aB := Lib.hid (K_aB.out.below hb)
  replace A_w0 := Lib.hid (A_w0.out.below hb)
  replace A_x0 := Lib.hid (A_x0.out.below hb)
  replace A_x1 := Lib.hid (A_x1.out.below hb)
  replace K_x1 := Lib.hid (K_x1.out.below hb)
  simp only [size_box] at ho_g0
  have A_g0 := Lib.hid (ho_g0.lies (Nat.le_refl _))
  clear ho_g0 hb
  have bd_g0 : mcBlockS (sPutM m0 m1 m2 m3) ≤ 1000000000000 := sPutM_bd m0 m1 m2 m3 hs0 hs1
  have c_aB_0 : w8.cell? ⟨w.heap.size, 0, none⟩ = some d1_0 := cur_cell K_aB.out.now 0
  have c_aB_1 : w8.cell? ⟨w.heap.size, 1, none⟩ = some d1_1 := cur_cell K_aB.out.now 1
  have c_aB_2 : w8.cell? ⟨w.heap.size, 2, none⟩ = some d1_2 := cur_cell K_aB.out.now 2
  have c_x1_0 : w8.cell? ⟨w7.heap.size, 0, none⟩ = some (.int .i64 x1z0) := cur_cell K_x1.out.now 0
  have c_x1_1 : w8.cell? ⟨w7.heap.size, 1, none⟩ = some (.int .i64 x1z1) := cur_cell K_x1.out.now 1
  have c_x1_2 : w8.cell? ⟨w7.heap.size, 2, none⟩ = some (.slice x1a2 x1n2 x1c2) := cur_cell K_x1.out.now 2
  go_wp2_with fail
  clear c_aB_0 c_aB_1 c_aB_2 c_x1_0 c_x1_1 c_x1_2
  refine (uEqBlockS (.slice g0_a0 g0_n0 g0_c0) (.slice w0_a0 w0_n0 w0_c0) (sPutM m0 m1 m2 m3) _ A_g0.out.now.read A_w0.out.now.read).mono ?_
  rintro e w9 ⟨rfl, hb⟩
  have s_w9 : w8.heap.size ≤ w9.heap.size := by have := hb.size; simpa only [size_box, size_drew] using this
  replace B := Lib.hid (below_seq B.out hb)
  replace R_aList := Lib.hid (R_aList.out.below hb)
  replace R_aB := Lib.hid (R_aB.out.below hb)
  replace K_aB := Lib.hid (K_aB.out.below hb)
  replace A_w0 := Lib.hid (A_w0.out.below hb)
  replace A_x0 := Lib.hid (A_x0.out.below hb)
  replace A_x1 := Lib.hid (A_x1.out.below hb)
  replace K_x1 := Lib.hid (K_x1.out.below hb)
  replace A_g0 := Lib.hid (A_g0.out.below hb)
  clear hb
  have c_aB_0 : w9.cell? ⟨w.heap.size, 0, none⟩ = some d1_0 := cur_cell K_aB.out.now 0
  have c_aB_1 : w9.cell? ⟨w.heap.size, 1, none⟩ = some d1_1 := cur_cell K_aB.out.now 1
  have c_aB_2 : w9.cell? ⟨w.heap.size, 2, none⟩ = some d1_2 := cur_cell K_aB.out.now 2
  have c_x1_0 : w9.cell? ⟨w7.heap.size, 0, none⟩ = some (.int .i64 x1z0) := cur_cell K_x1.out.now 0
  have c_x1_1 : w9.cell? ⟨w7.heap.size, 1, none⟩ = some (.int .i64 x1z1) := cur_cell K_x1.out.now 1
  have c_x1_2 : w9.cell? ⟨w7.heap.size, 2, none⟩ = some (.slice x1a2 x1n2 x1c2) := cur_cell K_x1.out.now 2
  go_wp2_with fail
  clear c_aB_0 c_aB_1 c_aB_2 c_x1_0 c_x1_1 c_x1_2
  refine (uToBlockS (.slice a0 m0.length cap0) m0 _ hs0 R_aList.out.now).mono ?_
  rintro e w10 ⟨te9_0, rfl, ho, hb⟩
  obtain ⟨te9_a0, te9_n0, te9_c0, rfl⟩ := ho.shape
  have s_w10 : w9.heap.size ≤ w10.heap.size := by have := hb.size; simpa only [size_box, size_drew] using this
  replace B := Lib.hid (below_seq B.out hb)
  replace R_aList := Lib.hid (R_aList.out.below hb)
  replace R_aB := Lib.hid (R_aB.out.below hb)
  replace K_aB := Lib.hid (K_aB.out.below hb)
  replace A_w0 := Lib.hid (A_w0.out.below hb)
  replace A_x0 := Lib.hid (A_x0.out.below hb)
  replace A_x1 := Lib.hid (A_x1.out.below hb)
  replace K_x1 := Lib.hid (K_x1.out.below hb)
  replace A_g0 := Lib.hid (A_g0.out.below hb)
  have A_te9_ := Lib.hid (ho.lies (Nat.le_refl _))
  clear ho hb
  have c_aB_0 : w10.cell? ⟨w.heap.size, 0, none⟩ = some d1_0 := cur_cell K_aB.out.now 0
  have c_aB_1 : w10.cell? ⟨w.heap.size, 1, none⟩ = some d1_1 := cur_cell K_aB.out.now 1
  have c_aB_2 : w10.cell? ⟨w.heap.size, 2, none⟩ = some d1_2 := cur_cell K_aB.out.now 2
  have c_x1_0 : w10.cell? ⟨w7.heap.size, 0, none⟩ = some (.int .i64 x1z0) := cur_cell K_x1.out.now 0
  have c_x1_1 : w10.cell? ⟨w7.heap.size, 1, none⟩ = some (.int .i64 x1z1) := cur_cell K_x1.out.now 1
  have c_x1_2 : w10.cell? ⟨w7.heap.size, 2, none⟩ = some (.slice x1a2 x1n2 x1c2) := cur_cell K_x1.out.now 2
  go_wp2_with fail
  clear c_aB_0 c_aB_1 c_aB_2 c_x1_0 c_x1_1 c_x1_2
  refine (uEqBlockS (.slice x0a0 x0n0 x0c0) (.slice te9_a0 te9_n0 te9_c0) m0 _ A_x0.out.now.read A_te9_.out.now.read).mono ?_
  rintro e w11 ⟨rfl, hb⟩
  have s_w11 : w10.heap.size ≤ w11.heap.size := by have := hb.size; simpa only [size_box, size_drew] using this
  replace B := Lib.hid (below_seq B.out hb)
  replace R_aList := Lib.hid (R_aList.out.below hb)
  replace R_aB := Lib.hid (R_aB.out.below hb)
  replace K_aB := Lib.hid (K_aB.out.below hb)
  replace A_w0 := Lib.hid (A_w0.out.below hb)
  replace A_x0 := Lib.hid (A_x0.out.below hb)
  replace A_x1 := Lib.hid (A_x1.out.below hb)
  replace K_x1 := Lib.hid (K_x1.out.below hb)
  replace A_g0 := Lib.hid (A_g0.out.below hb)
  replace A_te9_ := Lib.hid (A_te9_.out.below hb)
  clear hb
  clear A_te9_
  have c_aB_0 : w11.cell? ⟨w.heap.size, 0, none⟩ = some d1_0 := cur_cell K_aB.out.now 0
  have c_aB_1 : w11.cell? ⟨w.heap.size, 1, none⟩ = some d1_1 := cur_cell K_aB.out.now 1
  have c_aB_2 : w11.cell? ⟨w.heap.size, 2, none⟩ = some d1_2 := cur_cell K_aB.out.now 2
  have c_x1_0 : w11.cell? ⟨w7.heap.size, 0, none⟩ = some (.int .i64 x1z0) := cur_cell K_x1.out.now 0
  have c_x1_1 : w11.cell? ⟨w7.heap.size, 1, none⟩ = some (.int .i64 x1z1) := cur_cell K_x1.out.now 1
  have c_x1_2 : w11.cell? ⟨w7.heap.size, 2, none⟩ = some (.slice x1a2 x1n2 x1c2) := cur_cell K_x1.out.now 2
  go_wp2_with fail
  replace B := Lib.hid (below_drew B.out)
  replace R_aList := Lib.hid R_aList.out.drew
  replace R_aB := Lib.hid R_aB.out.drew
  replace K_aB := Lib.hid K_aB.out.drew
  replace A_w0 := Lib.hid A_w0.out.drew
  replace A_x0 := Lib.hid A_x0.out.drew
  replace A_x1 := Lib.hid A_x1.out.drew
  replace K_x1 := Lib.hid K_x1.out.drew
  replace A_g0 := Lib.hid A_g0.out.drew
  go_region_held3 (fun w' => w'.cell? ⟨w.heap.size, 0, none⟩ = some d1_0 ∧ w'.cell? ⟨w.heap.size, 1, none⟩ = some d1_1 ∧ w'.cell? ⟨w.heap.size, 2, none⟩ = some d1_2 ∧ w'.cell? ⟨w7.heap.size, 0, none⟩ = some (.int .i64 x1z0) ∧ w'.cell? ⟨w7.heap.size, 1, none⟩ = some (.int .i64 x1z1) ∧ w'.cell? ⟨w7.heap.size, 2, none⟩ = some (.slice x1a2 x1n2 x1c2))
    (first | go_keep | exact ⟨cur_cell K_aB.out.now 0, cur_cell K_aB.out.now 1, cur_cell K_aB.out.now 2, cur_cell K_x1.out.now 0, cur_cell K_x1.out.now 1, cur_cell K_x1.out.now 2⟩)
    (first
      | (go_at_call 31; refine (uToBlock d1_0 d1_1 d1_2 m1 _ hs1 R_aB.out.now).mono ?_; rintro e w12 ⟨tt13_0, tt13_1, tt13_2, rfl, ho, hb⟩; have A_tt := Lib.hid (ho.lies (Nat.le_refl _)); have s_w12 : w11.heap.size ≤ w12.heap.size := (by have := hb.size; simpa only [size_box, size_drew] using this); replace B := Lib.hid (below_seq B.out hb); replace R_aList := Lib.hid (R_aList.out.below hb); replace R_aB := Lib.hid (R_aB.out.below hb); replace K_aB := Lib.hid (K_aB.out.below hb); replace A_w0 := Lib.hid (A_w0.out.below hb); replace A_x0 := Lib.hid (A_x0.out.below hb); replace A_x1 := Lib.hid (A_x1.out.below hb); replace K_x1 := Lib.hid (K_x1.out.below hb); replace A_g0 := Lib.hid (A_g0.out.below hb); clear ho hb)
      | (go_at_call 32; refine (uEqBlock (.int .i64 x1z0) (.int .i64 x1z1) (.slice x1a2 x1n2 x1c2) tt13_0 tt13_1 tt13_2 m1 _ A_x1.out.now.read A_tt.out.now.read).mono ?_; rintro e w13 ⟨rfl, hb⟩; have s_w13 : w12.heap.size ≤ w13.heap.size := hb.size; replace B := Lib.hid (below_seq B.out hb); replace R_aList := Lib.hid (R_aList.out.below hb); replace R_aB := Lib.hid (R_aB.out.below hb); replace K_aB := Lib.hid (K_aB.out.below hb); replace A_w0 := Lib.hid (A_w0.out.below hb); replace A_x0 := Lib.hid (A_x0.out.below hb); replace A_x1 := Lib.hid (A_x1.out.below hb); replace K_x1 := Lib.hid (K_x1.out.below hb); replace A_g0 := Lib.hid (A_g0.out.below hb); clear hb A_tt))
  clear c_aB_0 c_aB_1 c_aB_2 c_x1_0 c_x1_1 c_x1_2
  have c_aB_0 : w13.cell? ⟨w.heap.size, 0, none⟩ = some d1_0 := cur_cell K_aB.out.now 0
  have c_aB_1 : w13.cell? ⟨w.heap.size, 1, none⟩ = some d1_1 := cur_cell K_aB.out.now 1
  have c_aB_2 : w13.cell? ⟨w.heap.size, 2, none⟩ = some d1_2 := cur_cell K_aB.out.now 2
  have c_x1_0 : w13.cell? ⟨w7.heap.size, 0, none⟩ = some (.int .i64 x1z0) := cur_cell K_x1.out.now 0
  have c_x1_1 : w13.cell? ⟨w7.heap.size, 1, none⟩ = some (.int .i64 x1z1) := cur_cell K_x1.out.now 1
  have c_x1_2 : w13.cell? ⟨w7.heap.size, 2, none⟩ = some (.slice x1a2 x1n2 x1c2) := cur_cell K_x1.out.now 2
  go_wp2_with fail
  clear c_aB_0 c_aB_1 c_aB_2 c_x1_0 c_x1_1 c_x1_2
  refine (uMarkBlockS w5.heap.size w6.heap.size 1 (.slice x0a0 x0n0 x0c0) m0 _ (by omega) A_x0.out.now).mono ?_
  rintro e w14 ⟨k14, rfl, hk, ho, hc⟩
  have bd_k14 : k14 ≤ 2000000000000 := by omega
  have HK_k14 := Lib.hid hk
  have s_w14 : w13.heap.size ≤ w14.heap.size := by have := hc.size; simpa only [size_box, size_drew] using this
  have ho_t := A_x0.out.top
  clear A_x0
  replace B := Lib.hid (hc.below B.out (by have := B0s; omega))
  replace R_aList := Lib.hid (R_aList.out.chg hc (by have := B0s; omega))
  replace R_aB := Lib.hid (R_aB.out.chg hc (by have := B0s; omega))
  replace K_aB := Lib.hid (K_aB.out.chg hc (by have := B0s; omega))
  replace A_w0 := Lib.hid (A_w0.out.chg hc (by have := B0s; omega))
  replace A_x1 := Lib.hid (A_x1.out.chg hc (by have := B0s; omega))
  replace K_x1 := Lib.hid (K_x1.out.chg hc (by have := B0s; omega))
  replace A_g0 := Lib.hid (A_g0.out.chg hc (by have := B0s; omega))
  have A_x0 := Lib.hid (ho.lies (Nat.le_trans ho_t s_w14))
  clear hk ho hc ho_t
  have c_aB_0 : w14.cell? ⟨w.heap.size, 0, none⟩ = some d1_0 := cur_cell K_aB.out.now 0
  have c_aB_1 : w14.cell? ⟨w.heap.size, 1, none⟩ = some d1_1 := cur_cell K_aB.out.now 1
  have c_aB_2 : w14.cell? ⟨w.heap.size, 2, none⟩ = some d1_2 := cur_cell K_aB.out.now 2
  have c_x1_0 : w14.cell? ⟨w7.heap.size, 0, none⟩ = some (.int .i64 x1z0) := cur_cell K_x1.out.now 0
  have c_x1_1 : w14.cell? ⟨w7.heap.size, 1, none⟩ = some (.int .i64 x1z1) := cur_cell K_x1.out.now 1
  have c_x1_2 : w14.cell? ⟨w7.heap.size, 2, none⟩ = some (.slice x1a2 x1n2 x1c2) := cur_cell K_x1.out.now 2
  go_wp2_with fail
  clear c_aB_0 c_aB_1 c_aB_2 c_x1_0 c_x1_1 c_x1_2
  refine (uMarkBlock w6.heap.size w7.heap.size k14 (.int .i64 x1z0) (.int .i64 x1z1) (.slice x1a2 x1n2 x1c2) m1 _ (by omega) A_x1.out.top A_x1.out.now).mono ?_
  rintro e w15 ⟨k15, rfl, hk, ho, hc⟩
  have bd_k15 : k15 ≤ 4000000000000 := by omega
  have HK_k15 := Lib.hid hk
  have s_w15 : w14.heap.size ≤ w15.heap.size := by have := hc.size; simpa only [size_box, size_drew] using this
  have ho_t := A_x1.out.top
  clear A_x1
  replace B := Lib.hid (hc.below B.out (by have := B0s; omega))
  replace R_aList := Lib.hid (R_aList.out.chg hc (by have := B0s; omega))
  replace R_aB := Lib.hid (R_aB.out.chg hc (by have := B0s; omega))
  replace K_aB := Lib.hid (K_aB.out.chg hc (by have := B0s; omega))
  replace A_w0 := Lib.hid (A_w0.out.chg hc (by have := B0s; omega))
  replace K_x1 := Lib.hid (K_x1.out.chg hc (by have := B0s; omega))
  replace A_g0 := Lib.hid (A_g0.out.chg hc (by have := B0s; omega))
  replace A_x0 := Lib.hid (A_x0.out.chg hc (by have := B0s; omega))
  have A_x1 := Lib.hid (ho.lies (Nat.le_trans ho_t s_w15))
  clear hk ho hc ho_t
  have c_aB_0 : w15.cell? ⟨w.heap.size, 0, none⟩ = some d1_0 := cur_cell K_aB.out.now 0
  have c_aB_1 : w15.cell? ⟨w.heap.size, 1, none⟩ = some d1_1 := cur_cell K_aB.out.now 1
  have c_aB_2 : w15.cell? ⟨w.heap.size, 2, none⟩ = some d1_2 := cur_cell K_aB.out.now 2
  have c_x1_0 : w15.cell? ⟨w7.heap.size, 0, none⟩ = some (.int .i64 x1z0) := cur_cell K_x1.out.now 0
  have c_x1_1 : w15.cell? ⟨w7.heap.size, 1, none⟩ = some (.int .i64 x1z1) := cur_cell K_x1.out.now 1
  have c_x1_2 : w15.cell? ⟨w7.heap.size, 2, none⟩ = some (.slice x1a2 x1n2 x1c2) := cur_cell K_x1.out.now 2
  go_wp2_with fail
  clear c_aB_0 c_aB_1 c_aB_2 c_x1_0 c_x1_1 c_x1_2
  refine (uEqBlockS (.slice g0_a0 g0_n0 g0_c0) (.slice w0_a0 w0_n0 w0_c0) (sPutM m0 m1 m2 m3) _ A_g0.out.now.read A_w0.out.now.read).mono ?_
  rintro e w16 ⟨rfl, hb⟩
  have s_w16 : w15.heap.size ≤ w16.heap.size := by have := hb.size; simpa only [size_box, size_drew] using this
  replace B := Lib.hid (below_seq B.out hb)
  replace R_aList := Lib.hid (R_aList.out.below hb)
  replace R_aB := Lib.hid (R_aB.out.below hb)
  replace K_aB := Lib.hid (K_aB.out.below hb)
  replace A_w0 := Lib.hid (A_w0.out.below hb)
  replace K_x1 := Lib.hid (K_x1.out.below hb)
  replace A_g0 := Lib.hid (A_g0.out.below hb)
  replace A_x0 := Lib.hid (A_x0.out.below hb)
  replace A_x1 := Lib.hid (A_x1.out.below hb)
  clear hb
  have c_aB_0 : w16.cell? ⟨w.heap.size, 0, none⟩ = some d1_0 := cur_cell K_aB.out.now 0
  have c_aB_1 : w16.cell? ⟨w.heap.size, 1, none⟩ = some d1_1 := cur_cell K_aB.out.now 1
  have c_aB_2 : w16.cell? ⟨w.heap.size, 2, none⟩ = some d1_2 := cur_cell K_aB.out.now 2
  have c_x1_0 : w16.cell? ⟨w7.heap.size, 0, none⟩ = some (.int .i64 x1z0) := cur_cell K_x1.out.now 0
  have c_x1_1 : w16.cell? ⟨w7.heap.size, 1, none⟩ = some (.int .i64 x1z1) := cur_cell K_x1.out.now 1
  have c_x1_2 : w16.cell? ⟨w7.heap.size, 2, none⟩ = some (.slice x1a2 x1n2 x1c2) := cur_cell K_x1.out.now 2
  go_wp2_with fail
  clear c_aB_0 c_aB_1 c_aB_2 c_x1_0 c_x1_1 c_x1_2
  refine (uMarkBlockS (w7.heap.size + 1) w8.heap.size 1 (.slice g0_a0 g0_n0 g0_c0) (sPutM m0 m1 m2 m3) _ (by have := bd_g0; omega) A_g0.out.now).mono ?_
  rintro e w17 ⟨k17, rfl, hk, ho, hc⟩
  have bd_k17 : k17 ≤ 2000000000000 := by have := bd_g0; omega
  have HK_k17 := Lib.hid hk
  have s_w17 : w16.heap.size ≤ w17.heap.size := by have := hc.size; simpa only [size_box, size_drew] using this
  have ho_t := A_g0.out.top
  clear A_g0
  replace B := Lib.hid (hc.below B.out (by have := B0s; omega))
  replace R_aList := Lib.hid (R_aList.out.chg hc (by have := B0s; omega))
  replace R_aB := Lib.hid (R_aB.out.chg hc (by have := B0s; omega))
  replace K_aB := Lib.hid (K_aB.out.chg hc (by have := B0s; omega))
  replace A_w0 := Lib.hid (A_w0.out.chg hc (by have := B0s; omega))
  replace K_x1 := Lib.hid (K_x1.out.chg hc (by have := B0s; omega))
  replace A_x0 := Lib.hid (A_x0.out.chg hc (by have := B0s; omega))
  replace A_x1 := Lib.hid (A_x1.out.chg hc (by have := B0s; omega))
  have A_g0 := Lib.hid (ho.lies (Nat.le_trans ho_t s_w17))
  clear hk ho hc ho_t
  have c_aB_0 : w17.cell? ⟨w.heap.size, 0, none⟩ = some d1_0 := cur_cell K_aB.out.now 0
  have c_aB_1 : w17.cell? ⟨w.heap.size, 1, none⟩ = some d1_1 := cur_cell K_aB.out.now 1
  have c_aB_2 : w17.cell? ⟨w.heap.size, 2, none⟩ = some d1_2 := cur_cell K_aB.out.now 2
  have c_x1_0 : w17.cell? ⟨w7.heap.size, 0, none⟩ = some (.int .i64 x1z0) := cur_cell K_x1.out.now 0
  have c_x1_1 : w17.cell? ⟨w7.heap.size, 1, none⟩ = some (.int .i64 x1z1) := cur_cell K_x1.out.now 1
  have c_x1_2 : w17.cell? ⟨w7.heap.size, 2, none⟩ = some (.slice x1a2 x1n2 x1c2) := cur_cell K_x1.out.now 2
  go_wp2_with fail
  clear c_aB_0 c_aB_1 c_aB_2 c_x1_0 c_x1_1 c_x1_2
  refine (uHeldBlockS 1 (.slice g0_a0 g0_n0 g0_c0) (sPutM m0 m1 m2 m3) _ (by have := HK_k17.out; omega) A_g0.out.now.read).mono ?_
  rintro e w18 ⟨k18, rfl, hk, hb⟩
  have hkk : k18 = k17 := by have := HK_k17.out; omega
  rw [hkk]
  clear hk hkk
  have s_w18 : w17.heap.size ≤ w18.heap.size := by have := hb.size; simpa only [size_box, size_drew] using this
  replace B := Lib.hid (below_seq B.out hb)
  replace R_aList := Lib.hid (R_aList.out.below hb)
  replace R_aB := Lib.hid (R_aB.out.below hb)
  replace K_aB := Lib.hid (K_aB.out.below hb)
  replace A_w0 := Lib.hid (A_w0.out.below hb)
  replace K_x1 := Lib.hid (K_x1.out.below hb)
  replace A_x0 := Lib.hid (A_x0.out.below hb)
  replace A_x1 := Lib.hid (A_x1.out.below hb)
  replace A_g0 := Lib.hid (A_g0.out.below hb)
  clear hb
  have KP18 := Lib.hid (fun w' (hb : Below w18.heap.size w18 w') => (show w'.cell? ⟨w.heap.size, 0, none⟩ = some d1_0 ∧ w'.cell? ⟨w.heap.size, 1, none⟩ = some d1_1 ∧ w'.cell? ⟨w.heap.size, 2, none⟩ = some d1_2 from ⟨cur_cell (K_aB.out.below hb).now 0, cur_cell (K_aB.out.below hb).now 1, cur_cell (K_aB.out.below hb).now 2⟩))
  have HD18 := Lib.hid (below_drew (Below.refl w18.heap.size w18))
  have U18_0 := Lib.hid (fun w' (hb : Below w18.heap.size w18 w') => uToBlockS (.slice a0 m0.length cap0) m0 w' hs0 ((R_aList.out.below hb).now))
  have U18_1 := Lib.hid (fun w' (hb : Below w18.heap.size w18 w') => uToBlock d1_0 d1_1 d1_2 m1 w' hs1 ((R_aB.out.below hb).now))
  go_wp2_with fail
  go_region_held3 (fun w' => w'.cell? ⟨w.heap.size, 0, none⟩ = some d1_0 ∧ w'.cell? ⟨w.heap.size, 1, none⟩ = some d1_1 ∧ w'.cell? ⟨w.heap.size, 2, none⟩ = some d1_2)
    (exact KP18.out _ HD18.out)
    (first
      | (go_at_call 27; refine (U18_0.out _ HD18.out).mono ?_; rintro e w19 ⟨q18_0_0, rfl, ho, hb⟩; have A18_0 := Lib.hid (ho.lies (Nat.le_refl _)); have HD18 := Lib.hid (below_seq HD18.out hb); clear hb ho U18_0)
      | (go_at_call 31; refine (U18_1.out _ HD18.out).mono ?_; rintro e w20 ⟨q18_1_0, q18_1_1, q18_1_2, rfl, ho, hb⟩; have A18_1 := Lib.hid (ho.lies (Nat.le_refl _)); have A18_0 := Lib.hid (A18_0.out.below hb); have HD18 := Lib.hid (below_seq HD18.out hb); clear hb ho U18_1)
      | (go_at_call 14; refine (uImplStashPut q18_0_0 m0 q18_1_0 q18_1_1 q18_1_2 m1 m2 m3 _ A18_0.out.now.read A18_1.out.now.read b2 b3 hs0 hs1).mono ?_; rintro e w21 ⟨h0_0, rfl, ho, hb⟩; obtain ⟨h0_a0, h0_n0, h0_c0, rfl⟩ := ho.shape; have AR18 := Lib.hid (ho.lies (Nat.le_refl _)); have HD18 := Lib.hid (below_seq HD18.out hb); clear hb ho A18_0 A18_1))
  have hb := HD18.out
  clear KP18 HD18
  have s_w21 : w18.heap.size ≤ w21.heap.size := by have := hb.size; simpa only [size_box, size_drew] using this
  replace B := Lib.hid (below_seq B.out hb)
  replace R_aList := Lib.hid (R_aList.out.below hb)
  replace R_aB := Lib.hid (R_aB.out.below hb)
  replace K_aB := Lib.hid (K_aB.out.below hb)
  replace A_w0 := Lib.hid (A_w0.out.below hb)
  replace K_x1 := Lib.hid (K_x1.out.below hb)
  replace A_x0 := Lib.hid (A_x0.out.below hb)
  replace A_x1 := Lib.hid (A_x1.out.below hb)
  replace A_g0 := Lib.hid (A_g0.out.below hb)
  clear hb
  have A_h0 := Lib.hid AR18.out
  clear AR18
  have c_aB_0 : w21.cell? ⟨w.heap.size, 0, none⟩ = some d1_0 := cur_cell K_aB.out.now 0
  have c_aB_1 : w21.cell? ⟨w.heap.size, 1, none⟩ = some d1_1 := cur_cell K_aB.out.now 1
  have c_aB_2 : w21.cell? ⟨w.heap.size, 2, none⟩ = some d1_2 := cur_cell K_aB.out.now 2
  have c_x1_0 : w21.cell? ⟨w7.heap.size, 0, none⟩ = some (.int .i64 x1z0) := cur_cell K_x1.out.now 0
  have c_x1_1 : w21.cell? ⟨w7.heap.size, 1, none⟩ = some (.int .i64 x1z1) := cur_cell K_x1.out.now 1
  have c_x1_2 : w21.cell? ⟨w7.heap.size, 2, none⟩ = some (.slice x1a2 x1n2 x1c2) := cur_cell K_x1.out.now 2
  go_wp2_with fail
  clear c_aB_0 c_aB_1 c_aB_2 c_x1_0 c_x1_1 c_x1_2
  refine (uEqBlockS (.slice h0_a0 h0_n0 h0_c0) (.slice w0_a0 w0_n0 w0_c0) (sPutM m0 m1 m2 m3) _ A_h0.out.now.read A_w0.out.now.read).mono ?_
  rintro e w22 ⟨rfl, hb⟩
  have s_w22 : w21.heap.size ≤ w22.heap.size := by have := hb.size; simpa only [size_box, size_drew] using this
  replace B := Lib.hid (below_seq B.out hb)
  replace R_aList := Lib.hid (R_aList.out.below hb)
  replace R_aB := Lib.hid (R_aB.out.below hb)
  replace K_aB := Lib.hid (K_aB.out.below hb)
  replace A_w0 := Lib.hid (A_w0.out.below hb)
  replace K_x1 := Lib.hid (K_x1.out.below hb)
  replace A_x0 := Lib.hid (A_x0.out.below hb)
  replace A_x1 := Lib.hid (A_x1.out.below hb)
  replace A_g0 := Lib.hid (A_g0.out.below hb)
  replace A_h0 := Lib.hid (A_h0.out.below hb)
  clear hb
  have c_aB_0 : w22.cell? ⟨w.heap.size, 0, none⟩ = some d1_0 := cur_cell K_aB.out.now 0
  have c_aB_1 : w22.cell? ⟨w.heap.size, 1, none⟩ = some d1_1 := cur_cell K_aB.out.now 1
  have c_aB_2 : w22.cell? ⟨w.heap.size, 2, none⟩ = some d1_2 := cur_cell K_aB.out.now 2
  have c_x1_0 : w22.cell? ⟨w7.heap.size, 0, none⟩ = some (.int .i64 x1z0) := cur_cell K_x1.out.now 0
  have c_x1_1 : w22.cell? ⟨w7.heap.size, 1, none⟩ = some (.int .i64 x1z1) := cur_cell K_x1.out.now 1
  have c_x1_2 : w22.cell? ⟨w7.heap.size, 2, none⟩ = some (.slice x1a2 x1n2 x1c2) := cur_cell K_x1.out.now 2
  go_wp2_with fail
  clear c_aB_0 c_aB_1 c_aB_2 c_x1_0 c_x1_1 c_x1_2
  refine (uHeldBlockS 1 (.slice g0_a0 g0_n0 g0_c0) (sPutM m0 m1 m2 m3) _ (by have := HK_k17.out; omega) A_g0.out.now.read).mono ?_
  rintro e w23 ⟨k23, rfl, hk, hb⟩
  have hkk : k23 = k17 := by have := HK_k17.out; omega
  rw [hkk]
  clear hk hkk
  have s_w23 : w22.heap.size ≤ w23.heap.size := by have := hb.size; simpa only [size_box, size_drew] using this
  replace B := Lib.hid (below_seq B.out hb)
  replace R_aList := Lib.hid (R_aList.out.below hb)
  replace R_aB := Lib.hid (R_aB.out.below hb)
  replace K_aB := Lib.hid (K_aB.out.below hb)
  replace A_w0 := Lib.hid (A_w0.out.below hb)
  replace K_x1 := Lib.hid (K_x1.out.below hb)
  replace A_x0 := Lib.hid (A_x0.out.below hb)
  replace A_x1 := Lib.hid (A_x1.out.below hb)
  replace A_g0 := Lib.hid (A_g0.out.below hb)
  replace A_h0 := Lib.hid (A_h0.out.below hb)
  clear hb
  have c_aB_0 : w23.cell? ⟨w.heap.size, 0, none⟩ = some d1_0 := cur_cell K_aB.out.now 0
  have c_aB_1 : w23.cell? ⟨w.heap.size, 1, none⟩ = some d1_1 := cur_cell K_aB.out.now 1
  have c_aB_2 : w23.cell? ⟨w.heap.size, 2, none⟩ = some d1_2 := cur_cell K_aB.out.now 2
  have c_x1_0 : w23.cell? ⟨w7.heap.size, 0, none⟩ = some (.int .i64 x1z0) := cur_cell K_x1.out.now 0
  have c_x1_1 : w23.cell? ⟨w7.heap.size, 1, none⟩ = some (.int .i64 x1z1) := cur_cell K_x1.out.now 1
  have c_x1_2 : w23.cell? ⟨w7.heap.size, 2, none⟩ = some (.slice x1a2 x1n2 x1c2) := cur_cell K_x1.out.now 2
  go_wp2
  go_ret
  exact ⟨rfl, B.out⟩

set_option maxRecDepth 100000 in
theorem lifted (os : Os) (started : os.Started) (H : Type) (enc : TypeId × Value → H) :
    ReturnsInHanded {} Try.checked os 6 .any (Rows.fnExactStashPutSpec.pre6 enc Try.prog Try.f6 Rows.fnExactStashPutRow.domain false) (Rows.fnExactStashPutSpec.post enc Try.prog Try.f6 false true false false) := by
  refine returnsInHanded_of_change (C := Try.checked) own started (by kernel_rfl) Try.func6
    (ChangeSpec.witness6 (enc := enc) (C := Try.checked) false ⟨#[], #[.slice none 0 0, .agg #[.int .i64 0, .int .i64 0, .slice none 0 0], .int .i64 0, .int .i64 0], []⟩ 8 (by kernel_rfl) (by kernel_rfl) (by kernel_rfl) (by kernel_rfl)) ?_
  intro W base args ds gs before hval0 hW hcnd _
  have hval : ∀ (j : Nat) t v, Try.f6.params[j]? = some t → args[j]? = some v → Value.okWide Try.prog W .any base t v := hval0
  have hW' := hW
  obtain ⟨p, q, hA0, hV, rfl, hfz, hnd⟩ := hW
  have hA : DataW.TrodAll enc Try.prog W 0 (fun _ => true) true Try.f6.params.toList args.toList ds p := hA0
  rw [Try.params6] at hA hval
  obtain ⟨v0, vs0, d0, ds0, p0, q0, hargs, rfl, rfl, h0, r0⟩ := trodAll_cons hA
  obtain ⟨v1, vs1, d1, ds1, p1, q1, rfl, rfl, rfl, h1, r1⟩ := trodAll_cons r0
  obtain ⟨v2, vs2, d2, ds2, p2, q2, rfl, rfl, rfl, h2, r2⟩ := trodAll_cons r1
  obtain ⟨v3, vs3, d3, ds3, p3, q3, rfl, rfl, rfl, h3, r3⟩ := trodAll_cons r2
  obtain ⟨rfl, rfl, rfl⟩ := trodAll_nil r3
  obtain rfl : args = #[v0, v1, v2, v3] := by cases args; simp_all
  obtain ⟨rfl, rfl⟩ := trodVars_none hV
  have lt0 : ∀ x ∈ p0, x.block < W.heap.size := by obtain ⟨m, hm⟩ := h0; exact DataW.trod_lt m _ _ _ hm
  have lt1 : ∀ x ∈ p1, x.block < W.heap.size := by obtain ⟨m, hm⟩ := h1; exact DataW.trod_lt m _ _ _ hm
  have lt2 : ∀ x ∈ p2, x.block < W.heap.size := by obtain ⟨m, hm⟩ := h2; exact DataW.trod_lt m _ _ _ hm
  have lt3 : ∀ x ∈ p3, x.block < W.heap.size := by obtain ⟨m, hm⟩ := h3; exact DataW.trod_lt m _ _ _ hm
  clear hA0 hval0
  refine (walk v0 v1 v2 v3 W ⟨⟨base, hval 0 47 v0 rfl rfl⟩, Rd.of h0⟩ ⟨⟨base, hval 1 51 v1 rfl rfl⟩, Rd.of h1⟩ ⟨⟨base, hval 2 3 v2 rfl rfl⟩, Rd.of h2⟩ ⟨⟨base, hval 3 3 v3 rfl rfl⟩, Rd.of h3⟩).mono fun e W' ⟨he, bel⟩ => ?_
  subst he
  exact ⟨_, rfl, _, _, _, [], _, [], hW', trodAll_mk1 (shut_bool Try.underlying4 _), (trodAll_cons_mk (Below.trod laidOut (by kernel_rfl) (of_decide_eq_true (by kernel_rfl)) h0 bel lt0) (trodAll_cons_mk (Below.trod laidOut (by kernel_rfl) (of_decide_eq_true (by kernel_rfl)) h1 bel lt1) (trodAll_cons_mk (Below.trod laidOut (by kernel_rfl) (of_decide_eq_true (by kernel_rfl)) h2 bel lt2) (trodAll_cons_mk (Below.trod laidOut (by kernel_rfl) (of_decide_eq_true (by kernel_rfl)) h3 bel lt3) trodAll_mk0)))), rfl, bel.frame _, fun h => by cases h⟩

theorem over : Rows.fnExactStashPutRow.holds Try.pinned (OpenSpec.ofChange Rows.fnExactStashPutSpec) :=
  OpenClaim.holds_of_wide 6 Try.f6 rfl rfl rfl rfl rfl rfl rfl ⟨rfl, rfl, rfl, rfl, rfl⟩ rfl rfl rfl rfl rfl (by kernel_rfl) Try.func6 (by kernel_rfl)
    (of_decide_eq_true (by kernel_rfl)) (by unfold Func.isWrapper; first | (rw [if_pos (by decide +kernel)]; kernel_rfl) | (rw [if_neg (by decide +kernel)]; exact ⟨rfl, rfl⟩))
    (fun os started H enc _ => lifted os started H enc)
end Go.Proofs.Ytmkgddbdkpkgpaa.fnExactStashPut
namespace Go.Proofs.Ytmkgddbdkpkgpaa
/-- StashPut answers as its model, at every argument. -/
theorem fnExactStashPut_holds : Rows.FnExactStashPutSaid := fnExactStashPut.over
end Go.Proofs.Ytmkgddbdkpkgpaa
