/- For every argument: the law FnExactNodeRead answers true, that is, NodeRead answers as its model and writes into no argument; its answer owns its memory. No condition. -/
import Derived.Test.YtmndkpicbmffnaaBase
import Derived.Test.YtmndkpicbmffnaaReads
import Derived.Test.YtmndkpicbmffnaaTnI
import Derived.Test.YtmndkpicbmffnaaTnR
import Derived.Test.YtmndkpicbmffnaaTnB
import Derived.Deep.RegionHeld3
namespace Go.Proofs.Ytmndkpicbmffnaa.fnExactNodeRead
open Go.ChangeShapes Go.WideShapes Go.ChangeAt Go.RowKit
set_option linter.unusedVariables false
set_option linter.unusedSimpArgs false

set_option maxRecDepth 100000 in
set_option maxHeartbeats 4000000 in
theorem walk (v0 : Value) (v1 : Value) (v2 : Value) (w : World) (h0 : Arg w 22 v0) (h1 : Arg w 3 v1) (h2 : Arg w 3 v2) :
    Calls Try.prog 9 #[v0, v1, v2] w fun e w' => e = .returned (.bool true) ∧ Below w.heap.size w w' := by
  obtain ⟨d0_0, m0, rfl, i0, b0⟩ := argByteS h0
  have R_aData := Lib.hid i0.lies
  obtain ⟨a0, cap0, rfl, _, hx0, _⟩ := byteSIn_shape i0
  clear i0
  clear h0
  obtain ⟨m1, rfl, b1⟩ := arg_int h1
  clear h1
  obtain ⟨m2, rfl, b2⟩ := arg_int h2
  clear h2
  have B : Hid (Below w.heap.size w w) := Lib.hid (Below.refl _ _)
  have B0s : 0 ≤ w.heap.size := Nat.zero_le _
  by_cases g0 : 1048576 < m0.length
  · go_enter Try.func9, Try.ntmps9
    go_wp2
    go_ret
    exact ⟨rfl, B.out⟩
  have hs0 : szByteS m0 ≤ 1048576 := by unfold szByteS; omega
  go_enter Try.func9, Try.ntmps9
  go_wp2_with fail
  refine (uToByteS (.slice a0 m0.length cap0) m0 _ hs0 R_aData.out.now).mono ?_
  rintro e w1 ⟨t0_0, rfl, ho, hb⟩
  obtain ⟨t0_a0, t0_n0, t0_c0, rfl⟩ := ho.shape
  have s_w1 : w.heap.size ≤ w1.heap.size := by have := hb.size; simpa only [size_box, size_drew] using this
  replace B := Lib.hid (below_seq B.out hb)
  replace R_aData := Lib.hid (R_aData.out.below hb)
  have A_t0_ := Lib.hid (ho.lies (Nat.le_refl _))
  clear ho hb
  go_wp2_with fail
  refine (uSpecNodeRead (.slice t0_a0 t0_n0 t0_c0) m0 m1 m2 _ A_t0_.out.now.read b1 b2).mono ?_
  rintro e w2 ⟨w0_0, rfl, ho_w0, hb⟩
  obtain ⟨w0_a0, w0_n0, w0_c0, rfl⟩ := ho_w0.shape
  clear A_t0_
  have s_w2 : w1.heap.size ≤ w2.heap.size := by have := hb.size; simpa only [size_box, size_drew] using this
  replace B := Lib.hid (below_seq B.out hb)
  replace R_aData := Lib.hid (R_aData.out.below hb)
  have A_w0 := Lib.hid (ho_w0.lies (Nat.le_refl _))
  clear ho_w0 hb
  replace B := Lib.hid (below_box B.out (.cells #[.slice w0_a0 w0_n0 w0_c0] 26))
  replace R_aData := Lib.hid (R_aData.out.box (.cells #[.slice w0_a0 w0_n0 w0_c0] 26))
  replace A_w0 := Lib.hid (A_w0.out.box (.cells #[.slice w0_a0 w0_n0 w0_c0] 26))
  have K_w0 := Lib.hid (lies_box w2 (.cells #[.slice w0_a0 w0_n0 w0_c0] 26))
  have c_w0_0 : (w2.alloc (.cells #[.slice w0_a0 w0_n0 w0_c0] 26)).cell? ⟨w2.heap.size, 0, none⟩ = some (.slice w0_a0 w0_n0 w0_c0) := cur_cell K_w0.out.now 0
  go_wp2_with fail
  clear c_w0_0
  refine (uToByteS (.slice a0 m0.length cap0) m0 _ hs0 R_aData.out.now).mono ?_
  rintro e w3 ⟨x00, rfl, ho, hb⟩
  obtain ⟨x0a0, x0n0, x0c0, rfl⟩ := ho.shape
  have s_w3 : w2.heap.size + 1 ≤ w3.heap.size := by have := hb.size; simpa only [size_box, size_drew] using this
  replace B := Lib.hid (below_seq B.out hb)
  replace R_aData := Lib.hid (R_aData.out.below hb)
  replace A_w0 := Lib.hid (A_w0.out.below hb)
  replace K_w0 := Lib.hid (K_w0.out.below hb)
  simp only [size_box] at ho
  have A_x0 := Lib.hid (ho.lies (Nat.le_refl _))
  clear ho hb
  have c_w0_0 : w3.cell? ⟨w2.heap.size, 0, none⟩ = some (.slice w0_a0 w0_n0 w0_c0) := cur_cell K_w0.out.now 0
  go_wp2_with fail
  clear c_w0_0
  refine (uImplNodeRead (.slice x0a0 x0n0 x0c0) m0 m1 m2 _ A_x0.out.now.read b1 b2).mono ?_
  rintro e w4 ⟨g0_0, rfl, ho_g0, hb⟩
  obtain ⟨g0_a0, g0_n0, g0_c0, rfl⟩ := ho_g0.shape
  have s_w4 : w3.heap.size ≤ w4.heap.size := by have := hb.size; simpa only [size_box, size_drew] using this
  replace B := Lib.hid (below_seq B.out hb)
  replace R_aData := Lib.hid (R_aData.out.below hb)
  replace A_w0 := Lib.hid (A_w0.out.below hb)
  replace K_w0 := Lib.hid (K_w0.out.below hb)
  replace A_x0 := Lib.hid (A_x0.out.below hb)
  have A_g0 := Lib.hid (ho_g0.lies (Nat.le_refl _))
  clear ho_g0 hb
  replace B := Lib.hid (below_box B.out (.cells #[.slice g0_a0 g0_n0 g0_c0] 26))
  replace R_aData := Lib.hid (R_aData.out.box (.cells #[.slice g0_a0 g0_n0 g0_c0] 26))
  replace A_w0 := Lib.hid (A_w0.out.box (.cells #[.slice g0_a0 g0_n0 g0_c0] 26))
  replace K_w0 := Lib.hid (K_w0.out.box (.cells #[.slice g0_a0 g0_n0 g0_c0] 26))
  replace A_x0 := Lib.hid (A_x0.out.box (.cells #[.slice g0_a0 g0_n0 g0_c0] 26))
  replace A_g0 := Lib.hid (A_g0.out.box (.cells #[.slice g0_a0 g0_n0 g0_c0] 26))
  have K_g0 := Lib.hid (lies_box w4 (.cells #[.slice g0_a0 g0_n0 g0_c0] 26))
  have bd_g0 : mcNode (readNM m0 m1 m2) ≤ 1000000000000 := readNM_bd m0 m1 m2
  have c_w0_0 : (w4.alloc (.cells #[.slice g0_a0 g0_n0 g0_c0] 26)).cell? ⟨w2.heap.size, 0, none⟩ = some (.slice w0_a0 w0_n0 w0_c0) := cur_cell K_w0.out.now 0
  have c_g0_0 : (w4.alloc (.cells #[.slice g0_a0 g0_n0 g0_c0] 26)).cell? ⟨w4.heap.size, 0, none⟩ = some (.slice g0_a0 g0_n0 g0_c0) := cur_cell K_g0.out.now 0
  go_wp2_with fail
  clear c_w0_0 c_g0_0
  refine (uEqNode (.slice g0_a0 g0_n0 g0_c0) (.slice w0_a0 w0_n0 w0_c0) (readNM m0 m1 m2) _ A_g0.out.now.read A_w0.out.now.read).mono ?_
  rintro e w5 ⟨rfl, hb⟩
  have s_w5 : w4.heap.size + 1 ≤ w5.heap.size := by have := hb.size; simpa only [size_box, size_drew] using this
  replace B := Lib.hid (below_seq B.out hb)
  replace R_aData := Lib.hid (R_aData.out.below hb)
  replace A_w0 := Lib.hid (A_w0.out.below hb)
  replace K_w0 := Lib.hid (K_w0.out.below hb)
  replace A_x0 := Lib.hid (A_x0.out.below hb)
  replace A_g0 := Lib.hid (A_g0.out.below hb)
  replace K_g0 := Lib.hid (K_g0.out.below hb)
  clear hb
  have c_w0_0 : w5.cell? ⟨w2.heap.size, 0, none⟩ = some (.slice w0_a0 w0_n0 w0_c0) := cur_cell K_w0.out.now 0
  have c_g0_0 : w5.cell? ⟨w4.heap.size, 0, none⟩ = some (.slice g0_a0 g0_n0 g0_c0) := cur_cell K_g0.out.now 0
  go_wp2_with fail
  clear c_w0_0 c_g0_0
  refine (uToByteS (.slice a0 m0.length cap0) m0 _ hs0 R_aData.out.now).mono ?_
  rintro e w6 ⟨te5_0, rfl, ho, hb⟩
  obtain ⟨te5_a0, te5_n0, te5_c0, rfl⟩ := ho.shape
  have s_w6 : w5.heap.size ≤ w6.heap.size := by have := hb.size; simpa only [size_box, size_drew] using this
  replace B := Lib.hid (below_seq B.out hb)
  replace R_aData := Lib.hid (R_aData.out.below hb)
  replace A_w0 := Lib.hid (A_w0.out.below hb)
  replace K_w0 := Lib.hid (K_w0.out.below hb)
  replace A_x0 := Lib.hid (A_x0.out.below hb)
  replace A_g0 := Lib.hid (A_g0.out.below hb)
  replace K_g0 := Lib.hid (K_g0.out.below hb)
  have A_te5_ := Lib.hid (ho.lies (Nat.le_refl _))
  clear ho hb
  have c_w0_0 : w6.cell? ⟨w2.heap.size, 0, none⟩ = some (.slice w0_a0 w0_n0 w0_c0) := cur_cell K_w0.out.now 0
  have c_g0_0 : w6.cell? ⟨w4.heap.size, 0, none⟩ = some (.slice g0_a0 g0_n0 g0_c0) := cur_cell K_g0.out.now 0
  go_wp2_with fail
  clear c_w0_0 c_g0_0
  refine (uEqByteS (.slice x0a0 x0n0 x0c0) (.slice te5_a0 te5_n0 te5_c0) m0 _ A_x0.out.now.read A_te5_.out.now.read).mono ?_
  rintro e w7 ⟨rfl, hb⟩
  have s_w7 : w6.heap.size ≤ w7.heap.size := by have := hb.size; simpa only [size_box, size_drew] using this
  replace B := Lib.hid (below_seq B.out hb)
  replace R_aData := Lib.hid (R_aData.out.below hb)
  replace A_w0 := Lib.hid (A_w0.out.below hb)
  replace K_w0 := Lib.hid (K_w0.out.below hb)
  replace A_x0 := Lib.hid (A_x0.out.below hb)
  replace A_g0 := Lib.hid (A_g0.out.below hb)
  replace K_g0 := Lib.hid (K_g0.out.below hb)
  replace A_te5_ := Lib.hid (A_te5_.out.below hb)
  clear hb
  clear A_te5_
  have c_w0_0 : w7.cell? ⟨w2.heap.size, 0, none⟩ = some (.slice w0_a0 w0_n0 w0_c0) := cur_cell K_w0.out.now 0
  have c_g0_0 : w7.cell? ⟨w4.heap.size, 0, none⟩ = some (.slice g0_a0 g0_n0 g0_c0) := cur_cell K_g0.out.now 0
  go_wp2_with fail
  clear c_w0_0 c_g0_0
  refine (uMarkByteS (w2.heap.size + 1) w3.heap.size 1 (.slice x0a0 x0n0 x0c0) m0 _ (by omega) A_x0.out.now).mono ?_
  rintro e w8 ⟨k8, rfl, hk, ho, hc⟩
  have bd_k8 : k8 ≤ 2000000000000 := by omega
  have HK_k8 := Lib.hid hk
  have s_w8 : w7.heap.size ≤ w8.heap.size := by have := hc.size; simpa only [size_box, size_drew] using this
  have ho_t := A_x0.out.top
  clear A_x0
  replace B := Lib.hid (hc.below B.out (by have := B0s; omega))
  replace R_aData := Lib.hid (R_aData.out.chg hc (by have := B0s; omega))
  replace A_w0 := Lib.hid (A_w0.out.chg hc (by have := B0s; omega))
  replace K_w0 := Lib.hid (K_w0.out.chg hc (by have := B0s; omega))
  replace A_g0 := Lib.hid (A_g0.out.chg hc (by have := B0s; omega))
  replace K_g0 := Lib.hid (K_g0.out.chg hc (by have := B0s; omega))
  have A_x0 := Lib.hid (ho.lies (Nat.le_trans ho_t s_w8))
  clear hk ho hc ho_t
  have c_w0_0 : w8.cell? ⟨w2.heap.size, 0, none⟩ = some (.slice w0_a0 w0_n0 w0_c0) := cur_cell K_w0.out.now 0
  have c_g0_0 : w8.cell? ⟨w4.heap.size, 0, none⟩ = some (.slice g0_a0 g0_n0 g0_c0) := cur_cell K_g0.out.now 0
  go_wp2_with fail
  clear c_w0_0 c_g0_0
  refine (uEqNode (.slice g0_a0 g0_n0 g0_c0) (.slice w0_a0 w0_n0 w0_c0) (readNM m0 m1 m2) _ A_g0.out.now.read A_w0.out.now.read).mono ?_
  rintro e w9 ⟨rfl, hb⟩
  have s_w9 : w8.heap.size ≤ w9.heap.size := by have := hb.size; simpa only [size_box, size_drew] using this
  replace B := Lib.hid (below_seq B.out hb)
  replace R_aData := Lib.hid (R_aData.out.below hb)
  replace A_w0 := Lib.hid (A_w0.out.below hb)
  replace K_w0 := Lib.hid (K_w0.out.below hb)
  replace A_g0 := Lib.hid (A_g0.out.below hb)
  replace K_g0 := Lib.hid (K_g0.out.below hb)
  replace A_x0 := Lib.hid (A_x0.out.below hb)
  clear hb
  have c_w0_0 : w9.cell? ⟨w2.heap.size, 0, none⟩ = some (.slice w0_a0 w0_n0 w0_c0) := cur_cell K_w0.out.now 0
  have c_g0_0 : w9.cell? ⟨w4.heap.size, 0, none⟩ = some (.slice g0_a0 g0_n0 g0_c0) := cur_cell K_g0.out.now 0
  go_wp2_with fail
  clear c_w0_0 c_g0_0
  refine (uMarkNode w3.heap.size w4.heap.size 1 (.slice g0_a0 g0_n0 g0_c0) (readNM m0 m1 m2) _ (by have := bd_g0; omega) A_g0.out.top A_g0.out.now).mono ?_
  rintro e w10 ⟨k10, rfl, hk, ho, hc⟩
  have bd_k10 : k10 ≤ 2000000000000 := by have := bd_g0; omega
  have HK_k10 := Lib.hid hk
  have s_w10 : w9.heap.size ≤ w10.heap.size := by have := hc.size; simpa only [size_box, size_drew] using this
  have ho_t := A_g0.out.top
  clear A_g0
  replace B := Lib.hid (hc.below B.out (by have := B0s; omega))
  replace R_aData := Lib.hid (R_aData.out.chg hc (by have := B0s; omega))
  replace A_w0 := Lib.hid (A_w0.out.chg hc (by have := B0s; omega))
  replace K_w0 := Lib.hid (K_w0.out.chg hc (by have := B0s; omega))
  replace K_g0 := Lib.hid (K_g0.out.chg hc (by have := B0s; omega))
  replace A_x0 := Lib.hid (A_x0.out.chg hc (by have := B0s; omega))
  have A_g0 := Lib.hid (ho.lies (Nat.le_trans ho_t s_w10))
  clear hk ho hc ho_t
  have c_w0_0 : w10.cell? ⟨w2.heap.size, 0, none⟩ = some (.slice w0_a0 w0_n0 w0_c0) := cur_cell K_w0.out.now 0
  have c_g0_0 : w10.cell? ⟨w4.heap.size, 0, none⟩ = some (.slice g0_a0 g0_n0 g0_c0) := cur_cell K_g0.out.now 0
  go_wp2_with fail
  clear c_w0_0 c_g0_0
  refine (uHeldNode 1 (.slice g0_a0 g0_n0 g0_c0) (readNM m0 m1 m2) _ (by have := HK_k10.out; omega) A_g0.out.now.read).mono ?_
  rintro e w11 ⟨k11, rfl, hk, hb⟩
  have hkk : k11 = k10 := by have := HK_k10.out; omega
  rw [hkk]
  clear hk hkk
  have s_w11 : w10.heap.size ≤ w11.heap.size := by have := hb.size; simpa only [size_box, size_drew] using this
  replace B := Lib.hid (below_seq B.out hb)
  replace R_aData := Lib.hid (R_aData.out.below hb)
  replace A_w0 := Lib.hid (A_w0.out.below hb)
  replace K_w0 := Lib.hid (K_w0.out.below hb)
  replace K_g0 := Lib.hid (K_g0.out.below hb)
  replace A_x0 := Lib.hid (A_x0.out.below hb)
  replace A_g0 := Lib.hid (A_g0.out.below hb)
  clear hb
  have c_w0_0 : w11.cell? ⟨w2.heap.size, 0, none⟩ = some (.slice w0_a0 w0_n0 w0_c0) := cur_cell K_w0.out.now 0
  have c_g0_0 : w11.cell? ⟨w4.heap.size, 0, none⟩ = some (.slice g0_a0 g0_n0 g0_c0) := cur_cell K_g0.out.now 0
  go_wp2_with fail
  clear c_w0_0 c_g0_0
  refine (uToByteS (.slice a0 m0.length cap0) m0 _ hs0 R_aData.out.now).mono ?_
  rintro e w12 ⟨t11_0, rfl, ho, hb⟩
  obtain ⟨t11_a0, t11_n0, t11_c0, rfl⟩ := ho.shape
  have s_w12 : w11.heap.size ≤ w12.heap.size := by have := hb.size; simpa only [size_box, size_drew] using this
  replace B := Lib.hid (below_seq B.out hb)
  replace R_aData := Lib.hid (R_aData.out.below hb)
  replace A_w0 := Lib.hid (A_w0.out.below hb)
  replace K_w0 := Lib.hid (K_w0.out.below hb)
  replace K_g0 := Lib.hid (K_g0.out.below hb)
  replace A_x0 := Lib.hid (A_x0.out.below hb)
  replace A_g0 := Lib.hid (A_g0.out.below hb)
  have A_t11_ := Lib.hid (ho.lies (Nat.le_refl _))
  clear ho hb
  have c_w0_0 : w12.cell? ⟨w2.heap.size, 0, none⟩ = some (.slice w0_a0 w0_n0 w0_c0) := cur_cell K_w0.out.now 0
  have c_g0_0 : w12.cell? ⟨w4.heap.size, 0, none⟩ = some (.slice g0_a0 g0_n0 g0_c0) := cur_cell K_g0.out.now 0
  go_wp2_with fail
  clear c_w0_0 c_g0_0
  refine (uImplNodeRead (.slice t11_a0 t11_n0 t11_c0) m0 m1 m2 _ A_t11_.out.now.read b1 b2).mono ?_
  rintro e w13 ⟨h0_0, rfl, ho_h0, hb⟩
  obtain ⟨h0_a0, h0_n0, h0_c0, rfl⟩ := ho_h0.shape
  clear A_t11_
  have s_w13 : w12.heap.size ≤ w13.heap.size := by have := hb.size; simpa only [size_box, size_drew] using this
  replace B := Lib.hid (below_seq B.out hb)
  replace R_aData := Lib.hid (R_aData.out.below hb)
  replace A_w0 := Lib.hid (A_w0.out.below hb)
  replace K_w0 := Lib.hid (K_w0.out.below hb)
  replace K_g0 := Lib.hid (K_g0.out.below hb)
  replace A_x0 := Lib.hid (A_x0.out.below hb)
  replace A_g0 := Lib.hid (A_g0.out.below hb)
  have A_h0 := Lib.hid (ho_h0.lies (Nat.le_refl _))
  clear ho_h0 hb
  replace B := Lib.hid (below_box B.out (.cells #[.slice h0_a0 h0_n0 h0_c0] 26))
  replace R_aData := Lib.hid (R_aData.out.box (.cells #[.slice h0_a0 h0_n0 h0_c0] 26))
  replace A_w0 := Lib.hid (A_w0.out.box (.cells #[.slice h0_a0 h0_n0 h0_c0] 26))
  replace K_w0 := Lib.hid (K_w0.out.box (.cells #[.slice h0_a0 h0_n0 h0_c0] 26))
  replace K_g0 := Lib.hid (K_g0.out.box (.cells #[.slice h0_a0 h0_n0 h0_c0] 26))
  replace A_x0 := Lib.hid (A_x0.out.box (.cells #[.slice h0_a0 h0_n0 h0_c0] 26))
  replace A_g0 := Lib.hid (A_g0.out.box (.cells #[.slice h0_a0 h0_n0 h0_c0] 26))
  replace A_h0 := Lib.hid (A_h0.out.box (.cells #[.slice h0_a0 h0_n0 h0_c0] 26))
  have K_h0 := Lib.hid (lies_box w13 (.cells #[.slice h0_a0 h0_n0 h0_c0] 26))
  have c_w0_0 : (w13.alloc (.cells #[.slice h0_a0 h0_n0 h0_c0] 26)).cell? ⟨w2.heap.size, 0, none⟩ = some (.slice w0_a0 w0_n0 w0_c0) := cur_cell K_w0.out.now 0
  have c_g0_0 : (w13.alloc (.cells #[.slice h0_a0 h0_n0 h0_c0] 26)).cell? ⟨w4.heap.size, 0, none⟩ = some (.slice g0_a0 g0_n0 g0_c0) := cur_cell K_g0.out.now 0
  have c_h0_0 : (w13.alloc (.cells #[.slice h0_a0 h0_n0 h0_c0] 26)).cell? ⟨w13.heap.size, 0, none⟩ = some (.slice h0_a0 h0_n0 h0_c0) := cur_cell K_h0.out.now 0
  go_wp2_with fail
  clear c_w0_0 c_g0_0 c_h0_0
  refine (uEqNode (.slice h0_a0 h0_n0 h0_c0) (.slice w0_a0 w0_n0 w0_c0) (readNM m0 m1 m2) _ A_h0.out.now.read A_w0.out.now.read).mono ?_
  rintro e w14 ⟨rfl, hb⟩
  have s_w14 : w13.heap.size + 1 ≤ w14.heap.size := by have := hb.size; simpa only [size_box, size_drew] using this
  replace B := Lib.hid (below_seq B.out hb)
  replace R_aData := Lib.hid (R_aData.out.below hb)
  replace A_w0 := Lib.hid (A_w0.out.below hb)
  replace K_w0 := Lib.hid (K_w0.out.below hb)
  replace K_g0 := Lib.hid (K_g0.out.below hb)
  replace A_x0 := Lib.hid (A_x0.out.below hb)
  replace A_g0 := Lib.hid (A_g0.out.below hb)
  replace A_h0 := Lib.hid (A_h0.out.below hb)
  replace K_h0 := Lib.hid (K_h0.out.below hb)
  clear hb
  have c_w0_0 : w14.cell? ⟨w2.heap.size, 0, none⟩ = some (.slice w0_a0 w0_n0 w0_c0) := cur_cell K_w0.out.now 0
  have c_g0_0 : w14.cell? ⟨w4.heap.size, 0, none⟩ = some (.slice g0_a0 g0_n0 g0_c0) := cur_cell K_g0.out.now 0
  have c_h0_0 : w14.cell? ⟨w13.heap.size, 0, none⟩ = some (.slice h0_a0 h0_n0 h0_c0) := cur_cell K_h0.out.now 0
  go_wp2_with fail
  clear c_w0_0 c_g0_0 c_h0_0
  refine (uHeldNode 1 (.slice g0_a0 g0_n0 g0_c0) (readNM m0 m1 m2) _ (by have := HK_k10.out; omega) A_g0.out.now.read).mono ?_
  rintro e w15 ⟨k15, rfl, hk, hb⟩
  have hkk : k15 = k10 := by have := HK_k10.out; omega
  rw [hkk]
  clear hk hkk
  have s_w15 : w14.heap.size ≤ w15.heap.size := by have := hb.size; simpa only [size_box, size_drew] using this
  replace B := Lib.hid (below_seq B.out hb)
  replace R_aData := Lib.hid (R_aData.out.below hb)
  replace A_w0 := Lib.hid (A_w0.out.below hb)
  replace K_w0 := Lib.hid (K_w0.out.below hb)
  replace K_g0 := Lib.hid (K_g0.out.below hb)
  replace A_x0 := Lib.hid (A_x0.out.below hb)
  replace A_g0 := Lib.hid (A_g0.out.below hb)
  replace A_h0 := Lib.hid (A_h0.out.below hb)
  replace K_h0 := Lib.hid (K_h0.out.below hb)
  clear hb
  have c_w0_0 : w15.cell? ⟨w2.heap.size, 0, none⟩ = some (.slice w0_a0 w0_n0 w0_c0) := cur_cell K_w0.out.now 0
  have c_g0_0 : w15.cell? ⟨w4.heap.size, 0, none⟩ = some (.slice g0_a0 g0_n0 g0_c0) := cur_cell K_g0.out.now 0
  have c_h0_0 : w15.cell? ⟨w13.heap.size, 0, none⟩ = some (.slice h0_a0 h0_n0 h0_c0) := cur_cell K_h0.out.now 0
  go_wp2
  go_ret
  exact ⟨rfl, B.out⟩

set_option maxRecDepth 100000 in
theorem lifted (os : Os) (started : os.Started) (H : Type) (enc : TypeId × Value → H) :
    ReturnsInHanded {} Try.checked os 9 .any (Rows.fnExactNodeReadSpec.pre6 enc Try.prog Try.f9 Rows.fnExactNodeReadRow.domain false) (Rows.fnExactNodeReadSpec.post enc Try.prog Try.f9 false true false false) := by
  refine returnsInHanded_of_change (C := Try.checked) own started (by kernel_rfl) Try.func9
    (ChangeSpec.witness6 (enc := enc) (C := Try.checked) false ⟨#[], #[.slice none 0 0, .int .i64 0, .int .i64 0], []⟩ 8 (by kernel_rfl) (by kernel_rfl) (by kernel_rfl) (by kernel_rfl)) ?_
  intro W base args ds gs before hval0 hW hcnd _
  have hval : ∀ (j : Nat) t v, Try.f9.params[j]? = some t → args[j]? = some v → Value.okWide Try.prog W .any base t v := hval0
  have hW' := hW
  obtain ⟨p, q, hA0, hV, rfl, hfz, hnd⟩ := hW
  have hA : DataW.TrodAll enc Try.prog W 0 (fun _ => true) true Try.f9.params.toList args.toList ds p := hA0
  rw [Try.params9] at hA hval
  obtain ⟨v0, vs0, d0, ds0, p0, q0, hargs, rfl, rfl, h0, r0⟩ := trodAll_cons hA
  obtain ⟨v1, vs1, d1, ds1, p1, q1, rfl, rfl, rfl, h1, r1⟩ := trodAll_cons r0
  obtain ⟨v2, vs2, d2, ds2, p2, q2, rfl, rfl, rfl, h2, r2⟩ := trodAll_cons r1
  obtain ⟨rfl, rfl, rfl⟩ := trodAll_nil r2
  obtain rfl : args = #[v0, v1, v2] := by cases args; simp_all
  obtain ⟨rfl, rfl⟩ := trodVars_none hV
  have lt0 : ∀ x ∈ p0, x.block < W.heap.size := by obtain ⟨m, hm⟩ := h0; exact DataW.trod_lt m _ _ _ hm
  have lt1 : ∀ x ∈ p1, x.block < W.heap.size := by obtain ⟨m, hm⟩ := h1; exact DataW.trod_lt m _ _ _ hm
  have lt2 : ∀ x ∈ p2, x.block < W.heap.size := by obtain ⟨m, hm⟩ := h2; exact DataW.trod_lt m _ _ _ hm
  clear hA0 hval0
  refine (walk v0 v1 v2 W ⟨⟨base, hval 0 22 v0 rfl rfl⟩, Rd.of h0⟩ ⟨⟨base, hval 1 3 v1 rfl rfl⟩, Rd.of h1⟩ ⟨⟨base, hval 2 3 v2 rfl rfl⟩, Rd.of h2⟩).mono fun e W' ⟨he, bel⟩ => ?_
  subst he
  exact ⟨_, rfl, _, _, _, [], _, [], hW', trodAll_mk1 (shut_bool Try.underlying4 _), (trodAll_cons_mk (Below.trod laidOut (by kernel_rfl) (of_decide_eq_true (by kernel_rfl)) h0 bel lt0) (trodAll_cons_mk (Below.trod laidOut (by kernel_rfl) (of_decide_eq_true (by kernel_rfl)) h1 bel lt1) (trodAll_cons_mk (Below.trod laidOut (by kernel_rfl) (of_decide_eq_true (by kernel_rfl)) h2 bel lt2) trodAll_mk0))), rfl, bel.frame _, fun h => by cases h⟩

theorem over : Rows.fnExactNodeReadRow.holds Try.pinned (OpenSpec.ofChange Rows.fnExactNodeReadSpec) :=
  OpenClaim.holds_of_wide 9 Try.f9 rfl rfl rfl rfl rfl rfl rfl ⟨rfl, rfl, rfl, rfl, rfl⟩ rfl rfl rfl rfl rfl (by kernel_rfl) Try.func9 (by kernel_rfl)
    (of_decide_eq_true (by kernel_rfl)) (by unfold Func.isWrapper; first | (rw [if_pos (by decide +kernel)]; kernel_rfl) | (rw [if_neg (by decide +kernel)]; exact ⟨rfl, rfl⟩))
    (fun os started H enc _ => lifted os started H enc)
end Go.Proofs.Ytmndkpicbmffnaa.fnExactNodeRead
namespace Go.Proofs.Ytmndkpicbmffnaa
/-- NodeRead answers as its model, at every argument. -/
theorem fnExactNodeRead_holds : Rows.FnExactNodeReadSaid := fnExactNodeRead.over
end Go.Proofs.Ytmndkpicbmffnaa
