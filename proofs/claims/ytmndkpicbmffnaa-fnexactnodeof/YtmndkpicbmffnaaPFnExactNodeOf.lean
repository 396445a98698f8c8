/- For every argument: the law FnExactNodeOf answers true, that is, NodeOf answers as its model and writes into no argument; its answer owns its memory. No condition. -/
import Derived.Test.YtmndkpicbmffnaaBase
import Derived.Test.YtmndkpicbmffnaaReads
import Derived.Test.YtmndkpicbmffnaaTnI
import Derived.Test.YtmndkpicbmffnaaTnR
import Derived.Test.YtmndkpicbmffnaaTnB
import Derived.Deep.RegionHeld3
namespace Go.Proofs.Ytmndkpicbmffnaa.fnExactNodeOf
open Go.ChangeShapes Go.WideShapes Go.ChangeAt Go.RowKit
set_option linter.unusedVariables false
set_option linter.unusedSimpArgs false

set_option maxRecDepth 100000 in
set_option maxHeartbeats 4000000 in
theorem walk (v0 : Value) (v1 : Value) (v2 : Value) (w : World) (h0 : Arg w 50 v0) (h1 : Arg w 3 v1) (h2 : Arg w 3 v2) :
    Calls Try.prog 8 #[v0, v1, v2] w fun e w' => e = .returned (.bool true) ∧ Below w.heap.size w w' := by
  obtain ⟨d0_0, m0, rfl, i0, b0⟩ := argNode h0
  have R_aN := Lib.hid i0.lies
  clear i0
  clear h0
  obtain ⟨m1, rfl, b1⟩ := arg_int h1
  clear h1
  obtain ⟨m2, rfl, b2⟩ := arg_int h2
  clear h2
  have B : Hid (Below w.heap.size w w) := Lib.hid (Below.refl _ _)
  have B0s : 0 ≤ w.heap.size := Nat.zero_le _
  replace B := Lib.hid (below_box B.out (.cells #[d0_0] 50))
  replace R_aN := Lib.hid (R_aN.out.box (.cells #[d0_0] 50))
  have K_aN := Lib.hid (lies_box w (.cells #[d0_0] 50))
  by_cases g0 : 1048576 - (szNode m0 : Int) < 0
  · go_enter Try.func8, Try.ntmps8
    have c_aN_0 : (w.alloc (.cells #[d0_0] 50)).cell? ⟨w.heap.size, 0, none⟩ = some d0_0 := cur_cell K_aN.out.now 0
    go_wp2_with fail
    clear c_aN_0
    refine (uSzNode d0_0 m0 1048576 _ (by omega) (by omega) R_aN.out.now).mono ?_
    rintro e w1 ⟨rfl, hb⟩
    rw [szI_no (by omega)]
    replace B := Lib.hid (below_seq B.out hb)
    replace R_aN := Lib.hid (R_aN.out.below hb)
    replace K_aN := Lib.hid (K_aN.out.below hb)
    clear hb
    go_wp2
    go_ret
    exact ⟨rfl, B.out⟩
  have hs0 : szNode m0 ≤ 1048576 := by omega
  have hm0 : mcNode m0 ≤ 1000000000000 := mcNode_le hs0
  go_enter Try.func8, Try.ntmps8
  have c_aN_0 : (w.alloc (.cells #[d0_0] 50)).cell? ⟨w.heap.size, 0, none⟩ = some d0_0 := cur_cell K_aN.out.now 0
  go_wp2_with fail
  clear c_aN_0
  refine (uSzNode d0_0 m0 1048576 _ (by omega) (by omega) R_aN.out.now).mono ?_
  rintro e w1 ⟨rfl, hb⟩
  rw [szI_yes (by omega)]
  have s_w1 : w.heap.size + 1 ≤ w1.heap.size := by have := hb.size; simpa only [size_box, size_drew] using this
  replace B := Lib.hid (below_seq B.out hb)
  replace R_aN := Lib.hid (R_aN.out.below hb)
  replace K_aN := Lib.hid (K_aN.out.below hb)
  clear hb
  have c_aN_0 : w1.cell? ⟨w.heap.size, 0, none⟩ = some d0_0 := cur_cell K_aN.out.now 0
  go_wp2_with fail
  clear c_aN_0
  refine (uToNode d0_0 m0 _ hs0 R_aN.out.now).mono ?_
  rintro e w2 ⟨t1_0, rfl, ho, hb⟩
  obtain ⟨t1_a0, t1_n0, t1_c0, rfl⟩ := ho.shape
  have s_w2 : w1.heap.size ≤ w2.heap.size := by have := hb.size; simpa only [size_box, size_drew] using this
  replace B := Lib.hid (below_seq B.out hb)
  replace R_aN := Lib.hid (R_aN.out.below hb)
  replace K_aN := Lib.hid (K_aN.out.below hb)
  have A_t1_ := Lib.hid (ho.lies (Nat.le_refl _))
  clear ho hb
  have c_aN_0 : w2.cell? ⟨w.heap.size, 0, none⟩ = some d0_0 := cur_cell K_aN.out.now 0
  go_wp2_with fail
  clear c_aN_0
  refine (uSpecNodeOf (.slice t1_a0 t1_n0 t1_c0) m0 m1 m2 _ A_t1_.out.now.read b1 b2).mono ?_
  rintro e w3 ⟨w0_0, rfl, ho_w0, hb⟩
  obtain ⟨w0_a0, w0_n0, w0_c0, rfl⟩ := ho_w0.shape
  clear A_t1_
  have s_w3 : w2.heap.size ≤ w3.heap.size := by have := hb.size; simpa only [size_box, size_drew] using this
  replace B := Lib.hid (below_seq B.out hb)
  replace R_aN := Lib.hid (R_aN.out.below hb)
  replace K_aN := Lib.hid (K_aN.out.below hb)
  have A_w0 := Lib.hid (ho_w0.lies (Nat.le_refl _))
  clear ho_w0 hb
  have c_aN_0 : w3.cell? ⟨w.heap.size, 0, none⟩ = some d0_0 := cur_cell K_aN.out.now 0
  go_wp2_with fail
  clear c_aN_0
  refine (uToNode d0_0 m0 _ hs0 R_aN.out.now).mono ?_
  rintro e w4 ⟨x00, rfl, ho, hb⟩
  obtain ⟨x0a0, x0n0, x0c0, rfl⟩ := ho.shape
  have s_w4 : w3.heap.size ≤ w4.heap.size := by have := hb.size; simpa only [size_box, size_drew] using this
  replace B := Lib.hid (below_seq B.out hb)
  replace R_aN := Lib.hid (R_aN.out.below hb)
  replace K_aN := Lib.hid (K_aN.out.below hb)
  replace A_w0 := Lib.hid (A_w0.out.below hb)
  have A_x0 := Lib.hid (ho.lies (Nat.le_refl _))
  clear ho hb
  replace B := Lib.hid (below_box B.out (.cells #[.slice x0a0 x0n0 x0c0] 26))
  replace R_aN := Lib.hid (R_aN.out.box (.cells #[.slice x0a0 x0n0 x0c0] 26))
  replace K_aN := Lib.hid (K_aN.out.box (.cells #[.slice x0a0 x0n0 x0c0] 26))
  replace A_w0 := Lib.hid (A_w0.out.box (.cells #[.slice x0a0 x0n0 x0c0] 26))
  replace A_x0 := Lib.hid (A_x0.out.box (.cells #[.slice x0a0 x0n0 x0c0] 26))
  have K_x0 := Lib.hid (lies_box w4 (.cells #[.slice x0a0 x0n0 x0c0] 26))
  have c_aN_0 : (w4.alloc (.cells #[.slice x0a0 x0n0 x0c0] 26)).cell? ⟨w.heap.size, 0, none⟩ = some d0_0 := cur_cell K_aN.out.now 0
  have c_x0_0 : (w4.alloc (.cells #[.slice x0a0 x0n0 x0c0] 26)).cell? ⟨w4.heap.size, 0, none⟩ = some (.slice x0a0 x0n0 x0c0) := cur_cell K_x0.out.now 0
  go_wp2_with fail
  clear c_aN_0 c_x0_0
  refine (uImplNodeOf (.slice x0a0 x0n0 x0c0) m0 m1 m2 _ A_x0.out.now.read b1 b2).mono ?_
  rintro e w5 ⟨g0_0, rfl, ho_g0, hb⟩
  obtain ⟨g0_a0, g0_n0, g0_c0, rfl⟩ := ho_g0.shape
  have s_w5 : w4.heap.size + 1 ≤ w5.heap.size := by have := hb.size; simpa only [size_box, size_drew] using this
  replace B := Lib.hid (below_seq B.out hb)
  replace R_aN := Lib.hid (R_aN.out.below hb)
  replace K_aN := Lib.hid (K_aN.out.below hb)
  replace A_w0 := Lib.hid (A_w0.out.below hb)
  replace A_x0 := Lib.hid (A_x0.out.below hb)
  replace K_x0 := Lib.hid (K_x0.out.below hb)
  simp only [size_box] at ho_g0
  have A_g0 := Lib.hid (ho_g0.lies (Nat.le_refl _))
  clear ho_g0 hb
  have bd_g0 : szByteS (nodeOfL m0 m1 m2) ≤ 1000000000000 := nodeOfL_sz m0 m1 m2
  have c_aN_0 : w5.cell? ⟨w.heap.size, 0, none⟩ = some d0_0 := cur_cell K_aN.out.now 0
  have c_x0_0 : w5.cell? ⟨w4.heap.size, 0, none⟩ = some (.slice x0a0 x0n0 x0c0) := cur_cell K_x0.out.now 0
  go_wp2_with fail
  clear c_aN_0 c_x0_0
  refine (uEqByteS (.slice g0_a0 g0_n0 g0_c0) (.slice w0_a0 w0_n0 w0_c0) (nodeOfL m0 m1 m2) _ A_g0.out.now.read A_w0.out.now.read).mono ?_
  rintro e w6 ⟨rfl, hb⟩
  have s_w6 : w5.heap.size ≤ w6.heap.size := by have := hb.size; simpa only [size_box, size_drew] using this
  replace B := Lib.hid (below_seq B.out hb)
  replace R_aN := Lib.hid (R_aN.out.below hb)
  replace K_aN := Lib.hid (K_aN.out.below hb)
  replace A_w0 := Lib.hid (A_w0.out.below hb)
  replace A_x0 := Lib.hid (A_x0.out.below hb)
  replace K_x0 := Lib.hid (K_x0.out.below hb)
  replace A_g0 := Lib.hid (A_g0.out.below hb)
  clear hb
  have c_aN_0 : w6.cell? ⟨w.heap.size, 0, none⟩ = some d0_0 := cur_cell K_aN.out.now 0
  have c_x0_0 : w6.cell? ⟨w4.heap.size, 0, none⟩ = some (.slice x0a0 x0n0 x0c0) := cur_cell K_x0.out.now 0
  go_wp2_with fail
  replace B := Lib.hid (below_drew B.out)
  replace R_aN := Lib.hid R_aN.out.drew
  replace K_aN := Lib.hid K_aN.out.drew
  replace A_w0 := Lib.hid A_w0.out.drew
  replace A_x0 := Lib.hid A_x0.out.drew
  replace K_x0 := Lib.hid K_x0.out.drew
  replace A_g0 := Lib.hid A_g0.out.drew
  go_region_held3 (fun w' => w'.cell? ⟨w.heap.size, 0, none⟩ = some d0_0 ∧ w'.cell? ⟨w4.heap.size, 0, none⟩ = some (.slice x0a0 x0n0 x0c0))
    (first | go_keep | exact ⟨cur_cell K_aN.out.now 0, cur_cell K_x0.out.now 0⟩)
    (first
      | (go_at_call 29; refine (uToNode d0_0 m0 _ hs0 R_aN.out.now).mono ?_; rintro e w7 ⟨tt8_0, rfl, ho, hb⟩; have A_tt := Lib.hid (ho.lies (Nat.le_refl _)); have s_w7 : w6.heap.size ≤ w7.heap.size := (by have := hb.size; simpa only [size_box, size_drew] using this); replace B := Lib.hid (below_seq B.out hb); replace R_aN := Lib.hid (R_aN.out.below hb); replace K_aN := Lib.hid (K_aN.out.below hb); replace A_w0 := Lib.hid (A_w0.out.below hb); replace A_x0 := Lib.hid (A_x0.out.below hb); replace K_x0 := Lib.hid (K_x0.out.below hb); replace A_g0 := Lib.hid (A_g0.out.below hb); clear ho hb)
      | (go_at_call 31; refine (uEqNode (.slice x0a0 x0n0 x0c0) tt8_0 m0 _ A_x0.out.now.read A_tt.out.now.read).mono ?_; rintro e w8 ⟨rfl, hb⟩; have s_w8 : w7.heap.size ≤ w8.heap.size := hb.size; replace B := Lib.hid (below_seq B.out hb); replace R_aN := Lib.hid (R_aN.out.below hb); replace K_aN := Lib.hid (K_aN.out.below hb); replace A_w0 := Lib.hid (A_w0.out.below hb); replace A_x0 := Lib.hid (A_x0.out.below hb); replace K_x0 := Lib.hid (K_x0.out.below hb); replace A_g0 := Lib.hid (A_g0.out.below hb); clear hb A_tt))
  clear c_aN_0 c_x0_0
  have c_aN_0 : w8.cell? ⟨w.heap.size, 0, none⟩ = some d0_0 := cur_cell K_aN.out.now 0
  have c_x0_0 : w8.cell? ⟨w4.heap.size, 0, none⟩ = some (.slice x0a0 x0n0 x0c0) := cur_cell K_x0.out.now 0
  go_wp2_with fail
  clear c_aN_0 c_x0_0
  refine (uMarkNode w3.heap.size w4.heap.size 1 (.slice x0a0 x0n0 x0c0) m0 _ (by omega) A_x0.out.top A_x0.out.now).mono ?_
  rintro e w9 ⟨k9, rfl, hk, ho, hc⟩
  have bd_k9 : k9 ≤ 2000000000000 := by omega
  have HK_k9 := Lib.hid hk
  have s_w9 : w8.heap.size ≤ w9.heap.size := by have := hc.size; simpa only [size_box, size_drew] using this
  have ho_t := A_x0.out.top
  clear A_x0
  replace B := Lib.hid (hc.below B.out (by have := B0s; omega))
  replace R_aN := Lib.hid (R_aN.out.chg hc (by have := B0s; omega))
  replace K_aN := Lib.hid (K_aN.out.chg hc (by have := B0s; omega))
  replace A_w0 := Lib.hid (A_w0.out.chg hc (by have := B0s; omega))
  replace K_x0 := Lib.hid (K_x0.out.chg hc (by have := B0s; omega))
  replace A_g0 := Lib.hid (A_g0.out.chg hc (by have := B0s; omega))
  have A_x0 := Lib.hid (ho.lies (Nat.le_trans ho_t s_w9))
  clear hk ho hc ho_t
  have c_aN_0 : w9.cell? ⟨w.heap.size, 0, none⟩ = some d0_0 := cur_cell K_aN.out.now 0
  have c_x0_0 : w9.cell? ⟨w4.heap.size, 0, none⟩ = some (.slice x0a0 x0n0 x0c0) := cur_cell K_x0.out.now 0
  go_wp2_with fail
  clear c_aN_0 c_x0_0
  refine (uEqByteS (.slice g0_a0 g0_n0 g0_c0) (.slice w0_a0 w0_n0 w0_c0) (nodeOfL m0 m1 m2) _ A_g0.out.now.read A_w0.out.now.read).mono ?_
  rintro e w10 ⟨rfl, hb⟩
  have s_w10 : w9.heap.size ≤ w10.heap.size := by have := hb.size; simpa only [size_box, size_drew] using this
  replace B := Lib.hid (below_seq B.out hb)
  replace R_aN := Lib.hid (R_aN.out.below hb)
  replace K_aN := Lib.hid (K_aN.out.below hb)
  replace A_w0 := Lib.hid (A_w0.out.below hb)
  replace K_x0 := Lib.hid (K_x0.out.below hb)
  replace A_g0 := Lib.hid (A_g0.out.below hb)
  replace A_x0 := Lib.hid (A_x0.out.below hb)
  clear hb
  have c_aN_0 : w10.cell? ⟨w.heap.size, 0, none⟩ = some d0_0 := cur_cell K_aN.out.now 0
  have c_x0_0 : w10.cell? ⟨w4.heap.size, 0, none⟩ = some (.slice x0a0 x0n0 x0c0) := cur_cell K_x0.out.now 0
  go_wp2_with fail
  clear c_aN_0 c_x0_0
  refine (uMarkByteS (w4.heap.size + 1) w5.heap.size 1 (.slice g0_a0 g0_n0 g0_c0) (nodeOfL m0 m1 m2) _ (by have := bd_g0; omega) A_g0.out.now).mono ?_
  rintro e w11 ⟨k11, rfl, hk, ho, hc⟩
  have bd_k11 : k11 ≤ 2000000000000 := by have := bd_g0; omega
  have HK_k11 := Lib.hid hk
  have s_w11 : w10.heap.size ≤ w11.heap.size := by have := hc.size; simpa only [size_box, size_drew] using this
  have ho_t := A_g0.out.top
  clear A_g0
  replace B := Lib.hid (hc.below B.out (by have := B0s; omega))
  replace R_aN := Lib.hid (R_aN.out.chg hc (by have := B0s; omega))
  replace K_aN := Lib.hid (K_aN.out.chg hc (by have := B0s; omega))
  replace A_w0 := Lib.hid (A_w0.out.chg hc (by have := B0s; omega))
  replace K_x0 := Lib.hid (K_x0.out.chg hc (by have := B0s; omega))
  replace A_x0 := Lib.hid (A_x0.out.chg hc (by have := B0s; omega))
  have A_g0 := Lib.hid (ho.lies (Nat.le_trans ho_t s_w11))
  clear hk ho hc ho_t
  have c_aN_0 : w11.cell? ⟨w.heap.size, 0, none⟩ = some d0_0 := cur_cell K_aN.out.now 0
  have c_x0_0 : w11.cell? ⟨w4.heap.size, 0, none⟩ = some (.slice x0a0 x0n0 x0c0) := cur_cell K_x0.out.now 0
  go_wp2_with fail
  clear c_aN_0 c_x0_0
  refine (uHeldByteS 1 (.slice g0_a0 g0_n0 g0_c0) (nodeOfL m0 m1 m2) _ (by have := HK_k11.out; omega) A_g0.out.now.read).mono ?_
  rintro e w12 ⟨k12, rfl, hk, hb⟩
  have hkk : k12 = k11 := by have := HK_k11.out; omega
  rw [hkk]
  clear hk hkk
  have s_w12 : w11.heap.size ≤ w12.heap.size := by have := hb.size; simpa only [size_box, size_drew] using this
  replace B := Lib.hid (below_seq B.out hb)
  replace R_aN := Lib.hid (R_aN.out.below hb)
  replace K_aN := Lib.hid (K_aN.out.below hb)
  replace A_w0 := Lib.hid (A_w0.out.below hb)
  replace K_x0 := Lib.hid (K_x0.out.below hb)
  replace A_x0 := Lib.hid (A_x0.out.below hb)
  replace A_g0 := Lib.hid (A_g0.out.below hb)
  clear hb
  have c_aN_0 : w12.cell? ⟨w.heap.size, 0, none⟩ = some d0_0 := cur_cell K_aN.out.now 0
  have c_x0_0 : w12.cell? ⟨w4.heap.size, 0, none⟩ = some (.slice x0a0 x0n0 x0c0) := cur_cell K_x0.out.now 0
  go_wp2_with fail
  clear c_aN_0 c_x0_0
  refine (uToNode d0_0 m0 _ hs0 R_aN.out.now).mono ?_
  rintro e w13 ⟨t12_0, rfl, ho, hb⟩
  obtain ⟨t12_a0, t12_n0, t12_c0, rfl⟩ := ho.shape
  have s_w13 : w12.heap.size ≤ w13.heap.size := by have := hb.size; simpa only [size_box, size_drew] using this
  replace B := Lib.hid (below_seq B.out hb)
  replace R_aN := Lib.hid (R_aN.out.below hb)
  replace K_aN := Lib.hid (K_aN.out.below hb)
  replace A_w0 := Lib.hid (A_w0.out.below hb)
  replace K_x0 := Lib.hid (K_x0.out.below hb)
  replace A_x0 := Lib.hid (A_x0.out.below hb)
  replace A_g0 := Lib.hid (A_g0.out.below hb)
  have A_t12_ := Lib.hid (ho.lies (Nat.le_refl _))
  clear ho hb
  have c_aN_0 : w13.cell? ⟨w.heap.size, 0, none⟩ = some d0_0 := cur_cell K_aN.out.now 0
  have c_x0_0 : w13.cell? ⟨w4.heap.size, 0, none⟩ = some (.slice x0a0 x0n0 x0c0) := cur_cell K_x0.out.now 0
  go_wp2_with fail
  clear c_aN_0 c_x0_0
  refine (uImplNodeOf (.slice t12_a0 t12_n0 t12_c0) m0 m1 m2 _ A_t12_.out.now.read b1 b2).mono ?_
  rintro e w14 ⟨h0_0, rfl, ho_h0, hb⟩
  obtain ⟨h0_a0, h0_n0, h0_c0, rfl⟩ := ho_h0.shape
  clear A_t12_
  have s_w14 : w13.heap.size ≤ w14.heap.size := by have := hb.size; simpa only [size_box, size_drew] using this
  replace B := Lib.hid (below_seq B.out hb)
  replace R_aN := Lib.hid (R_aN.out.below hb)
  replace K_aN := Lib.hid (K_aN.out.below hb)
  replace A_w0 := Lib.hid (A_w0.out.below hb)
  replace K_x0 := Lib.hid (K_x0.out.below hb)
  replace A_x0 := Lib.hid (A_x0.out.below hb)
  replace A_g0 := Lib.hid (A_g0.out.below hb)
  have A_h0 := Lib.hid (ho_h0.lies (Nat.le_refl _))
  clear ho_h0 hb
  have c_aN_0 : w14.cell? ⟨w.heap.size, 0, none⟩ = some d0_0 := cur_cell K_aN.out.now 0
  have c_x0_0 : w14.cell? ⟨w4.heap.size, 0, none⟩ = some (.slice x0a0 x0n0 x0c0) := cur_cell K_x0.out.now 0
  go_wp2_with fail
  clear c_aN_0 c_x0_0
  refine (uEqByteS (.slice h0_a0 h0_n0 h0_c0) (.slice w0_a0 w0_n0 w0_c0) (nodeOfL m0 m1 m2) _ A_h0.out.now.read A_w0.out.now.read).mono ?_
  rintro e w15 ⟨rfl, hb⟩
  have s_w15 : w14.heap.size ≤ w15.heap.size := by have := hb.size; simpa only [size_box, size_drew] using this
  replace B := Lib.hid (below_seq B.out hb)
  replace R_aN := Lib.hid (R_aN.out.below hb)
  replace K_aN := Lib.hid (K_aN.out.below hb)
  replace A_w0 := Lib.hid (A_w0.out.below hb)
  replace K_x0 := Lib.hid (K_x0.out.below hb)
  replace A_x0 := Lib.hid (A_x0.out.below hb)
  replace A_g0 := Lib.hid (A_g0.out.below hb)
  replace A_h0 := Lib.hid (A_h0.out.below hb)
  clear hb
  have c_aN_0 : w15.cell? ⟨w.heap.size, 0, none⟩ = some d0_0 := cur_cell K_aN.out.now 0
  have c_x0_0 : w15.cell? ⟨w4.heap.size, 0, none⟩ = some (.slice x0a0 x0n0 x0c0) := cur_cell K_x0.out.now 0
  go_wp2_with fail
  clear c_aN_0 c_x0_0
  refine (uHeldByteS 1 (.slice g0_a0 g0_n0 g0_c0) (nodeOfL m0 m1 m2) _ (by have := HK_k11.out; omega) A_g0.out.now.read).mono ?_
  rintro e w16 ⟨k16, rfl, hk, hb⟩
  have hkk : k16 = k11 := by have := HK_k11.out; omega
  rw [hkk]
  clear hk hkk
  have s_w16 : w15.heap.size ≤ w16.heap.size := by have := hb.size; simpa only [size_box, size_drew] using this
  replace B := Lib.hid (below_seq B.out hb)
  replace R_aN := Lib.hid (R_aN.out.below hb)
  replace K_aN := Lib.hid (K_aN.out.below hb)
  replace A_w0 := Lib.hid (A_w0.out.below hb)
  replace K_x0 := Lib.hid (K_x0.out.below hb)
  replace A_x0 := Lib.hid (A_x0.out.below hb)
  replace A_g0 := Lib.hid (A_g0.out.below hb)
  replace A_h0 := Lib.hid (A_h0.out.below hb)
  clear hb
  have c_aN_0 : w16.cell? ⟨w.heap.size, 0, none⟩ = some d0_0 := cur_cell K_aN.out.now 0
  have c_x0_0 : w16.cell? ⟨w4.heap.size, 0, none⟩ = some (.slice x0a0 x0n0 x0c0) := cur_cell K_x0.out.now 0
  go_wp2
  go_ret
  exact ⟨rfl, B.out⟩

set_option maxRecDepth 100000 in
theorem lifted (os : Os) (started : os.Started) (H : Type) (enc : TypeId × Value → H) :
    ReturnsInHanded {} Try.checked os 8 .any (Rows.fnExactNodeOfSpec.pre6 enc Try.prog Try.f8 Rows.fnExactNodeOfRow.domain false) (Rows.fnExactNodeOfSpec.post enc Try.prog Try.f8 false true false false) := by
  refine returnsInHanded_of_change (C := Try.checked) own started (by kernel_rfl) Try.func8
    (ChangeSpec.witness6 (enc := enc) (C := Try.checked) false ⟨#[], #[.agg #[.slice none 0 0], .int .i64 0, .int .i64 0], []⟩ 8 (by kernel_rfl) (by kernel_rfl) (by kernel_rfl) (by kernel_rfl)) ?_
  intro W base args ds gs before hval0 hW hcnd _
  have hval : ∀ (j : Nat) t v, Try.f8.params[j]? = some t → args[j]? = some v → Value.okWide Try.prog W .any base t v := hval0
  have hW' := hW
  obtain ⟨p, q, hA0, hV, rfl, hfz, hnd⟩ := hW
  have hA : DataW.TrodAll enc Try.prog W 0 (fun _ => true) true Try.f8.params.toList args.toList ds p := hA0
  rw [Try.params8] at hA hval
  obtain ⟨v0, vs0, d0, ds0, p0, q0, hargs, rfl, rfl, h0, r0⟩ := trodAll_cons hA
  obtain ⟨v1, vs1, d1, ds1, p1, q1, rfl, rfl, rfl, h1, r1⟩ := trodAll_cons r0
  obtain ⟨v2, vs2, d2, ds2, p2, q2, rfl, rfl, rfl, h2, r2⟩ := trodAll_cons r1
  obtain ⟨rfl, rfl, rfl⟩ := trodAll_nil r2
  obtain rfl : args = #[v0, v1, v2] := by cases args; simp_all
  obtain ⟨rfl, rfl⟩ := trodVars_none hV
  have lt0 : ∀ x ∈ p0, x.block < W.heap.size := by obtain ⟨m, hm⟩ := h0; exact DataW.trod_lt m _ _ _ hm
  have lt1 : ∀ x ∈ p1, x.block < W.heap.size := by obtain ⟨m, hm⟩ := h1; exact DataW.trod_lt m _ _ _ hm
  have lt2 : ∀ x ∈ p2, x.block < W.heap.size := by obtain ⟨m, hm⟩ := h2; exact DataW.trod_lt m _ _ _ hm
  clear hA0 hval0
  refine (walk v0 v1 v2 W ⟨⟨base, hval 0 50 v0 rfl rfl⟩, Rd.of h0⟩ ⟨⟨base, hval 1 3 v1 rfl rfl⟩, Rd.of h1⟩ ⟨⟨base, hval 2 3 v2 rfl rfl⟩, Rd.of h2⟩).mono fun e W' ⟨he, bel⟩ => ?_
  subst he
  exact ⟨_, rfl, _, _, _, [], _, [], hW', trodAll_mk1 (shut_bool Try.underlying4 _), (trodAll_cons_mk (Below.trod laidOut (by kernel_rfl) (of_decide_eq_true (by kernel_rfl)) h0 bel lt0) (trodAll_cons_mk (Below.trod laidOut (by kernel_rfl) (of_decide_eq_true (by kernel_rfl)) h1 bel lt1) (trodAll_cons_mk (Below.trod laidOut (by kernel_rfl) (of_decide_eq_true (by kernel_rfl)) h2 bel lt2) trodAll_mk0))), rfl, bel.frame _, fun h => by cases h⟩

theorem over : Rows.fnExactNodeOfRow.holds Try.pinned (OpenSpec.ofChange Rows.fnExactNodeOfSpec) :=
  OpenClaim.holds_of_wide 8 Try.f8 rfl rfl rfl rfl rfl rfl rfl ⟨rfl, rfl, rfl, rfl, rfl⟩ rfl rfl rfl rfl rfl (by kernel_rfl) Try.func8 (by kernel_rfl)
    (of_decide_eq_true (by kernel_rfl)) (by unfold Func.isWrapper; first | (rw [if_pos (by decide +kernel)]; kernel_rfl) | (rw [if_neg (by decide +kernel)]; exact ⟨rfl, rfl⟩))
    (fun os started H enc _ => lifted os started H enc)
end Go.Proofs.Ytmndkpicbmffnaa.fnExactNodeOf
namespace Go.Proofs.Ytmndkpicbmffnaa
/-- NodeOf answers as its model, at every argument. -/
theorem fnExactNodeOf_holds : Rows.FnExactNodeOfSaid := fnExactNodeOf.over
end Go.Proofs.Ytmndkpicbmffnaa
