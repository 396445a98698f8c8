/- For every argument: the law FnExactNetJoin answers true, that is, NetJoin answers as its model and writes into no argument; its answer owns its memory. No condition. -/
import Derived.Test.YtkifndcfmmdkpaaBase
import Derived.Test.YtkifndcfmmdkpaaReads
import Derived.Test.YtkifndcfmmdkpaaNeJ
import Derived.Test.YtkifndcfmmdkpaaNetK
import Derived.Deep.RegionHeld3
import Derived.Deep.RegionLaw
import Derived.Deep.DeepCutAuto
namespace Go.Proofs.Ytkifndcfmmdkpaa.fnExactNetJoin
open Go.ChangeShapes Go.WideShapes Go.ChangeAt Go.RowKit
set_option linter.unusedVariables false

set_option maxRecDepth 100000 in
set_option maxHeartbeats 4000000 in
theorem walk (v0 : Value) (v1 : Value) (w : World) (h0 : Arg w 47 v0) (h1 : Arg w 47 v1) :
    Calls Try.prog 9 #[v0, v1] w fun e w' => e = .returned (.bool true) ∧ Below w.heap.size w w' := by
  obtain ⟨d0_0, d0_1, m0, rfl, i0, b0⟩ := argNet h0
  have R_aA := Lib.hid i0.lies
  clear i0
  clear h0
  obtain ⟨d1_0, d1_1, m1, rfl, i1, b1⟩ := argNet h1
  have R_aB := Lib.hid i1.lies
  clear i1
  clear h1
  have B : Hid (Below w.heap.size w w) := Lib.hid (Below.refl _ _)
  have B0s : 0 ≤ w.heap.size := Nat.zero_le _
  replace B := Lib.hid (below_box B.out (.cells #[d0_0, d0_1] 47))
  replace R_aA := Lib.hid (R_aA.out.box (.cells #[d0_0, d0_1] 47))
  replace R_aB := Lib.hid (R_aB.out.box (.cells #[d0_0, d0_1] 47))
  have K_aA := Lib.hid (lies_box w (.cells #[d0_0, d0_1] 47))
  replace B := Lib.hid (below_box B.out (.cells #[d1_0, d1_1] 47))
  replace R_aA := Lib.hid (R_aA.out.box (.cells #[d1_0, d1_1] 47))
  replace R_aB := Lib.hid (R_aB.out.box (.cells #[d1_0, d1_1] 47))
  replace K_aA := Lib.hid (K_aA.out.box (.cells #[d1_0, d1_1] 47))
  have K_aB := Lib.hid (lies_box (w.alloc (.cells #[d0_0, d0_1] 47)) (.cells #[d1_0, d1_1] 47))
  simp only [size_box] at K_aB
  by_cases g0 : 1048576 - (szNet m0 : Int) < 0
  · go_enter Try.func9, Try.ntmps9
    have c_aA_0 : ((w.alloc (.cells #[d0_0, d0_1] 47)).alloc (.cells #[d1_0, d1_1] 47)).cell? ⟨w.heap.size, 0, none⟩ = some d0_0 := cur_cell K_aA.out.now 0
    have c_aA_1 : ((w.alloc (.cells #[d0_0, d0_1] 47)).alloc (.cells #[d1_0, d1_1] 47)).cell? ⟨w.heap.size, 1, none⟩ = some d0_1 := cur_cell K_aA.out.now 1
    have c_aB_0 : ((w.alloc (.cells #[d0_0, d0_1] 47)).alloc (.cells #[d1_0, d1_1] 47)).cell? ⟨w.heap.size + 1, 0, none⟩ = some d1_0 := cur_cell K_aB.out.now 0
    have c_aB_1 : ((w.alloc (.cells #[d0_0, d0_1] 47)).alloc (.cells #[d1_0, d1_1] 47)).cell? ⟨w.heap.size + 1, 1, none⟩ = some d1_1 := cur_cell K_aB.out.now 1
    go_wp2_with fail
    clear c_aA_0 c_aA_1 c_aB_0 c_aB_1
    refine (uSzNet d0_0 d0_1 m0 1048576 _ (by omega) (by omega) R_aA.out.now).mono ?_
    rintro e w1 ⟨rfl, hb⟩
    rw [szI_no (by omega)]
    replace B := Lib.hid (below_seq B.out hb)
    replace R_aA := Lib.hid (R_aA.out.below hb)
    replace R_aB := Lib.hid (R_aB.out.below hb)
    replace K_aA := Lib.hid (K_aA.out.below hb)
    replace K_aB := Lib.hid (K_aB.out.below hb)
    clear hb
    go_wp2
    go_ret
    exact ⟨rfl, B.out⟩
  have hs0 : szNet m0 ≤ 1048576 := by omega
  have hm0 : mcNet m0 ≤ 1000000000000 := mcNet_le hs0
  by_cases g1 : 1048576 - (szNet m0 : Int) - (szNet m1 : Int) < 0
  · go_enter Try.func9, Try.ntmps9
    have c_aA_0 : ((w.alloc (.cells #[d0_0, d0_1] 47)).alloc (.cells #[d1_0, d1_1] 47)).cell? ⟨w.heap.size, 0, none⟩ = some d0_0 := cur_cell K_aA.out.now 0
    have c_aA_1 : ((w.alloc (.cells #[d0_0, d0_1] 47)).alloc (.cells #[d1_0, d1_1] 47)).cell? ⟨w.heap.size, 1, none⟩ = some d0_1 := cur_cell K_aA.out.now 1
    have c_aB_0 : ((w.alloc (.cells #[d0_0, d0_1] 47)).alloc (.cells #[d1_0, d1_1] 47)).cell? ⟨w.heap.size + 1, 0, none⟩ = some d1_0 := cur_cell K_aB.out.now 0
    have c_aB_1 : ((w.alloc (.cells #[d0_0, d0_1] 47)).alloc (.cells #[d1_0, d1_1] 47)).cell? ⟨w.heap.size + 1, 1, none⟩ = some d1_1 := cur_cell K_aB.out.now 1
    go_wp2_with fail
    clear c_aA_0 c_aA_1 c_aB_0 c_aB_1
    refine (uSzNet d0_0 d0_1 m0 1048576 _ (by omega) (by omega) R_aA.out.now).mono ?_
    rintro e w1 ⟨rfl, hb⟩
    rw [szI_yes (by omega)]
    replace B := Lib.hid (below_seq B.out hb)
    replace R_aA := Lib.hid (R_aA.out.below hb)
    replace R_aB := Lib.hid (R_aB.out.below hb)
    replace K_aA := Lib.hid (K_aA.out.below hb)
    replace K_aB := Lib.hid (K_aB.out.below hb)
    clear hb
    have c_aA_0 : w1.cell? ⟨w.heap.size, 0, none⟩ = some d0_0 := cur_cell K_aA.out.now 0
    have c_aA_1 : w1.cell? ⟨w.heap.size, 1, none⟩ = some d0_1 := cur_cell K_aA.out.now 1
    have c_aB_0 : w1.cell? ⟨w.heap.size + 1, 0, none⟩ = some d1_0 := cur_cell K_aB.out.now 0
    have c_aB_1 : w1.cell? ⟨w.heap.size + 1, 1, none⟩ = some d1_1 := cur_cell K_aB.out.now 1
    go_wp2_with fail
    clear c_aA_0 c_aA_1 c_aB_0 c_aB_1
    refine (uSzNet d1_0 d1_1 m1 (1048576 - (szNet m0 : Int)) _ (by omega) (by omega) R_aB.out.now).mono ?_
    rintro e w2 ⟨rfl, hb⟩
    rw [szI_no (by omega)]
    replace B := Lib.hid (below_seq B.out hb)
    replace R_aA := Lib.hid (R_aA.out.below hb)
    replace R_aB := Lib.hid (R_aB.out.below hb)
    replace K_aA := Lib.hid (K_aA.out.below hb)
    replace K_aB := Lib.hid (K_aB.out.below hb)
    clear hb
    go_wp2
    go_ret
    exact ⟨rfl, B.out⟩
  have hs1 : szNet m1 ≤ 1048576 := by omega
  have hm1 : mcNet m1 ≤ 1000000000000 := mcNet_le hs1
  go_enter Try.func9, Try.ntmps9
  have c_aA_0 : ((w.alloc (.cells #[d0_0, d0_1] 47)).alloc (.cells #[d1_0, d1_1] 47)).cell? ⟨w.heap.size, 0, none⟩ = some d0_0 := cur_cell K_aA.out.now 0
  have c_aA_1 : ((w.alloc (.cells #[d0_0, d0_1] 47)).alloc (.cells #[d1_0, d1_1] 47)).cell? ⟨w.heap.size, 1, none⟩ = some d0_1 := cur_cell K_aA.out.now 1
  have c_aB_0 : ((w.alloc (.cells #[d0_0, d0_1] 47)).alloc (.cells #[d1_0, d1_1] 47)).cell? ⟨w.heap.size + 1, 0, none⟩ = some d1_0 := cur_cell K_aB.out.now 0
  have c_aB_1 : ((w.alloc (.cells #[d0_0, d0_1] 47)).alloc (.cells #[d1_0, d1_1] 47)).cell? ⟨w.heap.size + 1, 1, none⟩ = some d1_1 := cur_cell K_aB.out.now 1
  go_wp2_with fail
  clear c_aA_0 c_aA_1 c_aB_0 c_aB_1
  refine (uSzNet d0_0 d0_1 m0 1048576 _ (by omega) (by omega) R_aA.out.now).mono ?_
  rintro e w1 ⟨rfl, hb⟩
  rw [szI_yes (by omega)]
  have s_w1 : w.heap.size + 1 + 1 ≤ w1.heap.size := by have := hb.size; simpa only [size_box, size_drew] using this
  replace B := Lib.hid (below_seq B.out hb)
  replace R_aA := Lib.hid (R_aA.out.below hb)
  replace R_aB := Lib.hid (R_aB.out.below hb)
  replace K_aA := Lib.hid (K_aA.out.below hb)
  replace K_aB := Lib.hid (K_aB.out.below hb)
  clear hb
  have c_aA_0 : w1.cell? ⟨w.heap.size, 0, none⟩ = some d0_0 := cur_cell K_aA.out.now 0
  have c_aA_1 : w1.cell? ⟨w.heap.size, 1, none⟩ = some d0_1 := cur_cell K_aA.out.now 1
  have c_aB_0 : w1.cell? ⟨w.heap.size + 1, 0, none⟩ = some d1_0 := cur_cell K_aB.out.now 0
  have c_aB_1 : w1.cell? ⟨w.heap.size + 1, 1, none⟩ = some d1_1 := cur_cell K_aB.out.now 1
  go_wp2_with fail
  clear c_aA_0 c_aA_1 c_aB_0 c_aB_1
  refine (uSzNet d1_0 d1_1 m1 (1048576 - (szNet m0 : Int)) _ (by omega) (by omega) R_aB.out.now).mono ?_
  rintro e w2 ⟨rfl, hb⟩
  rw [szI_yes (by omega)]
  have s_w2 : w1.heap.size ≤ w2.heap.size := by have := hb.size; simpa only [size_box, size_drew] using this
  replace B := Lib.hid (below_seq B.out hb)
  replace R_aA := Lib.hid (R_aA.out.below hb)
  replace R_aB := Lib.hid (R_aB.out.below hb)
  replace K_aA := Lib.hid (K_aA.out.below hb)
  replace K_aB := Lib.hid (K_aB.out.below hb)
  clear hb
  have U0 := Lib.hid (fun w' (hb : Below w2.heap.size w2 w') => uToNet d0_0 d0_1 m0 w' hs0 ((R_aA.out.below hb).now))
  have U1 := Lib.hid (fun w' (hb : Below w2.heap.size w2 w') => uToNet d1_0 d1_1 m1 w' hs1 ((R_aB.out.below hb).now))
  have c_aA_0 : w2.cell? ⟨w.heap.size, 0, none⟩ = some d0_0 := cur_cell K_aA.out.now 0
  have c_aA_1 : w2.cell? ⟨w.heap.size, 1, none⟩ = some d0_1 := cur_cell K_aA.out.now 1
  have c_aB_0 : w2.cell? ⟨w.heap.size + 1, 0, none⟩ = some d1_0 := cur_cell K_aB.out.now 0
  have c_aB_1 : w2.cell? ⟨w.heap.size + 1, 1, none⟩ = some d1_1 := cur_cell K_aB.out.now 1
  have K_aA_Z_0 : (w2.alloc (.cells #[.int .i64 0, .slice none 0 0] 26)).cell? ⟨w.heap.size, 0, none⟩ = some d0_0 := cur_cell (K_aA.out.box _).now 0
  have K_aA_Z_1 : (w2.alloc (.cells #[.int .i64 0, .slice none 0 0] 26)).cell? ⟨w.heap.size, 1, none⟩ = some d0_1 := cur_cell (K_aA.out.box _).now 1
  have K_aB_Z_0 : (w2.alloc (.cells #[.int .i64 0, .slice none 0 0] 26)).cell? ⟨w.heap.size + 1, 0, none⟩ = some d1_0 := cur_cell (K_aB.out.box _).now 0
  have K_aB_Z_1 : (w2.alloc (.cells #[.int .i64 0, .slice none 0 0] 26)).cell? ⟨w.heap.size + 1, 1, none⟩ = some d1_1 := cur_cell (K_aB.out.box _).now 1
  go_wp2_with fail
  go_cut [6, 7] (fun p b wx => ∃ (bx : Nat) (z : Int) (a : Option Addr) (n c lo hi : Nat), p = .pointer (some ⟨bx, 0, none⟩) ∧ b = .bool (joinB m0 m1) ∧ Hid (NetCut w2 wx bx z a n c lo hi (joinM m0 m1)))
  case first =>
    go_region_law (first
      | (refine step_callW w2.drew rfl (by rfl) 36 _ _ rfl _ (by kernel_rfl) Try.call36 _ (U0.out _ (below_drew (Below.refl w2.heap.size w2))) ?_; clear U0; rintro e wa ⟨t00, t01, rfl, ho, hb⟩; refine ⟨_, rfl, ?_⟩; obtain ⟨t0z, t0a, t0n, t0c, rfl, rfl⟩ := ho.shape; have B_wa := Lib.hid (below_seq (below_drew (Below.refl w2.heap.size w2)) hb); have A_t0 := Lib.hid (ho.lies (Nat.le_refl _)); have K_aA_wa_0 : wa.cell? ⟨w.heap.size, 0, none⟩ = some d0_0 := cur_cell (K_aA.out.below B_wa.out).now 0; have K_aA_wa_1 : wa.cell? ⟨w.heap.size, 1, none⟩ = some d0_1 := cur_cell (K_aA.out.below B_wa.out).now 1; have K_aB_wa_0 : wa.cell? ⟨w.heap.size + 1, 0, none⟩ = some d1_0 := cur_cell (K_aB.out.below B_wa.out).now 0; have K_aB_wa_1 : wa.cell? ⟨w.heap.size + 1, 1, none⟩ = some d1_1 := cur_cell (K_aB.out.below B_wa.out).now 1; have K_aA_waZ_0 : (wa.alloc (.cells #[.int .i64 0, .slice none 0 0] 26)).cell? ⟨w.heap.size, 0, none⟩ = some d0_0 := cur_cell ((K_aA.out.below B_wa.out).box _).now 0; have K_aA_waZ_1 : (wa.alloc (.cells #[.int .i64 0, .slice none 0 0] 26)).cell? ⟨w.heap.size, 1, none⟩ = some d0_1 := cur_cell ((K_aA.out.below B_wa.out).box _).now 1; have K_aB_waZ_0 : (wa.alloc (.cells #[.int .i64 0, .slice none 0 0] 26)).cell? ⟨w.heap.size + 1, 0, none⟩ = some d1_0 := cur_cell ((K_aB.out.below B_wa.out).box _).now 0; have K_aB_waZ_1 : (wa.alloc (.cells #[.int .i64 0, .slice none 0 0] 26)).cell? ⟨w.heap.size + 1, 1, none⟩ = some d1_1 := cur_cell ((K_aB.out.below B_wa.out).box _).now 1; clear ho hb)
      | (refine step_callW (w2.alloc (.cells #[.int .i64 0, .slice none 0 0] 26)).drew rfl (by rfl) 36 _ _ rfl _ (by kernel_rfl) Try.call36 _ (U0.out _ (below_drew (below_box (Below.refl w2.heap.size w2) (.cells #[.int .i64 0, .slice none 0 0] 26)))) ?_; clear U0; rintro e wa ⟨t00, t01, rfl, ho, hb⟩; refine ⟨_, rfl, ?_⟩; obtain ⟨t0z, t0a, t0n, t0c, rfl, rfl⟩ := ho.shape; have B_wa := Lib.hid (below_seq (below_drew (below_box (Below.refl w2.heap.size w2) (.cells #[.int .i64 0, .slice none 0 0] 26))) hb); have ZB := Lib.hid ((show ZeroBox w2 (w2.alloc (.cells #[.int .i64 0, .slice none 0 0] 26)).drew w2.heap.size from ZeroBox.new (Nat.le_refl _)).below hb); have A_t0 := Lib.hid (ho.lies (Nat.le_refl _)); have K_aA_wa_0 : wa.cell? ⟨w.heap.size, 0, none⟩ = some d0_0 := cur_cell (K_aA.out.below B_wa.out).now 0; have K_aA_wa_1 : wa.cell? ⟨w.heap.size, 1, none⟩ = some d0_1 := cur_cell (K_aA.out.below B_wa.out).now 1; have K_aB_wa_0 : wa.cell? ⟨w.heap.size + 1, 0, none⟩ = some d1_0 := cur_cell (K_aB.out.below B_wa.out).now 0; have K_aB_wa_1 : wa.cell? ⟨w.heap.size + 1, 1, none⟩ = some d1_1 := cur_cell (K_aB.out.below B_wa.out).now 1; have K_aA_waZ_0 : (wa.alloc (.cells #[.int .i64 0, .slice none 0 0] 26)).cell? ⟨w.heap.size, 0, none⟩ = some d0_0 := cur_cell ((K_aA.out.below B_wa.out).box _).now 0; have K_aA_waZ_1 : (wa.alloc (.cells #[.int .i64 0, .slice none 0 0] 26)).cell? ⟨w.heap.size, 1, none⟩ = some d0_1 := cur_cell ((K_aA.out.below B_wa.out).box _).now 1; have K_aB_waZ_0 : (wa.alloc (.cells #[.int .i64 0, .slice none 0 0] 26)).cell? ⟨w.heap.size + 1, 0, none⟩ = some d1_0 := cur_cell ((K_aB.out.below B_wa.out).box _).now 0; have K_aB_waZ_1 : (wa.alloc (.cells #[.int .i64 0, .slice none 0 0] 26)).cell? ⟨w.heap.size + 1, 1, none⟩ = some d1_1 := cur_cell ((K_aB.out.below B_wa.out).box _).now 1; clear ho hb)
      | (refine step_callW wa rfl (by rfl) 36 _ _ rfl _ (by kernel_rfl) Try.call36 _ (U1.out _ (B_wa.out)) ?_; clear U1; rintro e wb ⟨t10, t11, rfl, ho, hb⟩; refine ⟨_, rfl, ?_⟩; obtain ⟨t1z, t1a, t1n, t1c, rfl, rfl⟩ := ho.shape; have B_wb := Lib.hid (below_seq (B_wa.out) hb); (try (have ZP := Lib.hid (ZB.out.below hb))); have A_t1 := Lib.hid (ho.lies (Nat.le_refl _)); have K_aA_wb_0 : wb.cell? ⟨w.heap.size, 0, none⟩ = some d0_0 := cur_cell (K_aA.out.below B_wb.out).now 0; have K_aA_wb_1 : wb.cell? ⟨w.heap.size, 1, none⟩ = some d0_1 := cur_cell (K_aA.out.below B_wb.out).now 1; have K_aB_wb_0 : wb.cell? ⟨w.heap.size + 1, 0, none⟩ = some d1_0 := cur_cell (K_aB.out.below B_wb.out).now 0; have K_aB_wb_1 : wb.cell? ⟨w.heap.size + 1, 1, none⟩ = some d1_1 := cur_cell (K_aB.out.below B_wb.out).now 1; have K_aA_wbZ_0 : (wb.alloc (.cells #[.int .i64 0, .slice none 0 0] 26)).cell? ⟨w.heap.size, 0, none⟩ = some d0_0 := cur_cell ((K_aA.out.below B_wb.out).box _).now 0; have K_aA_wbZ_1 : (wb.alloc (.cells #[.int .i64 0, .slice none 0 0] 26)).cell? ⟨w.heap.size, 1, none⟩ = some d0_1 := cur_cell ((K_aA.out.below B_wb.out).box _).now 1; have K_aB_wbZ_0 : (wb.alloc (.cells #[.int .i64 0, .slice none 0 0] 26)).cell? ⟨w.heap.size + 1, 0, none⟩ = some d1_0 := cur_cell ((K_aB.out.below B_wb.out).box _).now 0; have K_aB_wbZ_1 : (wb.alloc (.cells #[.int .i64 0, .slice none 0 0] 26)).cell? ⟨w.heap.size + 1, 1, none⟩ = some d1_1 := cur_cell ((K_aB.out.below B_wb.out).box _).now 1; have P_t0 := Lib.hid (A_t0.out.below hb); clear ho hb)
      | (refine step_callW (wa.alloc (.cells #[.int .i64 0, .slice none 0 0] 26)) rfl (by rfl) 36 _ _ rfl _ (by kernel_rfl) Try.call36 _ (U1.out _ (below_box B_wa.out (.cells #[.int .i64 0, .slice none 0 0] 26))) ?_; clear U1; rintro e wb ⟨t10, t11, rfl, ho, hb⟩; refine ⟨_, rfl, ?_⟩; obtain ⟨t1z, t1a, t1n, t1c, rfl, rfl⟩ := ho.shape; have B_wb := Lib.hid (below_seq (below_box B_wa.out (.cells #[.int .i64 0, .slice none 0 0] 26)) hb); have ZP := Lib.hid ((ZeroBox.new (W := w2) B_wa.out.size).below hb); have P_t0 := Lib.hid ((A_t0.out.box (.cells #[.int .i64 0, .slice none 0 0] 26)).below hb); have A_t1 := Lib.hid (ho.lies (Nat.le_refl _)); have K_aA_wb_0 : wb.cell? ⟨w.heap.size, 0, none⟩ = some d0_0 := cur_cell (K_aA.out.below B_wb.out).now 0; have K_aA_wb_1 : wb.cell? ⟨w.heap.size, 1, none⟩ = some d0_1 := cur_cell (K_aA.out.below B_wb.out).now 1; have K_aB_wb_0 : wb.cell? ⟨w.heap.size + 1, 0, none⟩ = some d1_0 := cur_cell (K_aB.out.below B_wb.out).now 0; have K_aB_wb_1 : wb.cell? ⟨w.heap.size + 1, 1, none⟩ = some d1_1 := cur_cell (K_aB.out.below B_wb.out).now 1; have K_aA_wbZ_0 : (wb.alloc (.cells #[.int .i64 0, .slice none 0 0] 26)).cell? ⟨w.heap.size, 0, none⟩ = some d0_0 := cur_cell ((K_aA.out.below B_wb.out).box _).now 0; have K_aA_wbZ_1 : (wb.alloc (.cells #[.int .i64 0, .slice none 0 0] 26)).cell? ⟨w.heap.size, 1, none⟩ = some d0_1 := cur_cell ((K_aA.out.below B_wb.out).box _).now 1; have K_aB_wbZ_0 : (wb.alloc (.cells #[.int .i64 0, .slice none 0 0] 26)).cell? ⟨w.heap.size + 1, 0, none⟩ = some d1_0 := cur_cell ((K_aB.out.below B_wb.out).box _).now 0; have K_aB_wbZ_1 : (wb.alloc (.cells #[.int .i64 0, .slice none 0 0] 26)).cell? ⟨w.heap.size + 1, 1, none⟩ = some d1_1 := cur_cell ((K_aB.out.below B_wb.out).box _).now 1; clear ho hb)
      | (refine step_callW wb rfl (by rfl) 30 _ _ rfl _ (by kernel_rfl) Try.call30 _ (uSpecNetJoin (.int .i64 t0z) (.slice t0a t0n t0c) m0 (.int .i64 t1z) (.slice t1a t1n t1c) m1 _ P_t0.out.now.read A_t1.out.now.read) ?_; rintro e wj ⟨j0, j1, rfl, ho, hb⟩; refine ⟨_, rfl, ?_⟩; obtain ⟨jz, ja, jn, jc, rfl, rfl⟩ := ho.shape; have BJ := Lib.hid (below_seq B_wb.out hb); have OJ := Lib.hid ho; have HJ := Lib.hid (And.intro B_wb.out.size hb.size); (try (have ZJ := Lib.hid (ZP.out.below hb); have ZL := Lib.hid (cur_lt ZP.out.1); have z0 : wj.cell? ⟨_, 0, none⟩ = some (.int .i64 0) := cur_cell ZJ.out.1 0; have z1 : wj.cell? ⟨_, 1, none⟩ = some (.slice none 0 0) := cur_cell ZJ.out.1 1; have f0 := cur_free ZJ.out.1 0; have f1 := cur_free ZJ.out.1 1)); clear ho hb)
      | (refine step_callW (wb.alloc (.cells #[.int .i64 0, .slice none 0 0] 26)) rfl (by rfl) 30 _ _ rfl _ (by kernel_rfl) Try.call30 _ (uSpecNetJoin (.int .i64 t0z) (.slice t0a t0n t0c) m0 (.int .i64 t1z) (.slice t1a t1n t1c) m1 _ ((P_t0.out.box (.cells #[.int .i64 0, .slice none 0 0] 26)).now.read) ((A_t1.out.box (.cells #[.int .i64 0, .slice none 0 0] 26)).now.read)) ?_; rintro e wj ⟨j0, j1, rfl, ho, hb⟩; refine ⟨_, rfl, ?_⟩; obtain ⟨jz, ja, jn, jc, rfl, rfl⟩ := ho.shape; have BJ := Lib.hid (below_seq (below_box B_wb.out (.cells #[.int .i64 0, .slice none 0 0] 26)) hb); have OJ := Lib.hid ho; have HJ := Lib.hid (And.intro (show w2.heap.size ≤ (wb.alloc (.cells #[.int .i64 0, .slice none 0 0] 26)).heap.size from (below_box B_wb.out (.cells #[.int .i64 0, .slice none 0 0] 26)).size) hb.size); have ZJ := Lib.hid ((ZeroBox.new (W := w2) B_wb.out.size).below hb); have ZL := Lib.hid (show wb.heap.size < (wb.alloc (.cells #[.int .i64 0, .slice none 0 0] 26)).heap.size from by simp); have z0 : wj.cell? ⟨_, 0, none⟩ = some (.int .i64 0) := cur_cell ZJ.out.1 0; have z1 : wj.cell? ⟨_, 1, none⟩ = some (.slice none 0 0) := cur_cell ZJ.out.1 1; have f0 := cur_free ZJ.out.1 0; have f1 := cur_free ZJ.out.1 1; clear ho hb))
    all_goals (go_wp2_with fail; go_meet)
    all_goals first | exact ⟨_, _, _, _, _, _, _, rfl, rfl, Lib.hid (NetCut.set BJ.out ZJ.out.1 ZL.out ZJ.out.2 HJ.out.2 OJ.out)⟩ | exact ⟨_, _, _, _, _, _, _, rfl, rfl, Lib.hid (NetCut.box BJ.out HJ.out.1 HJ.out.2 OJ.out)⟩
  case rest =>
  obtain ⟨bx_w0, w0_z0, w0_a1, w0_n1, w0_c1, lo_w0, hi_w0, rfl, rfl, HC⟩ := hcut
  obtain ⟨hb, hkb, ho, ht, hap, hbx, hlo, hlh⟩ := HC.out
  clear HC U0 U1
  generalize wc = w3 at *
  have s_w3 : w2.heap.size ≤ w3.heap.size := hb.size
  have sb_w0 : bx_w0 + 1 ≤ w3.heap.size := cur_lt hkb
  replace B := Lib.hid (below_seq B.out hb)
  replace R_aA := Lib.hid (R_aA.out.below hb)
  replace R_aB := Lib.hid (R_aB.out.below hb)
  replace K_aA := Lib.hid (K_aA.out.below hb)
  replace K_aB := Lib.hid (K_aB.out.below hb)
  have A_w0 := Lib.hid (ho.lies ht)
  have K_w0 := Lib.hid (lies_block hkb)
  clear hb hkb ho c_aA_0 c_aA_1 c_aB_0 c_aB_1 K_aA_Z_0 K_aA_Z_1 K_aB_Z_0 K_aB_Z_1
  have c_aA_0 : w3.cell? ⟨w.heap.size, 0, none⟩ = some d0_0 := cur_cell K_aA.out.now 0
  have c_aA_1 : w3.cell? ⟨w.heap.size, 1, none⟩ = some d0_1 := cur_cell K_aA.out.now 1
  have c_aB_0 : w3.cell? ⟨w.heap.size + 1, 0, none⟩ = some d1_0 := cur_cell K_aB.out.now 0
  have c_aB_1 : w3.cell? ⟨w.heap.size + 1, 1, none⟩ = some d1_1 := cur_cell K_aB.out.now 1
  have c_w0_0 : w3.cell? ⟨bx_w0, 0, none⟩ = some (.int .i64 w0_z0) := cur_cell K_w0.out.now 0
  have c_w0_1 : w3.cell? ⟨bx_w0, 1, none⟩ = some (.slice w0_a1 w0_n1 w0_c1) := cur_cell K_w0.out.now 1
  go_wp2_with fail
  clear c_aA_0 c_aA_1 c_aB_0 c_aB_1 c_w0_0 c_w0_1
  refine (uToNet d0_0 d0_1 m0 _ hs0 R_aA.out.now).mono ?_
  rintro e w4 ⟨x00, x01, rfl, ho, hb⟩
  obtain ⟨x0z0, x0a1, x0n1, x0c1, rfl, rfl⟩ := ho.shape
  have s_w4 : w3.heap.size ≤ w4.heap.size := by have := hb.size; simpa only [size_box, size_drew] using this
  replace B := Lib.hid (below_seq B.out hb)
  replace R_aA := Lib.hid (R_aA.out.below hb)
  replace R_aB := Lib.hid (R_aB.out.below hb)
  replace K_aA := Lib.hid (K_aA.out.below hb)
  replace K_aB := Lib.hid (K_aB.out.below hb)
  replace A_w0 := Lib.hid (A_w0.out.below hb)
  replace K_w0 := Lib.hid (K_w0.out.below hb)
  have A_x0 := Lib.hid (ho.lies (Nat.le_refl _))
  clear ho hb
  replace B := Lib.hid (below_box B.out (.cells #[.int .i64 x0z0, .slice x0a1 x0n1 x0c1] 26))
  replace R_aA := Lib.hid (R_aA.out.box (.cells #[.int .i64 x0z0, .slice x0a1 x0n1 x0c1] 26))
  replace R_aB := Lib.hid (R_aB.out.box (.cells #[.int .i64 x0z0, .slice x0a1 x0n1 x0c1] 26))
  replace K_aA := Lib.hid (K_aA.out.box (.cells #[.int .i64 x0z0, .slice x0a1 x0n1 x0c1] 26))
  replace K_aB := Lib.hid (K_aB.out.box (.cells #[.int .i64 x0z0, .slice x0a1 x0n1 x0c1] 26))
  replace A_w0 := Lib.hid (A_w0.out.box (.cells #[.int .i64 x0z0, .slice x0a1 x0n1 x0c1] 26))
  replace K_w0 := Lib.hid (K_w0.out.box (.cells #[.int .i64 x0z0, .slice x0a1 x0n1 x0c1] 26))
  replace A_x0 := Lib.hid (A_x0.out.box (.cells #[.int .i64 x0z0, .slice x0a1 x0n1 x0c1] 26))
  have K_x0 := Lib.hid (lies_box w4 (.cells #[.int .i64 x0z0, .slice x0a1 x0n1 x0c1] 26))
  have c_aA_0 : (w4.alloc (.cells #[.int .i64 x0z0, .slice x0a1 x0n1 x0c1] 26)).cell? ⟨w.heap.size, 0, none⟩ = some d0_0 := cur_cell K_aA.out.now 0
  have c_aA_1 : (w4.alloc (.cells #[.int .i64 x0z0, .slice x0a1 x0n1 x0c1] 26)).cell? ⟨w.heap.size, 1, none⟩ = some d0_1 := cur_cell K_aA.out.now 1
  have c_aB_0 : (w4.alloc (.cells #[.int .i64 x0z0, .slice x0a1 x0n1 x0c1] 26)).cell? ⟨w.heap.size + 1, 0, none⟩ = some d1_0 := cur_cell K_aB.out.now 0
  have c_aB_1 : (w4.alloc (.cells #[.int .i64 x0z0, .slice x0a1 x0n1 x0c1] 26)).cell? ⟨w.heap.size + 1, 1, none⟩ = some d1_1 := cur_cell K_aB.out.now 1
  have c_w0_0 : (w4.alloc (.cells #[.int .i64 x0z0, .slice x0a1 x0n1 x0c1] 26)).cell? ⟨bx_w0, 0, none⟩ = some (.int .i64 w0_z0) := cur_cell K_w0.out.now 0
  have c_w0_1 : (w4.alloc (.cells #[.int .i64 x0z0, .slice x0a1 x0n1 x0c1] 26)).cell? ⟨bx_w0, 1, none⟩ = some (.slice w0_a1 w0_n1 w0_c1) := cur_cell K_w0.out.now 1
  have c_x0_0 : (w4.alloc (.cells #[.int .i64 x0z0, .slice x0a1 x0n1 x0c1] 26)).cell? ⟨w4.heap.size, 0, none⟩ = some (.int .i64 x0z0) := cur_cell K_x0.out.now 0
  have c_x0_1 : (w4.alloc (.cells #[.int .i64 x0z0, .slice x0a1 x0n1 x0c1] 26)).cell? ⟨w4.heap.size, 1, none⟩ = some (.slice x0a1 x0n1 x0c1) := cur_cell K_x0.out.now 1
  go_wp2_with fail
  clear c_aA_0 c_aA_1 c_aB_0 c_aB_1 c_w0_0 c_w0_1 c_x0_0 c_x0_1
  refine (uToNet d1_0 d1_1 m1 _ hs1 R_aB.out.now).mono ?_
  rintro e w5 ⟨x10, x11, rfl, ho, hb⟩
  obtain ⟨x1z0, x1a1, x1n1, x1c1, rfl, rfl⟩ := ho.shape
  have s_w5 : w4.heap.size + 1 ≤ w5.heap.size := by have := hb.size; simpa only [size_box, size_drew] using this
  replace B := Lib.hid (below_seq B.out hb)
  replace R_aA := Lib.hid (R_aA.out.below hb)
  replace R_aB := Lib.hid (R_aB.out.below hb)
  replace K_aA := Lib.hid (K_aA.out.below hb)
  replace K_aB := Lib.hid (K_aB.out.below hb)
  replace A_w0 := Lib.hid (A_w0.out.below hb)
  replace K_w0 := Lib.hid (K_w0.out.below hb)
  replace A_x0 := Lib.hid (A_x0.out.below hb)
  replace K_x0 := Lib.hid (K_x0.out.below hb)
  simp only [size_box] at ho
  have A_x1 := Lib.hid (ho.lies (Nat.le_refl _))
  clear ho hb
  replace B := Lib.hid (below_box B.out (.cells #[.int .i64 x1z0, .slice x1a1 x1n1 x1c1] 26))
  replace R_aA := Lib.hid (R_aA.out.box (.cells #[.int .i64 x1z0, .slice x1a1 x1n1 x1c1] 26))
  replace R_aB := Lib.hid (R_aB.out.box (.cells #[.int .i64 x1z0, .slice x1a1 x1n1 x1c1] 26))
  replace K_aA := Lib.hid (K_aA.out.box (.cells #[.int .i64 x1z0, .slice x1a1 x1n1 x1c1] 26))
  replace K_aB := Lib.hid (K_aB.out.box (.cells #[.int .i64 x1z0, .slice x1a1 x1n1 x1c1] 26))
  replace A_w0 := Lib.hid (A_w0.out.box (.cells #[.int .i64 x1z0, .slice x1a1 x1n1 x1c1] 26))
  replace K_w0 := Lib.hid (K_w0.out.box (.cells #[.int .i64 x1z0, .slice x1a1 x1n1 x1c1] 26))
  replace A_x0 := Lib.hid (A_x0.out.box (.cells #[.int .i64 x1z0, .slice x1a1 x1n1 x1c1] 26))
  replace K_x0 := Lib.hid (K_x0.out.box (.cells #[.int .i64 x1z0, .slice x1a1 x1n1 x1c1] 26))
  replace A_x1 := Lib.hid (A_x1.out.box (.cells #[.int .i64 x1z0, .slice x1a1 x1n1 x1c1] 26))
  have K_x1 := Lib.hid (lies_box w5 (.cells #[.int .i64 x1z0, .slice x1a1 x1n1 x1c1] 26))
  have c_aA_0 : (w5.alloc (.cells #[.int .i64 x1z0, .slice x1a1 x1n1 x1c1] 26)).cell? ⟨w.heap.size, 0, none⟩ = some d0_0 := cur_cell K_aA.out.now 0
  have c_aA_1 : (w5.alloc (.cells #[.int .i64 x1z0, .slice x1a1 x1n1 x1c1] 26)).cell? ⟨w.heap.size, 1, none⟩ = some d0_1 := cur_cell K_aA.out.now 1
  have c_aB_0 : (w5.alloc (.cells #[.int .i64 x1z0, .slice x1a1 x1n1 x1c1] 26)).cell? ⟨w.heap.size + 1, 0, none⟩ = some d1_0 := cur_cell K_aB.out.now 0
  have c_aB_1 : (w5.alloc (.cells #[.int .i64 x1z0, .slice x1a1 x1n1 x1c1] 26)).cell? ⟨w.heap.size + 1, 1, none⟩ = some d1_1 := cur_cell K_aB.out.now 1
  have c_w0_0 : (w5.alloc (.cells #[.int .i64 x1z0, .slice x1a1 x1n1 x1c1] 26)).cell? ⟨bx_w0, 0, none⟩ = some (.int .i64 w0_z0) := cur_cell K_w0.out.now 0
  have c_w0_1 : (w5.alloc (.cells #[.int .i64 x1z0, .slice x1a1 x1n1 x1c1] 26)).cell? ⟨bx_w0, 1, none⟩ = some (.slice w0_a1 w0_n1 w0_c1) := cur_cell K_w0.out.now 1
  have c_x0_0 : (w5.alloc (.cells #[.int .i64 x1z0, .slice x1a1 x1n1 x1c1] 26)).cell? ⟨w4.heap.size, 0, none⟩ = some (.int .i64 x0z0) := cur_cell K_x0.out.now 0
  have c_x0_1 : (w5.alloc (.cells #[.int .i64 x1z0, .slice x1a1 x1n1 x1c1] 26)).cell? ⟨w4.heap.size, 1, none⟩ = some (.slice x0a1 x0n1 x0c1) := cur_cell K_x0.out.now 1
  have c_x1_0 : (w5.alloc (.cells #[.int .i64 x1z0, .slice x1a1 x1n1 x1c1] 26)).cell? ⟨w5.heap.size, 0, none⟩ = some (.int .i64 x1z0) := cur_cell K_x1.out.now 0
  have c_x1_1 : (w5.alloc (.cells #[.int .i64 x1z0, .slice x1a1 x1n1 x1c1] 26)).cell? ⟨w5.heap.size, 1, none⟩ = some (.slice x1a1 x1n1 x1c1) := cur_cell K_x1.out.now 1
  go_wp2_with fail
  clear c_aA_0 c_aA_1 c_aB_0 c_aB_1 c_w0_0 c_w0_1 c_x0_0 c_x0_1 c_x1_0 c_x1_1
  refine (uImplNetJoin (.int .i64 x0z0) (.slice x0a1 x0n1 x0c1) m0 (.int .i64 x1z0) (.slice x1a1 x1n1 x1c1) m1 _ A_x0.out.now.read A_x1.out.now.read).mono ?_
  rintro e w6 ⟨g0_0, g0_1, rfl, ho_g0, hb⟩
  obtain ⟨g0_z0, g0_a1, g0_n1, g0_c1, rfl, rfl⟩ := ho_g0.shape
  have s_w6 : w5.heap.size + 1 ≤ w6.heap.size := by have := hb.size; simpa only [size_box, size_drew] using this
  replace B := Lib.hid (below_seq B.out hb)
  replace R_aA := Lib.hid (R_aA.out.below hb)
  replace R_aB := Lib.hid (R_aB.out.below hb)
  replace K_aA := Lib.hid (K_aA.out.below hb)
  replace K_aB := Lib.hid (K_aB.out.below hb)
  replace A_w0 := Lib.hid (A_w0.out.below hb)
  replace K_w0 := Lib.hid (K_w0.out.below hb)
  replace A_x0 := Lib.hid (A_x0.out.below hb)
  replace K_x0 := Lib.hid (K_x0.out.below hb)
  replace A_x1 := Lib.hid (A_x1.out.below hb)
  replace K_x1 := Lib.hid (K_x1.out.below hb)
  simp only [size_box] at ho_g0
  have A_g0 := Lib.hid (ho_g0.lies (Nat.le_refl _))
  clear ho_g0 hb
  replace B := Lib.hid (below_box B.out (.cells #[.int .i64 g0_z0, .slice g0_a1 g0_n1 g0_c1] 26))
  replace R_aA := Lib.hid (R_aA.out.box (.cells #[.int .i64 g0_z0, .slice g0_a1 g0_n1 g0_c1] 26))
  replace R_aB := Lib.hid (R_aB.out.box (.cells #[.int .i64 g0_z0, .slice g0_a1 g0_n1 g0_c1] 26))
  replace K_aA := Lib.hid (K_aA.out.box (.cells #[.int .i64 g0_z0, .slice g0_a1 g0_n1 g0_c1] 26))
  replace K_aB := Lib.hid (K_aB.out.box (.cells #[.int .i64 g0_z0, .slice g0_a1 g0_n1 g0_c1] 26))
  replace A_w0 := Lib.hid (A_w0.out.box (.cells #[.int .i64 g0_z0, .slice g0_a1 g0_n1 g0_c1] 26))
  replace K_w0 := Lib.hid (K_w0.out.box (.cells #[.int .i64 g0_z0, .slice g0_a1 g0_n1 g0_c1] 26))
  replace A_x0 := Lib.hid (A_x0.out.box (.cells #[.int .i64 g0_z0, .slice g0_a1 g0_n1 g0_c1] 26))
  replace K_x0 := Lib.hid (K_x0.out.box (.cells #[.int .i64 g0_z0, .slice g0_a1 g0_n1 g0_c1] 26))
  replace A_x1 := Lib.hid (A_x1.out.box (.cells #[.int .i64 g0_z0, .slice g0_a1 g0_n1 g0_c1] 26))
  replace K_x1 := Lib.hid (K_x1.out.box (.cells #[.int .i64 g0_z0, .slice g0_a1 g0_n1 g0_c1] 26))
  replace A_g0 := Lib.hid (A_g0.out.box (.cells #[.int .i64 g0_z0, .slice g0_a1 g0_n1 g0_c1] 26))
  have K_g0 := Lib.hid (lies_box w6 (.cells #[.int .i64 g0_z0, .slice g0_a1 g0_n1 g0_c1] 26))
  have bd_g0 : mcNet (joinM m0 m1) ≤ 1000000000000 := (Nat.le_trans (joinM_bd m0 m1) (by decide))
  have c_aA_0 : (w6.alloc (.cells #[.int .i64 g0_z0, .slice g0_a1 g0_n1 g0_c1] 26)).cell? ⟨w.heap.size, 0, none⟩ = some d0_0 := cur_cell K_aA.out.now 0
  have c_aA_1 : (w6.alloc (.cells #[.int .i64 g0_z0, .slice g0_a1 g0_n1 g0_c1] 26)).cell? ⟨w.heap.size, 1, none⟩ = some d0_1 := cur_cell K_aA.out.now 1
  have c_aB_0 : (w6.alloc (.cells #[.int .i64 g0_z0, .slice g0_a1 g0_n1 g0_c1] 26)).cell? ⟨w.heap.size + 1, 0, none⟩ = some d1_0 := cur_cell K_aB.out.now 0
  have c_aB_1 : (w6.alloc (.cells #[.int .i64 g0_z0, .slice g0_a1 g0_n1 g0_c1] 26)).cell? ⟨w.heap.size + 1, 1, none⟩ = some d1_1 := cur_cell K_aB.out.now 1
  have c_w0_0 : (w6.alloc (.cells #[.int .i64 g0_z0, .slice g0_a1 g0_n1 g0_c1] 26)).cell? ⟨bx_w0, 0, none⟩ = some (.int .i64 w0_z0) := cur_cell K_w0.out.now 0
  have c_w0_1 : (w6.alloc (.cells #[.int .i64 g0_z0, .slice g0_a1 g0_n1 g0_c1] 26)).cell? ⟨bx_w0, 1, none⟩ = some (.slice w0_a1 w0_n1 w0_c1) := cur_cell K_w0.out.now 1
  have c_x0_0 : (w6.alloc (.cells #[.int .i64 g0_z0, .slice g0_a1 g0_n1 g0_c1] 26)).cell? ⟨w4.heap.size, 0, none⟩ = some (.int .i64 x0z0) := cur_cell K_x0.out.now 0
  have c_x0_1 : (w6.alloc (.cells #[.int .i64 g0_z0, .slice g0_a1 g0_n1 g0_c1] 26)).cell? ⟨w4.heap.size, 1, none⟩ = some (.slice x0a1 x0n1 x0c1) := cur_cell K_x0.out.now 1
  have c_x1_0 : (w6.alloc (.cells #[.int .i64 g0_z0, .slice g0_a1 g0_n1 g0_c1] 26)).cell? ⟨w5.heap.size, 0, none⟩ = some (.int .i64 x1z0) := cur_cell K_x1.out.now 0
  have c_x1_1 : (w6.alloc (.cells #[.int .i64 g0_z0, .slice g0_a1 g0_n1 g0_c1] 26)).cell? ⟨w5.heap.size, 1, none⟩ = some (.slice x1a1 x1n1 x1c1) := cur_cell K_x1.out.now 1
  have c_g0_0 : (w6.alloc (.cells #[.int .i64 g0_z0, .slice g0_a1 g0_n1 g0_c1] 26)).cell? ⟨w6.heap.size, 0, none⟩ = some (.int .i64 g0_z0) := cur_cell K_g0.out.now 0
  have c_g0_1 : (w6.alloc (.cells #[.int .i64 g0_z0, .slice g0_a1 g0_n1 g0_c1] 26)).cell? ⟨w6.heap.size, 1, none⟩ = some (.slice g0_a1 g0_n1 g0_c1) := cur_cell K_g0.out.now 1
  go_wp2_with fail
  clear c_aA_0 c_aA_1 c_aB_0 c_aB_1 c_w0_0 c_w0_1 c_x0_0 c_x0_1 c_x1_0 c_x1_1 c_g0_0 c_g0_1
  refine (uEqNet (.int .i64 g0_z0) (.slice g0_a1 g0_n1 g0_c1) (.int .i64 w0_z0) (.slice w0_a1 w0_n1 w0_c1) (joinM m0 m1) _ A_g0.out.now.read A_w0.out.now.read).mono ?_
  rintro e w7 ⟨rfl, hb⟩
  have s_w7 : w6.heap.size + 1 ≤ w7.heap.size := by have := hb.size; simpa only [size_box, size_drew] using this
  replace B := Lib.hid (below_seq B.out hb)
  replace R_aA := Lib.hid (R_aA.out.below hb)
  replace R_aB := Lib.hid (R_aB.out.below hb)
  replace K_aA := Lib.hid (K_aA.out.below hb)
  replace K_aB := Lib.hid (K_aB.out.below hb)
  replace A_w0 := Lib.hid (A_w0.out.below hb)
  replace K_w0 := Lib.hid (K_w0.out.below hb)
  replace A_x0 := Lib.hid (A_x0.out.below hb)
  replace K_x0 := Lib.hid (K_x0.out.below hb)
  replace A_x1 := Lib.hid (A_x1.out.below hb)
  replace K_x1 := Lib.hid (K_x1.out.below hb)
  replace A_g0 := Lib.hid (A_g0.out.below hb)
  replace K_g0 := Lib.hid (K_g0.out.below hb)
  clear hb
  have c_aA_0 : w7.cell? ⟨w.heap.size, 0, none⟩ = some d0_0 := cur_cell K_aA.out.now 0
  have c_aA_1 : w7.cell? ⟨w.heap.size, 1, none⟩ = some d0_1 := cur_cell K_aA.out.now 1
  have c_aB_0 : w7.cell? ⟨w.heap.size + 1, 0, none⟩ = some d1_0 := cur_cell K_aB.out.now 0
  have c_aB_1 : w7.cell? ⟨w.heap.size + 1, 1, none⟩ = some d1_1 := cur_cell K_aB.out.now 1
  have c_w0_0 : w7.cell? ⟨bx_w0, 0, none⟩ = some (.int .i64 w0_z0) := cur_cell K_w0.out.now 0
  have c_w0_1 : w7.cell? ⟨bx_w0, 1, none⟩ = some (.slice w0_a1 w0_n1 w0_c1) := cur_cell K_w0.out.now 1
  have c_x0_0 : w7.cell? ⟨w4.heap.size, 0, none⟩ = some (.int .i64 x0z0) := cur_cell K_x0.out.now 0
  have c_x0_1 : w7.cell? ⟨w4.heap.size, 1, none⟩ = some (.slice x0a1 x0n1 x0c1) := cur_cell K_x0.out.now 1
  have c_x1_0 : w7.cell? ⟨w5.heap.size, 0, none⟩ = some (.int .i64 x1z0) := cur_cell K_x1.out.now 0
  have c_x1_1 : w7.cell? ⟨w5.heap.size, 1, none⟩ = some (.slice x1a1 x1n1 x1c1) := cur_cell K_x1.out.now 1
  have c_g0_0 : w7.cell? ⟨w6.heap.size, 0, none⟩ = some (.int .i64 g0_z0) := cur_cell K_g0.out.now 0
  have c_g0_1 : w7.cell? ⟨w6.heap.size, 1, none⟩ = some (.slice g0_a1 g0_n1 g0_c1) := cur_cell K_g0.out.now 1
  go_wp2_with fail
  replace B := Lib.hid (below_drew B.out)
  replace R_aA := Lib.hid R_aA.out.drew
  replace R_aB := Lib.hid R_aB.out.drew
  replace K_aA := Lib.hid K_aA.out.drew
  replace K_aB := Lib.hid K_aB.out.drew
  replace A_w0 := Lib.hid A_w0.out.drew
  replace K_w0 := Lib.hid K_w0.out.drew
  replace A_x0 := Lib.hid A_x0.out.drew
  replace K_x0 := Lib.hid K_x0.out.drew
  replace A_x1 := Lib.hid A_x1.out.drew
  replace K_x1 := Lib.hid K_x1.out.drew
  replace A_g0 := Lib.hid A_g0.out.drew
  replace K_g0 := Lib.hid K_g0.out.drew
  go_region_held3 (fun w' => w'.cell? ⟨w.heap.size, 0, none⟩ = some d0_0 ∧ w'.cell? ⟨w.heap.size, 1, none⟩ = some d0_1 ∧ w'.cell? ⟨w4.heap.size, 0, none⟩ = some (.int .i64 x0z0) ∧ w'.cell? ⟨w4.heap.size, 1, none⟩ = some (.slice x0a1 x0n1 x0c1))
    (first | go_keep | exact ⟨cur_cell K_aA.out.now 0, cur_cell K_aA.out.now 1, cur_cell K_x0.out.now 0, cur_cell K_x0.out.now 1⟩)
    (first
      | (go_at_call 36; refine (uToNet d0_0 d0_1 m0 _ hs0 R_aA.out.now).mono ?_; rintro e w8 ⟨tt9_0, tt9_1, rfl, ho, hb⟩; have A_tt := Lib.hid (ho.lies (Nat.le_refl _)); have s_w8 : w7.heap.size ≤ w8.heap.size := (by have := hb.size; simpa only [size_box, size_drew] using this); replace B := Lib.hid (below_seq B.out hb); replace R_aA := Lib.hid (R_aA.out.below hb); replace R_aB := Lib.hid (R_aB.out.below hb); replace K_aA := Lib.hid (K_aA.out.below hb); replace K_aB := Lib.hid (K_aB.out.below hb); replace A_w0 := Lib.hid (A_w0.out.below hb); replace K_w0 := Lib.hid (K_w0.out.below hb); replace A_x0 := Lib.hid (A_x0.out.below hb); replace K_x0 := Lib.hid (K_x0.out.below hb); replace A_x1 := Lib.hid (A_x1.out.below hb); replace K_x1 := Lib.hid (K_x1.out.below hb); replace A_g0 := Lib.hid (A_g0.out.below hb); replace K_g0 := Lib.hid (K_g0.out.below hb); clear ho hb)
      | (go_at_call 38; refine (uEqNet (.int .i64 x0z0) (.slice x0a1 x0n1 x0c1) tt9_0 tt9_1 m0 _ A_x0.out.now.read A_tt.out.now.read).mono ?_; rintro e w9 ⟨rfl, hb⟩; have s_w9 : w8.heap.size ≤ w9.heap.size := hb.size; replace B := Lib.hid (below_seq B.out hb); replace R_aA := Lib.hid (R_aA.out.below hb); replace R_aB := Lib.hid (R_aB.out.below hb); replace K_aA := Lib.hid (K_aA.out.below hb); replace K_aB := Lib.hid (K_aB.out.below hb); replace A_w0 := Lib.hid (A_w0.out.below hb); replace K_w0 := Lib.hid (K_w0.out.below hb); replace A_x0 := Lib.hid (A_x0.out.below hb); replace K_x0 := Lib.hid (K_x0.out.below hb); replace A_x1 := Lib.hid (A_x1.out.below hb); replace K_x1 := Lib.hid (K_x1.out.below hb); replace A_g0 := Lib.hid (A_g0.out.below hb); replace K_g0 := Lib.hid (K_g0.out.below hb); clear hb A_tt))
  clear c_aA_0 c_aA_1 c_aB_0 c_aB_1 c_w0_0 c_w0_1 c_x0_0 c_x0_1 c_x1_0 c_x1_1 c_g0_0 c_g0_1
  have c_aA_0 : w9.cell? ⟨w.heap.size, 0, none⟩ = some d0_0 := cur_cell K_aA.out.now 0
  have c_aA_1 : w9.cell? ⟨w.heap.size, 1, none⟩ = some d0_1 := cur_cell K_aA.out.now 1
  have c_aB_0 : w9.cell? ⟨w.heap.size + 1, 0, none⟩ = some d1_0 := cur_cell K_aB.out.now 0
  have c_aB_1 : w9.cell? ⟨w.heap.size + 1, 1, none⟩ = some d1_1 := cur_cell K_aB.out.now 1
  have c_w0_0 : w9.cell? ⟨bx_w0, 0, none⟩ = some (.int .i64 w0_z0) := cur_cell K_w0.out.now 0
  have c_w0_1 : w9.cell? ⟨bx_w0, 1, none⟩ = some (.slice w0_a1 w0_n1 w0_c1) := cur_cell K_w0.out.now 1
  have c_x0_0 : w9.cell? ⟨w4.heap.size, 0, none⟩ = some (.int .i64 x0z0) := cur_cell K_x0.out.now 0
  have c_x0_1 : w9.cell? ⟨w4.heap.size, 1, none⟩ = some (.slice x0a1 x0n1 x0c1) := cur_cell K_x0.out.now 1
  have c_x1_0 : w9.cell? ⟨w5.heap.size, 0, none⟩ = some (.int .i64 x1z0) := cur_cell K_x1.out.now 0
  have c_x1_1 : w9.cell? ⟨w5.heap.size, 1, none⟩ = some (.slice x1a1 x1n1 x1c1) := cur_cell K_x1.out.now 1
  have c_g0_0 : w9.cell? ⟨w6.heap.size, 0, none⟩ = some (.int .i64 g0_z0) := cur_cell K_g0.out.now 0
  have c_g0_1 : w9.cell? ⟨w6.heap.size, 1, none⟩ = some (.slice g0_a1 g0_n1 g0_c1) := cur_cell K_g0.out.now 1
  go_wp2_with fail
  replace B := Lib.hid (below_drew B.out)
  replace R_aA := Lib.hid R_aA.out.drew
  replace R_aB := Lib.hid R_aB.out.drew
  replace K_aA := Lib.hid K_aA.out.drew
  replace K_aB := Lib.hid K_aB.out.drew
  replace A_w0 := Lib.hid A_w0.out.drew
  replace K_w0 := Lib.hid K_w0.out.drew
  replace A_x0 := Lib.hid A_x0.out.drew
  replace K_x0 := Lib.hid K_x0.out.drew
  replace A_x1 := Lib.hid A_x1.out.drew
  replace K_x1 := Lib.hid K_x1.out.drew
  replace A_g0 := Lib.hid A_g0.out.drew
  replace K_g0 := Lib.hid K_g0.out.drew
  go_region_held3 (fun w' => w'.cell? ⟨w.heap.size + 1, 0, none⟩ = some d1_0 ∧ w'.cell? ⟨w.heap.size + 1, 1, none⟩ = some d1_1 ∧ w'.cell? ⟨w5.heap.size, 0, none⟩ = some (.int .i64 x1z0) ∧ w'.cell? ⟨w5.heap.size, 1, none⟩ = some (.slice x1a1 x1n1 x1c1))
    (first | go_keep | exact ⟨cur_cell K_aB.out.now 0, cur_cell K_aB.out.now 1, cur_cell K_x1.out.now 0, cur_cell K_x1.out.now 1⟩)
    (first
      | (go_at_call 36; refine (uToNet d1_0 d1_1 m1 _ hs1 R_aB.out.now).mono ?_; rintro e w10 ⟨tt11_0, tt11_1, rfl, ho, hb⟩; have A_tt := Lib.hid (ho.lies (Nat.le_refl _)); have s_w10 : w9.heap.size ≤ w10.heap.size := (by have := hb.size; simpa only [size_box, size_drew] using this); replace B := Lib.hid (below_seq B.out hb); replace R_aA := Lib.hid (R_aA.out.below hb); replace R_aB := Lib.hid (R_aB.out.below hb); replace K_aA := Lib.hid (K_aA.out.below hb); replace K_aB := Lib.hid (K_aB.out.below hb); replace A_w0 := Lib.hid (A_w0.out.below hb); replace K_w0 := Lib.hid (K_w0.out.below hb); replace A_x0 := Lib.hid (A_x0.out.below hb); replace K_x0 := Lib.hid (K_x0.out.below hb); replace A_x1 := Lib.hid (A_x1.out.below hb); replace K_x1 := Lib.hid (K_x1.out.below hb); replace A_g0 := Lib.hid (A_g0.out.below hb); replace K_g0 := Lib.hid (K_g0.out.below hb); clear ho hb)
      | (go_at_call 38; refine (uEqNet (.int .i64 x1z0) (.slice x1a1 x1n1 x1c1) tt11_0 tt11_1 m1 _ A_x1.out.now.read A_tt.out.now.read).mono ?_; rintro e w11 ⟨rfl, hb⟩; have s_w11 : w10.heap.size ≤ w11.heap.size := hb.size; replace B := Lib.hid (below_seq B.out hb); replace R_aA := Lib.hid (R_aA.out.below hb); replace R_aB := Lib.hid (R_aB.out.below hb); replace K_aA := Lib.hid (K_aA.out.below hb); replace K_aB := Lib.hid (K_aB.out.below hb); replace A_w0 := Lib.hid (A_w0.out.below hb); replace K_w0 := Lib.hid (K_w0.out.below hb); replace A_x0 := Lib.hid (A_x0.out.below hb); replace K_x0 := Lib.hid (K_x0.out.below hb); replace A_x1 := Lib.hid (A_x1.out.below hb); replace K_x1 := Lib.hid (K_x1.out.below hb); replace A_g0 := Lib.hid (A_g0.out.below hb); replace K_g0 := Lib.hid (K_g0.out.below hb); clear hb A_tt))
  clear c_aA_0 c_aA_1 c_aB_0 c_aB_1 c_w0_0 c_w0_1 c_x0_0 c_x0_1 c_x1_0 c_x1_1 c_g0_0 c_g0_1
  have c_aA_0 : w11.cell? ⟨w.heap.size, 0, none⟩ = some d0_0 := cur_cell K_aA.out.now 0
  have c_aA_1 : w11.cell? ⟨w.heap.size, 1, none⟩ = some d0_1 := cur_cell K_aA.out.now 1
  have c_aB_0 : w11.cell? ⟨w.heap.size + 1, 0, none⟩ = some d1_0 := cur_cell K_aB.out.now 0
  have c_aB_1 : w11.cell? ⟨w.heap.size + 1, 1, none⟩ = some d1_1 := cur_cell K_aB.out.now 1
  have c_w0_0 : w11.cell? ⟨bx_w0, 0, none⟩ = some (.int .i64 w0_z0) := cur_cell K_w0.out.now 0
  have c_w0_1 : w11.cell? ⟨bx_w0, 1, none⟩ = some (.slice w0_a1 w0_n1 w0_c1) := cur_cell K_w0.out.now 1
  have c_x0_0 : w11.cell? ⟨w4.heap.size, 0, none⟩ = some (.int .i64 x0z0) := cur_cell K_x0.out.now 0
  have c_x0_1 : w11.cell? ⟨w4.heap.size, 1, none⟩ = some (.slice x0a1 x0n1 x0c1) := cur_cell K_x0.out.now 1
  have c_x1_0 : w11.cell? ⟨w5.heap.size, 0, none⟩ = some (.int .i64 x1z0) := cur_cell K_x1.out.now 0
  have c_x1_1 : w11.cell? ⟨w5.heap.size, 1, none⟩ = some (.slice x1a1 x1n1 x1c1) := cur_cell K_x1.out.now 1
  have c_g0_0 : w11.cell? ⟨w6.heap.size, 0, none⟩ = some (.int .i64 g0_z0) := cur_cell K_g0.out.now 0
  have c_g0_1 : w11.cell? ⟨w6.heap.size, 1, none⟩ = some (.slice g0_a1 g0_n1 g0_c1) := cur_cell K_g0.out.now 1
  go_wp2_with fail
  clear c_aA_0 c_aA_1 c_aB_0 c_aB_1 c_w0_0 c_w0_1 c_x0_0 c_x0_1 c_x1_0 c_x1_1 c_g0_0 c_g0_1
  refine (uMarkNet w3.heap.size w4.heap.size 1 (.int .i64 x0z0) (.slice x0a1 x0n1 x0c1) m0 _ (by omega) A_x0.out.top A_x0.out.now).mono ?_
  rintro e w12 ⟨k12, rfl, hk, ho, hc⟩
  have bd_k12 : k12 ≤ 2000000000000 := by omega
  have HK_k12 := Lib.hid hk
  have s_w12 : w11.heap.size ≤ w12.heap.size := by have := hc.size; simpa only [size_box, size_drew] using this
  have ho_t := A_x0.out.top
  clear A_x0
  replace B := Lib.hid (hc.below B.out (by have := B0s; omega))
  replace R_aA := Lib.hid (R_aA.out.chg hc (by have := B0s; omega))
  replace R_aB := Lib.hid (R_aB.out.chg hc (by have := B0s; omega))
  replace K_aA := Lib.hid (K_aA.out.chg hc (by have := B0s; omega))
  replace K_aB := Lib.hid (K_aB.out.chg hc (by have := B0s; omega))
  replace A_w0 := Lib.hid (A_w0.out.chg hc (by have := B0s; omega))
  replace K_w0 := Lib.hid (K_w0.out.chg hc (by have := B0s; omega))
  replace K_x0 := Lib.hid (K_x0.out.chg hc (by have := B0s; omega))
  replace A_x1 := Lib.hid (A_x1.out.chg hc (by have := B0s; omega))
  replace K_x1 := Lib.hid (K_x1.out.chg hc (by have := B0s; omega))
  replace A_g0 := Lib.hid (A_g0.out.chg hc (by have := B0s; omega))
  replace K_g0 := Lib.hid (K_g0.out.chg hc (by have := B0s; omega))
  have A_x0 := Lib.hid (ho.lies (Nat.le_trans ho_t s_w12))
  clear hk ho hc ho_t
  have c_aA_0 : w12.cell? ⟨w.heap.size, 0, none⟩ = some d0_0 := cur_cell K_aA.out.now 0
  have c_aA_1 : w12.cell? ⟨w.heap.size, 1, none⟩ = some d0_1 := cur_cell K_aA.out.now 1
  have c_aB_0 : w12.cell? ⟨w.heap.size + 1, 0, none⟩ = some d1_0 := cur_cell K_aB.out.now 0
  have c_aB_1 : w12.cell? ⟨w.heap.size + 1, 1, none⟩ = some d1_1 := cur_cell K_aB.out.now 1
  have c_w0_0 : w12.cell? ⟨bx_w0, 0, none⟩ = some (.int .i64 w0_z0) := cur_cell K_w0.out.now 0
  have c_w0_1 : w12.cell? ⟨bx_w0, 1, none⟩ = some (.slice w0_a1 w0_n1 w0_c1) := cur_cell K_w0.out.now 1
  have c_x0_0 : w12.cell? ⟨w4.heap.size, 0, none⟩ = some (.int .i64 x0z0) := cur_cell K_x0.out.now 0
  have c_x0_1 : w12.cell? ⟨w4.heap.size, 1, none⟩ = some (.slice x0a1 x0n1 x0c1) := cur_cell K_x0.out.now 1
  have c_x1_0 : w12.cell? ⟨w5.heap.size, 0, none⟩ = some (.int .i64 x1z0) := cur_cell K_x1.out.now 0
  have c_x1_1 : w12.cell? ⟨w5.heap.size, 1, none⟩ = some (.slice x1a1 x1n1 x1c1) := cur_cell K_x1.out.now 1
  have c_g0_0 : w12.cell? ⟨w6.heap.size, 0, none⟩ = some (.int .i64 g0_z0) := cur_cell K_g0.out.now 0
  have c_g0_1 : w12.cell? ⟨w6.heap.size, 1, none⟩ = some (.slice g0_a1 g0_n1 g0_c1) := cur_cell K_g0.out.now 1
  go_wp2_with fail
  clear c_aA_0 c_aA_1 c_aB_0 c_aB_1 c_w0_0 c_w0_1 c_x0_0 c_x0_1 c_x1_0 c_x1_1 c_g0_0 c_g0_1
  refine (uMarkNet (w4.heap.size + 1) w5.heap.size k12 (.int .i64 x1z0) (.slice x1a1 x1n1 x1c1) m1 _ (by omega) A_x1.out.top A_x1.out.now).mono ?_
  rintro e w13 ⟨k13, rfl, hk, ho, hc⟩
  have bd_k13 : k13 ≤ 4000000000000 := by omega
  have HK_k13 := Lib.hid hk
  have s_w13 : w12.heap.size ≤ w13.heap.size := by have := hc.size; simpa only [size_box, size_drew] using this
  have ho_t := A_x1.out.top
  clear A_x1
  replace B := Lib.hid (hc.below B.out (by have := B0s; omega))
  replace R_aA := Lib.hid (R_aA.out.chg hc (by have := B0s; omega))
  replace R_aB := Lib.hid (R_aB.out.chg hc (by have := B0s; omega))
  replace K_aA := Lib.hid (K_aA.out.chg hc (by have := B0s; omega))
  replace K_aB := Lib.hid (K_aB.out.chg hc (by have := B0s; omega))
  replace A_w0 := Lib.hid (A_w0.out.chg hc (by have := B0s; omega))
  replace K_w0 := Lib.hid (K_w0.out.chg hc (by have := B0s; omega))
  replace K_x0 := Lib.hid (K_x0.out.chg hc (by have := B0s; omega))
  replace K_x1 := Lib.hid (K_x1.out.chg hc (by have := B0s; omega))
  replace A_g0 := Lib.hid (A_g0.out.chg hc (by have := B0s; omega))
  replace K_g0 := Lib.hid (K_g0.out.chg hc (by have := B0s; omega))
  replace A_x0 := Lib.hid (A_x0.out.chg hc (by have := B0s; omega))
  have A_x1 := Lib.hid (ho.lies (Nat.le_trans ho_t s_w13))
  clear hk ho hc ho_t
  have c_aA_0 : w13.cell? ⟨w.heap.size, 0, none⟩ = some d0_0 := cur_cell K_aA.out.now 0
  have c_aA_1 : w13.cell? ⟨w.heap.size, 1, none⟩ = some d0_1 := cur_cell K_aA.out.now 1
  have c_aB_0 : w13.cell? ⟨w.heap.size + 1, 0, none⟩ = some d1_0 := cur_cell K_aB.out.now 0
  have c_aB_1 : w13.cell? ⟨w.heap.size + 1, 1, none⟩ = some d1_1 := cur_cell K_aB.out.now 1
  have c_w0_0 : w13.cell? ⟨bx_w0, 0, none⟩ = some (.int .i64 w0_z0) := cur_cell K_w0.out.now 0
  have c_w0_1 : w13.cell? ⟨bx_w0, 1, none⟩ = some (.slice w0_a1 w0_n1 w0_c1) := cur_cell K_w0.out.now 1
  have c_x0_0 : w13.cell? ⟨w4.heap.size, 0, none⟩ = some (.int .i64 x0z0) := cur_cell K_x0.out.now 0
  have c_x0_1 : w13.cell? ⟨w4.heap.size, 1, none⟩ = some (.slice x0a1 x0n1 x0c1) := cur_cell K_x0.out.now 1
  have c_x1_0 : w13.cell? ⟨w5.heap.size, 0, none⟩ = some (.int .i64 x1z0) := cur_cell K_x1.out.now 0
  have c_x1_1 : w13.cell? ⟨w5.heap.size, 1, none⟩ = some (.slice x1a1 x1n1 x1c1) := cur_cell K_x1.out.now 1
  have c_g0_0 : w13.cell? ⟨w6.heap.size, 0, none⟩ = some (.int .i64 g0_z0) := cur_cell K_g0.out.now 0
  have c_g0_1 : w13.cell? ⟨w6.heap.size, 1, none⟩ = some (.slice g0_a1 g0_n1 g0_c1) := cur_cell K_g0.out.now 1
  go_wp2_with fail
  clear c_aA_0 c_aA_1 c_aB_0 c_aB_1 c_w0_0 c_w0_1 c_x0_0 c_x0_1 c_x1_0 c_x1_1 c_g0_0 c_g0_1
  refine (uEqNet (.int .i64 g0_z0) (.slice g0_a1 g0_n1 g0_c1) (.int .i64 w0_z0) (.slice w0_a1 w0_n1 w0_c1) (joinM m0 m1) _ A_g0.out.now.read A_w0.out.now.read).mono ?_
  rintro e w14 ⟨rfl, hb⟩
  have s_w14 : w13.heap.size ≤ w14.heap.size := by have := hb.size; simpa only [size_box, size_drew] using this
  replace B := Lib.hid (below_seq B.out hb)
  replace R_aA := Lib.hid (R_aA.out.below hb)
  replace R_aB := Lib.hid (R_aB.out.below hb)
  replace K_aA := Lib.hid (K_aA.out.below hb)
  replace K_aB := Lib.hid (K_aB.out.below hb)
  replace A_w0 := Lib.hid (A_w0.out.below hb)
  replace K_w0 := Lib.hid (K_w0.out.below hb)
  replace K_x0 := Lib.hid (K_x0.out.below hb)
  replace K_x1 := Lib.hid (K_x1.out.below hb)
  replace A_g0 := Lib.hid (A_g0.out.below hb)
  replace K_g0 := Lib.hid (K_g0.out.below hb)
  replace A_x0 := Lib.hid (A_x0.out.below hb)
  replace A_x1 := Lib.hid (A_x1.out.below hb)
  clear hb
  have c_aA_0 : w14.cell? ⟨w.heap.size, 0, none⟩ = some d0_0 := cur_cell K_aA.out.now 0
  have c_aA_1 : w14.cell? ⟨w.heap.size, 1, none⟩ = some d0_1 := cur_cell K_aA.out.now 1
  have c_aB_0 : w14.cell? ⟨w.heap.size + 1, 0, none⟩ = some d1_0 := cur_cell K_aB.out.now 0
  have c_aB_1 : w14.cell? ⟨w.heap.size + 1, 1, none⟩ = some d1_1 := cur_cell K_aB.out.now 1
  have c_w0_0 : w14.cell? ⟨bx_w0, 0, none⟩ = some (.int .i64 w0_z0) := cur_cell K_w0.out.now 0
  have c_w0_1 : w14.cell? ⟨bx_w0, 1, none⟩ = some (.slice w0_a1 w0_n1 w0_c1) := cur_cell K_w0.out.now 1
  have c_x0_0 : w14.cell? ⟨w4.heap.size, 0, none⟩ = some (.int .i64 x0z0) := cur_cell K_x0.out.now 0
  have c_x0_1 : w14.cell? ⟨w4.heap.size, 1, none⟩ = some (.slice x0a1 x0n1 x0c1) := cur_cell K_x0.out.now 1
  have c_x1_0 : w14.cell? ⟨w5.heap.size, 0, none⟩ = some (.int .i64 x1z0) := cur_cell K_x1.out.now 0
  have c_x1_1 : w14.cell? ⟨w5.heap.size, 1, none⟩ = some (.slice x1a1 x1n1 x1c1) := cur_cell K_x1.out.now 1
  have c_g0_0 : w14.cell? ⟨w6.heap.size, 0, none⟩ = some (.int .i64 g0_z0) := cur_cell K_g0.out.now 0
  have c_g0_1 : w14.cell? ⟨w6.heap.size, 1, none⟩ = some (.slice g0_a1 g0_n1 g0_c1) := cur_cell K_g0.out.now 1
  go_wp2_with fail
  clear c_aA_0 c_aA_1 c_aB_0 c_aB_1 c_w0_0 c_w0_1 c_x0_0 c_x0_1 c_x1_0 c_x1_1 c_g0_0 c_g0_1
  refine (uMarkNet (w5.heap.size + 1) w6.heap.size 1 (.int .i64 g0_z0) (.slice g0_a1 g0_n1 g0_c1) (joinM m0 m1) _ (by have := bd_g0; omega) A_g0.out.top A_g0.out.now).mono ?_
  rintro e w15 ⟨k15, rfl, hk, ho, hc⟩
  have bd_k15 : k15 ≤ 2000000000000 := by have := bd_g0; omega
  have HK_k15 := Lib.hid hk
  have s_w15 : w14.heap.size ≤ w15.heap.size := by have := hc.size; simpa only [size_box, size_drew] using this
  have ho_t := A_g0.out.top
  clear A_g0
  replace B := Lib.hid (hc.below B.out (by have := B0s; omega))
  replace R_aA := Lib.hid (R_aA.out.chg hc (by have := B0s; omega))
  replace R_aB := Lib.hid (R_aB.out.chg hc (by have := B0s; omega))
  replace K_aA := Lib.hid (K_aA.out.chg hc (by have := B0s; omega))
  replace K_aB := Lib.hid (K_aB.out.chg hc (by have := B0s; omega))
  replace A_w0 := Lib.hid (A_w0.out.chg hc (by have := B0s; omega))
  replace K_w0 := Lib.hid (K_w0.out.chg hc (by have := B0s; omega))
  replace K_x0 := Lib.hid (K_x0.out.chg hc (by have := B0s; omega))
  replace K_x1 := Lib.hid (K_x1.out.chg hc (by have := B0s; omega))
  replace K_g0 := Lib.hid (K_g0.out.chg hc (by have := B0s; omega))
  replace A_x0 := Lib.hid (A_x0.out.chg hc (by have := B0s; omega))
  replace A_x1 := Lib.hid (A_x1.out.chg hc (by have := B0s; omega))
  have A_g0 := Lib.hid (ho.lies (Nat.le_trans ho_t s_w15))
  clear hk ho hc ho_t
  have c_aA_0 : w15.cell? ⟨w.heap.size, 0, none⟩ = some d0_0 := cur_cell K_aA.out.now 0
  have c_aA_1 : w15.cell? ⟨w.heap.size, 1, none⟩ = some d0_1 := cur_cell K_aA.out.now 1
  have c_aB_0 : w15.cell? ⟨w.heap.size + 1, 0, none⟩ = some d1_0 := cur_cell K_aB.out.now 0
  have c_aB_1 : w15.cell? ⟨w.heap.size + 1, 1, none⟩ = some d1_1 := cur_cell K_aB.out.now 1
  have c_w0_0 : w15.cell? ⟨bx_w0, 0, none⟩ = some (.int .i64 w0_z0) := cur_cell K_w0.out.now 0
  have c_w0_1 : w15.cell? ⟨bx_w0, 1, none⟩ = some (.slice w0_a1 w0_n1 w0_c1) := cur_cell K_w0.out.now 1
  have c_x0_0 : w15.cell? ⟨w4.heap.size, 0, none⟩ = some (.int .i64 x0z0) := cur_cell K_x0.out.now 0
  have c_x0_1 : w15.cell? ⟨w4.heap.size, 1, none⟩ = some (.slice x0a1 x0n1 x0c1) := cur_cell K_x0.out.now 1
  have c_x1_0 : w15.cell? ⟨w5.heap.size, 0, none⟩ = some (.int .i64 x1z0) := cur_cell K_x1.out.now 0
  have c_x1_1 : w15.cell? ⟨w5.heap.size, 1, none⟩ = some (.slice x1a1 x1n1 x1c1) := cur_cell K_x1.out.now 1
  have c_g0_0 : w15.cell? ⟨w6.heap.size, 0, none⟩ = some (.int .i64 g0_z0) := cur_cell K_g0.out.now 0
  have c_g0_1 : w15.cell? ⟨w6.heap.size, 1, none⟩ = some (.slice g0_a1 g0_n1 g0_c1) := cur_cell K_g0.out.now 1
  go_wp2_with fail
  clear c_aA_0 c_aA_1 c_aB_0 c_aB_1 c_w0_0 c_w0_1 c_x0_0 c_x0_1 c_x1_0 c_x1_1 c_g0_0 c_g0_1
  refine (uHeldNet 1 (.int .i64 g0_z0) (.slice g0_a1 g0_n1 g0_c1) (joinM m0 m1) _ (by have := HK_k15.out; omega) A_g0.out.now.read).mono ?_
  rintro e w16 ⟨k16, rfl, hk, hb⟩
  have hkk : k16 = k15 := by have := HK_k15.out; omega
  rw [hkk]
  clear hk hkk
  have s_w16 : w15.heap.size ≤ w16.heap.size := by have := hb.size; simpa only [size_box, size_drew] using this
  replace B := Lib.hid (below_seq B.out hb)
  replace R_aA := Lib.hid (R_aA.out.below hb)
  replace R_aB := Lib.hid (R_aB.out.below hb)
  replace K_aA := Lib.hid (K_aA.out.below hb)
  replace K_aB := Lib.hid (K_aB.out.below hb)
  replace A_w0 := Lib.hid (A_w0.out.below hb)
  replace K_w0 := Lib.hid (K_w0.out.below hb)
  replace K_x0 := Lib.hid (K_x0.out.below hb)
  replace K_x1 := Lib.hid (K_x1.out.below hb)
  replace K_g0 := Lib.hid (K_g0.out.below hb)
  replace A_x0 := Lib.hid (A_x0.out.below hb)
  replace A_x1 := Lib.hid (A_x1.out.below hb)
  replace A_g0 := Lib.hid (A_g0.out.below hb)
  clear hb
  have U0 := Lib.hid (fun w' (hb : Below w16.heap.size w16 w') => uToNet d0_0 d0_1 m0 w' hs0 ((R_aA.out.below hb).now))
  have U1 := Lib.hid (fun w' (hb : Below w16.heap.size w16 w') => uToNet d1_0 d1_1 m1 w' hs1 ((R_aB.out.below hb).now))
  have c_aA_0 : w16.cell? ⟨w.heap.size, 0, none⟩ = some d0_0 := cur_cell K_aA.out.now 0
  have c_aA_1 : w16.cell? ⟨w.heap.size, 1, none⟩ = some d0_1 := cur_cell K_aA.out.now 1
  have c_aB_0 : w16.cell? ⟨w.heap.size + 1, 0, none⟩ = some d1_0 := cur_cell K_aB.out.now 0
  have c_aB_1 : w16.cell? ⟨w.heap.size + 1, 1, none⟩ = some d1_1 := cur_cell K_aB.out.now 1
  have c_w0_0 : w16.cell? ⟨bx_w0, 0, none⟩ = some (.int .i64 w0_z0) := cur_cell K_w0.out.now 0
  have c_w0_1 : w16.cell? ⟨bx_w0, 1, none⟩ = some (.slice w0_a1 w0_n1 w0_c1) := cur_cell K_w0.out.now 1
  have c_x0_0 : w16.cell? ⟨w4.heap.size, 0, none⟩ = some (.int .i64 x0z0) := cur_cell K_x0.out.now 0
  have c_x0_1 : w16.cell? ⟨w4.heap.size, 1, none⟩ = some (.slice x0a1 x0n1 x0c1) := cur_cell K_x0.out.now 1
  have c_x1_0 : w16.cell? ⟨w5.heap.size, 0, none⟩ = some (.int .i64 x1z0) := cur_cell K_x1.out.now 0
  have c_x1_1 : w16.cell? ⟨w5.heap.size, 1, none⟩ = some (.slice x1a1 x1n1 x1c1) := cur_cell K_x1.out.now 1
  have c_g0_0 : w16.cell? ⟨w6.heap.size, 0, none⟩ = some (.int .i64 g0_z0) := cur_cell K_g0.out.now 0
  have c_g0_1 : w16.cell? ⟨w6.heap.size, 1, none⟩ = some (.slice g0_a1 g0_n1 g0_c1) := cur_cell K_g0.out.now 1
  have K_aA_Z_0 : (w16.alloc (.cells #[.int .i64 0, .slice none 0 0] 26)).cell? ⟨w.heap.size, 0, none⟩ = some d0_0 := cur_cell (K_aA.out.box _).now 0
  have K_aA_Z_1 : (w16.alloc (.cells #[.int .i64 0, .slice none 0 0] 26)).cell? ⟨w.heap.size, 1, none⟩ = some d0_1 := cur_cell (K_aA.out.box _).now 1
  have K_aB_Z_0 : (w16.alloc (.cells #[.int .i64 0, .slice none 0 0] 26)).cell? ⟨w.heap.size + 1, 0, none⟩ = some d1_0 := cur_cell (K_aB.out.box _).now 0
  have K_aB_Z_1 : (w16.alloc (.cells #[.int .i64 0, .slice none 0 0] 26)).cell? ⟨w.heap.size + 1, 1, none⟩ = some d1_1 := cur_cell (K_aB.out.box _).now 1
  go_wp2_with fail
  go_cut [15, 16] (fun p b wx => ∃ (bx : Nat) (z : Int) (a : Option Addr) (n c lo hi : Nat), p = .pointer (some ⟨bx, 0, none⟩) ∧ b = .bool (joinB m0 m1) ∧ Hid (NetCut w16 wx bx z a n c lo hi (joinM m0 m1)))
  case first =>
    go_region_law (first
      | (refine step_callW w16.drew rfl (by rfl) 36 _ _ rfl _ (by kernel_rfl) Try.call36 _ (U0.out _ (below_drew (Below.refl w16.heap.size w16))) ?_; clear U0; rintro e wa ⟨t00, t01, rfl, ho, hb⟩; refine ⟨_, rfl, ?_⟩; obtain ⟨t0z, t0a, t0n, t0c, rfl, rfl⟩ := ho.shape; have B_wa := Lib.hid (below_seq (below_drew (Below.refl w16.heap.size w16)) hb); have A_t0 := Lib.hid (ho.lies (Nat.le_refl _)); have K_aA_wa_0 : wa.cell? ⟨w.heap.size, 0, none⟩ = some d0_0 := cur_cell (K_aA.out.below B_wa.out).now 0; have K_aA_wa_1 : wa.cell? ⟨w.heap.size, 1, none⟩ = some d0_1 := cur_cell (K_aA.out.below B_wa.out).now 1; have K_aB_wa_0 : wa.cell? ⟨w.heap.size + 1, 0, none⟩ = some d1_0 := cur_cell (K_aB.out.below B_wa.out).now 0; have K_aB_wa_1 : wa.cell? ⟨w.heap.size + 1, 1, none⟩ = some d1_1 := cur_cell (K_aB.out.below B_wa.out).now 1; have K_aA_waZ_0 : (wa.alloc (.cells #[.int .i64 0, .slice none 0 0] 26)).cell? ⟨w.heap.size, 0, none⟩ = some d0_0 := cur_cell ((K_aA.out.below B_wa.out).box _).now 0; have K_aA_waZ_1 : (wa.alloc (.cells #[.int .i64 0, .slice none 0 0] 26)).cell? ⟨w.heap.size, 1, none⟩ = some d0_1 := cur_cell ((K_aA.out.below B_wa.out).box _).now 1; have K_aB_waZ_0 : (wa.alloc (.cells #[.int .i64 0, .slice none 0 0] 26)).cell? ⟨w.heap.size + 1, 0, none⟩ = some d1_0 := cur_cell ((K_aB.out.below B_wa.out).box _).now 0; have K_aB_waZ_1 : (wa.alloc (.cells #[.int .i64 0, .slice none 0 0] 26)).cell? ⟨w.heap.size + 1, 1, none⟩ = some d1_1 := cur_cell ((K_aB.out.below B_wa.out).box _).now 1; clear ho hb)
      | (refine step_callW (w16.alloc (.cells #[.int .i64 0, .slice none 0 0] 26)).drew rfl (by rfl) 36 _ _ rfl _ (by kernel_rfl) Try.call36 _ (U0.out _ (below_drew (below_box (Below.refl w16.heap.size w16) (.cells #[.int .i64 0, .slice none 0 0] 26)))) ?_; clear U0; rintro e wa ⟨t00, t01, rfl, ho, hb⟩; refine ⟨_, rfl, ?_⟩; obtain ⟨t0z, t0a, t0n, t0c, rfl, rfl⟩ := ho.shape; have B_wa := Lib.hid (below_seq (below_drew (below_box (Below.refl w16.heap.size w16) (.cells #[.int .i64 0, .slice none 0 0] 26))) hb); have ZB := Lib.hid ((show ZeroBox w16 (w16.alloc (.cells #[.int .i64 0, .slice none 0 0] 26)).drew w16.heap.size from ZeroBox.new (Nat.le_refl _)).below hb); have A_t0 := Lib.hid (ho.lies (Nat.le_refl _)); have K_aA_wa_0 : wa.cell? ⟨w.heap.size, 0, none⟩ = some d0_0 := cur_cell (K_aA.out.below B_wa.out).now 0; have K_aA_wa_1 : wa.cell? ⟨w.heap.size, 1, none⟩ = some d0_1 := cur_cell (K_aA.out.below B_wa.out).now 1; have K_aB_wa_0 : wa.cell? ⟨w.heap.size + 1, 0, none⟩ = some d1_0 := cur_cell (K_aB.out.below B_wa.out).now 0; have K_aB_wa_1 : wa.cell? ⟨w.heap.size + 1, 1, none⟩ = some d1_1 := cur_cell (K_aB.out.below B_wa.out).now 1; have K_aA_waZ_0 : (wa.alloc (.cells #[.int .i64 0, .slice none 0 0] 26)).cell? ⟨w.heap.size, 0, none⟩ = some d0_0 := cur_cell ((K_aA.out.below B_wa.out).box _).now 0; have K_aA_waZ_1 : (wa.alloc (.cells #[.int .i64 0, .slice none 0 0] 26)).cell? ⟨w.heap.size, 1, none⟩ = some d0_1 := cur_cell ((K_aA.out.below B_wa.out).box _).now 1; have K_aB_waZ_0 : (wa.alloc (.cells #[.int .i64 0, .slice none 0 0] 26)).cell? ⟨w.heap.size + 1, 0, none⟩ = some d1_0 := cur_cell ((K_aB.out.below B_wa.out).box _).now 0; have K_aB_waZ_1 : (wa.alloc (.cells #[.int .i64 0, .slice none 0 0] 26)).cell? ⟨w.heap.size + 1, 1, none⟩ = some d1_1 := cur_cell ((K_aB.out.below B_wa.out).box _).now 1; clear ho hb)
      | (refine step_callW wa rfl (by rfl) 36 _ _ rfl _ (by kernel_rfl) Try.call36 _ (U1.out _ (B_wa.out)) ?_; clear U1; rintro e wb ⟨t10, t11, rfl, ho, hb⟩; refine ⟨_, rfl, ?_⟩; obtain ⟨t1z, t1a, t1n, t1c, rfl, rfl⟩ := ho.shape; have B_wb := Lib.hid (below_seq (B_wa.out) hb); (try (have ZP := Lib.hid (ZB.out.below hb))); have A_t1 := Lib.hid (ho.lies (Nat.le_refl _)); have K_aA_wb_0 : wb.cell? ⟨w.heap.size, 0, none⟩ = some d0_0 := cur_cell (K_aA.out.below B_wb.out).now 0; have K_aA_wb_1 : wb.cell? ⟨w.heap.size, 1, none⟩ = some d0_1 := cur_cell (K_aA.out.below B_wb.out).now 1; have K_aB_wb_0 : wb.cell? ⟨w.heap.size + 1, 0, none⟩ = some d1_0 := cur_cell (K_aB.out.below B_wb.out).now 0; have K_aB_wb_1 : wb.cell? ⟨w.heap.size + 1, 1, none⟩ = some d1_1 := cur_cell (K_aB.out.below B_wb.out).now 1; have K_aA_wbZ_0 : (wb.alloc (.cells #[.int .i64 0, .slice none 0 0] 26)).cell? ⟨w.heap.size, 0, none⟩ = some d0_0 := cur_cell ((K_aA.out.below B_wb.out).box _).now 0; have K_aA_wbZ_1 : (wb.alloc (.cells #[.int .i64 0, .slice none 0 0] 26)).cell? ⟨w.heap.size, 1, none⟩ = some d0_1 := cur_cell ((K_aA.out.below B_wb.out).box _).now 1; have K_aB_wbZ_0 : (wb.alloc (.cells #[.int .i64 0, .slice none 0 0] 26)).cell? ⟨w.heap.size + 1, 0, none⟩ = some d1_0 := cur_cell ((K_aB.out.below B_wb.out).box _).now 0; have K_aB_wbZ_1 : (wb.alloc (.cells #[.int .i64 0, .slice none 0 0] 26)).cell? ⟨w.heap.size + 1, 1, none⟩ = some d1_1 := cur_cell ((K_aB.out.below B_wb.out).box _).now 1; have P_t0 := Lib.hid (A_t0.out.below hb); clear ho hb)
      | (refine step_callW (wa.alloc (.cells #[.int .i64 0, .slice none 0 0] 26)) rfl (by rfl) 36 _ _ rfl _ (by kernel_rfl) Try.call36 _ (U1.out _ (below_box B_wa.out (.cells #[.int .i64 0, .slice none 0 0] 26))) ?_; clear U1; rintro e wb ⟨t10, t11, rfl, ho, hb⟩; refine ⟨_, rfl, ?_⟩; obtain ⟨t1z, t1a, t1n, t1c, rfl, rfl⟩ := ho.shape; have B_wb := Lib.hid (below_seq (below_box B_wa.out (.cells #[.int .i64 0, .slice none 0 0] 26)) hb); have ZP := Lib.hid ((ZeroBox.new (W := w16) B_wa.out.size).below hb); have P_t0 := Lib.hid ((A_t0.out.box (.cells #[.int .i64 0, .slice none 0 0] 26)).below hb); have A_t1 := Lib.hid (ho.lies (Nat.le_refl _)); have K_aA_wb_0 : wb.cell? ⟨w.heap.size, 0, none⟩ = some d0_0 := cur_cell (K_aA.out.below B_wb.out).now 0; have K_aA_wb_1 : wb.cell? ⟨w.heap.size, 1, none⟩ = some d0_1 := cur_cell (K_aA.out.below B_wb.out).now 1; have K_aB_wb_0 : wb.cell? ⟨w.heap.size + 1, 0, none⟩ = some d1_0 := cur_cell (K_aB.out.below B_wb.out).now 0; have K_aB_wb_1 : wb.cell? ⟨w.heap.size + 1, 1, none⟩ = some d1_1 := cur_cell (K_aB.out.below B_wb.out).now 1; have K_aA_wbZ_0 : (wb.alloc (.cells #[.int .i64 0, .slice none 0 0] 26)).cell? ⟨w.heap.size, 0, none⟩ = some d0_0 := cur_cell ((K_aA.out.below B_wb.out).box _).now 0; have K_aA_wbZ_1 : (wb.alloc (.cells #[.int .i64 0, .slice none 0 0] 26)).cell? ⟨w.heap.size, 1, none⟩ = some d0_1 := cur_cell ((K_aA.out.below B_wb.out).box _).now 1; have K_aB_wbZ_0 : (wb.alloc (.cells #[.int .i64 0, .slice none 0 0] 26)).cell? ⟨w.heap.size + 1, 0, none⟩ = some d1_0 := cur_cell ((K_aB.out.below B_wb.out).box _).now 0; have K_aB_wbZ_1 : (wb.alloc (.cells #[.int .i64 0, .slice none 0 0] 26)).cell? ⟨w.heap.size + 1, 1, none⟩ = some d1_1 := cur_cell ((K_aB.out.below B_wb.out).box _).now 1; clear ho hb)
      | (refine step_callW wb rfl (by rfl) 31 _ _ rfl _ (by kernel_rfl) Try.call31 _ (uImplNetJoin (.int .i64 t0z) (.slice t0a t0n t0c) m0 (.int .i64 t1z) (.slice t1a t1n t1c) m1 _ P_t0.out.now.read A_t1.out.now.read) ?_; rintro e wj ⟨j0, j1, rfl, ho, hb⟩; refine ⟨_, rfl, ?_⟩; obtain ⟨jz, ja, jn, jc, rfl, rfl⟩ := ho.shape; have BJ := Lib.hid (below_seq B_wb.out hb); have OJ := Lib.hid ho; have HJ := Lib.hid (And.intro B_wb.out.size hb.size); (try (have ZJ := Lib.hid (ZP.out.below hb); have ZL := Lib.hid (cur_lt ZP.out.1); have z0 : wj.cell? ⟨_, 0, none⟩ = some (.int .i64 0) := cur_cell ZJ.out.1 0; have z1 : wj.cell? ⟨_, 1, none⟩ = some (.slice none 0 0) := cur_cell ZJ.out.1 1; have f0 := cur_free ZJ.out.1 0; have f1 := cur_free ZJ.out.1 1)); clear ho hb)
      | (refine step_callW (wb.alloc (.cells #[.int .i64 0, .slice none 0 0] 26)) rfl (by rfl) 31 _ _ rfl _ (by kernel_rfl) Try.call31 _ (uImplNetJoin (.int .i64 t0z) (.slice t0a t0n t0c) m0 (.int .i64 t1z) (.slice t1a t1n t1c) m1 _ ((P_t0.out.box (.cells #[.int .i64 0, .slice none 0 0] 26)).now.read) ((A_t1.out.box (.cells #[.int .i64 0, .slice none 0 0] 26)).now.read)) ?_; rintro e wj ⟨j0, j1, rfl, ho, hb⟩; refine ⟨_, rfl, ?_⟩; obtain ⟨jz, ja, jn, jc, rfl, rfl⟩ := ho.shape; have BJ := Lib.hid (below_seq (below_box B_wb.out (.cells #[.int .i64 0, .slice none 0 0] 26)) hb); have OJ := Lib.hid ho; have HJ := Lib.hid (And.intro (show w16.heap.size ≤ (wb.alloc (.cells #[.int .i64 0, .slice none 0 0] 26)).heap.size from (below_box B_wb.out (.cells #[.int .i64 0, .slice none 0 0] 26)).size) hb.size); have ZJ := Lib.hid ((ZeroBox.new (W := w16) B_wb.out.size).below hb); have ZL := Lib.hid (show wb.heap.size < (wb.alloc (.cells #[.int .i64 0, .slice none 0 0] 26)).heap.size from by simp); have z0 : wj.cell? ⟨_, 0, none⟩ = some (.int .i64 0) := cur_cell ZJ.out.1 0; have z1 : wj.cell? ⟨_, 1, none⟩ = some (.slice none 0 0) := cur_cell ZJ.out.1 1; have f0 := cur_free ZJ.out.1 0; have f1 := cur_free ZJ.out.1 1; clear ho hb))
    all_goals (go_wp2_with fail; go_meet)
    all_goals first | exact ⟨_, _, _, _, _, _, _, rfl, rfl, Lib.hid (NetCut.set BJ.out ZJ.out.1 ZL.out ZJ.out.2 HJ.out.2 OJ.out)⟩ | exact ⟨_, _, _, _, _, _, _, rfl, rfl, Lib.hid (NetCut.box BJ.out HJ.out.1 HJ.out.2 OJ.out)⟩
  case rest =>
  obtain ⟨bx_h0, h0_z0, h0_a1, h0_n1, h0_c1, lo_h0, hi_h0, rfl, rfl, HC⟩ := hcut
  obtain ⟨hb, hkb, ho, ht, hap, hbx, hlo, hlh⟩ := HC.out
  clear HC U0 U1
  generalize wc = w17 at *
  have s_w17 : w16.heap.size ≤ w17.heap.size := hb.size
  have sb_h0 : bx_h0 + 1 ≤ w17.heap.size := cur_lt hkb
  replace B := Lib.hid (below_seq B.out hb)
  replace R_aA := Lib.hid (R_aA.out.below hb)
  replace R_aB := Lib.hid (R_aB.out.below hb)
  replace K_aA := Lib.hid (K_aA.out.below hb)
  replace K_aB := Lib.hid (K_aB.out.below hb)
  replace A_w0 := Lib.hid (A_w0.out.below hb)
  replace K_w0 := Lib.hid (K_w0.out.below hb)
  replace K_x0 := Lib.hid (K_x0.out.below hb)
  replace K_x1 := Lib.hid (K_x1.out.below hb)
  replace K_g0 := Lib.hid (K_g0.out.below hb)
  replace A_x0 := Lib.hid (A_x0.out.below hb)
  replace A_x1 := Lib.hid (A_x1.out.below hb)
  replace A_g0 := Lib.hid (A_g0.out.below hb)
  have A_h0 := Lib.hid (ho.lies ht)
  have K_h0 := Lib.hid (lies_block hkb)
  clear hb hkb ho c_aA_0 c_aA_1 c_aB_0 c_aB_1 c_w0_0 c_w0_1 c_x0_0 c_x0_1 c_x1_0 c_x1_1 c_g0_0 c_g0_1 K_aA_Z_0 K_aA_Z_1 K_aB_Z_0 K_aB_Z_1
  have c_aA_0 : w17.cell? ⟨w.heap.size, 0, none⟩ = some d0_0 := cur_cell K_aA.out.now 0
  have c_aA_1 : w17.cell? ⟨w.heap.size, 1, none⟩ = some d0_1 := cur_cell K_aA.out.now 1
  have c_aB_0 : w17.cell? ⟨w.heap.size + 1, 0, none⟩ = some d1_0 := cur_cell K_aB.out.now 0
  have c_aB_1 : w17.cell? ⟨w.heap.size + 1, 1, none⟩ = some d1_1 := cur_cell K_aB.out.now 1
  have c_w0_0 : w17.cell? ⟨bx_w0, 0, none⟩ = some (.int .i64 w0_z0) := cur_cell K_w0.out.now 0
  have c_w0_1 : w17.cell? ⟨bx_w0, 1, none⟩ = some (.slice w0_a1 w0_n1 w0_c1) := cur_cell K_w0.out.now 1
  have c_x0_0 : w17.cell? ⟨w4.heap.size, 0, none⟩ = some (.int .i64 x0z0) := cur_cell K_x0.out.now 0
  have c_x0_1 : w17.cell? ⟨w4.heap.size, 1, none⟩ = some (.slice x0a1 x0n1 x0c1) := cur_cell K_x0.out.now 1
  have c_x1_0 : w17.cell? ⟨w5.heap.size, 0, none⟩ = some (.int .i64 x1z0) := cur_cell K_x1.out.now 0
  have c_x1_1 : w17.cell? ⟨w5.heap.size, 1, none⟩ = some (.slice x1a1 x1n1 x1c1) := cur_cell K_x1.out.now 1
  have c_g0_0 : w17.cell? ⟨w6.heap.size, 0, none⟩ = some (.int .i64 g0_z0) := cur_cell K_g0.out.now 0
  have c_g0_1 : w17.cell? ⟨w6.heap.size, 1, none⟩ = some (.slice g0_a1 g0_n1 g0_c1) := cur_cell K_g0.out.now 1
  have c_h0_0 : w17.cell? ⟨bx_h0, 0, none⟩ = some (.int .i64 h0_z0) := cur_cell K_h0.out.now 0
  have c_h0_1 : w17.cell? ⟨bx_h0, 1, none⟩ = some (.slice h0_a1 h0_n1 h0_c1) := cur_cell K_h0.out.now 1
  go_wp2_with fail
  clear c_aA_0 c_aA_1 c_aB_0 c_aB_1 c_w0_0 c_w0_1 c_x0_0 c_x0_1 c_x1_0 c_x1_1 c_g0_0 c_g0_1 c_h0_0 c_h0_1
  refine (uEqNet (.int .i64 h0_z0) (.slice h0_a1 h0_n1 h0_c1) (.int .i64 w0_z0) (.slice w0_a1 w0_n1 w0_c1) (joinM m0 m1) _ A_h0.out.now.read A_w0.out.now.read).mono ?_
  rintro e w18 ⟨rfl, hb⟩
  have s_w18 : w17.heap.size ≤ w18.heap.size := by have := hb.size; simpa only [size_box, size_drew] using this
  replace B := Lib.hid (below_seq B.out hb)
  replace R_aA := Lib.hid (R_aA.out.below hb)
  replace R_aB := Lib.hid (R_aB.out.below hb)
  replace K_aA := Lib.hid (K_aA.out.below hb)
  replace K_aB := Lib.hid (K_aB.out.below hb)
  replace A_w0 := Lib.hid (A_w0.out.below hb)
  replace K_w0 := Lib.hid (K_w0.out.below hb)
  replace K_x0 := Lib.hid (K_x0.out.below hb)
  replace K_x1 := Lib.hid (K_x1.out.below hb)
  replace K_g0 := Lib.hid (K_g0.out.below hb)
  replace A_x0 := Lib.hid (A_x0.out.below hb)
  replace A_x1 := Lib.hid (A_x1.out.below hb)
  replace A_g0 := Lib.hid (A_g0.out.below hb)
  replace A_h0 := Lib.hid (A_h0.out.below hb)
  replace K_h0 := Lib.hid (K_h0.out.below hb)
  clear hb
  have c_aA_0 : w18.cell? ⟨w.heap.size, 0, none⟩ = some d0_0 := cur_cell K_aA.out.now 0
  have c_aA_1 : w18.cell? ⟨w.heap.size, 1, none⟩ = some d0_1 := cur_cell K_aA.out.now 1
  have c_aB_0 : w18.cell? ⟨w.heap.size + 1, 0, none⟩ = some d1_0 := cur_cell K_aB.out.now 0
  have c_aB_1 : w18.cell? ⟨w.heap.size + 1, 1, none⟩ = some d1_1 := cur_cell K_aB.out.now 1
  have c_w0_0 : w18.cell? ⟨bx_w0, 0, none⟩ = some (.int .i64 w0_z0) := cur_cell K_w0.out.now 0
  have c_w0_1 : w18.cell? ⟨bx_w0, 1, none⟩ = some (.slice w0_a1 w0_n1 w0_c1) := cur_cell K_w0.out.now 1
  have c_x0_0 : w18.cell? ⟨w4.heap.size, 0, none⟩ = some (.int .i64 x0z0) := cur_cell K_x0.out.now 0
  have c_x0_1 : w18.cell? ⟨w4.heap.size, 1, none⟩ = some (.slice x0a1 x0n1 x0c1) := cur_cell K_x0.out.now 1
  have c_x1_0 : w18.cell? ⟨w5.heap.size, 0, none⟩ = some (.int .i64 x1z0) := cur_cell K_x1.out.now 0
  have c_x1_1 : w18.cell? ⟨w5.heap.size, 1, none⟩ = some (.slice x1a1 x1n1 x1c1) := cur_cell K_x1.out.now 1
  have c_g0_0 : w18.cell? ⟨w6.heap.size, 0, none⟩ = some (.int .i64 g0_z0) := cur_cell K_g0.out.now 0
  have c_g0_1 : w18.cell? ⟨w6.heap.size, 1, none⟩ = some (.slice g0_a1 g0_n1 g0_c1) := cur_cell K_g0.out.now 1
  have c_h0_0 : w18.cell? ⟨bx_h0, 0, none⟩ = some (.int .i64 h0_z0) := cur_cell K_h0.out.now 0
  have c_h0_1 : w18.cell? ⟨bx_h0, 1, none⟩ = some (.slice h0_a1 h0_n1 h0_c1) := cur_cell K_h0.out.now 1
  go_wp2_with fail
  clear c_aA_0 c_aA_1 c_aB_0 c_aB_1 c_w0_0 c_w0_1 c_x0_0 c_x0_1 c_x1_0 c_x1_1 c_g0_0 c_g0_1 c_h0_0 c_h0_1
  refine (uHeldNet 1 (.int .i64 g0_z0) (.slice g0_a1 g0_n1 g0_c1) (joinM m0 m1) _ (by have := HK_k15.out; omega) A_g0.out.now.read).mono ?_
  rintro e w19 ⟨k19, rfl, hk, hb⟩
  have hkk : k19 = k15 := by have := HK_k15.out; omega
  rw [hkk]
  clear hk hkk
  have s_w19 : w18.heap.size ≤ w19.heap.size := by have := hb.size; simpa only [size_box, size_drew] using this
  replace B := Lib.hid (below_seq B.out hb)
  replace R_aA := Lib.hid (R_aA.out.below hb)
  replace R_aB := Lib.hid (R_aB.out.below hb)
  replace K_aA := Lib.hid (K_aA.out.below hb)
  replace K_aB := Lib.hid (K_aB.out.below hb)
  replace A_w0 := Lib.hid (A_w0.out.below hb)
  replace K_w0 := Lib.hid (K_w0.out.below hb)
  replace K_x0 := Lib.hid (K_x0.out.below hb)
  replace K_x1 := Lib.hid (K_x1.out.below hb)
  replace K_g0 := Lib.hid (K_g0.out.below hb)
  replace A_x0 := Lib.hid (A_x0.out.below hb)
  replace A_x1 := Lib.hid (A_x1.out.below hb)
  replace A_g0 := Lib.hid (A_g0.out.below hb)
  replace A_h0 := Lib.hid (A_h0.out.below hb)
  replace K_h0 := Lib.hid (K_h0.out.below hb)
  clear hb
  have c_aA_0 : w19.cell? ⟨w.heap.size, 0, none⟩ = some d0_0 := cur_cell K_aA.out.now 0
  have c_aA_1 : w19.cell? ⟨w.heap.size, 1, none⟩ = some d0_1 := cur_cell K_aA.out.now 1
  have c_aB_0 : w19.cell? ⟨w.heap.size + 1, 0, none⟩ = some d1_0 := cur_cell K_aB.out.now 0
  have c_aB_1 : w19.cell? ⟨w.heap.size + 1, 1, none⟩ = some d1_1 := cur_cell K_aB.out.now 1
  have c_w0_0 : w19.cell? ⟨bx_w0, 0, none⟩ = some (.int .i64 w0_z0) := cur_cell K_w0.out.now 0
  have c_w0_1 : w19.cell? ⟨bx_w0, 1, none⟩ = some (.slice w0_a1 w0_n1 w0_c1) := cur_cell K_w0.out.now 1
  have c_x0_0 : w19.cell? ⟨w4.heap.size, 0, none⟩ = some (.int .i64 x0z0) := cur_cell K_x0.out.now 0
  have c_x0_1 : w19.cell? ⟨w4.heap.size, 1, none⟩ = some (.slice x0a1 x0n1 x0c1) := cur_cell K_x0.out.now 1
  have c_x1_0 : w19.cell? ⟨w5.heap.size, 0, none⟩ = some (.int .i64 x1z0) := cur_cell K_x1.out.now 0
  have c_x1_1 : w19.cell? ⟨w5.heap.size, 1, none⟩ = some (.slice x1a1 x1n1 x1c1) := cur_cell K_x1.out.now 1
  have c_g0_0 : w19.cell? ⟨w6.heap.size, 0, none⟩ = some (.int .i64 g0_z0) := cur_cell K_g0.out.now 0
  have c_g0_1 : w19.cell? ⟨w6.heap.size, 1, none⟩ = some (.slice g0_a1 g0_n1 g0_c1) := cur_cell K_g0.out.now 1
  have c_h0_0 : w19.cell? ⟨bx_h0, 0, none⟩ = some (.int .i64 h0_z0) := cur_cell K_h0.out.now 0
  have c_h0_1 : w19.cell? ⟨bx_h0, 1, none⟩ = some (.slice h0_a1 h0_n1 h0_c1) := cur_cell K_h0.out.now 1
  go_wp2
  go_ret
  exact ⟨rfl, B.out⟩

set_option maxRecDepth 100000 in
theorem lifted (os : Os) (started : os.Started) (H : Type) (enc : TypeId × Value → H) :
    ReturnsInHanded {} Try.checked os 9 .any (Rows.fnExactNetJoinSpec.pre6 enc Try.prog Try.f9 Rows.fnExactNetJoinRow.domain false) (Rows.fnExactNetJoinSpec.post enc Try.prog Try.f9 false true false false) := by
  refine returnsInHanded_of_change (C := Try.checked) own started (by kernel_rfl) Try.func9
    (ChangeSpec.witness6 (enc := enc) (C := Try.checked) false ⟨#[], #[.agg #[.int .i64 0, .slice none 0 0], .agg #[.int .i64 0, .slice none 0 0]], []⟩ 8 (by kernel_rfl) (by kernel_rfl) (by kernel_rfl) (by kernel_rfl)) ?_
  intro W base args ds gs before hval0 hW hcnd _
  have hval : ∀ (j : Nat) t v, Try.f9.params[j]? = some t → args[j]? = some v → Value.okWide Try.prog W .any base t v := hval0
  have hW' := hW
  obtain ⟨p, q, hA0, hV, rfl, hfz, hnd⟩ := hW
  have hA : DataW.TrodAll enc Try.prog W 0 (fun _ => true) true Try.f9.params.toList args.toList ds p := hA0
  rw [Try.params9] at hA hval
  obtain ⟨v0, vs0, d0, ds0, p0, q0, hargs, rfl, rfl, h0, r0⟩ := trodAll_cons hA
  obtain ⟨v1, vs1, d1, ds1, p1, q1, rfl, rfl, rfl, h1, r1⟩ := trodAll_cons r0
  obtain ⟨rfl, rfl, rfl⟩ := trodAll_nil r1
  obtain rfl : args = #[v0, v1] := by cases args; simp_all
  obtain ⟨rfl, rfl⟩ := trodVars_none hV
  have lt0 : ∀ x ∈ p0, x.block < W.heap.size := by obtain ⟨m, hm⟩ := h0; exact DataW.trod_lt m _ _ _ hm
  have lt1 : ∀ x ∈ p1, x.block < W.heap.size := by obtain ⟨m, hm⟩ := h1; exact DataW.trod_lt m _ _ _ hm
  clear hA0 hval0
  refine (walk v0 v1 W ⟨⟨base, hval 0 47 v0 rfl rfl⟩, Rd.of h0⟩ ⟨⟨base, hval 1 47 v1 rfl rfl⟩, Rd.of h1⟩).mono fun e W' ⟨he, bel⟩ => ?_
  subst he
  exact ⟨_, rfl, _, _, _, [], _, [], hW', trodAll_mk1 (shut_bool Try.underlying4 _), (trodAll_cons_mk (Below.trod laidOut (by kernel_rfl) (of_decide_eq_true (by kernel_rfl)) h0 bel lt0) (trodAll_cons_mk (Below.trod laidOut (by kernel_rfl) (of_decide_eq_true (by kernel_rfl)) h1 bel lt1) trodAll_mk0)), rfl, bel.frame _, fun h => by cases h⟩

theorem over : Rows.fnExactNetJoinRow.holds Try.pinned (OpenSpec.ofChange Rows.fnExactNetJoinSpec) :=
  OpenClaim.holds_of_wide 9 Try.f9 rfl rfl rfl rfl rfl rfl rfl ⟨rfl, rfl, rfl, rfl, rfl⟩ rfl rfl rfl rfl rfl (by kernel_rfl) Try.func9 (by kernel_rfl)
    (of_decide_eq_true (by kernel_rfl)) (by unfold Func.isWrapper; first | (rw [if_pos (by decide +kernel)]; kernel_rfl) | (rw [if_neg (by decide +kernel)]; exact ⟨rfl, rfl⟩))
    (fun os started H enc _ => lifted os started H enc)
end Go.Proofs.Ytkifndcfmmdkpaa.fnExactNetJoin
namespace Go.Proofs.Ytkifndcfmmdkpaa
/-- NetJoin answers as its model, at every argument. -/
theorem fnExactNetJoin_holds : Rows.FnExactNetJoinSaid := fnExactNetJoin.over
end Go.Proofs.Ytkifndcfmmdkpaa
