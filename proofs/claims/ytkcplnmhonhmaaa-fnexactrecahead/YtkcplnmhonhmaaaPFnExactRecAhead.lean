/- For every argument: the law FnExactRecAhead answers true, that is, RecAhead answers as its model and writes into no argument. No condition. -/
import Derived.Test.YtkcplnmhonhmaaaBase
import Derived.Test.YtkcplnmhonhmaaaReads
import Derived.Test.YtkcplnmhonhmaaaRecW
import Derived.Test.YtkcplnmhonhmaaaRecK
import Derived.Deep.RegionHeld3
namespace Go.Proofs.Ytkcplnmhonhmaaa.fnExactRecAhead
open Go.ChangeShapes Go.WideShapes Go.ChangeAt Go.RowKit
set_option linter.unusedVariables false

set_option maxRecDepth 100000 in
set_option maxHeartbeats 4000000 in
theorem walk (v0 : Value) (v1 : Value) (w : World) (h0 : Arg w 36 v0) (h1 : Arg w 36 v1) :
    Calls Try.prog 8 #[v0, v1] w fun e w' => e = .returned (.bool true) ∧ Below w.heap.size w w' := by
  obtain ⟨d0_0, d0_1, d0_2, d0_3, m0, rfl, i0, b0⟩ := argRec h0
  have R_aA := Lib.hid i0.lies
  clear i0
  clear h0
  obtain ⟨d1_0, d1_1, d1_2, d1_3, m1, rfl, i1, b1⟩ := argRec h1
  have R_aB := Lib.hid i1.lies
  clear i1
  clear h1
  have B : Hid (Below w.heap.size w w) := Lib.hid (Below.refl _ _)
  have B0s : 0 ≤ w.heap.size := Nat.zero_le _
  replace B := Lib.hid (below_box B.out (.cells #[d0_0, d0_1, d0_2, d0_3] 36))
  replace R_aA := Lib.hid (R_aA.out.box (.cells #[d0_0, d0_1, d0_2, d0_3] 36))
  replace R_aB := Lib.hid (R_aB.out.box (.cells #[d0_0, d0_1, d0_2, d0_3] 36))
  have K_aA := Lib.hid (lies_box w (.cells #[d0_0, d0_1, d0_2, d0_3] 36))
  replace B := Lib.hid (below_box B.out (.cells #[d1_0, d1_1, d1_2, d1_3] 36))
  replace R_aA := Lib.hid (R_aA.out.box (.cells #[d1_0, d1_1, d1_2, d1_3] 36))
  replace R_aB := Lib.hid (R_aB.out.box (.cells #[d1_0, d1_1, d1_2, d1_3] 36))
  replace K_aA := Lib.hid (K_aA.out.box (.cells #[d1_0, d1_1, d1_2, d1_3] 36))
  have K_aB := Lib.hid (lies_box (w.alloc (.cells #[d0_0, d0_1, d0_2, d0_3] 36)) (.cells #[d1_0, d1_1, d1_2, d1_3] 36))
  simp only [size_box] at K_aB
  by_cases g0 : 1048576 - (szRec m0 : Int) < 0
  · go_enter Try.func8, Try.ntmps8
    have c_aA_0 : ((w.alloc (.cells #[d0_0, d0_1, d0_2, d0_3] 36)).alloc (.cells #[d1_0, d1_1, d1_2, d1_3] 36)).cell? ⟨w.heap.size, 0, none⟩ = some d0_0 := cur_cell K_aA.out.now 0
    have c_aA_1 : ((w.alloc (.cells #[d0_0, d0_1, d0_2, d0_3] 36)).alloc (.cells #[d1_0, d1_1, d1_2, d1_3] 36)).cell? ⟨w.heap.size, 1, none⟩ = some d0_1 := cur_cell K_aA.out.now 1
    have c_aA_2 : ((w.alloc (.cells #[d0_0, d0_1, d0_2, d0_3] 36)).alloc (.cells #[d1_0, d1_1, d1_2, d1_3] 36)).cell? ⟨w.heap.size, 2, none⟩ = some d0_2 := cur_cell K_aA.out.now 2
    have c_aA_3 : ((w.alloc (.cells #[d0_0, d0_1, d0_2, d0_3] 36)).alloc (.cells #[d1_0, d1_1, d1_2, d1_3] 36)).cell? ⟨w.heap.size, 3, none⟩ = some d0_3 := cur_cell K_aA.out.now 3
    have c_aB_0 : ((w.alloc (.cells #[d0_0, d0_1, d0_2, d0_3] 36)).alloc (.cells #[d1_0, d1_1, d1_2, d1_3] 36)).cell? ⟨w.heap.size + 1, 0, none⟩ = some d1_0 := cur_cell K_aB.out.now 0
    have c_aB_1 : ((w.alloc (.cells #[d0_0, d0_1, d0_2, d0_3] 36)).alloc (.cells #[d1_0, d1_1, d1_2, d1_3] 36)).cell? ⟨w.heap.size + 1, 1, none⟩ = some d1_1 := cur_cell K_aB.out.now 1
    have c_aB_2 : ((w.alloc (.cells #[d0_0, d0_1, d0_2, d0_3] 36)).alloc (.cells #[d1_0, d1_1, d1_2, d1_3] 36)).cell? ⟨w.heap.size + 1, 2, none⟩ = some d1_2 := cur_cell K_aB.out.now 2
    have c_aB_3 : ((w.alloc (.cells #[d0_0, d0_1, d0_2, d0_3] 36)).alloc (.cells #[d1_0, d1_1, d1_2, d1_3] 36)).cell? ⟨w.heap.size + 1, 3, none⟩ = some d1_3 := cur_cell K_aB.out.now 3
    go_wp2_with fail
    clear c_aA_0 c_aA_1 c_aA_2 c_aA_3 c_aB_0 c_aB_1 c_aB_2 c_aB_3
    refine (uSzRec d0_0 d0_1 d0_2 d0_3 m0 1048576 _ (by omega) (by omega) R_aA.out.now b0).mono ?_
    rintro e w1 ⟨rfl, hb⟩
    rw [szI_no (by omega)]
    replace B := Lib.hid (below_seq B.out hb)
    replace R_aA := Lib.hid (R_aA.out.below hb)
    replace R_aB := Lib.hid (R_aB.out.below hb)
    replace K_aA := Lib.hid (K_aA.out.below hb)
    replace K_aB := Lib.hid (K_aB.out.below hb)
    clear hb
    go_wp2
    go_ret
    exact ⟨rfl, B.out⟩
  have hs0 : szRec m0 ≤ 1048576 := by omega
  by_cases g1 : 1048576 - (szRec m0 : Int) - (szRec m1 : Int) < 0
  · go_enter Try.func8, Try.ntmps8
    have c_aA_0 : ((w.alloc (.cells #[d0_0, d0_1, d0_2, d0_3] 36)).alloc (.cells #[d1_0, d1_1, d1_2, d1_3] 36)).cell? ⟨w.heap.size, 0, none⟩ = some d0_0 := cur_cell K_aA.out.now 0
    have c_aA_1 : ((w.alloc (.cells #[d0_0, d0_1, d0_2, d0_3] 36)).alloc (.cells #[d1_0, d1_1, d1_2, d1_3] 36)).cell? ⟨w.heap.size, 1, none⟩ = some d0_1 := cur_cell K_aA.out.now 1
    have c_aA_2 : ((w.alloc (.cells #[d0_0, d0_1, d0_2, d0_3] 36)).alloc (.cells #[d1_0, d1_1, d1_2, d1_3] 36)).cell? ⟨w.heap.size, 2, none⟩ = some d0_2 := cur_cell K_aA.out.now 2
    have c_aA_3 : ((w.alloc (.cells #[d0_0, d0_1, d0_2, d0_3] 36)).alloc (.cells #[d1_0, d1_1, d1_2, d1_3] 36)).cell? ⟨w.heap.size, 3, none⟩ = some d0_3 := cur_cell K_aA.out.now 3
    have c_aB_0 : ((w.alloc (.cells #[d0_0, d0_1, d0_2, d0_3] 36)).alloc (.cells #[d1_0, d1_1, d1_2, d1_3] 36)).cell? ⟨w.heap.size + 1, 0, none⟩ = some d1_0 := cur_cell K_aB.out.now 0
    have c_aB_1 : ((w.alloc (.cells #[d0_0, d0_1, d0_2, d0_3] 36)).alloc (.cells #[d1_0, d1_1, d1_2, d1_3] 36)).cell? ⟨w.heap.size + 1, 1, none⟩ = some d1_1 := cur_cell K_aB.out.now 1
    have c_aB_2 : ((w.alloc (.cells #[d0_0, d0_1, d0_2, d0_3] 36)).alloc (.cells #[d1_0, d1_1, d1_2, d1_3] 36)).cell? ⟨w.heap.size + 1, 2, none⟩ = some d1_2 := cur_cell K_aB.out.now 2
    have c_aB_3 : ((w.alloc (.cells #[d0_0, d0_1, d0_2, d0_3] 36)).alloc (.cells #[d1_0, d1_1, d1_2, d1_3] 36)).cell? ⟨w.heap.size + 1, 3, none⟩ = some d1_3 := cur_cell K_aB.out.now 3
    go_wp2_with fail
    clear c_aA_0 c_aA_1 c_aA_2 c_aA_3 c_aB_0 c_aB_1 c_aB_2 c_aB_3
    refine (uSzRec d0_0 d0_1 d0_2 d0_3 m0 1048576 _ (by omega) (by omega) R_aA.out.now b0).mono ?_
    rintro e w1 ⟨rfl, hb⟩
    rw [szI_yes (by omega)]
    replace B := Lib.hid (below_seq B.out hb)
    replace R_aA := Lib.hid (R_aA.out.below hb)
    replace R_aB := Lib.hid (R_aB.out.below hb)
    replace K_aA := Lib.hid (K_aA.out.below hb)
    replace K_aB := Lib.hid (K_aB.out.below hb)
    clear hb
    have c_aA_0 : w1.cell? ⟨w.heap.size, 0, none⟩ = some d0_0 := cur_cell K_aA.out.now 0
    have c_aA_1 : w1.cell? ⟨w.heap.size, 1, none⟩ = some d0_1 := cur_cell K_aA.out.now 1
    have c_aA_2 : w1.cell? ⟨w.heap.size, 2, none⟩ = some d0_2 := cur_cell K_aA.out.now 2
    have c_aA_3 : w1.cell? ⟨w.heap.size, 3, none⟩ = some d0_3 := cur_cell K_aA.out.now 3
    have c_aB_0 : w1.cell? ⟨w.heap.size + 1, 0, none⟩ = some d1_0 := cur_cell K_aB.out.now 0
    have c_aB_1 : w1.cell? ⟨w.heap.size + 1, 1, none⟩ = some d1_1 := cur_cell K_aB.out.now 1
    have c_aB_2 : w1.cell? ⟨w.heap.size + 1, 2, none⟩ = some d1_2 := cur_cell K_aB.out.now 2
    have c_aB_3 : w1.cell? ⟨w.heap.size + 1, 3, none⟩ = some d1_3 := cur_cell K_aB.out.now 3
    go_wp2_with fail
    clear c_aA_0 c_aA_1 c_aA_2 c_aA_3 c_aB_0 c_aB_1 c_aB_2 c_aB_3
    refine (uSzRec d1_0 d1_1 d1_2 d1_3 m1 (1048576 - (szRec m0 : Int)) _ (by omega) (by omega) R_aB.out.now b1).mono ?_
    rintro e w2 ⟨rfl, hb⟩
    rw [szI_no (by omega)]
    replace B := Lib.hid (below_seq B.out hb)
    replace R_aA := Lib.hid (R_aA.out.below hb)
    replace R_aB := Lib.hid (R_aB.out.below hb)
    replace K_aA := Lib.hid (K_aA.out.below hb)
    replace K_aB := Lib.hid (K_aB.out.below hb)
    clear hb
    go_wp2
    go_ret
    exact ⟨rfl, B.out⟩
  have hs1 : szRec m1 ≤ 1048576 := by omega
  go_enter Try.func8, Try.ntmps8
  have c_aA_0 : ((w.alloc (.cells #[d0_0, d0_1, d0_2, d0_3] 36)).alloc (.cells #[d1_0, d1_1, d1_2, d1_3] 36)).cell? ⟨w.heap.size, 0, none⟩ = some d0_0 := cur_cell K_aA.out.now 0
  have c_aA_1 : ((w.alloc (.cells #[d0_0, d0_1, d0_2, d0_3] 36)).alloc (.cells #[d1_0, d1_1, d1_2, d1_3] 36)).cell? ⟨w.heap.size, 1, none⟩ = some d0_1 := cur_cell K_aA.out.now 1
  have c_aA_2 : ((w.alloc (.cells #[d0_0, d0_1, d0_2, d0_3] 36)).alloc (.cells #[d1_0, d1_1, d1_2, d1_3] 36)).cell? ⟨w.heap.size, 2, none⟩ = some d0_2 := cur_cell K_aA.out.now 2
  have c_aA_3 : ((w.alloc (.cells #[d0_0, d0_1, d0_2, d0_3] 36)).alloc (.cells #[d1_0, d1_1, d1_2, d1_3] 36)).cell? ⟨w.heap.size, 3, none⟩ = some d0_3 := cur_cell K_aA.out.now 3
  have c_aB_0 : ((w.alloc (.cells #[d0_0, d0_1, d0_2, d0_3] 36)).alloc (.cells #[d1_0, d1_1, d1_2, d1_3] 36)).cell? ⟨w.heap.size + 1, 0, none⟩ = some d1_0 := cur_cell K_aB.out.now 0
  have c_aB_1 : ((w.alloc (.cells #[d0_0, d0_1, d0_2, d0_3] 36)).alloc (.cells #[d1_0, d1_1, d1_2, d1_3] 36)).cell? ⟨w.heap.size + 1, 1, none⟩ = some d1_1 := cur_cell K_aB.out.now 1
  have c_aB_2 : ((w.alloc (.cells #[d0_0, d0_1, d0_2, d0_3] 36)).alloc (.cells #[d1_0, d1_1, d1_2, d1_3] 36)).cell? ⟨w.heap.size + 1, 2, none⟩ = some d1_2 := cur_cell K_aB.out.now 2
  have c_aB_3 : ((w.alloc (.cells #[d0_0, d0_1, d0_2, d0_3] 36)).alloc (.cells #[d1_0, d1_1, d1_2, d1_3] 36)).cell? ⟨w.heap.size + 1, 3, none⟩ = some d1_3 := cur_cell K_aB.out.now 3
  go_wp2_with fail
  clear c_aA_0 c_aA_1 c_aA_2 c_aA_3 c_aB_0 c_aB_1 c_aB_2 c_aB_3
  refine (uSzRec d0_0 d0_1 d0_2 d0_3 m0 1048576 _ (by omega) (by omega) R_aA.out.now b0).mono ?_
  rintro e w1 ⟨rfl, hb⟩
  rw [szI_yes (by omega)]
  have s_w1 : w.heap.size + 1 + 1 ≤ w1.heap.size := by have := hb.size; simpa only [size_box, size_drew] using this
  replace B := Lib.hid (below_seq B.out hb)
  replace R_aA := Lib.hid (R_aA.out.below hb)
  replace R_aB := Lib.hid (R_aB.out.below hb)
  replace K_aA := Lib.hid (K_aA.out.below hb)
  replace K_aB := Lib.hid (K_aB.out.below hb)
  clear hb
  have c_aA_0 : w1.cell? ⟨w.heap.size, 0, none⟩ = some d0_0 := cur_cell K_aA.out.now 0
  have c_aA_1 : w1.cell? ⟨w.heap.size, 1, none⟩ = some d0_1 := cur_cell K_aA.out.now 1
  have c_aA_2 : w1.cell? ⟨w.heap.size, 2, none⟩ = some d0_2 := cur_cell K_aA.out.now 2
  have c_aA_3 : w1.cell? ⟨w.heap.size, 3, none⟩ = some d0_3 := cur_cell K_aA.out.now 3
  have c_aB_0 : w1.cell? ⟨w.heap.size + 1, 0, none⟩ = some d1_0 := cur_cell K_aB.out.now 0
  have c_aB_1 : w1.cell? ⟨w.heap.size + 1, 1, none⟩ = some d1_1 := cur_cell K_aB.out.now 1
  have c_aB_2 : w1.cell? ⟨w.heap.size + 1, 2, none⟩ = some d1_2 := cur_cell K_aB.out.now 2
  have c_aB_3 : w1.cell? ⟨w.heap.size + 1, 3, none⟩ = some d1_3 := cur_cell K_aB.out.now 3
  go_wp2_with fail
  clear c_aA_0 c_aA_1 c_aA_2 c_aA_3 c_aB_0 c_aB_1 c_aB_2 c_aB_3
  refine (uSzRec d1_0 d1_1 d1_2 d1_3 m1 (1048576 - (szRec m0 : Int)) _ (by omega) (by omega) R_aB.out.now b1).mono ?_
  rintro e w2 ⟨rfl, hb⟩
  rw [szI_yes (by omega)]
  have s_w2 : w1.heap.size ≤ w2.heap.size := by have := hb.size; simpa only [size_box, size_drew] using this
  replace B := Lib.hid (below_seq B.out hb)
  replace R_aA := Lib.hid (R_aA.out.below hb)
  replace R_aB := Lib.hid (R_aB.out.below hb)
  replace K_aA := Lib.hid (K_aA.out.below hb)
  replace K_aB := Lib.hid (K_aB.out.below hb)
  clear hb
  have KP2 := Lib.hid (fun w' (hb : Below w2.heap.size w2 w') => (show w'.cell? ⟨w.heap.size, 0, none⟩ = some d0_0 ∧ w'.cell? ⟨w.heap.size, 1, none⟩ = some d0_1 ∧ w'.cell? ⟨w.heap.size, 2, none⟩ = some d0_2 ∧ w'.cell? ⟨w.heap.size, 3, none⟩ = some d0_3 ∧ w'.cell? ⟨w.heap.size + 1, 0, none⟩ = some d1_0 ∧ w'.cell? ⟨w.heap.size + 1, 1, none⟩ = some d1_1 ∧ w'.cell? ⟨w.heap.size + 1, 2, none⟩ = some d1_2 ∧ w'.cell? ⟨w.heap.size + 1, 3, none⟩ = some d1_3 from ⟨cur_cell (K_aA.out.below hb).now 0, cur_cell (K_aA.out.below hb).now 1, cur_cell (K_aA.out.below hb).now 2, cur_cell (K_aA.out.below hb).now 3, cur_cell (K_aB.out.below hb).now 0, cur_cell (K_aB.out.below hb).now 1, cur_cell (K_aB.out.below hb).now 2, cur_cell (K_aB.out.below hb).now 3⟩))
  have HD2 := Lib.hid (below_drew (Below.refl w2.heap.size w2))
  have U2_0 := Lib.hid (fun w' (hb : Below w2.heap.size w2 w') => uToRec d0_0 d0_1 d0_2 d0_3 m0 w' hs0 ((R_aA.out.below hb).now))
  have U2_1 := Lib.hid (fun w' (hb : Below w2.heap.size w2 w') => uToRec d1_0 d1_1 d1_2 d1_3 m1 w' hs1 ((R_aB.out.below hb).now))
  go_wp2_with fail
  go_region_held3 (fun w' => w'.cell? ⟨w.heap.size, 0, none⟩ = some d0_0 ∧ w'.cell? ⟨w.heap.size, 1, none⟩ = some d0_1 ∧ w'.cell? ⟨w.heap.size, 2, none⟩ = some d0_2 ∧ w'.cell? ⟨w.heap.size, 3, none⟩ = some d0_3 ∧ w'.cell? ⟨w.heap.size + 1, 0, none⟩ = some d1_0 ∧ w'.cell? ⟨w.heap.size + 1, 1, none⟩ = some d1_1 ∧ w'.cell? ⟨w.heap.size + 1, 2, none⟩ = some d1_2 ∧ w'.cell? ⟨w.heap.size + 1, 3, none⟩ = some d1_3)
    (exact KP2.out _ HD2.out)
    (first
      | (go_at_call 22; refine (U2_0.out _ HD2.out).mono ?_; rintro e w3 ⟨q2_0_0, q2_0_1, q2_0_2, q2_0_3, rfl, ho, hb⟩; have A2_0 := Lib.hid (ho.lies (Nat.le_refl _)); have HD2 := Lib.hid (below_seq HD2.out hb); clear hb ho U2_0)
      | (go_at_call 22; refine (U2_1.out _ HD2.out).mono ?_; rintro e w4 ⟨q2_1_0, q2_1_1, q2_1_2, q2_1_3, rfl, ho, hb⟩; have A2_1 := Lib.hid (ho.lies (Nat.le_refl _)); have A2_0 := Lib.hid (A2_0.out.below hb); have HD2 := Lib.hid (below_seq HD2.out hb); clear hb ho U2_1)
      | (go_at_call 19; refine (uSpecRecAhead q2_0_0 q2_0_1 q2_0_2 q2_0_3 m0 q2_1_0 q2_1_1 q2_1_2 q2_1_3 m1 _ A2_0.out.now.read A2_1.out.now.read b0 b1).mono ?_; rintro e w5 ⟨rfl, hb⟩; have HD2 := Lib.hid (below_seq HD2.out hb); clear hb A2_0 A2_1))
  have hb := HD2.out
  clear KP2 HD2
  have s_w5 : w2.heap.size ≤ w5.heap.size := by have := hb.size; simpa only [size_box, size_drew] using this
  replace B := Lib.hid (below_seq B.out hb)
  replace R_aA := Lib.hid (R_aA.out.below hb)
  replace R_aB := Lib.hid (R_aB.out.below hb)
  replace K_aA := Lib.hid (K_aA.out.below hb)
  replace K_aB := Lib.hid (K_aB.out.below hb)
  clear hb
  have KP5 := Lib.hid (fun w' (hb : Below w5.heap.size w5 w') => (show w'.cell? ⟨w.heap.size, 0, none⟩ = some d0_0 ∧ w'.cell? ⟨w.heap.size, 1, none⟩ = some d0_1 ∧ w'.cell? ⟨w.heap.size, 2, none⟩ = some d0_2 ∧ w'.cell? ⟨w.heap.size, 3, none⟩ = some d0_3 ∧ w'.cell? ⟨w.heap.size + 1, 0, none⟩ = some d1_0 ∧ w'.cell? ⟨w.heap.size + 1, 1, none⟩ = some d1_1 ∧ w'.cell? ⟨w.heap.size + 1, 2, none⟩ = some d1_2 ∧ w'.cell? ⟨w.heap.size + 1, 3, none⟩ = some d1_3 from ⟨cur_cell (K_aA.out.below hb).now 0, cur_cell (K_aA.out.below hb).now 1, cur_cell (K_aA.out.below hb).now 2, cur_cell (K_aA.out.below hb).now 3, cur_cell (K_aB.out.below hb).now 0, cur_cell (K_aB.out.below hb).now 1, cur_cell (K_aB.out.below hb).now 2, cur_cell (K_aB.out.below hb).now 3⟩))
  have HD5 := Lib.hid (below_drew (Below.refl w5.heap.size w5))
  have U5_0 := Lib.hid (fun w' (hb : Below w5.heap.size w5 w') => uToRec d0_0 d0_1 d0_2 d0_3 m0 w' hs0 ((R_aA.out.below hb).now))
  have U5_1 := Lib.hid (fun w' (hb : Below w5.heap.size w5 w') => uToRec d1_0 d1_1 d1_2 d1_3 m1 w' hs1 ((R_aB.out.below hb).now))
  go_wp2_with fail
  go_region_held3 (fun w' => w'.cell? ⟨w.heap.size, 0, none⟩ = some d0_0 ∧ w'.cell? ⟨w.heap.size, 1, none⟩ = some d0_1 ∧ w'.cell? ⟨w.heap.size, 2, none⟩ = some d0_2 ∧ w'.cell? ⟨w.heap.size, 3, none⟩ = some d0_3 ∧ w'.cell? ⟨w.heap.size + 1, 0, none⟩ = some d1_0 ∧ w'.cell? ⟨w.heap.size + 1, 1, none⟩ = some d1_1 ∧ w'.cell? ⟨w.heap.size + 1, 2, none⟩ = some d1_2 ∧ w'.cell? ⟨w.heap.size + 1, 3, none⟩ = some d1_3)
    (exact KP5.out _ HD5.out)
    (first
      | (go_at_call 22; refine (U5_0.out _ HD5.out).mono ?_; rintro e w6 ⟨q5_0_0, q5_0_1, q5_0_2, q5_0_3, rfl, ho, hb⟩; have A5_0 := Lib.hid (ho.lies (Nat.le_refl _)); have HD5 := Lib.hid (below_seq HD5.out hb); clear hb ho U5_0)
      | (go_at_call 22; refine (U5_1.out _ HD5.out).mono ?_; rintro e w7 ⟨q5_1_0, q5_1_1, q5_1_2, q5_1_3, rfl, ho, hb⟩; have A5_1 := Lib.hid (ho.lies (Nat.le_refl _)); have A5_0 := Lib.hid (A5_0.out.below hb); have HD5 := Lib.hid (below_seq HD5.out hb); clear hb ho U5_1)
      | (go_at_call 18; refine (uImplRecAhead q5_0_0 q5_0_1 q5_0_2 q5_0_3 m0 q5_1_0 q5_1_1 q5_1_2 q5_1_3 m1 _ A5_0.out.now.read A5_1.out.now.read b0 b1).mono ?_; rintro e w8 ⟨rfl, hb⟩; have HD5 := Lib.hid (below_seq HD5.out hb); clear hb A5_0 A5_1))
  have hb := HD5.out
  clear KP5 HD5
  have s_w8 : w5.heap.size ≤ w8.heap.size := by have := hb.size; simpa only [size_box, size_drew] using this
  replace B := Lib.hid (below_seq B.out hb)
  replace R_aA := Lib.hid (R_aA.out.below hb)
  replace R_aB := Lib.hid (R_aB.out.below hb)
  replace K_aA := Lib.hid (K_aA.out.below hb)
  replace K_aB := Lib.hid (K_aB.out.below hb)
  clear hb
  have c_aA_0 : w8.cell? ⟨w.heap.size, 0, none⟩ = some d0_0 := cur_cell K_aA.out.now 0
  have c_aA_1 : w8.cell? ⟨w.heap.size, 1, none⟩ = some d0_1 := cur_cell K_aA.out.now 1
  have c_aA_2 : w8.cell? ⟨w.heap.size, 2, none⟩ = some d0_2 := cur_cell K_aA.out.now 2
  have c_aA_3 : w8.cell? ⟨w.heap.size, 3, none⟩ = some d0_3 := cur_cell K_aA.out.now 3
  have c_aB_0 : w8.cell? ⟨w.heap.size + 1, 0, none⟩ = some d1_0 := cur_cell K_aB.out.now 0
  have c_aB_1 : w8.cell? ⟨w.heap.size + 1, 1, none⟩ = some d1_1 := cur_cell K_aB.out.now 1
  have c_aB_2 : w8.cell? ⟨w.heap.size + 1, 2, none⟩ = some d1_2 := cur_cell K_aB.out.now 2
  have c_aB_3 : w8.cell? ⟨w.heap.size + 1, 3, none⟩ = some d1_3 := cur_cell K_aB.out.now 3
  go_wp2
  go_ret
  exact ⟨rfl, B.out⟩

set_option maxRecDepth 100000 in
theorem lifted (os : Os) (started : os.Started) (H : Type) (enc : TypeId × Value → H) :
    ReturnsInHanded {} Try.checked os 8 .any (Rows.fnExactRecAheadSpec.pre6 enc Try.prog Try.f8 Rows.fnExactRecAheadRow.domain false) (Rows.fnExactRecAheadSpec.post enc Try.prog Try.f8 false true false false) := by
  refine returnsInHanded_of_change (C := Try.checked) own started (by kernel_rfl) Try.func8
    (ChangeSpec.witness6 (enc := enc) (C := Try.checked) false ⟨#[], #[.agg #[.bool false, .int .i64 0, .int .i64 0, .string ⟨#[]⟩], .agg #[.bool false, .int .i64 0, .int .i64 0, .string ⟨#[]⟩]], []⟩ 8 (by kernel_rfl) (by kernel_rfl) (by kernel_rfl) (by kernel_rfl)) ?_
  intro W base args ds gs before hval0 hW hcnd _
  have hval : ∀ (j : Nat) t v, Try.f8.params[j]? = some t → args[j]? = some v → Value.okWide Try.prog W .any base t v := hval0
  have hW' := hW
  obtain ⟨p, q, hA0, hV, rfl, hfz, hnd⟩ := hW
  have hA : DataW.TrodAll enc Try.prog W 0 (fun _ => true) true Try.f8.params.toList args.toList ds p := hA0
  rw [Try.params8] at hA hval
  obtain ⟨v0, vs0, d0, ds0, p0, q0, hargs, rfl, rfl, h0, r0⟩ := trodAll_cons hA
  obtain ⟨v1, vs1, d1, ds1, p1, q1, rfl, rfl, rfl, h1, r1⟩ := trodAll_cons r0
  obtain ⟨rfl, rfl, rfl⟩ := trodAll_nil r1
  obtain rfl : args = #[v0, v1] := by cases args; simp_all
  obtain ⟨rfl, rfl⟩ := trodVars_none hV
  have lt0 : ∀ x ∈ p0, x.block < W.heap.size := by obtain ⟨m, hm⟩ := h0; exact DataW.trod_lt m _ _ _ hm
  have lt1 : ∀ x ∈ p1, x.block < W.heap.size := by obtain ⟨m, hm⟩ := h1; exact DataW.trod_lt m _ _ _ hm
  clear hA0 hval0
  refine (walk v0 v1 W ⟨⟨base, hval 0 36 v0 rfl rfl⟩, Rd.of h0⟩ ⟨⟨base, hval 1 36 v1 rfl rfl⟩, Rd.of h1⟩).mono fun e W' ⟨he, bel⟩ => ?_
  subst he
  exact ⟨_, rfl, _, _, _, [], _, [], hW', trodAll_mk1 (shut_bool Try.underlying4 _), (trodAll_cons_mk (Below.trod laidOut (by kernel_rfl) (of_decide_eq_true (by kernel_rfl)) h0 bel lt0) (trodAll_cons_mk (Below.trod laidOut (by kernel_rfl) (of_decide_eq_true (by kernel_rfl)) h1 bel lt1) trodAll_mk0)), rfl, bel.frame _, fun h => by cases h⟩

theorem over : Rows.fnExactRecAheadRow.holds Try.pinned (OpenSpec.ofChange Rows.fnExactRecAheadSpec) :=
  OpenClaim.holds_of_wide 8 Try.f8 rfl rfl rfl rfl rfl rfl rfl ⟨rfl, rfl, rfl, rfl, rfl⟩ rfl rfl rfl rfl rfl (by kernel_rfl) Try.func8 (by kernel_rfl)
    (of_decide_eq_true (by kernel_rfl)) (by unfold Func.isWrapper; first | (rw [if_pos (by decide +kernel)]; kernel_rfl) | (rw [if_neg (by decide +kernel)]; exact ⟨rfl, rfl⟩))
    (fun os started H enc _ => lifted os started H enc)
end Go.Proofs.Ytkcplnmhonhmaaa.fnExactRecAhead
namespace Go.Proofs.Ytkcplnmhonhmaaa
/-- RecAhead answers as its model, at every argument. -/
theorem fnExactRecAhead_holds : Rows.FnExactRecAheadSaid := fnExactRecAhead.over
end Go.Proofs.Ytkcplnmhonhmaaa
