/- For every argument: the law FnExactRecPair answers true, that is, RecPair answers as its model and writes into no argument; its answer owns its memory. No condition. -/
import Derived.Test.YtkcplnmhonhmaaaBase
import Derived.Test.YtkcplnmhonhmaaaReads
import Derived.Test.YtkcplnmhonhmaaaRecZ
import Derived.Deep.RegionHeld3
import Derived.Deep.DeepCutAuto
import Derived.Deep.CutBlock
namespace Go.Proofs.Ytkcplnmhonhmaaa.fnExactRecPair
open Go.ChangeShapes Go.WideShapes Go.ChangeAt Go.RowKit
set_option linter.unusedVariables false
set_option linter.unusedSimpArgs false

set_option maxRecDepth 100000 in
set_option maxHeartbeats 16000000 in
theorem walk (v0 : Value) (v1 : Value) (w : World) (h0 : Arg w 36 v0) (h1 : Arg w 36 v1) :
    Calls Try.prog 9 #[v0, v1] w fun e w' => e = .returned (.bool true) ∧ Below w.heap.size w w' := by
  obtain ⟨d0_0, d0_1, d0_2, d0_3, m0, rfl, i0, b0⟩ := argRec h0
  have R_aA := Lib.hid i0.lies
  clear i0
  clear h0
  obtain ⟨d1_0, d1_1, d1_2, d1_3, m1, rfl, i1, b1⟩ := argRec h1
  have R_aB := Lib.hid i1.lies
  clear i1
  clear h1
  have B : Hid (Below w.heap.size w w) := Lib.hid (Below.refl _ _)
  have B0s : 0 ≤ w.heap.size := Nat.zero_le _
  replace B := Lib.hid (below_box B.out (.cells #[d0_0, d0_1, d0_2, d0_3] 36))
  replace R_aA := Lib.hid (R_aA.out.box (.cells #[d0_0, d0_1, d0_2, d0_3] 36))
  replace R_aB := Lib.hid (R_aB.out.box (.cells #[d0_0, d0_1, d0_2, d0_3] 36))
  have K_aA := Lib.hid (lies_box w (.cells #[d0_0, d0_1, d0_2, d0_3] 36))
  replace B := Lib.hid (below_box B.out (.cells #[d1_0, d1_1, d1_2, d1_3] 36))
  replace R_aA := Lib.hid (R_aA.out.box (.cells #[d1_0, d1_1, d1_2, d1_3] 36))
  replace R_aB := Lib.hid (R_aB.out.box (.cells #[d1_0, d1_1, d1_2, d1_3] 36))
  replace K_aA := Lib.hid (K_aA.out.box (.cells #[d1_0, d1_1, d1_2, d1_3] 36))
  have K_aB := Lib.hid (lies_box (w.alloc (.cells #[d0_0, d0_1, d0_2, d0_3] 36)) (.cells #[d1_0, d1_1, d1_2, d1_3] 36))
  simp only [size_box] at K_aB
  by_cases g0 : 1048576 - (szRec m0 : Int) < 0
  · go_enter Try.func9, Try.ntmps9
    have c_aA_0 : ((w.alloc (.cells #[d0_0, d0_1, d0_2, d0_3] 36)).alloc (.cells #[d1_0, d1_1, d1_2, d1_3] 36)).cell? ⟨w.heap.size, 0, none⟩ = some d0_0 := cur_cell K_aA.out.now 0
    have c_aA_1 : ((w.alloc (.cells #[d0_0, d0_1, d0_2, d0_3] 36)).alloc (.cells #[d1_0, d1_1, d1_2, d1_3] 36)).cell? ⟨w.heap.size, 1, none⟩ = some d0_1 := cur_cell K_aA.out.now 1
    have c_aA_2 : ((w.alloc (.cells #[d0_0, d0_1, d0_2, d0_3] 36)).alloc (.cells #[d1_0, d1_1, d1_2, d1_3] 36)).cell? ⟨w.heap.size, 2, none⟩ = some d0_2 := cur_cell K_aA.out.now 2
    have c_aA_3 : ((w.alloc (.cells #[d0_0, d0_1, d0_2, d0_3] 36)).alloc (.cells #[d1_0, d1_1, d1_2, d1_3] 36)).cell? ⟨w.heap.size, 3, none⟩ = some d0_3 := cur_cell K_aA.out.now 3
    have c_aB_0 : ((w.alloc (.cells #[d0_0, d0_1, d0_2, d0_3] 36)).alloc (.cells #[d1_0, d1_1, d1_2, d1_3] 36)).cell? ⟨w.heap.size + 1, 0, none⟩ = some d1_0 := cur_cell K_aB.out.now 0
    have c_aB_1 : ((w.alloc (.cells #[d0_0, d0_1, d0_2, d0_3] 36)).alloc (.cells #[d1_0, d1_1, d1_2, d1_3] 36)).cell? ⟨w.heap.size + 1, 1, none⟩ = some d1_1 := cur_cell K_aB.out.now 1
    have c_aB_2 : ((w.alloc (.cells #[d0_0, d0_1, d0_2, d0_3] 36)).alloc (.cells #[d1_0, d1_1, d1_2, d1_3] 36)).cell? ⟨w.heap.size + 1, 2, none⟩ = some d1_2 := cur_cell K_aB.out.now 2
    have c_aB_3 : ((w.alloc (.cells #[d0_0, d0_1, d0_2, d0_3] 36)).alloc (.cells #[d1_0, d1_1, d1_2, d1_3] 36)).cell? ⟨w.heap.size + 1, 3, none⟩ = some d1_3 := cur_cell K_aB.out.now 3
    go_wp2_with fail
    clear c_aA_0 c_aA_1 c_aA_2 c_aA_3 c_aB_0 c_aB_1 c_aB_2 c_aB_3
    refine (uSzRec d0_0 d0_1 d0_2 d0_3 m0 1048576 _ (by omega) (by omega) R_aA.out.now b0).mono ?_
    rintro e w1 ⟨rfl, hb⟩
    rw [szI_no (by omega)]
    replace B := Lib.hid (below_seq B.out hb)
    replace R_aA := Lib.hid (R_aA.out.below hb)
    replace R_aB := Lib.hid (R_aB.out.below hb)
    replace K_aA := Lib.hid (K_aA.out.below hb)
    replace K_aB := Lib.hid (K_aB.out.below hb)
    clear hb
    go_wp2
    go_ret
    exact ⟨rfl, B.out⟩
  have hs0 : szRec m0 ≤ 1048576 := by omega
  by_cases g1 : 1048576 - (szRec m0 : Int) - (szRec m1 : Int) < 0
  · go_enter Try.func9, Try.ntmps9
    have c_aA_0 : ((w.alloc (.cells #[d0_0, d0_1, d0_2, d0_3] 36)).alloc (.cells #[d1_0, d1_1, d1_2, d1_3] 36)).cell? ⟨w.heap.size, 0, none⟩ = some d0_0 := cur_cell K_aA.out.now 0
    have c_aA_1 : ((w.alloc (.cells #[d0_0, d0_1, d0_2, d0_3] 36)).alloc (.cells #[d1_0, d1_1, d1_2, d1_3] 36)).cell? ⟨w.heap.size, 1, none⟩ = some d0_1 := cur_cell K_aA.out.now 1
    have c_aA_2 : ((w.alloc (.cells #[d0_0, d0_1, d0_2, d0_3] 36)).alloc (.cells #[d1_0, d1_1, d1_2, d1_3] 36)).cell? ⟨w.heap.size, 2, none⟩ = some d0_2 := cur_cell K_aA.out.now 2
    have c_aA_3 : ((w.alloc (.cells #[d0_0, d0_1, d0_2, d0_3] 36)).alloc (.cells #[d1_0, d1_1, d1_2, d1_3] 36)).cell? ⟨w.heap.size, 3, none⟩ = some d0_3 := cur_cell K_aA.out.now 3
    have c_aB_0 : ((w.alloc (.cells #[d0_0, d0_1, d0_2, d0_3] 36)).alloc (.cells #[d1_0, d1_1, d1_2, d1_3] 36)).cell? ⟨w.heap.size + 1, 0, none⟩ = some d1_0 := cur_cell K_aB.out.now 0
    have c_aB_1 : ((w.alloc (.cells #[d0_0, d0_1, d0_2, d0_3] 36)).alloc (.cells #[d1_0, d1_1, d1_2, d1_3] 36)).cell? ⟨w.heap.size + 1, 1, none⟩ = some d1_1 := cur_cell K_aB.out.now 1
    have c_aB_2 : ((w.alloc (.cells #[d0_0, d0_1, d0_2, d0_3] 36)).alloc (.cells #[d1_0, d1_1, d1_2, d1_3] 36)).cell? ⟨w.heap.size + 1, 2, none⟩ = some d1_2 := cur_cell K_aB.out.now 2
    have c_aB_3 : ((w.alloc (.cells #[d0_0, d0_1, d0_2, d0_3] 36)).alloc (.cells #[d1_0, d1_1, d1_2, d1_3] 36)).cell? ⟨w.heap.size + 1, 3, none⟩ = some d1_3 := cur_cell K_aB.out.now 3
    go_wp2_with fail
    clear c_aA_0 c_aA_1 c_aA_2 c_aA_3 c_aB_0 c_aB_1 c_aB_2 c_aB_3
    refine (uSzRec d0_0 d0_1 d0_2 d0_3 m0 1048576 _ (by omega) (by omega) R_aA.out.now b0).mono ?_
    rintro e w1 ⟨rfl, hb⟩
    rw [szI_yes (by omega)]
    replace B := Lib.hid (below_seq B.out hb)
    replace R_aA := Lib.hid (R_aA.out.below hb)
    replace R_aB := Lib.hid (R_aB.out.below hb)
    replace K_aA := Lib.hid (K_aA.out.below hb)
    replace K_aB := Lib.hid (K_aB.out.below hb)
    clear hb
    have c_aA_0 : w1.cell? ⟨w.heap.size, 0, none⟩ = some d0_0 := cur_cell K_aA.out.now 0
    have c_aA_1 : w1.cell? ⟨w.heap.size, 1, none⟩ = some d0_1 := cur_cell K_aA.out.now 1
    have c_aA_2 : w1.cell? ⟨w.heap.size, 2, none⟩ = some d0_2 := cur_cell K_aA.out.now 2
    have c_aA_3 : w1.cell? ⟨w.heap.size, 3, none⟩ = some d0_3 := cur_cell K_aA.out.now 3
    have c_aB_0 : w1.cell? ⟨w.heap.size + 1, 0, none⟩ = some d1_0 := cur_cell K_aB.out.now 0
    have c_aB_1 : w1.cell? ⟨w.heap.size + 1, 1, none⟩ = some d1_1 := cur_cell K_aB.out.now 1
    have c_aB_2 : w1.cell? ⟨w.heap.size + 1, 2, none⟩ = some d1_2 := cur_cell K_aB.out.now 2
    have c_aB_3 : w1.cell? ⟨w.heap.size + 1, 3, none⟩ = some d1_3 := cur_cell K_aB.out.now 3
    go_wp2_with fail
    clear c_aA_0 c_aA_1 c_aA_2 c_aA_3 c_aB_0 c_aB_1 c_aB_2 c_aB_3
    refine (uSzRec d1_0 d1_1 d1_2 d1_3 m1 (1048576 - (szRec m0 : Int)) _ (by omega) (by omega) R_aB.out.now b1).mono ?_
    rintro e w2 ⟨rfl, hb⟩
    rw [szI_no (by omega)]
    replace B := Lib.hid (below_seq B.out hb)
    replace R_aA := Lib.hid (R_aA.out.below hb)
    replace R_aB := Lib.hid (R_aB.out.below hb)
    replace K_aA := Lib.hid (K_aA.out.below hb)
    replace K_aB := Lib.hid (K_aB.out.below hb)
    clear hb
    go_wp2
    go_ret
    exact ⟨rfl, B.out⟩
  have hs1 : szRec m1 ≤ 1048576 := by omega
  go_enter Try.func9, Try.ntmps9
  have c_aA_0 : ((w.alloc (.cells #[d0_0, d0_1, d0_2, d0_3] 36)).alloc (.cells #[d1_0, d1_1, d1_2, d1_3] 36)).cell? ⟨w.heap.size, 0, none⟩ = some d0_0 := cur_cell K_aA.out.now 0
  have c_aA_1 : ((w.alloc (.cells #[d0_0, d0_1, d0_2, d0_3] 36)).alloc (.cells #[d1_0, d1_1, d1_2, d1_3] 36)).cell? ⟨w.heap.size, 1, none⟩ = some d0_1 := cur_cell K_aA.out.now 1
  have c_aA_2 : ((w.alloc (.cells #[d0_0, d0_1, d0_2, d0_3] 36)).alloc (.cells #[d1_0, d1_1, d1_2, d1_3] 36)).cell? ⟨w.heap.size, 2, none⟩ = some d0_2 := cur_cell K_aA.out.now 2
  have c_aA_3 : ((w.alloc (.cells #[d0_0, d0_1, d0_2, d0_3] 36)).alloc (.cells #[d1_0, d1_1, d1_2, d1_3] 36)).cell? ⟨w.heap.size, 3, none⟩ = some d0_3 := cur_cell K_aA.out.now 3
  have c_aB_0 : ((w.alloc (.cells #[d0_0, d0_1, d0_2, d0_3] 36)).alloc (.cells #[d1_0, d1_1, d1_2, d1_3] 36)).cell? ⟨w.heap.size + 1, 0, none⟩ = some d1_0 := cur_cell K_aB.out.now 0
  have c_aB_1 : ((w.alloc (.cells #[d0_0, d0_1, d0_2, d0_3] 36)).alloc (.cells #[d1_0, d1_1, d1_2, d1_3] 36)).cell? ⟨w.heap.size + 1, 1, none⟩ = some d1_1 := cur_cell K_aB.out.now 1
  have c_aB_2 : ((w.alloc (.cells #[d0_0, d0_1, d0_2, d0_3] 36)).alloc (.cells #[d1_0, d1_1, d1_2, d1_3] 36)).cell? ⟨w.heap.size + 1, 2, none⟩ = some d1_2 := cur_cell K_aB.out.now 2
  have c_aB_3 : ((w.alloc (.cells #[d0_0, d0_1, d0_2, d0_3] 36)).alloc (.cells #[d1_0, d1_1, d1_2, d1_3] 36)).cell? ⟨w.heap.size + 1, 3, none⟩ = some d1_3 := cur_cell K_aB.out.now 3
  go_wp2_with fail
  clear c_aA_0 c_aA_1 c_aA_2 c_aA_3 c_aB_0 c_aB_1 c_aB_2 c_aB_3
  refine (uSzRec d0_0 d0_1 d0_2 d0_3 m0 1048576 _ (by omega) (by omega) R_aA.out.now b0).mono ?_
  rintro e w1 ⟨rfl, hb⟩
  rw [szI_yes (by omega)]
  have s_w1 : w.heap.size + 1 + 1 ≤ w1.heap.size := by have := hb.size; simpa only [size_box, size_drew] using this
  replace B := Lib.hid (below_seq B.out hb)
  replace R_aA := Lib.hid (R_aA.out.below hb)
  replace R_aB := Lib.hid (R_aB.out.below hb)
  replace K_aA := Lib.hid (K_aA.out.below hb)
  replace K_aB := Lib.hid (K_aB.out.below hb)
  clear hb
  have c_aA_0 : w1.cell? ⟨w.heap.size, 0, none⟩ = some d0_0 := cur_cell K_aA.out.now 0
  have c_aA_1 : w1.cell? ⟨w.heap.size, 1, none⟩ = some d0_1 := cur_cell K_aA.out.now 1
  have c_aA_2 : w1.cell? ⟨w.heap.size, 2, none⟩ = some d0_2 := cur_cell K_aA.out.now 2
  have c_aA_3 : w1.cell? ⟨w.heap.size, 3, none⟩ = some d0_3 := cur_cell K_aA.out.now 3
  have c_aB_0 : w1.cell? ⟨w.heap.size + 1, 0, none⟩ = some d1_0 := cur_cell K_aB.out.now 0
  have c_aB_1 : w1.cell? ⟨w.heap.size + 1, 1, none⟩ = some d1_1 := cur_cell K_aB.out.now 1
  have c_aB_2 : w1.cell? ⟨w.heap.size + 1, 2, none⟩ = some d1_2 := cur_cell K_aB.out.now 2
  have c_aB_3 : w1.cell? ⟨w.heap.size + 1, 3, none⟩ = some d1_3 := cur_cell K_aB.out.now 3
  go_wp2_with fail
  clear c_aA_0 c_aA_1 c_aA_2 c_aA_3 c_aB_0 c_aB_1 c_aB_2 c_aB_3
  refine (uSzRec d1_0 d1_1 d1_2 d1_3 m1 (1048576 - (szRec m0 : Int)) _ (by omega) (by omega) R_aB.out.now b1).mono ?_
  rintro e w2 ⟨rfl, hb⟩
  rw [szI_yes (by omega)]
  have s_w2 : w1.heap.size ≤ w2.heap.size := by have := hb.size; simpa only [size_box, size_drew] using this
  replace B := Lib.hid (below_seq B.out hb)
  replace R_aA := Lib.hid (R_aA.out.below hb)
  replace R_aB := Lib.hid (R_aB.out.below hb)
  replace K_aA := Lib.hid (K_aA.out.below hb)
  replace K_aB := Lib.hid (K_aB.out.below hb)
  clear hb
  obtain ⟨rfl, rfl, rfl, rfl⟩ := recIn_cells R_aA.out.now
  obtain ⟨rfl, rfl, rfl, rfl⟩ := recIn_cells R_aB.out.now
  have KP2 := Lib.hid (fun w' (hb : Below w2.heap.size w2 w') => (show w'.cell? ⟨w.heap.size, 0, none⟩ = some (.bool m0.live) ∧ w'.cell? ⟨w.heap.size, 1, none⟩ = some (.int .i64 m0.dist) ∧ w'.cell? ⟨w.heap.size, 2, none⟩ = some (.int .i64 m0.weight) ∧ w'.cell? ⟨w.heap.size, 3, none⟩ = some (.string m0.word) ∧ w'.cell? ⟨w.heap.size + 1, 0, none⟩ = some (.bool m1.live) ∧ w'.cell? ⟨w.heap.size + 1, 1, none⟩ = some (.int .i64 m1.dist) ∧ w'.cell? ⟨w.heap.size + 1, 2, none⟩ = some (.int .i64 m1.weight) ∧ w'.cell? ⟨w.heap.size + 1, 3, none⟩ = some (.string m1.word) from ⟨cur_cell (K_aA.out.below hb).now 0, cur_cell (K_aA.out.below hb).now 1, cur_cell (K_aA.out.below hb).now 2, cur_cell (K_aA.out.below hb).now 3, cur_cell (K_aB.out.below hb).now 0, cur_cell (K_aB.out.below hb).now 1, cur_cell (K_aB.out.below hb).now 2, cur_cell (K_aB.out.below hb).now 3⟩))
  have ZZ := Lib.hid (RZ.start w2)
  have U2_0 := Lib.hid (fun w' => lawsToRec m0 w')
  have U2_1 := Lib.hid (fun w' => lawsToRec m1 w')
  have UP2 := Lib.hid (fun w' => specPairP m0 m1 w' b0 b1)
  obtain ⟨p2, hp2⟩ : ∃ p, pairA m0 m1 = p := ⟨_, rfl⟩
  obtain ⟨q2, hq2⟩ : ∃ q, pairB m0 m1 = q := ⟨_, rfl⟩
  rw [hp2, hq2] at UP2
  have HQ2 := Lib.hid (And.intro hp2 hq2)
  clear hp2 hq2
  go_wp2_with fail
  go_cut [6, 7] (fun pa pb wx => ∃ (b6 b7 : Nat), pa = .pointer (some ⟨b6, 0, none⟩) ∧ pb = .pointer (some ⟨b7, 0, none⟩) ∧ Hid (PairCut b6 b7 w2 wx p2 q2))
  case first =>
    go_region_held3 (fun w' => w'.cell? ⟨w.heap.size, 0, none⟩ = some (.bool m0.live) ∧ w'.cell? ⟨w.heap.size, 1, none⟩ = some (.int .i64 m0.dist) ∧ w'.cell? ⟨w.heap.size, 2, none⟩ = some (.int .i64 m0.weight) ∧ w'.cell? ⟨w.heap.size, 3, none⟩ = some (.string m0.word) ∧ w'.cell? ⟨w.heap.size + 1, 0, none⟩ = some (.bool m1.live) ∧ w'.cell? ⟨w.heap.size + 1, 1, none⟩ = some (.int .i64 m1.dist) ∧ w'.cell? ⟨w.heap.size + 1, 2, none⟩ = some (.int .i64 m1.weight) ∧ w'.cell? ⟨w.heap.size + 1, 3, none⟩ = some (.string m1.word))
      ((refine KP2.out _ ?_; repeat (first | with_reducible exact ZZ.out.B | with_reducible exact Below.refl _ _ | with_reducible refine below_drew ?_ | with_reducible refine below_box ?_ _ | (with_reducible refine Below.setCell ?_ ?_ _; rotate_left; exact (ZZ.out.Z _ (by simp)).2))))
      (first
        | (go_at_call 22; refine (U2_0.out _).mono ?_; rintro e wn ⟨rfl, hb⟩; (first | (have ZZ := Lib.hid (ZZ.out.call hb)) | (have ZZ := Lib.hid (ZZ.out.box.call hb)) | (have ZZ := Lib.hid (ZZ.out.box.box.call hb))); clear hb U2_0)
        | (go_at_call 22; refine (U2_1.out _).mono ?_; rintro e wn ⟨rfl, hb⟩; (first | (have ZZ := Lib.hid (ZZ.out.call hb)) | (have ZZ := Lib.hid (ZZ.out.box.call hb)) | (have ZZ := Lib.hid (ZZ.out.box.box.call hb))); clear hb U2_1)
        | (go_at_call 31; refine (UP2.out _).mono ?_; rintro e wn ⟨rfl, hb⟩; (first | (have ZZ := Lib.hid (ZZ.out.call hb)) | (have ZZ := Lib.hid (ZZ.out.box.call hb)) | (have ZZ := Lib.hid (ZZ.out.box.box.call hb))); (try simp only [size_box, size_drew] at ZZ); (try (obtain ⟨⟨z0, z1, z2, z3⟩, ⟨f0, f1, f2, f3⟩, ⟨z4, z5⟩, z6, z7⟩ := ZZ.out.at0)); (try (obtain ⟨⟨⟨y0, y1, y2, y3⟩, ⟨g0, g1, g2, g3⟩, ⟨y4, y5⟩, y8, y9⟩, y6, y7⟩ := ZZ.out.at1)); (try simp only [size_box, size_drew] at z0 z1 z2 z3 f0 f1 f2 f3 z4 z5 z6 z7); (try simp only [size_box, size_drew] at y0 y1 y2 y3 g0 g1 g2 g3 y4 y5 y6 y7 y8 y9); clear hb UP2))
    all_goals (go_wp2_with fail; go_meet)
    all_goals refine ⟨_, _, rfl, rfl, Lib.hid ?_⟩
    all_goals first
      | (have _g : Hid (RZ _ _ []) := ZZ; first | with_reducible exact PairCut.new ZZ.out | with_reducible exact PairCut.wen ZZ.out)
      | (have _g : Hid (RZ _ _ [_]) := ZZ; first | with_reducible exact PairCut.one ZZ.out | with_reducible exact PairCut.two ZZ.out)
      | (have _g : Hid (RZ _ _ [_, _]) := ZZ; first | with_reducible exact PairCut.old01 ZZ.out | with_reducible exact PairCut.old10 ZZ.out)
  case rest =>
  obtain ⟨bx_w0, bx_w1, rfl, rfl, HC⟩ := hcut
  obtain ⟨hb, hk0, hk1, hl0, hl1⟩ := HC.out
  clear HC U2_0 U2_1 KP2 ZZ UP2
  generalize wc = w3 at *
  have s_w3 : w2.heap.size ≤ w3.heap.size := by have := hb.size; simpa only [size_box, size_drew] using this
  replace B := Lib.hid (below_seq B.out hb)
  replace R_aA := Lib.hid (R_aA.out.below hb)
  replace R_aB := Lib.hid (R_aB.out.below hb)
  replace K_aA := Lib.hid (K_aA.out.below hb)
  replace K_aB := Lib.hid (K_aB.out.below hb)
  have K_w0 := Lib.hid (lies_block hk0)
  have A_w0 := Lib.hid ((show RecOwn 0 0 [.bool p2.live, .int .i64 p2.dist, .int .i64 p2.weight, .string p2.word] p2 w3 from rfl).lies (Nat.zero_le _))
  have K_w1 := Lib.hid (lies_block hk1)
  have A_w1 := Lib.hid ((show RecOwn 0 0 [.bool q2.live, .int .i64 q2.dist, .int .i64 q2.weight, .string q2.word] q2 w3 from rfl).lies (Nat.zero_le _))
  clear hb hk0 hk1
  have KP3 := Lib.hid (fun w' (hb : Below w3.heap.size w3 w') => (show w'.cell? ⟨w.heap.size, 0, none⟩ = some (.bool m0.live) ∧ w'.cell? ⟨w.heap.size, 1, none⟩ = some (.int .i64 m0.dist) ∧ w'.cell? ⟨w.heap.size, 2, none⟩ = some (.int .i64 m0.weight) ∧ w'.cell? ⟨w.heap.size, 3, none⟩ = some (.string m0.word) ∧ w'.cell? ⟨w.heap.size + 1, 0, none⟩ = some (.bool m1.live) ∧ w'.cell? ⟨w.heap.size + 1, 1, none⟩ = some (.int .i64 m1.dist) ∧ w'.cell? ⟨w.heap.size + 1, 2, none⟩ = some (.int .i64 m1.weight) ∧ w'.cell? ⟨w.heap.size + 1, 3, none⟩ = some (.string m1.word) from ⟨cur_cell (K_aA.out.below hb).now 0, cur_cell (K_aA.out.below hb).now 1, cur_cell (K_aA.out.below hb).now 2, cur_cell (K_aA.out.below hb).now 3, cur_cell (K_aB.out.below hb).now 0, cur_cell (K_aB.out.below hb).now 1, cur_cell (K_aB.out.below hb).now 2, cur_cell (K_aB.out.below hb).now 3⟩))
  have ZZ := Lib.hid (RZ.start w3)
  have U3_0 := Lib.hid (fun w' => lawsToRec m0 w')
  have U3_1 := Lib.hid (fun w' => lawsToRec m1 w')
  have UP3 := Lib.hid (fun w' => implPairP m0 m1 w' b0 b1)
  obtain ⟨p3, hp3⟩ : ∃ p, pairA m0 m1 = p := ⟨_, rfl⟩
  obtain ⟨q3, hq3⟩ : ∃ q, pairB m0 m1 = q := ⟨_, rfl⟩
  rw [hp3, hq3] at UP3
  have HQ3 := Lib.hid (And.intro hp3 hq3)
  clear hp3 hq3
  go_wp2_with fail
  go_cut [8, 9] (fun pa pb wx => ∃ (b6 b7 : Nat), pa = .pointer (some ⟨b6, 0, none⟩) ∧ pb = .pointer (some ⟨b7, 0, none⟩) ∧ Hid (PairCut b6 b7 w3 wx p3 q3))
  case first =>
    go_region_held3 (fun w' => w'.cell? ⟨w.heap.size, 0, none⟩ = some (.bool m0.live) ∧ w'.cell? ⟨w.heap.size, 1, none⟩ = some (.int .i64 m0.dist) ∧ w'.cell? ⟨w.heap.size, 2, none⟩ = some (.int .i64 m0.weight) ∧ w'.cell? ⟨w.heap.size, 3, none⟩ = some (.string m0.word) ∧ w'.cell? ⟨w.heap.size + 1, 0, none⟩ = some (.bool m1.live) ∧ w'.cell? ⟨w.heap.size + 1, 1, none⟩ = some (.int .i64 m1.dist) ∧ w'.cell? ⟨w.heap.size + 1, 2, none⟩ = some (.int .i64 m1.weight) ∧ w'.cell? ⟨w.heap.size + 1, 3, none⟩ = some (.string m1.word))
      ((refine KP3.out _ ?_; repeat (first | with_reducible exact ZZ.out.B | with_reducible exact Below.refl _ _ | with_reducible refine below_drew ?_ | with_reducible refine below_box ?_ _ | (with_reducible refine Below.setCell ?_ ?_ _; rotate_left; exact (ZZ.out.Z _ (by simp)).2))))
      (first
        | (go_at_call 22; refine (U3_0.out _).mono ?_; rintro e wn ⟨rfl, hb⟩; (first | (have ZZ := Lib.hid (ZZ.out.call hb)) | (have ZZ := Lib.hid (ZZ.out.box.call hb)) | (have ZZ := Lib.hid (ZZ.out.box.box.call hb))); clear hb U3_0)
        | (go_at_call 22; refine (U3_1.out _).mono ?_; rintro e wn ⟨rfl, hb⟩; (first | (have ZZ := Lib.hid (ZZ.out.call hb)) | (have ZZ := Lib.hid (ZZ.out.box.call hb)) | (have ZZ := Lib.hid (ZZ.out.box.box.call hb))); clear hb U3_1)
        | (go_at_call 20; refine (UP3.out _).mono ?_; rintro e wn ⟨rfl, hb⟩; (first | (have ZZ := Lib.hid (ZZ.out.call hb)) | (have ZZ := Lib.hid (ZZ.out.box.call hb)) | (have ZZ := Lib.hid (ZZ.out.box.box.call hb))); (try simp only [size_box, size_drew] at ZZ); (try (obtain ⟨⟨z0, z1, z2, z3⟩, ⟨f0, f1, f2, f3⟩, ⟨z4, z5⟩, z6, z7⟩ := ZZ.out.at0)); (try (obtain ⟨⟨⟨y0, y1, y2, y3⟩, ⟨g0, g1, g2, g3⟩, ⟨y4, y5⟩, y8, y9⟩, y6, y7⟩ := ZZ.out.at1)); (try simp only [size_box, size_drew] at z0 z1 z2 z3 f0 f1 f2 f3 z4 z5 z6 z7); (try simp only [size_box, size_drew] at y0 y1 y2 y3 g0 g1 g2 g3 y4 y5 y6 y7 y8 y9); clear hb UP3))
    all_goals (go_wp2_with fail; go_meet)
    all_goals refine ⟨_, _, rfl, rfl, Lib.hid ?_⟩
    all_goals first
      | (have _g : Hid (RZ _ _ []) := ZZ; first | with_reducible exact PairCut.new ZZ.out | with_reducible exact PairCut.wen ZZ.out)
      | (have _g : Hid (RZ _ _ [_]) := ZZ; first | with_reducible exact PairCut.one ZZ.out | with_reducible exact PairCut.two ZZ.out)
      | (have _g : Hid (RZ _ _ [_, _]) := ZZ; first | with_reducible exact PairCut.old01 ZZ.out | with_reducible exact PairCut.old10 ZZ.out)
  case rest =>
  obtain ⟨bx_g0, bx_g1, rfl, rfl, HC⟩ := hcut
  obtain ⟨hb, hk0, hk1, hl0, hl1⟩ := HC.out
  clear HC U3_0 U3_1 KP3 ZZ UP3
  generalize wc = w4 at *
  have s_w4 : w3.heap.size ≤ w4.heap.size := by have := hb.size; simpa only [size_box, size_drew] using this
  replace B := Lib.hid (below_seq B.out hb)
  replace R_aA := Lib.hid (R_aA.out.below hb)
  replace R_aB := Lib.hid (R_aB.out.below hb)
  replace K_aA := Lib.hid (K_aA.out.below hb)
  replace K_aB := Lib.hid (K_aB.out.below hb)
  replace K_w0 := Lib.hid (K_w0.out.below hb)
  replace A_w0 := Lib.hid (A_w0.out.below hb)
  replace K_w1 := Lib.hid (K_w1.out.below hb)
  replace A_w1 := Lib.hid (A_w1.out.below hb)
  obtain ⟨rfl, rfl⟩ : p2 = p3 ∧ q2 = q3 := ⟨HQ2.out.1.symm.trans HQ3.out.1, HQ2.out.2.symm.trans HQ3.out.2⟩
  have K_g0 := Lib.hid (lies_block hk0)
  have A_g0 := Lib.hid ((show RecOwn 0 0 [.bool p2.live, .int .i64 p2.dist, .int .i64 p2.weight, .string p2.word] p2 w4 from rfl).lies (Nat.zero_le _))
  have K_g1 := Lib.hid (lies_block hk1)
  have A_g1 := Lib.hid ((show RecOwn 0 0 [.bool q2.live, .int .i64 q2.dist, .int .i64 q2.weight, .string q2.word] q2 w4 from rfl).lies (Nat.zero_le _))
  clear hb hk0 hk1
  have c_aA_0 : w4.cell? ⟨w.heap.size, 0, none⟩ = some (.bool m0.live) := cur_cell K_aA.out.now 0
  have c_aA_1 : w4.cell? ⟨w.heap.size, 1, none⟩ = some (.int .i64 m0.dist) := cur_cell K_aA.out.now 1
  have c_aA_2 : w4.cell? ⟨w.heap.size, 2, none⟩ = some (.int .i64 m0.weight) := cur_cell K_aA.out.now 2
  have c_aA_3 : w4.cell? ⟨w.heap.size, 3, none⟩ = some (.string m0.word) := cur_cell K_aA.out.now 3
  have c_aB_0 : w4.cell? ⟨w.heap.size + 1, 0, none⟩ = some (.bool m1.live) := cur_cell K_aB.out.now 0
  have c_aB_1 : w4.cell? ⟨w.heap.size + 1, 1, none⟩ = some (.int .i64 m1.dist) := cur_cell K_aB.out.now 1
  have c_aB_2 : w4.cell? ⟨w.heap.size + 1, 2, none⟩ = some (.int .i64 m1.weight) := cur_cell K_aB.out.now 2
  have c_aB_3 : w4.cell? ⟨w.heap.size + 1, 3, none⟩ = some (.string m1.word) := cur_cell K_aB.out.now 3
  have c_w0_0 : w4.cell? ⟨bx_w0, 0, none⟩ = some (.bool p2.live) := cur_cell K_w0.out.now 0
  have c_w0_1 : w4.cell? ⟨bx_w0, 1, none⟩ = some (.int .i64 p2.dist) := cur_cell K_w0.out.now 1
  have c_w0_2 : w4.cell? ⟨bx_w0, 2, none⟩ = some (.int .i64 p2.weight) := cur_cell K_w0.out.now 2
  have c_w0_3 : w4.cell? ⟨bx_w0, 3, none⟩ = some (.string p2.word) := cur_cell K_w0.out.now 3
  have c_w1_0 : w4.cell? ⟨bx_w1, 0, none⟩ = some (.bool q2.live) := cur_cell K_w1.out.now 0
  have c_w1_1 : w4.cell? ⟨bx_w1, 1, none⟩ = some (.int .i64 q2.dist) := cur_cell K_w1.out.now 1
  have c_w1_2 : w4.cell? ⟨bx_w1, 2, none⟩ = some (.int .i64 q2.weight) := cur_cell K_w1.out.now 2
  have c_w1_3 : w4.cell? ⟨bx_w1, 3, none⟩ = some (.string q2.word) := cur_cell K_w1.out.now 3
  have c_g0_0 : w4.cell? ⟨bx_g0, 0, none⟩ = some (.bool p2.live) := cur_cell K_g0.out.now 0
  have c_g0_1 : w4.cell? ⟨bx_g0, 1, none⟩ = some (.int .i64 p2.dist) := cur_cell K_g0.out.now 1
  have c_g0_2 : w4.cell? ⟨bx_g0, 2, none⟩ = some (.int .i64 p2.weight) := cur_cell K_g0.out.now 2
  have c_g0_3 : w4.cell? ⟨bx_g0, 3, none⟩ = some (.string p2.word) := cur_cell K_g0.out.now 3
  have c_g1_0 : w4.cell? ⟨bx_g1, 0, none⟩ = some (.bool q2.live) := cur_cell K_g1.out.now 0
  have c_g1_1 : w4.cell? ⟨bx_g1, 1, none⟩ = some (.int .i64 q2.dist) := cur_cell K_g1.out.now 1
  have c_g1_2 : w4.cell? ⟨bx_g1, 2, none⟩ = some (.int .i64 q2.weight) := cur_cell K_g1.out.now 2
  have c_g1_3 : w4.cell? ⟨bx_g1, 3, none⟩ = some (.string q2.word) := cur_cell K_g1.out.now 3
  go_wp2_with fail
  clear c_aA_0 c_aA_1 c_aA_2 c_aA_3 c_aB_0 c_aB_1 c_aB_2 c_aB_3 c_w0_0 c_w0_1 c_w0_2 c_w0_3 c_w1_0 c_w1_1 c_w1_2 c_w1_3 c_g0_0 c_g0_1 c_g0_2 c_g0_3 c_g1_0 c_g1_1 c_g1_2 c_g1_3
  refine (uEqRec (.bool p2.live) (.int .i64 p2.dist) (.int .i64 p2.weight) (.string p2.word) (.bool p2.live) (.int .i64 p2.dist) (.int .i64 p2.weight) (.string p2.word) p2 _ A_g0.out.now.read A_w0.out.now.read).mono ?_
  rintro e w5 ⟨rfl, hb⟩
  have s_w5 : w4.heap.size ≤ w5.heap.size := by have := hb.size; simpa only [size_box, size_drew] using this
  replace B := Lib.hid (below_seq B.out hb)
  replace R_aA := Lib.hid (R_aA.out.below hb)
  replace R_aB := Lib.hid (R_aB.out.below hb)
  replace K_aA := Lib.hid (K_aA.out.below hb)
  replace K_aB := Lib.hid (K_aB.out.below hb)
  replace K_w0 := Lib.hid (K_w0.out.below hb)
  replace A_w0 := Lib.hid (A_w0.out.below hb)
  replace K_w1 := Lib.hid (K_w1.out.below hb)
  replace A_w1 := Lib.hid (A_w1.out.below hb)
  replace K_g0 := Lib.hid (K_g0.out.below hb)
  replace A_g0 := Lib.hid (A_g0.out.below hb)
  replace K_g1 := Lib.hid (K_g1.out.below hb)
  replace A_g1 := Lib.hid (A_g1.out.below hb)
  clear hb
  have c_aA_0 : w5.cell? ⟨w.heap.size, 0, none⟩ = some (.bool m0.live) := cur_cell K_aA.out.now 0
  have c_aA_1 : w5.cell? ⟨w.heap.size, 1, none⟩ = some (.int .i64 m0.dist) := cur_cell K_aA.out.now 1
  have c_aA_2 : w5.cell? ⟨w.heap.size, 2, none⟩ = some (.int .i64 m0.weight) := cur_cell K_aA.out.now 2
  have c_aA_3 : w5.cell? ⟨w.heap.size, 3, none⟩ = some (.string m0.word) := cur_cell K_aA.out.now 3
  have c_aB_0 : w5.cell? ⟨w.heap.size + 1, 0, none⟩ = some (.bool m1.live) := cur_cell K_aB.out.now 0
  have c_aB_1 : w5.cell? ⟨w.heap.size + 1, 1, none⟩ = some (.int .i64 m1.dist) := cur_cell K_aB.out.now 1
  have c_aB_2 : w5.cell? ⟨w.heap.size + 1, 2, none⟩ = some (.int .i64 m1.weight) := cur_cell K_aB.out.now 2
  have c_aB_3 : w5.cell? ⟨w.heap.size + 1, 3, none⟩ = some (.string m1.word) := cur_cell K_aB.out.now 3
  have c_w0_0 : w5.cell? ⟨bx_w0, 0, none⟩ = some (.bool p2.live) := cur_cell K_w0.out.now 0
  have c_w0_1 : w5.cell? ⟨bx_w0, 1, none⟩ = some (.int .i64 p2.dist) := cur_cell K_w0.out.now 1
  have c_w0_2 : w5.cell? ⟨bx_w0, 2, none⟩ = some (.int .i64 p2.weight) := cur_cell K_w0.out.now 2
  have c_w0_3 : w5.cell? ⟨bx_w0, 3, none⟩ = some (.string p2.word) := cur_cell K_w0.out.now 3
  have c_w1_0 : w5.cell? ⟨bx_w1, 0, none⟩ = some (.bool q2.live) := cur_cell K_w1.out.now 0
  have c_w1_1 : w5.cell? ⟨bx_w1, 1, none⟩ = some (.int .i64 q2.dist) := cur_cell K_w1.out.now 1
  have c_w1_2 : w5.cell? ⟨bx_w1, 2, none⟩ = some (.int .i64 q2.weight) := cur_cell K_w1.out.now 2
  have c_w1_3 : w5.cell? ⟨bx_w1, 3, none⟩ = some (.string q2.word) := cur_cell K_w1.out.now 3
  have c_g0_0 : w5.cell? ⟨bx_g0, 0, none⟩ = some (.bool p2.live) := cur_cell K_g0.out.now 0
  have c_g0_1 : w5.cell? ⟨bx_g0, 1, none⟩ = some (.int .i64 p2.dist) := cur_cell K_g0.out.now 1
  have c_g0_2 : w5.cell? ⟨bx_g0, 2, none⟩ = some (.int .i64 p2.weight) := cur_cell K_g0.out.now 2
  have c_g0_3 : w5.cell? ⟨bx_g0, 3, none⟩ = some (.string p2.word) := cur_cell K_g0.out.now 3
  have c_g1_0 : w5.cell? ⟨bx_g1, 0, none⟩ = some (.bool q2.live) := cur_cell K_g1.out.now 0
  have c_g1_1 : w5.cell? ⟨bx_g1, 1, none⟩ = some (.int .i64 q2.dist) := cur_cell K_g1.out.now 1
  have c_g1_2 : w5.cell? ⟨bx_g1, 2, none⟩ = some (.int .i64 q2.weight) := cur_cell K_g1.out.now 2
  have c_g1_3 : w5.cell? ⟨bx_g1, 3, none⟩ = some (.string q2.word) := cur_cell K_g1.out.now 3
  go_wp2_with fail
  clear c_aA_0 c_aA_1 c_aA_2 c_aA_3 c_aB_0 c_aB_1 c_aB_2 c_aB_3 c_w0_0 c_w0_1 c_w0_2 c_w0_3 c_w1_0 c_w1_1 c_w1_2 c_w1_3 c_g0_0 c_g0_1 c_g0_2 c_g0_3 c_g1_0 c_g1_1 c_g1_2 c_g1_3
  refine (uEqRec (.bool q2.live) (.int .i64 q2.dist) (.int .i64 q2.weight) (.string q2.word) (.bool q2.live) (.int .i64 q2.dist) (.int .i64 q2.weight) (.string q2.word) q2 _ A_g1.out.now.read A_w1.out.now.read).mono ?_
  rintro e w6 ⟨rfl, hb⟩
  have s_w6 : w5.heap.size ≤ w6.heap.size := by have := hb.size; simpa only [size_box, size_drew] using this
  replace B := Lib.hid (below_seq B.out hb)
  replace R_aA := Lib.hid (R_aA.out.below hb)
  replace R_aB := Lib.hid (R_aB.out.below hb)
  replace K_aA := Lib.hid (K_aA.out.below hb)
  replace K_aB := Lib.hid (K_aB.out.below hb)
  replace K_w0 := Lib.hid (K_w0.out.below hb)
  replace A_w0 := Lib.hid (A_w0.out.below hb)
  replace K_w1 := Lib.hid (K_w1.out.below hb)
  replace A_w1 := Lib.hid (A_w1.out.below hb)
  replace K_g0 := Lib.hid (K_g0.out.below hb)
  replace A_g0 := Lib.hid (A_g0.out.below hb)
  replace K_g1 := Lib.hid (K_g1.out.below hb)
  replace A_g1 := Lib.hid (A_g1.out.below hb)
  clear hb
  have c_aA_0 : w6.cell? ⟨w.heap.size, 0, none⟩ = some (.bool m0.live) := cur_cell K_aA.out.now 0
  have c_aA_1 : w6.cell? ⟨w.heap.size, 1, none⟩ = some (.int .i64 m0.dist) := cur_cell K_aA.out.now 1
  have c_aA_2 : w6.cell? ⟨w.heap.size, 2, none⟩ = some (.int .i64 m0.weight) := cur_cell K_aA.out.now 2
  have c_aA_3 : w6.cell? ⟨w.heap.size, 3, none⟩ = some (.string m0.word) := cur_cell K_aA.out.now 3
  have c_aB_0 : w6.cell? ⟨w.heap.size + 1, 0, none⟩ = some (.bool m1.live) := cur_cell K_aB.out.now 0
  have c_aB_1 : w6.cell? ⟨w.heap.size + 1, 1, none⟩ = some (.int .i64 m1.dist) := cur_cell K_aB.out.now 1
  have c_aB_2 : w6.cell? ⟨w.heap.size + 1, 2, none⟩ = some (.int .i64 m1.weight) := cur_cell K_aB.out.now 2
  have c_aB_3 : w6.cell? ⟨w.heap.size + 1, 3, none⟩ = some (.string m1.word) := cur_cell K_aB.out.now 3
  have c_w0_0 : w6.cell? ⟨bx_w0, 0, none⟩ = some (.bool p2.live) := cur_cell K_w0.out.now 0
  have c_w0_1 : w6.cell? ⟨bx_w0, 1, none⟩ = some (.int .i64 p2.dist) := cur_cell K_w0.out.now 1
  have c_w0_2 : w6.cell? ⟨bx_w0, 2, none⟩ = some (.int .i64 p2.weight) := cur_cell K_w0.out.now 2
  have c_w0_3 : w6.cell? ⟨bx_w0, 3, none⟩ = some (.string p2.word) := cur_cell K_w0.out.now 3
  have c_w1_0 : w6.cell? ⟨bx_w1, 0, none⟩ = some (.bool q2.live) := cur_cell K_w1.out.now 0
  have c_w1_1 : w6.cell? ⟨bx_w1, 1, none⟩ = some (.int .i64 q2.dist) := cur_cell K_w1.out.now 1
  have c_w1_2 : w6.cell? ⟨bx_w1, 2, none⟩ = some (.int .i64 q2.weight) := cur_cell K_w1.out.now 2
  have c_w1_3 : w6.cell? ⟨bx_w1, 3, none⟩ = some (.string q2.word) := cur_cell K_w1.out.now 3
  have c_g0_0 : w6.cell? ⟨bx_g0, 0, none⟩ = some (.bool p2.live) := cur_cell K_g0.out.now 0
  have c_g0_1 : w6.cell? ⟨bx_g0, 1, none⟩ = some (.int .i64 p2.dist) := cur_cell K_g0.out.now 1
  have c_g0_2 : w6.cell? ⟨bx_g0, 2, none⟩ = some (.int .i64 p2.weight) := cur_cell K_g0.out.now 2
  have c_g0_3 : w6.cell? ⟨bx_g0, 3, none⟩ = some (.string p2.word) := cur_cell K_g0.out.now 3
  have c_g1_0 : w6.cell? ⟨bx_g1, 0, none⟩ = some (.bool q2.live) := cur_cell K_g1.out.now 0
  have c_g1_1 : w6.cell? ⟨bx_g1, 1, none⟩ = some (.int .i64 q2.dist) := cur_cell K_g1.out.now 1
  have c_g1_2 : w6.cell? ⟨bx_g1, 2, none⟩ = some (.int .i64 q2.weight) := cur_cell K_g1.out.now 2
  have c_g1_3 : w6.cell? ⟨bx_g1, 3, none⟩ = some (.string q2.word) := cur_cell K_g1.out.now 3
  go_wp2
  go_ret
  exact ⟨rfl, B.out⟩

set_option maxRecDepth 100000 in
theorem lifted (os : Os) (started : os.Started) (H : Type) (enc : TypeId × Value → H) :
    ReturnsInHanded {} Try.checked os 9 .any (Rows.fnExactRecPairSpec.pre6 enc Try.prog Try.f9 Rows.fnExactRecPairRow.domain false) (Rows.fnExactRecPairSpec.post enc Try.prog Try.f9 false true false false) := by
  refine returnsInHanded_of_change (C := Try.checked) own started (by kernel_rfl) Try.func9
    (ChangeSpec.witness6 (enc := enc) (C := Try.checked) false ⟨#[], #[.agg #[.bool false, .int .i64 0, .int .i64 0, .string ⟨#[]⟩], .agg #[.bool false, .int .i64 0, .int .i64 0, .string ⟨#[]⟩]], []⟩ 8 (by kernel_rfl) (by kernel_rfl) (by kernel_rfl) (by kernel_rfl)) ?_
  intro W base args ds gs before hval0 hW hcnd _
  have hval : ∀ (j : Nat) t v, Try.f9.params[j]? = some t → args[j]? = some v → Value.okWide Try.prog W .any base t v := hval0
  have hW' := hW
  obtain ⟨p, q, hA0, hV, rfl, hfz, hnd⟩ := hW
  have hA : DataW.TrodAll enc Try.prog W 0 (fun _ => true) true Try.f9.params.toList args.toList ds p := hA0
  rw [Try.params9] at hA hval
  obtain ⟨v0, vs0, d0, ds0, p0, q0, hargs, rfl, rfl, h0, r0⟩ := trodAll_cons hA
  obtain ⟨v1, vs1, d1, ds1, p1, q1, rfl, rfl, rfl, h1, r1⟩ := trodAll_cons r0
  obtain ⟨rfl, rfl, rfl⟩ := trodAll_nil r1
  obtain rfl : args = #[v0, v1] := by cases args; simp_all
  obtain ⟨rfl, rfl⟩ := trodVars_none hV
  have lt0 : ∀ x ∈ p0, x.block < W.heap.size := by obtain ⟨m, hm⟩ := h0; exact DataW.trod_lt m _ _ _ hm
  have lt1 : ∀ x ∈ p1, x.block < W.heap.size := by obtain ⟨m, hm⟩ := h1; exact DataW.trod_lt m _ _ _ hm
  clear hA0 hval0
  refine (walk v0 v1 W ⟨⟨base, hval 0 36 v0 rfl rfl⟩, Rd.of h0⟩ ⟨⟨base, hval 1 36 v1 rfl rfl⟩, Rd.of h1⟩).mono fun e W' ⟨he, bel⟩ => ?_
  subst he
  exact ⟨_, rfl, _, _, _, [], _, [], hW', trodAll_mk1 (shut_bool Try.underlying4 _), (trodAll_cons_mk (Below.trod laidOut (by kernel_rfl) (of_decide_eq_true (by kernel_rfl)) h0 bel lt0) (trodAll_cons_mk (Below.trod laidOut (by kernel_rfl) (of_decide_eq_true (by kernel_rfl)) h1 bel lt1) trodAll_mk0)), rfl, bel.frame _, fun h => by cases h⟩

theorem over : Rows.fnExactRecPairRow.holds Try.pinned (OpenSpec.ofChange Rows.fnExactRecPairSpec) :=
  OpenClaim.holds_of_wide 9 Try.f9 rfl rfl rfl rfl rfl rfl rfl ⟨rfl, rfl, rfl, rfl, rfl⟩ rfl rfl rfl rfl rfl (by kernel_rfl) Try.func9 (by kernel_rfl)
    (of_decide_eq_true (by kernel_rfl)) (by unfold Func.isWrapper; first | (rw [if_pos (by decide +kernel)]; kernel_rfl) | (rw [if_neg (by decide +kernel)]; exact ⟨rfl, rfl⟩))
    (fun os started H enc _ => lifted os started H enc)
end Go.Proofs.Ytkcplnmhonhmaaa.fnExactRecPair
namespace Go.Proofs.Ytkcplnmhonhmaaa
/-- RecPair answers as its model, at every argument. -/
theorem fnExactRecPair_holds : Rows.FnExactRecPairSaid := fnExactRecPair.over
end Go.Proofs.Ytkcplnmhonhmaaa
