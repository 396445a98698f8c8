/- For every argument: the law FnExactRecOk answers true, that is, RecOk answers as its model and writes into no argument. No condition. -/
import Derived.Test.YtkcplnmhonhmaaaBase
import Derived.Test.YtkcplnmhonhmaaaReads
import Derived.Test.YtkcplnmhonhmaaaRecW
import Derived.Test.YtkcplnmhonhmaaaRecK
import Derived.Deep.RegionHeld3
namespace Go.Proofs.Ytkcplnmhonhmaaa.fnExactRecOk
open Go.ChangeShapes Go.WideShapes Go.ChangeAt Go.RowKit
set_option linter.unusedVariables false

set_option maxRecDepth 100000 in
set_option maxHeartbeats 4000000 in
theorem walk (v0 : Value) (w : World) (h0 : Arg w 36 v0) :
    Calls Try.prog 5 #[v0] w fun e w' => e = .returned (.bool true) ∧ Below w.heap.size w w' := by
  obtain ⟨d0_0, d0_1, d0_2, d0_3, m0, rfl, i0, b0⟩ := argRec h0
  have R_aR := Lib.hid i0.lies
  clear i0
  clear h0
  have B : Hid (Below w.heap.size w w) := Lib.hid (Below.refl _ _)
  have B0s : 0 ≤ w.heap.size := Nat.zero_le _
  replace B := Lib.hid (below_box B.out (.cells #[d0_0, d0_1, d0_2, d0_3] 36))
  replace R_aR := Lib.hid (R_aR.out.box (.cells #[d0_0, d0_1, d0_2, d0_3] 36))
  have K_aR := Lib.hid (lies_box w (.cells #[d0_0, d0_1, d0_2, d0_3] 36))
  by_cases g0 : 1048576 - (szRec m0 : Int) < 0
  · go_enter Try.func5, Try.ntmps5
    have c_aR_0 : (w.alloc (.cells #[d0_0, d0_1, d0_2, d0_3] 36)).cell? ⟨w.heap.size, 0, none⟩ = some d0_0 := cur_cell K_aR.out.now 0
    have c_aR_1 : (w.alloc (.cells #[d0_0, d0_1, d0_2, d0_3] 36)).cell? ⟨w.heap.size, 1, none⟩ = some d0_1 := cur_cell K_aR.out.now 1
    have c_aR_2 : (w.alloc (.cells #[d0_0, d0_1, d0_2, d0_3] 36)).cell? ⟨w.heap.size, 2, none⟩ = some d0_2 := cur_cell K_aR.out.now 2
    have c_aR_3 : (w.alloc (.cells #[d0_0, d0_1, d0_2, d0_3] 36)).cell? ⟨w.heap.size, 3, none⟩ = some d0_3 := cur_cell K_aR.out.now 3
    go_wp2_with fail
    clear c_aR_0 c_aR_1 c_aR_2 c_aR_3
    refine (uSzRec d0_0 d0_1 d0_2 d0_3 m0 1048576 _ (by omega) (by omega) R_aR.out.now b0).mono ?_
    rintro e w1 ⟨rfl, hb⟩
    rw [szI_no (by omega)]
    replace B := Lib.hid (below_seq B.out hb)
    replace R_aR := Lib.hid (R_aR.out.below hb)
    replace K_aR := Lib.hid (K_aR.out.below hb)
    clear hb
    go_wp2
    go_ret
    exact ⟨rfl, B.out⟩
  have hs0 : szRec m0 ≤ 1048576 := by omega
  go_enter Try.func5, Try.ntmps5
  have c_aR_0 : (w.alloc (.cells #[d0_0, d0_1, d0_2, d0_3] 36)).cell? ⟨w.heap.size, 0, none⟩ = some d0_0 := cur_cell K_aR.out.now 0
  have c_aR_1 : (w.alloc (.cells #[d0_0, d0_1, d0_2, d0_3] 36)).cell? ⟨w.heap.size, 1, none⟩ = some d0_1 := cur_cell K_aR.out.now 1
  have c_aR_2 : (w.alloc (.cells #[d0_0, d0_1, d0_2, d0_3] 36)).cell? ⟨w.heap.size, 2, none⟩ = some d0_2 := cur_cell K_aR.out.now 2
  have c_aR_3 : (w.alloc (.cells #[d0_0, d0_1, d0_2, d0_3] 36)).cell? ⟨w.heap.size, 3, none⟩ = some d0_3 := cur_cell K_aR.out.now 3
  go_wp2_with fail
  clear c_aR_0 c_aR_1 c_aR_2 c_aR_3
  refine (uSzRec d0_0 d0_1 d0_2 d0_3 m0 1048576 _ (by omega) (by omega) R_aR.out.now b0).mono ?_
  rintro e w1 ⟨rfl, hb⟩
  rw [szI_yes (by omega)]
  have s_w1 : w.heap.size + 1 ≤ w1.heap.size := by have := hb.size; simpa only [size_box, size_drew] using this
  replace B := Lib.hid (below_seq B.out hb)
  replace R_aR := Lib.hid (R_aR.out.below hb)
  replace K_aR := Lib.hid (K_aR.out.below hb)
  clear hb
  have c_aR_0 : w1.cell? ⟨w.heap.size, 0, none⟩ = some d0_0 := cur_cell K_aR.out.now 0
  have c_aR_1 : w1.cell? ⟨w.heap.size, 1, none⟩ = some d0_1 := cur_cell K_aR.out.now 1
  have c_aR_2 : w1.cell? ⟨w.heap.size, 2, none⟩ = some d0_2 := cur_cell K_aR.out.now 2
  have c_aR_3 : w1.cell? ⟨w.heap.size, 3, none⟩ = some d0_3 := cur_cell K_aR.out.now 3
  go_wp2_with fail
  clear c_aR_0 c_aR_1 c_aR_2 c_aR_3
  refine (uToRec d0_0 d0_1 d0_2 d0_3 m0 _ hs0 R_aR.out.now).mono ?_
  rintro e w2 ⟨t1_0, t1_1, t1_2, t1_3, rfl, ho, hb⟩
  obtain ⟨t1_b0, t1_z1, t1_z2, t1_t3, rfl, rfl, rfl, rfl⟩ := ho.shape
  have s_w2 : w1.heap.size ≤ w2.heap.size := by have := hb.size; simpa only [size_box, size_drew] using this
  replace B := Lib.hid (below_seq B.out hb)
  replace R_aR := Lib.hid (R_aR.out.below hb)
  replace K_aR := Lib.hid (K_aR.out.below hb)
  have A_t1_ := Lib.hid (ho.lies (Nat.le_refl _))
  clear ho hb
  have c_aR_0 : w2.cell? ⟨w.heap.size, 0, none⟩ = some d0_0 := cur_cell K_aR.out.now 0
  have c_aR_1 : w2.cell? ⟨w.heap.size, 1, none⟩ = some d0_1 := cur_cell K_aR.out.now 1
  have c_aR_2 : w2.cell? ⟨w.heap.size, 2, none⟩ = some d0_2 := cur_cell K_aR.out.now 2
  have c_aR_3 : w2.cell? ⟨w.heap.size, 3, none⟩ = some d0_3 := cur_cell K_aR.out.now 3
  go_wp2_with fail
  clear c_aR_0 c_aR_1 c_aR_2 c_aR_3
  refine (uSpecRecOk (.bool t1_b0) (.int .i64 t1_z1) (.int .i64 t1_z2) (.string t1_t3) m0 _ A_t1_.out.now.read b0).mono ?_
  rintro e w3 ⟨rfl, hb⟩
  clear A_t1_
  have s_w3 : w2.heap.size ≤ w3.heap.size := by have := hb.size; simpa only [size_box, size_drew] using this
  replace B := Lib.hid (below_seq B.out hb)
  replace R_aR := Lib.hid (R_aR.out.below hb)
  replace K_aR := Lib.hid (K_aR.out.below hb)
  clear hb
  have c_aR_0 : w3.cell? ⟨w.heap.size, 0, none⟩ = some d0_0 := cur_cell K_aR.out.now 0
  have c_aR_1 : w3.cell? ⟨w.heap.size, 1, none⟩ = some d0_1 := cur_cell K_aR.out.now 1
  have c_aR_2 : w3.cell? ⟨w.heap.size, 2, none⟩ = some d0_2 := cur_cell K_aR.out.now 2
  have c_aR_3 : w3.cell? ⟨w.heap.size, 3, none⟩ = some d0_3 := cur_cell K_aR.out.now 3
  go_wp2_with fail
  clear c_aR_0 c_aR_1 c_aR_2 c_aR_3
  refine (uToRec d0_0 d0_1 d0_2 d0_3 m0 _ hs0 R_aR.out.now).mono ?_
  rintro e w4 ⟨t3_0, t3_1, t3_2, t3_3, rfl, ho, hb⟩
  obtain ⟨t3_b0, t3_z1, t3_z2, t3_t3, rfl, rfl, rfl, rfl⟩ := ho.shape
  have s_w4 : w3.heap.size ≤ w4.heap.size := by have := hb.size; simpa only [size_box, size_drew] using this
  replace B := Lib.hid (below_seq B.out hb)
  replace R_aR := Lib.hid (R_aR.out.below hb)
  replace K_aR := Lib.hid (K_aR.out.below hb)
  have A_t3_ := Lib.hid (ho.lies (Nat.le_refl _))
  clear ho hb
  have c_aR_0 : w4.cell? ⟨w.heap.size, 0, none⟩ = some d0_0 := cur_cell K_aR.out.now 0
  have c_aR_1 : w4.cell? ⟨w.heap.size, 1, none⟩ = some d0_1 := cur_cell K_aR.out.now 1
  have c_aR_2 : w4.cell? ⟨w.heap.size, 2, none⟩ = some d0_2 := cur_cell K_aR.out.now 2
  have c_aR_3 : w4.cell? ⟨w.heap.size, 3, none⟩ = some d0_3 := cur_cell K_aR.out.now 3
  go_wp2_with fail
  clear c_aR_0 c_aR_1 c_aR_2 c_aR_3
  refine (uImplRecOk (.bool t3_b0) (.int .i64 t3_z1) (.int .i64 t3_z2) (.string t3_t3) m0 _ A_t3_.out.now.read b0).mono ?_
  rintro e w5 ⟨rfl, hb⟩
  clear A_t3_
  have s_w5 : w4.heap.size ≤ w5.heap.size := by have := hb.size; simpa only [size_box, size_drew] using this
  replace B := Lib.hid (below_seq B.out hb)
  replace R_aR := Lib.hid (R_aR.out.below hb)
  replace K_aR := Lib.hid (K_aR.out.below hb)
  clear hb
  have c_aR_0 : w5.cell? ⟨w.heap.size, 0, none⟩ = some d0_0 := cur_cell K_aR.out.now 0
  have c_aR_1 : w5.cell? ⟨w.heap.size, 1, none⟩ = some d0_1 := cur_cell K_aR.out.now 1
  have c_aR_2 : w5.cell? ⟨w.heap.size, 2, none⟩ = some d0_2 := cur_cell K_aR.out.now 2
  have c_aR_3 : w5.cell? ⟨w.heap.size, 3, none⟩ = some d0_3 := cur_cell K_aR.out.now 3
  go_wp2
  go_ret
  exact ⟨rfl, B.out⟩

set_option maxRecDepth 100000 in
theorem lifted (os : Os) (started : os.Started) (H : Type) (enc : TypeId × Value → H) :
    ReturnsInHanded {} Try.checked os 5 .any (Rows.fnExactRecOkSpec.pre6 enc Try.prog Try.f5 Rows.fnExactRecOkRow.domain false) (Rows.fnExactRecOkSpec.post enc Try.prog Try.f5 false true false false) := by
  refine returnsInHanded_of_change (C := Try.checked) own started (by kernel_rfl) Try.func5
    (ChangeSpec.witness6 (enc := enc) (C := Try.checked) false ⟨#[], #[.agg #[.bool false, .int .i64 0, .int .i64 0, .string ⟨#[]⟩]], []⟩ 8 (by kernel_rfl) (by kernel_rfl) (by kernel_rfl) (by kernel_rfl)) ?_
  intro W base args ds gs before hval0 hW hcnd _
  have hval : ∀ (j : Nat) t v, Try.f5.params[j]? = some t → args[j]? = some v → Value.okWide Try.prog W .any base t v := hval0
  have hW' := hW
  obtain ⟨p, q, hA0, hV, rfl, hfz, hnd⟩ := hW
  have hA : DataW.TrodAll enc Try.prog W 0 (fun _ => true) true Try.f5.params.toList args.toList ds p := hA0
  rw [Try.params5] at hA hval
  obtain ⟨v0, vs0, d0, ds0, p0, q0, hargs, rfl, rfl, h0, r0⟩ := trodAll_cons hA
  obtain ⟨rfl, rfl, rfl⟩ := trodAll_nil r0
  obtain rfl : args = #[v0] := by cases args; simp_all
  obtain ⟨rfl, rfl⟩ := trodVars_none hV
  have lt0 : ∀ x ∈ p0, x.block < W.heap.size := by obtain ⟨m, hm⟩ := h0; exact DataW.trod_lt m _ _ _ hm
  clear hA0 hval0
  refine (walk v0 W ⟨⟨base, hval 0 36 v0 rfl rfl⟩, Rd.of h0⟩).mono fun e W' ⟨he, bel⟩ => ?_
  subst he
  exact ⟨_, rfl, _, _, _, [], _, [], hW', trodAll_mk1 (shut_bool Try.underlying4 _), (trodAll_cons_mk (Below.trod laidOut (by kernel_rfl) (of_decide_eq_true (by kernel_rfl)) h0 bel lt0) trodAll_mk0), rfl, bel.frame _, fun h => by cases h⟩

theorem over : Rows.fnExactRecOkRow.holds Try.pinned (OpenSpec.ofChange Rows.fnExactRecOkSpec) :=
  OpenClaim.holds_of_wide 5 Try.f5 rfl rfl rfl rfl rfl rfl rfl ⟨rfl, rfl, rfl, rfl, rfl⟩ rfl rfl rfl rfl rfl (by kernel_rfl) Try.func5 (by kernel_rfl)
    (of_decide_eq_true (by kernel_rfl)) (by unfold Func.isWrapper; first | (rw [if_pos (by decide +kernel)]; kernel_rfl) | (rw [if_neg (by decide +kernel)]; exact ⟨rfl, rfl⟩))
    (fun os started H enc _ => lifted os started H enc)
end Go.Proofs.Ytkcplnmhonhmaaa.fnExactRecOk
namespace Go.Proofs.Ytkcplnmhonhmaaa
/-- RecOk answers as its model, at every argument. -/
theorem fnExactRecOk_holds : Rows.FnExactRecOkSaid := fnExactRecOk.over
end Go.Proofs.Ytkcplnmhonhmaaa
