/- For every argument: the law FnExactNetSorts answers true, that is, NetSorts answers as its model and writes into no argument. No condition. -/
import Derived.Test.YtkifndcfmmdkpaaBase
import Derived.Test.YtkifndcfmmdkpaaReads
import Derived.Test.YtkifndcfmmdkpaaNeH
import Derived.Deep.RegionHeld3
namespace Go.Proofs.Ytkifndcfmmdkpaa.fnExactNetSorts
open Go.ChangeShapes Go.WideShapes Go.ChangeAt Go.RowKit
set_option linter.unusedVariables false

set_option maxRecDepth 100000 in
set_option maxHeartbeats 4000000 in
theorem walk (v0 : Value) (w : World) (h0 : Arg w 47 v0) :
    Calls Try.prog 10 #[v0] w fun e w' => e = .returned (.bool true) ∧ Below w.heap.size w w' := by
  obtain ⟨d0_0, d0_1, m0, rfl, i0, b0⟩ := argNet h0
  have R_aN := Lib.hid i0.lies
  clear i0
  clear h0
  have B : Hid (Below w.heap.size w w) := Lib.hid (Below.refl _ _)
  have B0s : 0 ≤ w.heap.size := Nat.zero_le _
  replace B := Lib.hid (below_box B.out (.cells #[d0_0, d0_1] 47))
  replace R_aN := Lib.hid (R_aN.out.box (.cells #[d0_0, d0_1] 47))
  have K_aN := Lib.hid (lies_box w (.cells #[d0_0, d0_1] 47))
  by_cases g0 : 1048576 - (szNet m0 : Int) < 0
  · go_enter Try.func10, Try.ntmps10
    have c_aN_0 : (w.alloc (.cells #[d0_0, d0_1] 47)).cell? ⟨w.heap.size, 0, none⟩ = some d0_0 := cur_cell K_aN.out.now 0
    have c_aN_1 : (w.alloc (.cells #[d0_0, d0_1] 47)).cell? ⟨w.heap.size, 1, none⟩ = some d0_1 := cur_cell K_aN.out.now 1
    go_wp2_with fail
    clear c_aN_0 c_aN_1
    refine (uSzNet d0_0 d0_1 m0 1048576 _ (by omega) (by omega) R_aN.out.now).mono ?_
    rintro e w1 ⟨rfl, hb⟩
    rw [szI_no (by omega)]
    replace B := Lib.hid (below_seq B.out hb)
    replace R_aN := Lib.hid (R_aN.out.below hb)
    replace K_aN := Lib.hid (K_aN.out.below hb)
    clear hb
    go_wp2
    go_ret
    exact ⟨rfl, B.out⟩
  have hs0 : szNet m0 ≤ 1048576 := by omega
  have hm0 : mcNet m0 ≤ 1000000000000 := mcNet_le hs0
  go_enter Try.func10, Try.ntmps10
  have c_aN_0 : (w.alloc (.cells #[d0_0, d0_1] 47)).cell? ⟨w.heap.size, 0, none⟩ = some d0_0 := cur_cell K_aN.out.now 0
  have c_aN_1 : (w.alloc (.cells #[d0_0, d0_1] 47)).cell? ⟨w.heap.size, 1, none⟩ = some d0_1 := cur_cell K_aN.out.now 1
  go_wp2_with fail
  clear c_aN_0 c_aN_1
  refine (uSzNet d0_0 d0_1 m0 1048576 _ (by omega) (by omega) R_aN.out.now).mono ?_
  rintro e w1 ⟨rfl, hb⟩
  rw [szI_yes (by omega)]
  have s_w1 : w.heap.size + 1 ≤ w1.heap.size := by have := hb.size; simpa only [size_box, size_drew] using this
  replace B := Lib.hid (below_seq B.out hb)
  replace R_aN := Lib.hid (R_aN.out.below hb)
  replace K_aN := Lib.hid (K_aN.out.below hb)
  clear hb
  have c_aN_0 : w1.cell? ⟨w.heap.size, 0, none⟩ = some d0_0 := cur_cell K_aN.out.now 0
  have c_aN_1 : w1.cell? ⟨w.heap.size, 1, none⟩ = some d0_1 := cur_cell K_aN.out.now 1
  go_wp2_with fail
  clear c_aN_0 c_aN_1
  refine (uToNet d0_0 d0_1 m0 _ hs0 R_aN.out.now).mono ?_
  rintro e w2 ⟨t1_0, t1_1, rfl, ho, hb⟩
  obtain ⟨t1_z0, t1_a1, t1_n1, t1_c1, rfl, rfl⟩ := ho.shape
  have s_w2 : w1.heap.size ≤ w2.heap.size := by have := hb.size; simpa only [size_box, size_drew] using this
  replace B := Lib.hid (below_seq B.out hb)
  replace R_aN := Lib.hid (R_aN.out.below hb)
  replace K_aN := Lib.hid (K_aN.out.below hb)
  have A_t1_ := Lib.hid (ho.lies (Nat.le_refl _))
  clear ho hb
  have c_aN_0 : w2.cell? ⟨w.heap.size, 0, none⟩ = some d0_0 := cur_cell K_aN.out.now 0
  have c_aN_1 : w2.cell? ⟨w.heap.size, 1, none⟩ = some d0_1 := cur_cell K_aN.out.now 1
  go_wp2_with fail
  clear c_aN_0 c_aN_1
  refine (uSpecNetSorts (.int .i64 t1_z0) (.slice t1_a1 t1_n1 t1_c1) m0 _ A_t1_.out.now.read).mono ?_
  rintro e w3 ⟨rfl, hb⟩
  clear A_t1_
  have s_w3 : w2.heap.size ≤ w3.heap.size := by have := hb.size; simpa only [size_box, size_drew] using this
  replace B := Lib.hid (below_seq B.out hb)
  replace R_aN := Lib.hid (R_aN.out.below hb)
  replace K_aN := Lib.hid (K_aN.out.below hb)
  clear hb
  have c_aN_0 : w3.cell? ⟨w.heap.size, 0, none⟩ = some d0_0 := cur_cell K_aN.out.now 0
  have c_aN_1 : w3.cell? ⟨w.heap.size, 1, none⟩ = some d0_1 := cur_cell K_aN.out.now 1
  go_wp2_with fail
  clear c_aN_0 c_aN_1
  refine (uToNet d0_0 d0_1 m0 _ hs0 R_aN.out.now).mono ?_
  rintro e w4 ⟨x00, x01, rfl, ho, hb⟩
  obtain ⟨x0z0, x0a1, x0n1, x0c1, rfl, rfl⟩ := ho.shape
  have s_w4 : w3.heap.size ≤ w4.heap.size := by have := hb.size; simpa only [size_box, size_drew] using this
  replace B := Lib.hid (below_seq B.out hb)
  replace R_aN := Lib.hid (R_aN.out.below hb)
  replace K_aN := Lib.hid (K_aN.out.below hb)
  have A_x0 := Lib.hid (ho.lies (Nat.le_refl _))
  clear ho hb
  replace B := Lib.hid (below_box B.out (.cells #[.int .i64 x0z0, .slice x0a1 x0n1 x0c1] 26))
  replace R_aN := Lib.hid (R_aN.out.box (.cells #[.int .i64 x0z0, .slice x0a1 x0n1 x0c1] 26))
  replace K_aN := Lib.hid (K_aN.out.box (.cells #[.int .i64 x0z0, .slice x0a1 x0n1 x0c1] 26))
  replace A_x0 := Lib.hid (A_x0.out.box (.cells #[.int .i64 x0z0, .slice x0a1 x0n1 x0c1] 26))
  have K_x0 := Lib.hid (lies_box w4 (.cells #[.int .i64 x0z0, .slice x0a1 x0n1 x0c1] 26))
  have c_aN_0 : (w4.alloc (.cells #[.int .i64 x0z0, .slice x0a1 x0n1 x0c1] 26)).cell? ⟨w.heap.size, 0, none⟩ = some d0_0 := cur_cell K_aN.out.now 0
  have c_aN_1 : (w4.alloc (.cells #[.int .i64 x0z0, .slice x0a1 x0n1 x0c1] 26)).cell? ⟨w.heap.size, 1, none⟩ = some d0_1 := cur_cell K_aN.out.now 1
  have c_x0_0 : (w4.alloc (.cells #[.int .i64 x0z0, .slice x0a1 x0n1 x0c1] 26)).cell? ⟨w4.heap.size, 0, none⟩ = some (.int .i64 x0z0) := cur_cell K_x0.out.now 0
  have c_x0_1 : (w4.alloc (.cells #[.int .i64 x0z0, .slice x0a1 x0n1 x0c1] 26)).cell? ⟨w4.heap.size, 1, none⟩ = some (.slice x0a1 x0n1 x0c1) := cur_cell K_x0.out.now 1
  go_wp2_with fail
  clear c_aN_0 c_aN_1 c_x0_0 c_x0_1
  refine (uImplNetSorts (.int .i64 x0z0) (.slice x0a1 x0n1 x0c1) m0 _ A_x0.out.now.read).mono ?_
  rintro e w5 ⟨rfl, hb⟩
  have s_w5 : w4.heap.size + 1 ≤ w5.heap.size := by have := hb.size; simpa only [size_box, size_drew] using this
  replace B := Lib.hid (below_seq B.out hb)
  replace R_aN := Lib.hid (R_aN.out.below hb)
  replace K_aN := Lib.hid (K_aN.out.below hb)
  replace A_x0 := Lib.hid (A_x0.out.below hb)
  replace K_x0 := Lib.hid (K_x0.out.below hb)
  clear hb
  have c_aN_0 : w5.cell? ⟨w.heap.size, 0, none⟩ = some d0_0 := cur_cell K_aN.out.now 0
  have c_aN_1 : w5.cell? ⟨w.heap.size, 1, none⟩ = some d0_1 := cur_cell K_aN.out.now 1
  have c_x0_0 : w5.cell? ⟨w4.heap.size, 0, none⟩ = some (.int .i64 x0z0) := cur_cell K_x0.out.now 0
  have c_x0_1 : w5.cell? ⟨w4.heap.size, 1, none⟩ = some (.slice x0a1 x0n1 x0c1) := cur_cell K_x0.out.now 1
  go_wp2_with fail
  replace B := Lib.hid (below_drew B.out)
  replace R_aN := Lib.hid R_aN.out.drew
  replace K_aN := Lib.hid K_aN.out.drew
  replace A_x0 := Lib.hid A_x0.out.drew
  replace K_x0 := Lib.hid K_x0.out.drew
  go_region_held3 (fun w' => w'.cell? ⟨w.heap.size, 0, none⟩ = some d0_0 ∧ w'.cell? ⟨w.heap.size, 1, none⟩ = some d0_1 ∧ w'.cell? ⟨w4.heap.size, 0, none⟩ = some (.int .i64 x0z0) ∧ w'.cell? ⟨w4.heap.size, 1, none⟩ = some (.slice x0a1 x0n1 x0c1))
    (first | go_keep | exact ⟨cur_cell K_aN.out.now 0, cur_cell K_aN.out.now 1, cur_cell K_x0.out.now 0, cur_cell K_x0.out.now 1⟩)
    (first
      | (go_at_call 36; refine (uToNet d0_0 d0_1 m0 _ hs0 R_aN.out.now).mono ?_; rintro e w6 ⟨tt7_0, tt7_1, rfl, ho, hb⟩; have A_tt := Lib.hid (ho.lies (Nat.le_refl _)); have s_w6 : w5.heap.size ≤ w6.heap.size := (by have := hb.size; simpa only [size_box, size_drew] using this); replace B := Lib.hid (below_seq B.out hb); replace R_aN := Lib.hid (R_aN.out.below hb); replace K_aN := Lib.hid (K_aN.out.below hb); replace A_x0 := Lib.hid (A_x0.out.below hb); replace K_x0 := Lib.hid (K_x0.out.below hb); clear ho hb)
      | (go_at_call 38; refine (uEqNet (.int .i64 x0z0) (.slice x0a1 x0n1 x0c1) tt7_0 tt7_1 m0 _ A_x0.out.now.read A_tt.out.now.read).mono ?_; rintro e w7 ⟨rfl, hb⟩; have s_w7 : w6.heap.size ≤ w7.heap.size := hb.size; replace B := Lib.hid (below_seq B.out hb); replace R_aN := Lib.hid (R_aN.out.below hb); replace K_aN := Lib.hid (K_aN.out.below hb); replace A_x0 := Lib.hid (A_x0.out.below hb); replace K_x0 := Lib.hid (K_x0.out.below hb); clear hb A_tt))
  clear c_aN_0 c_aN_1 c_x0_0 c_x0_1
  have c_aN_0 : w7.cell? ⟨w.heap.size, 0, none⟩ = some d0_0 := cur_cell K_aN.out.now 0
  have c_aN_1 : w7.cell? ⟨w.heap.size, 1, none⟩ = some d0_1 := cur_cell K_aN.out.now 1
  have c_x0_0 : w7.cell? ⟨w4.heap.size, 0, none⟩ = some (.int .i64 x0z0) := cur_cell K_x0.out.now 0
  have c_x0_1 : w7.cell? ⟨w4.heap.size, 1, none⟩ = some (.slice x0a1 x0n1 x0c1) := cur_cell K_x0.out.now 1
  go_wp2
  go_ret
  exact ⟨rfl, B.out⟩

set_option maxRecDepth 100000 in
theorem lifted (os : Os) (started : os.Started) (H : Type) (enc : TypeId × Value → H) :
    ReturnsInHanded {} Try.checked os 10 .any (Rows.fnExactNetSortsSpec.pre6 enc Try.prog Try.f10 Rows.fnExactNetSortsRow.domain false) (Rows.fnExactNetSortsSpec.post enc Try.prog Try.f10 false true false false) := by
  refine returnsInHanded_of_change (C := Try.checked) own started (by kernel_rfl) Try.func10
    (ChangeSpec.witness6 (enc := enc) (C := Try.checked) false ⟨#[], #[.agg #[.int .i64 0, .slice none 0 0]], []⟩ 8 (by kernel_rfl) (by kernel_rfl) (by kernel_rfl) (by kernel_rfl)) ?_
  intro W base args ds gs before hval0 hW hcnd _
  have hval : ∀ (j : Nat) t v, Try.f10.params[j]? = some t → args[j]? = some v → Value.okWide Try.prog W .any base t v := hval0
  have hW' := hW
  obtain ⟨p, q, hA0, hV, rfl, hfz, hnd⟩ := hW
  have hA : DataW.TrodAll enc Try.prog W 0 (fun _ => true) true Try.f10.params.toList args.toList ds p := hA0
  rw [Try.params10] at hA hval
  obtain ⟨v0, vs0, d0, ds0, p0, q0, hargs, rfl, rfl, h0, r0⟩ := trodAll_cons hA
  obtain ⟨rfl, rfl, rfl⟩ := trodAll_nil r0
  obtain rfl : args = #[v0] := by cases args; simp_all
  obtain ⟨rfl, rfl⟩ := trodVars_none hV
  have lt0 : ∀ x ∈ p0, x.block < W.heap.size := by obtain ⟨m, hm⟩ := h0; exact DataW.trod_lt m _ _ _ hm
  clear hA0 hval0
  refine (walk v0 W ⟨⟨base, hval 0 47 v0 rfl rfl⟩, Rd.of h0⟩).mono fun e W' ⟨he, bel⟩ => ?_
  subst he
  exact ⟨_, rfl, _, _, _, [], _, [], hW', trodAll_mk1 (shut_bool Try.underlying4 _), (trodAll_cons_mk (Below.trod laidOut (by kernel_rfl) (of_decide_eq_true (by kernel_rfl)) h0 bel lt0) trodAll_mk0), rfl, bel.frame _, fun h => by cases h⟩

theorem over : Rows.fnExactNetSortsRow.holds Try.pinned (OpenSpec.ofChange Rows.fnExactNetSortsSpec) :=
  OpenClaim.holds_of_wide 10 Try.f10 rfl rfl rfl rfl rfl rfl rfl ⟨rfl, rfl, rfl, rfl, rfl⟩ rfl rfl rfl rfl rfl (by kernel_rfl) Try.func10 (by kernel_rfl)
    (of_decide_eq_true (by kernel_rfl)) (by unfold Func.isWrapper; first | (rw [if_pos (by decide +kernel)]; kernel_rfl) | (rw [if_neg (by decide +kernel)]; exact ⟨rfl, rfl⟩))
    (fun os started H enc _ => lifted os started H enc)
end Go.Proofs.Ytkifndcfmmdkpaa.fnExactNetSorts
namespace Go.Proofs.Ytkifndcfmmdkpaa
/-- NetSorts answers as its model, at every argument. -/
theorem fnExactNetSorts_holds : Rows.FnExactNetSortsSaid := fnExactNetSorts.over
end Go.Proofs.Ytkifndcfmmdkpaa
