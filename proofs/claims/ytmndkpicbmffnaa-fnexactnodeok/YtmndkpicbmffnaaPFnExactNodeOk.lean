/- For every argument: the law FnExactNodeOk answers true, that is, NodeOk answers as its model and writes into no argument. No condition. -/
import Derived.Test.YtmndkpicbmffnaaBase
import Derived.Test.YtmndkpicbmffnaaReads
import Derived.Test.YtmndkpicbmffnaaTnI
import Derived.Test.YtmndkpicbmffnaaTnR
import Derived.Test.YtmndkpicbmffnaaTnB
import Derived.Deep.RegionHeld3
namespace Go.Proofs.Ytmndkpicbmffnaa.fnExactNodeOk
open Go.ChangeShapes Go.WideShapes Go.ChangeAt Go.RowKit
set_option linter.unusedVariables false
set_option linter.unusedSimpArgs false

set_option maxRecDepth 100000 in
set_option maxHeartbeats 4000000 in
theorem walk (v0 : Value) (v1 : Value) (v2 : Value) (w : World) (h0 : Arg w 50 v0) (h1 : Arg w 3 v1) (h2 : Arg w 3 v2) :
    Calls Try.prog 6 #[v0, v1, v2] w fun e w' => e = .returned (.bool true) ∧ Below w.heap.size w w' := by
  obtain ⟨d0_0, m0, rfl, i0, b0⟩ := argNode h0
  have R_aN := Lib.hid i0.lies
  clear i0
  clear h0
  obtain ⟨m1, rfl, b1⟩ := arg_int h1
  clear h1
  obtain ⟨m2, rfl, b2⟩ := arg_int h2
  clear h2
  have B : Hid (Below w.heap.size w w) := Lib.hid (Below.refl _ _)
  have B0s : 0 ≤ w.heap.size := Nat.zero_le _
  replace B := Lib.hid (below_box B.out (.cells #[d0_0] 50))
  replace R_aN := Lib.hid (R_aN.out.box (.cells #[d0_0] 50))
  have K_aN := Lib.hid (lies_box w (.cells #[d0_0] 50))
  by_cases g0 : 1048576 - (szNode m0 : Int) < 0
  · go_enter Try.func6, Try.ntmps6
    have c_aN_0 : (w.alloc (.cells #[d0_0] 50)).cell? ⟨w.heap.size, 0, none⟩ = some d0_0 := cur_cell K_aN.out.now 0
    go_wp2_with fail
    clear c_aN_0
    refine (uSzNode d0_0 m0 1048576 _ (by omega) (by omega) R_aN.out.now).mono ?_
    rintro e w1 ⟨rfl, hb⟩
    rw [szI_no (by omega)]
    replace B := Lib.hid (below_seq B.out hb)
    replace R_aN := Lib.hid (R_aN.out.below hb)
    replace K_aN := Lib.hid (K_aN.out.below hb)
    clear hb
    go_wp2
    go_ret
    exact ⟨rfl, B.out⟩
  have hs0 : szNode m0 ≤ 1048576 := by omega
  have hm0 : mcNode m0 ≤ 1000000000000 := mcNode_le hs0
  go_enter Try.func6, Try.ntmps6
  have c_aN_0 : (w.alloc (.cells #[d0_0] 50)).cell? ⟨w.heap.size, 0, none⟩ = some d0_0 := cur_cell K_aN.out.now 0
  go_wp2_with fail
  clear c_aN_0
  refine (uSzNode d0_0 m0 1048576 _ (by omega) (by omega) R_aN.out.now).mono ?_
  rintro e w1 ⟨rfl, hb⟩
  rw [szI_yes (by omega)]
  have s_w1 : w.heap.size + 1 ≤ w1.heap.size := by have := hb.size; simpa only [size_box, size_drew] using this
  replace B := Lib.hid (below_seq B.out hb)
  replace R_aN := Lib.hid (R_aN.out.below hb)
  replace K_aN := Lib.hid (K_aN.out.below hb)
  clear hb
  have c_aN_0 : w1.cell? ⟨w.heap.size, 0, none⟩ = some d0_0 := cur_cell K_aN.out.now 0
  go_wp2_with fail
  clear c_aN_0
  refine (uToNode d0_0 m0 _ hs0 R_aN.out.now).mono ?_
  rintro e w2 ⟨t1_0, rfl, ho, hb⟩
  obtain ⟨t1_a0, t1_n0, t1_c0, rfl⟩ := ho.shape
  have s_w2 : w1.heap.size ≤ w2.heap.size := by have := hb.size; simpa only [size_box, size_drew] using this
  replace B := Lib.hid (below_seq B.out hb)
  replace R_aN := Lib.hid (R_aN.out.below hb)
  replace K_aN := Lib.hid (K_aN.out.below hb)
  have A_t1_ := Lib.hid (ho.lies (Nat.le_refl _))
  clear ho hb
  have c_aN_0 : w2.cell? ⟨w.heap.size, 0, none⟩ = some d0_0 := cur_cell K_aN.out.now 0
  go_wp2_with fail
  clear c_aN_0
  refine (uSpecNodeOk (.slice t1_a0 t1_n0 t1_c0) m0 m1 m2 _ A_t1_.out.now.read).mono ?_
  rintro e w3 ⟨rfl, hb⟩
  clear A_t1_
  have s_w3 : w2.heap.size ≤ w3.heap.size := by have := hb.size; simpa only [size_box, size_drew] using this
  replace B := Lib.hid (below_seq B.out hb)
  replace R_aN := Lib.hid (R_aN.out.below hb)
  replace K_aN := Lib.hid (K_aN.out.below hb)
  clear hb
  have c_aN_0 : w3.cell? ⟨w.heap.size, 0, none⟩ = some d0_0 := cur_cell K_aN.out.now 0
  go_wp2_with fail
  clear c_aN_0
  refine (uToNode d0_0 m0 _ hs0 R_aN.out.now).mono ?_
  rintro e w4 ⟨x00, rfl, ho, hb⟩
  obtain ⟨x0a0, x0n0, x0c0, rfl⟩ := ho.shape
  have s_w4 : w3.heap.size ≤ w4.heap.size := by have := hb.size; simpa only [size_box, size_drew] using this
  replace B := Lib.hid (below_seq B.out hb)
  replace R_aN := Lib.hid (R_aN.out.below hb)
  replace K_aN := Lib.hid (K_aN.out.below hb)
  have A_x0 := Lib.hid (ho.lies (Nat.le_refl _))
  clear ho hb
  replace B := Lib.hid (below_box B.out (.cells #[.slice x0a0 x0n0 x0c0] 26))
  replace R_aN := Lib.hid (R_aN.out.box (.cells #[.slice x0a0 x0n0 x0c0] 26))
  replace K_aN := Lib.hid (K_aN.out.box (.cells #[.slice x0a0 x0n0 x0c0] 26))
  replace A_x0 := Lib.hid (A_x0.out.box (.cells #[.slice x0a0 x0n0 x0c0] 26))
  have K_x0 := Lib.hid (lies_box w4 (.cells #[.slice x0a0 x0n0 x0c0] 26))
  have c_aN_0 : (w4.alloc (.cells #[.slice x0a0 x0n0 x0c0] 26)).cell? ⟨w.heap.size, 0, none⟩ = some d0_0 := cur_cell K_aN.out.now 0
  have c_x0_0 : (w4.alloc (.cells #[.slice x0a0 x0n0 x0c0] 26)).cell? ⟨w4.heap.size, 0, none⟩ = some (.slice x0a0 x0n0 x0c0) := cur_cell K_x0.out.now 0
  go_wp2_with fail
  clear c_aN_0 c_x0_0
  refine (uImplNodeOk (.slice x0a0 x0n0 x0c0) m0 m1 m2 _ A_x0.out.now.read).mono ?_
  rintro e w5 ⟨rfl, hb⟩
  have s_w5 : w4.heap.size + 1 ≤ w5.heap.size := by have := hb.size; simpa only [size_box, size_drew] using this
  replace B := Lib.hid (below_seq B.out hb)
  replace R_aN := Lib.hid (R_aN.out.below hb)
  replace K_aN := Lib.hid (K_aN.out.below hb)
  replace A_x0 := Lib.hid (A_x0.out.below hb)
  replace K_x0 := Lib.hid (K_x0.out.below hb)
  clear hb
  have c_aN_0 : w5.cell? ⟨w.heap.size, 0, none⟩ = some d0_0 := cur_cell K_aN.out.now 0
  have c_x0_0 : w5.cell? ⟨w4.heap.size, 0, none⟩ = some (.slice x0a0 x0n0 x0c0) := cur_cell K_x0.out.now 0
  go_wp2_with fail
  replace B := Lib.hid (below_drew B.out)
  replace R_aN := Lib.hid R_aN.out.drew
  replace K_aN := Lib.hid K_aN.out.drew
  replace A_x0 := Lib.hid A_x0.out.drew
  replace K_x0 := Lib.hid K_x0.out.drew
  go_region_held3 (fun w' => w'.cell? ⟨w.heap.size, 0, none⟩ = some d0_0 ∧ w'.cell? ⟨w4.heap.size, 0, none⟩ = some (.slice x0a0 x0n0 x0c0))
    (first | go_keep | exact ⟨cur_cell K_aN.out.now 0, cur_cell K_x0.out.now 0⟩)
    (first
      | (go_at_call 29; refine (uToNode d0_0 m0 _ hs0 R_aN.out.now).mono ?_; rintro e w6 ⟨tt7_0, rfl, ho, hb⟩; have A_tt := Lib.hid (ho.lies (Nat.le_refl _)); have s_w6 : w5.heap.size ≤ w6.heap.size := (by have := hb.size; simpa only [size_box, size_drew] using this); replace B := Lib.hid (below_seq B.out hb); replace R_aN := Lib.hid (R_aN.out.below hb); replace K_aN := Lib.hid (K_aN.out.below hb); replace A_x0 := Lib.hid (A_x0.out.below hb); replace K_x0 := Lib.hid (K_x0.out.below hb); clear ho hb)
      | (go_at_call 31; refine (uEqNode (.slice x0a0 x0n0 x0c0) tt7_0 m0 _ A_x0.out.now.read A_tt.out.now.read).mono ?_; rintro e w7 ⟨rfl, hb⟩; have s_w7 : w6.heap.size ≤ w7.heap.size := hb.size; replace B := Lib.hid (below_seq B.out hb); replace R_aN := Lib.hid (R_aN.out.below hb); replace K_aN := Lib.hid (K_aN.out.below hb); replace A_x0 := Lib.hid (A_x0.out.below hb); replace K_x0 := Lib.hid (K_x0.out.below hb); clear hb A_tt))
  clear c_aN_0 c_x0_0
  have c_aN_0 : w7.cell? ⟨w.heap.size, 0, none⟩ = some d0_0 := cur_cell K_aN.out.now 0
  have c_x0_0 : w7.cell? ⟨w4.heap.size, 0, none⟩ = some (.slice x0a0 x0n0 x0c0) := cur_cell K_x0.out.now 0
  go_wp2
  go_ret
  exact ⟨rfl, B.out⟩

set_option maxRecDepth 100000 in
theorem lifted (os : Os) (started : os.Started) (H : Type) (enc : TypeId × Value → H) :
    ReturnsInHanded {} Try.checked os 6 .any (Rows.fnExactNodeOkSpec.pre6 enc Try.prog Try.f6 Rows.fnExactNodeOkRow.domain false) (Rows.fnExactNodeOkSpec.post enc Try.prog Try.f6 false true false false) := by
  refine returnsInHanded_of_change (C := Try.checked) own started (by kernel_rfl) Try.func6
    (ChangeSpec.witness6 (enc := enc) (C := Try.checked) false ⟨#[], #[.agg #[.slice none 0 0], .int .i64 0, .int .i64 0], []⟩ 8 (by kernel_rfl) (by kernel_rfl) (by kernel_rfl) (by kernel_rfl)) ?_
  intro W base args ds gs before hval0 hW hcnd _
  have hval : ∀ (j : Nat) t v, Try.f6.params[j]? = some t → args[j]? = some v → Value.okWide Try.prog W .any base t v := hval0
  have hW' := hW
  obtain ⟨p, q, hA0, hV, rfl, hfz, hnd⟩ := hW
  have hA : DataW.TrodAll enc Try.prog W 0 (fun _ => true) true Try.f6.params.toList args.toList ds p := hA0
  rw [Try.params6] at hA hval
  obtain ⟨v0, vs0, d0, ds0, p0, q0, hargs, rfl, rfl, h0, r0⟩ := trodAll_cons hA
  obtain ⟨v1, vs1, d1, ds1, p1, q1, rfl, rfl, rfl, h1, r1⟩ := trodAll_cons r0
  obtain ⟨v2, vs2, d2, ds2, p2, q2, rfl, rfl, rfl, h2, r2⟩ := trodAll_cons r1
  obtain ⟨rfl, rfl, rfl⟩ := trodAll_nil r2
  obtain rfl : args = #[v0, v1, v2] := by cases args; simp_all
  obtain ⟨rfl, rfl⟩ := trodVars_none hV
  have lt0 : ∀ x ∈ p0, x.block < W.heap.size := by obtain ⟨m, hm⟩ := h0; exact DataW.trod_lt m _ _ _ hm
  have lt1 : ∀ x ∈ p1, x.block < W.heap.size := by obtain ⟨m, hm⟩ := h1; exact DataW.trod_lt m _ _ _ hm
  have lt2 : ∀ x ∈ p2, x.block < W.heap.size := by obtain ⟨m, hm⟩ := h2; exact DataW.trod_lt m _ _ _ hm
  clear hA0 hval0
  refine (walk v0 v1 v2 W ⟨⟨base, hval 0 50 v0 rfl rfl⟩, Rd.of h0⟩ ⟨⟨base, hval 1 3 v1 rfl rfl⟩, Rd.of h1⟩ ⟨⟨base, hval 2 3 v2 rfl rfl⟩, Rd.of h2⟩).mono fun e W' ⟨he, bel⟩ => ?_
  subst he
  exact ⟨_, rfl, _, _, _, [], _, [], hW', trodAll_mk1 (shut_bool Try.underlying4 _), (trodAll_cons_mk (Below.trod laidOut (by kernel_rfl) (of_decide_eq_true (by kernel_rfl)) h0 bel lt0) (trodAll_cons_mk (Below.trod laidOut (by kernel_rfl) (of_decide_eq_true (by kernel_rfl)) h1 bel lt1) (trodAll_cons_mk (Below.trod laidOut (by kernel_rfl) (of_decide_eq_true (by kernel_rfl)) h2 bel lt2) trodAll_mk0))), rfl, bel.frame _, fun h => by cases h⟩

theorem over : Rows.fnExactNodeOkRow.holds Try.pinned (OpenSpec.ofChange Rows.fnExactNodeOkSpec) :=
  OpenClaim.holds_of_wide 6 Try.f6 rfl rfl rfl rfl rfl rfl rfl ⟨rfl, rfl, rfl, rfl, rfl⟩ rfl rfl rfl rfl rfl (by kernel_rfl) Try.func6 (by kernel_rfl)
    (of_decide_eq_true (by kernel_rfl)) (by unfold Func.isWrapper; first | (rw [if_pos (by decide +kernel)]; kernel_rfl) | (rw [if_neg (by decide +kernel)]; exact ⟨rfl, rfl⟩))
    (fun os started H enc _ => lifted os started H enc)
end Go.Proofs.Ytmndkpicbmffnaa.fnExactNodeOk
namespace Go.Proofs.Ytmndkpicbmffnaa
/-- NodeOk answers as its model, at every argument. -/
theorem fnExactNodeOk_holds : Rows.FnExactNodeOkSaid := fnExactNodeOk.over
end Go.Proofs.Ytmndkpicbmffnaa
