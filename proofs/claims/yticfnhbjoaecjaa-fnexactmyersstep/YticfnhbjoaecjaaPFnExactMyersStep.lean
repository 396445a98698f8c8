/- For every column, valid or not, and every number: the law FnExactMyersStep answers true, that is, MyersStep answers as its model. No condition. -/
import Derived.Test.YticfnhbjoaecjaaBase
import Derived.Test.YticfnhbjoaecjaaMyX
namespace Go.Proofs.Yticfnhbjoaecjaa.fnExactMyersStep
open Go.ChangeShapes Go.WideShapes Go.ChangeAt Go.RowKit
set_option linter.unusedVariables false

set_option maxRecDepth 100000 in
set_option maxHeartbeats 1000000 in
theorem walk (v0 : Value) (v1 : Value) (w : World) (h0 : Arg w 39 v0) (h1 : Arg w 30 v1) :
    Calls Try.prog 9 #[v0, v1] w fun e w' => e = .returned (.bool true) ∧ Below w.heap.size w w' := by
  obtain ⟨pv, mv, sc, ln, rfl, k1, k2, k3, k4⟩ := argBits h0
  obtain ⟨q, rfl, hq⟩ := arg_uint64 h1
  have TB := Lib.hid (fun w => lawsToBits pv mv sc ln w)
  have SP := Lib.hid (fun w => specMyersStep pv mv q sc ln w k1 k2 k3 k4 hq)
  have IP := Lib.hid (fun w => implMyersStep pv mv q sc ln w k1 k2 k3 k4 hq)
  clear h0 h1 k1 k2 k3 k4
  generalize bstep pv mv sc ln q = m at *
  obtain ⟨m1, m2, m3, m4⟩ := m
  have EQ := Lib.hid (fun w => lawsEqBits m1 m2 m3 m4 w)
  unfold bV at SP IP
  unfold bitsV at *
  go_enter Try.func9, Try.ntmps9
  go_wp2_with fail
  refine (TB.out _).mono ?_
  rintro e w1 ⟨rfl, hb1⟩
  have K1 := Lib.hid (And.intro (kept_block (alloc_at w (.cells #[.int .u64 pv, .int .u64 mv, .int .i64 sc, .int .i64 ln] 39) _ rfl) hb1) (below_seq (below_box (Below.refl w.heap.size w) _) hb1))
  clear hb1
  go_wp2_with fail
  refine (SP.out _).mono ?_
  rintro e w2 ⟨rfl, hb2⟩
  have K2 := Lib.hid (And.intro ((alloc_old w2 (.cells #[.int .u64 m1, .int .u64 m2, .int .i64 m3, .int .i64 m4] 32) _ (cur_lt (kept_block K1.out.1 hb2))).trans (kept_block K1.out.1 hb2)) (below_box (below_seq K1.out.2 hb2) (.cells #[.int .u64 m1, .int .u64 m2, .int .i64 m3, .int .i64 m4] 32)))
  have c0 := cur_cell K2.out.1 0
  have c1 := cur_cell K2.out.1 1
  have c2 := cur_cell K2.out.1 2
  have c3 := cur_cell K2.out.1 3
  simp at c0 c1 c2 c3
  clear hb2 K1
  go_wp2_with fail
  refine (TB.out _).mono ?_
  rintro e w3 ⟨rfl, hb3⟩
  have K3 := Lib.hid (And.intro (kept_block (alloc_at w2 (.cells #[.int .u64 m1, .int .u64 m2, .int .i64 m3, .int .i64 m4] 32) _ rfl) hb3) (below_seq K2.out.2 hb3))
  clear hb3 K2 c0 c1 c2 c3
  go_wp2_with fail
  refine (IP.out _).mono ?_
  rintro e w4 ⟨rfl, hb4⟩
  have K4 := Lib.hid (And.intro ((alloc_old w4 (.cells #[.int .u64 m1, .int .u64 m2, .int .i64 m3, .int .i64 m4] 32) _ (cur_lt (kept_block K3.out.1 hb4))).trans (kept_block K3.out.1 hb4)) (below_box (below_seq K3.out.2 hb4) (.cells #[.int .u64 m1, .int .u64 m2, .int .i64 m3, .int .i64 m4] 32)))
  have c0 := cur_cell K4.out.1 0
  have c1 := cur_cell K4.out.1 1
  have c2 := cur_cell K4.out.1 2
  have c3 := cur_cell K4.out.1 3
  simp at c0 c1 c2 c3
  clear hb4 K3
  go_wp2_with fail
  refine (EQ.out _).mono ?_
  rintro e w5 ⟨rfl, hb5⟩
  have K5 := Lib.hid (below_seq K4.out.2 hb5)
  clear hb5 K4
  go_wp2
  go_ret
  exact ⟨rfl, K5.out⟩

set_option maxRecDepth 100000 in
theorem lifted (os : Os) (started : os.Started) (H : Type) (enc : TypeId × Value → H) :
    ReturnsInHanded {} Try.checked os 9 .any (Rows.fnExactMyersStepSpec.pre6 enc Try.prog Try.f9 Rows.fnExactMyersStepRow.domain false) (Rows.fnExactMyersStepSpec.post enc Try.prog Try.f9 false true false false) := by
  refine returnsInHanded_of_change (C := Try.checked) own started (by kernel_rfl) Try.func9
    (ChangeSpec.witness6 (enc := enc) (C := Try.checked) false ⟨#[], #[.agg #[.int .u64 0, .int .u64 0, .int .i64 0, .int .i64 0], .int .u64 0], []⟩ 8 (by kernel_rfl) (by kernel_rfl) (by kernel_rfl) (by kernel_rfl)) ?_
  intro W base args ds gs before hval0 hW hcnd _
  have hval : ∀ (j : Nat) t v, Try.f9.params[j]? = some t → args[j]? = some v → Value.okWide Try.prog W .any base t v := hval0
  have hW' := hW
  obtain ⟨p, q, hA0, hV, rfl, hfz, hnd⟩ := hW
  have hA : DataW.TrodAll enc Try.prog W 0 (fun _ => true) true Try.f9.params.toList args.toList ds p := hA0
  rw [Try.params9] at hA hval
  obtain ⟨v0, vs0, d0, ds0, p0, q0, hargs, rfl, rfl, h0, r0⟩ := trodAll_cons hA
  obtain ⟨v1, vs1, d1, ds1, p1, q1, rfl, rfl, rfl, h1, r1⟩ := trodAll_cons r0
  obtain ⟨rfl, rfl, rfl⟩ := trodAll_nil r1
  obtain rfl : args = #[v0, v1] := by cases args; simp_all
  obtain ⟨rfl, rfl⟩ := trodVars_none hV
  have lt0 : ∀ x ∈ p0, x.block < W.heap.size := by obtain ⟨m, hm⟩ := h0; exact DataW.trod_lt m _ _ _ hm
  have lt1 : ∀ x ∈ p1, x.block < W.heap.size := by obtain ⟨m, hm⟩ := h1; exact DataW.trod_lt m _ _ _ hm
  clear hA0 hval0
  refine (walk v0 v1 W ⟨⟨base, hval 0 39 v0 rfl rfl⟩, Rd.of h0⟩ ⟨⟨base, hval 1 30 v1 rfl rfl⟩, Rd.of h1⟩).mono fun e W' ⟨he, bel⟩ => ?_
  subst he
  exact ⟨_, rfl, _, _, _, [], _, [], hW', trodAll_mk1 (shut_bool Try.underlying4 _), (trodAll_cons_mk (Below.trod laidOut (by kernel_rfl) (of_decide_eq_true (by kernel_rfl)) h0 bel lt0) (trodAll_cons_mk (Below.trod laidOut (by kernel_rfl) (of_decide_eq_true (by kernel_rfl)) h1 bel lt1) trodAll_mk0)), rfl, bel.frame _, fun h => by cases h⟩

theorem over : Rows.fnExactMyersStepRow.holds Try.pinned (OpenSpec.ofChange Rows.fnExactMyersStepSpec) :=
  OpenClaim.holds_of_wide 9 Try.f9 rfl rfl rfl rfl rfl rfl rfl ⟨rfl, rfl, rfl, rfl, rfl⟩ rfl rfl rfl rfl rfl (by kernel_rfl) Try.func9 (by kernel_rfl)
    (of_decide_eq_true (by kernel_rfl)) (by unfold Func.isWrapper; first | (rw [if_pos (by decide +kernel)]; kernel_rfl) | (rw [if_neg (by decide +kernel)]; exact ⟨rfl, rfl⟩))
    (fun os started H enc _ => lifted os started H enc)
end Go.Proofs.Yticfnhbjoaecjaa.fnExactMyersStep
namespace Go.Proofs.Yticfnhbjoaecjaa
/-- MyersStep answers as its model, at every column and number. -/
theorem fnExactMyersStep_holds : Rows.FnExactMyersStepSaid := fnExactMyersStep.over
end Go.Proofs.Yticfnhbjoaecjaa
