/- For every column, valid or not: the law FnExactBitsOk answers true, that is, BitsOk answers as its model. No condition. -/
import Derived.Test.YticfnhbjoaecjaaBase
import Derived.Test.YticfnhbjoaecjaaMyX
namespace Go.Proofs.Yticfnhbjoaecjaa.fnExactBitsOk
open Go.ChangeShapes Go.WideShapes Go.ChangeAt Go.RowKit
set_option linter.unusedVariables false

set_option maxRecDepth 100000 in
set_option maxHeartbeats 1000000 in
theorem walk (v0 : Value) (w : World) (h0 : Arg w 39 v0) :
    Calls Try.prog 5 #[v0] w fun e w' => e = .returned (.bool true) ∧ Below w.heap.size w w' := by
  obtain ⟨pv, mv, sc, ln, rfl, h1, h2, h3, h4⟩ := argBits h0
  have TB := Lib.hid (fun w => lawsToBits pv mv sc ln w)
  have SB := Lib.hid (fun w => specBitsOk pv mv sc ln w h1 h2 h3 h4)
  have IB := Lib.hid (fun w => implBitsOk pv mv sc ln w h1 h2 h3 h4)
  clear h0 h1 h2 h3 h4
  generalize okB pv mv sc ln = o at *
  unfold bitsV at *
  go_enter Try.func5, Try.ntmps5
  go_wp2_with fail
  refine (TB.out _).mono ?_
  rintro e w1 ⟨rfl, hb1⟩
  have K1 := Lib.hid (And.intro (kept_block (alloc_at w (.cells #[.int .u64 pv, .int .u64 mv, .int .i64 sc, .int .i64 ln] 39) _ rfl) hb1) (below_seq (below_box (Below.refl w.heap.size w) _) hb1))
  clear hb1
  go_wp2_with fail
  refine (SB.out _).mono ?_
  rintro e w2 ⟨rfl, hb2⟩
  have K2 := Lib.hid (And.intro (kept_block K1.out.1 hb2) (below_seq K1.out.2 hb2))
  clear hb2 K1
  have c0 := cur_cell K2.out.1 0
  have c1 := cur_cell K2.out.1 1
  have c2 := cur_cell K2.out.1 2
  have c3 := cur_cell K2.out.1 3
  simp at c0 c1 c2 c3
  go_wp2_with fail
  refine (TB.out _).mono ?_
  rintro e w3 ⟨rfl, hb3⟩
  have K3 := Lib.hid (below_seq K2.out.2 hb3)
  clear hb3 K2 c0 c1 c2 c3
  go_wp2_with fail
  refine (IB.out _).mono ?_
  rintro e w4 ⟨rfl, hb4⟩
  have K4 := Lib.hid (below_seq K3.out hb4)
  clear hb4 K3
  have hq : (o != o) = false := by simp
  go_wp2
  go_ret
  exact ⟨rfl, K4.out⟩

set_option maxRecDepth 100000 in
theorem lifted (os : Os) (started : os.Started) (H : Type) (enc : TypeId × Value → H) :
    ReturnsInHanded {} Try.checked os 5 .any (Rows.fnExactBitsOkSpec.pre6 enc Try.prog Try.f5 Rows.fnExactBitsOkRow.domain false) (Rows.fnExactBitsOkSpec.post enc Try.prog Try.f5 false true false false) := by
  refine returnsInHanded_of_change (C := Try.checked) own started (by kernel_rfl) Try.func5
    (ChangeSpec.witness6 (enc := enc) (C := Try.checked) false ⟨#[], #[.agg #[.int .u64 0, .int .u64 0, .int .i64 0, .int .i64 0]], []⟩ 8 (by kernel_rfl) (by kernel_rfl) (by kernel_rfl) (by kernel_rfl)) ?_
  intro W base args ds gs before hval0 hW hcnd _
  have hval : ∀ (j : Nat) t v, Try.f5.params[j]? = some t → args[j]? = some v → Value.okWide Try.prog W .any base t v := hval0
  have hW' := hW
  obtain ⟨p, q, hA0, hV, rfl, hfz, hnd⟩ := hW
  have hA : DataW.TrodAll enc Try.prog W 0 (fun _ => true) true Try.f5.params.toList args.toList ds p := hA0
  rw [Try.params5] at hA hval
  obtain ⟨v0, vs0, d0, ds0, p0, q0, hargs, rfl, rfl, h0, r0⟩ := trodAll_cons hA
  obtain ⟨rfl, rfl, rfl⟩ := trodAll_nil r0
  obtain rfl : args = #[v0] := by cases args; simp_all
  obtain ⟨rfl, rfl⟩ := trodVars_none hV
  have lt0 : ∀ x ∈ p0, x.block < W.heap.size := by obtain ⟨m, hm⟩ := h0; exact DataW.trod_lt m _ _ _ hm
  clear hA0 hval0
  refine (walk v0 W ⟨⟨base, hval 0 39 v0 rfl rfl⟩, Rd.of h0⟩).mono fun e W' ⟨he, bel⟩ => ?_
  subst he
  exact ⟨_, rfl, _, _, _, [], _, [], hW', trodAll_mk1 (shut_bool Try.underlying4 _), (trodAll_cons_mk (Below.trod laidOut (by kernel_rfl) (of_decide_eq_true (by kernel_rfl)) h0 bel lt0) trodAll_mk0), rfl, bel.frame _, fun h => by cases h⟩

theorem over : Rows.fnExactBitsOkRow.holds Try.pinned (OpenSpec.ofChange Rows.fnExactBitsOkSpec) :=
  OpenClaim.holds_of_wide 5 Try.f5 rfl rfl rfl rfl rfl rfl rfl ⟨rfl, rfl, rfl, rfl, rfl⟩ rfl rfl rfl rfl rfl (by kernel_rfl) Try.func5 (by kernel_rfl)
    (of_decide_eq_true (by kernel_rfl)) (by unfold Func.isWrapper; first | (rw [if_pos (by decide +kernel)]; kernel_rfl) | (rw [if_neg (by decide +kernel)]; exact ⟨rfl, rfl⟩))
    (fun os started H enc _ => lifted os started H enc)
end Go.Proofs.Yticfnhbjoaecjaa.fnExactBitsOk
namespace Go.Proofs.Yticfnhbjoaecjaa
/-- BitsOk answers as its model, at every column. -/
theorem fnExactBitsOk_holds : Rows.FnExactBitsOkSaid := fnExactBitsOk.over
end Go.Proofs.Yticfnhbjoaecjaa
