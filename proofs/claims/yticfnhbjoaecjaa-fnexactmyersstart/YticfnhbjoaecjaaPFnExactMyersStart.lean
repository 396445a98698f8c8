/- For every string: the law FnExactMyersStart answers true, that is, MyersStart answers as its model. No condition. -/
import Derived.Test.YticfnhbjoaecjaaBase
import Derived.Test.YticfnhbjoaecjaaMyX
namespace Go.Proofs.Yticfnhbjoaecjaa.fnExactMyersStart
open Go.ChangeShapes Go.WideShapes Go.ChangeAt Go.RowKit
set_option linter.unusedVariables false

set_option maxRecDepth 100000 in
set_option maxHeartbeats 1000000 in
theorem walk (v0 : Value) (w : World) (h0 : Arg w 9 v0) :
    Calls Try.prog 8 #[v0] w fun e w' => e = .returned (.bool true) ∧ Below w.heap.size w w' := by
  obtain ⟨p, rfl, hp⟩ := arg_string h0
  clear h0
  have SP := Lib.hid (fun w => specStart p w hp)
  have IP := Lib.hid (fun w => implStart p w hp)
  generalize startZ p.data.toList = m at *
  obtain ⟨m1, m2, m3, m4⟩ := m
  have EQ := Lib.hid (fun w => lawsEqBits m1 m2 m3 m4 w)
  unfold bV at SP IP
  unfold bitsV at *
  unfold maxLen at hp
  by_cases hg : 1048576 < p.size
  · go_enter Try.func8, Try.ntmps8
    go_wp2
    go_ret
    exact ⟨rfl, Below.refl _ _⟩
  go_enter Try.func8, Try.ntmps8
  go_wp2_with fail
  refine (SP.out _).mono ?_
  rintro e w1 ⟨rfl, hb1⟩
  have B1 := Lib.hid hb1
  clear hb1
  go_wp2_with fail
  refine (IP.out _).mono ?_
  rintro e w2 ⟨rfl, hb2⟩
  have K2 := Lib.hid (kept_block (alloc_at w1 (.cells #[.int .u64 m1, .int .u64 m2, .int .i64 m3, .int .i64 m4] 32) _ rfl) hb2)
  have B2 := Lib.hid (below_seq (below_box B1.out _) hb2)
  clear hb2 B1
  have K3 := Lib.hid ((alloc_old w2 (.cells #[.int .u64 m1, .int .u64 m2, .int .i64 m3, .int .i64 m4] 32) _ (cur_lt K2.out)).trans K2.out)
  have c0 := cur_cell K3.out 0
  have c1 := cur_cell K3.out 1
  have c2 := cur_cell K3.out 2
  have c3 := cur_cell K3.out 3
  simp at c0 c1 c2 c3
  go_wp2_with fail
  refine (EQ.out _).mono ?_
  rintro e w3 ⟨rfl, hb3⟩
  have B3 := Lib.hid (below_seq (below_box B2.out _) hb3)
  clear hb3 B2
  go_wp2
  go_ret
  exact ⟨rfl, B3.out⟩

set_option maxRecDepth 100000 in
theorem lifted (os : Os) (started : os.Started) (H : Type) (enc : TypeId × Value → H) :
    ReturnsInHanded {} Try.checked os 8 .any (Rows.fnExactMyersStartSpec.pre6 enc Try.prog Try.f8 Rows.fnExactMyersStartRow.domain false) (Rows.fnExactMyersStartSpec.post enc Try.prog Try.f8 false true false false) := by
  refine returnsInHanded_of_change (C := Try.checked) own started (by kernel_rfl) Try.func8
    (ChangeSpec.witness6 (enc := enc) (C := Try.checked) false ⟨#[], #[.string ⟨#[]⟩], []⟩ 8 (by kernel_rfl) (by kernel_rfl) (by kernel_rfl) (by kernel_rfl)) ?_
  intro W base args ds gs before hval0 hW hcnd _
  have hval : ∀ (j : Nat) t v, Try.f8.params[j]? = some t → args[j]? = some v → Value.okWide Try.prog W .any base t v := hval0
  have hW' := hW
  obtain ⟨p, q, hA0, hV, rfl, hfz, hnd⟩ := hW
  have hA : DataW.TrodAll enc Try.prog W 0 (fun _ => true) true Try.f8.params.toList args.toList ds p := hA0
  rw [Try.params8] at hA hval
  obtain ⟨v0, vs0, d0, ds0, p0, q0, hargs, rfl, rfl, h0, r0⟩ := trodAll_cons hA
  obtain ⟨rfl, rfl, rfl⟩ := trodAll_nil r0
  obtain rfl : args = #[v0] := by cases args; simp_all
  obtain ⟨rfl, rfl⟩ := trodVars_none hV
  have lt0 : ∀ x ∈ p0, x.block < W.heap.size := by obtain ⟨m, hm⟩ := h0; exact DataW.trod_lt m _ _ _ hm
  clear hA0 hval0
  refine (walk v0 W ⟨⟨base, hval 0 9 v0 rfl rfl⟩, Rd.of h0⟩).mono fun e W' ⟨he, bel⟩ => ?_
  subst he
  exact ⟨_, rfl, _, _, _, [], _, [], hW', trodAll_mk1 (shut_bool Try.underlying4 _), (trodAll_cons_mk (Below.trod laidOut (by kernel_rfl) (of_decide_eq_true (by kernel_rfl)) h0 bel lt0) trodAll_mk0), rfl, bel.frame _, fun h => by cases h⟩

theorem over : Rows.fnExactMyersStartRow.holds Try.pinned (OpenSpec.ofChange Rows.fnExactMyersStartSpec) :=
  OpenClaim.holds_of_wide 8 Try.f8 rfl rfl rfl rfl rfl rfl rfl ⟨rfl, rfl, rfl, rfl, rfl⟩ rfl rfl rfl rfl rfl (by kernel_rfl) Try.func8 (by kernel_rfl)
    (of_decide_eq_true (by kernel_rfl)) (by unfold Func.isWrapper; first | (rw [if_pos (by decide +kernel)]; kernel_rfl) | (rw [if_neg (by decide +kernel)]; exact ⟨rfl, rfl⟩))
    (fun os started H enc _ => lifted os started H enc)
end Go.Proofs.Yticfnhbjoaecjaa.fnExactMyersStart
namespace Go.Proofs.Yticfnhbjoaecjaa
/-- MyersStart answers as its model, at every string. -/
theorem fnExactMyersStart_holds : Rows.FnExactMyersStartSaid := fnExactMyersStart.over
end Go.Proofs.Yticfnhbjoaecjaa
