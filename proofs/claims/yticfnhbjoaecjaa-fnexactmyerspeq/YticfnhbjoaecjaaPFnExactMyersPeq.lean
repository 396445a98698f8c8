/- For every string and byte: the law FnExactMyersPeq answers true, that is, MyersPeq answers as its model. No condition. -/
import Derived.Test.YticfnhbjoaecjaaBase
import Derived.Test.YticfnhbjoaecjaaMyX
namespace Go.Proofs.Yticfnhbjoaecjaa.fnExactMyersPeq
open Go.ChangeShapes Go.WideShapes Go.ChangeAt Go.RowKit
set_option linter.unusedVariables false

set_option maxRecDepth 100000 in
set_option maxHeartbeats 1000000 in
theorem walk (v0 : Value) (v1 : Value) (w : World) (h0 : Arg w 9 v0) (h1 : Arg w 5 v1) :
    Calls Try.prog 7 #[v0, v1] w fun e w' => e = .returned (.bool true) ∧ Below w.heap.size w w' := by
  obtain ⟨p, rfl, hp⟩ := arg_string h0
  obtain ⟨z, rfl, hz⟩ := h1.int Try.underlying5
  have hz2 : 0 ≤ z ∧ z ≤ 255 := by simpa using bounds_u8 hz
  obtain ⟨b, hb⟩ : ∃ b : UInt8, z = (b.toNat : Int) := ⟨UInt8.ofNat z.toNat, by rw [UInt8.toNat_ofNat']; omega⟩
  subst hb
  clear h0 h1 hz hz2
  have SP := Lib.hid (fun w => specPeq p b w hp)
  have IP := Lib.hid (fun w => implPeq p b w hp)
  generalize peqZ p.data.toList b = q at *
  unfold maxLen at hp
  by_cases hg : 1048576 < p.size
  · go_enter Try.func7, Try.ntmps7
    go_wp2
    go_ret
    exact ⟨rfl, Below.refl _ _⟩
  go_enter Try.func7, Try.ntmps7
  go_wp2_with fail
  refine (SP.out _).mono ?_
  rintro e w1 ⟨rfl, rfl⟩
  go_wp2_with fail
  refine (IP.out _).mono ?_
  rintro e w1 ⟨rfl, n, rfl⟩
  have hq : ((q : Int) != (q : Int)) = false := by simp
  go_wp2
  go_ret
  exact ⟨rfl, belowN n⟩

set_option maxRecDepth 100000 in
theorem lifted (os : Os) (started : os.Started) (H : Type) (enc : TypeId × Value → H) :
    ReturnsInHanded {} Try.checked os 7 .any (Rows.fnExactMyersPeqSpec.pre6 enc Try.prog Try.f7 Rows.fnExactMyersPeqRow.domain false) (Rows.fnExactMyersPeqSpec.post enc Try.prog Try.f7 false true false false) := by
  refine returnsInHanded_of_change (C := Try.checked) own started (by kernel_rfl) Try.func7
    (ChangeSpec.witness6 (enc := enc) (C := Try.checked) false ⟨#[], #[.string ⟨#[]⟩, .int .u8 0], []⟩ 8 (by kernel_rfl) (by kernel_rfl) (by kernel_rfl) (by kernel_rfl)) ?_
  intro W base args ds gs before hval0 hW hcnd _
  have hval : ∀ (j : Nat) t v, Try.f7.params[j]? = some t → args[j]? = some v → Value.okWide Try.prog W .any base t v := hval0
  have hW' := hW
  obtain ⟨p, q, hA0, hV, rfl, hfz, hnd⟩ := hW
  have hA : DataW.TrodAll enc Try.prog W 0 (fun _ => true) true Try.f7.params.toList args.toList ds p := hA0
  rw [Try.params7] at hA hval
  obtain ⟨v0, vs0, d0, ds0, p0, q0, hargs, rfl, rfl, h0, r0⟩ := trodAll_cons hA
  obtain ⟨v1, vs1, d1, ds1, p1, q1, rfl, rfl, rfl, h1, r1⟩ := trodAll_cons r0
  obtain ⟨rfl, rfl, rfl⟩ := trodAll_nil r1
  obtain rfl : args = #[v0, v1] := by cases args; simp_all
  obtain ⟨rfl, rfl⟩ := trodVars_none hV
  have lt0 : ∀ x ∈ p0, x.block < W.heap.size := by obtain ⟨m, hm⟩ := h0; exact DataW.trod_lt m _ _ _ hm
  have lt1 : ∀ x ∈ p1, x.block < W.heap.size := by obtain ⟨m, hm⟩ := h1; exact DataW.trod_lt m _ _ _ hm
  clear hA0 hval0
  refine (walk v0 v1 W ⟨⟨base, hval 0 9 v0 rfl rfl⟩, Rd.of h0⟩ ⟨⟨base, hval 1 5 v1 rfl rfl⟩, Rd.of h1⟩).mono fun e W' ⟨he, bel⟩ => ?_
  subst he
  exact ⟨_, rfl, _, _, _, [], _, [], hW', trodAll_mk1 (shut_bool Try.underlying4 _), (trodAll_cons_mk (Below.trod laidOut (by kernel_rfl) (of_decide_eq_true (by kernel_rfl)) h0 bel lt0) (trodAll_cons_mk (Below.trod laidOut (by kernel_rfl) (of_decide_eq_true (by kernel_rfl)) h1 bel lt1) trodAll_mk0)), rfl, bel.frame _, fun h => by cases h⟩

theorem over : Rows.fnExactMyersPeqRow.holds Try.pinned (OpenSpec.ofChange Rows.fnExactMyersPeqSpec) :=
  OpenClaim.holds_of_wide 7 Try.f7 rfl rfl rfl rfl rfl rfl rfl ⟨rfl, rfl, rfl, rfl, rfl⟩ rfl rfl rfl rfl rfl (by kernel_rfl) Try.func7 (by kernel_rfl)
    (of_decide_eq_true (by kernel_rfl)) (by unfold Func.isWrapper; first | (rw [if_pos (by decide +kernel)]; kernel_rfl) | (rw [if_neg (by decide +kernel)]; exact ⟨rfl, rfl⟩))
    (fun os started H enc _ => lifted os started H enc)
end Go.Proofs.Yticfnhbjoaecjaa.fnExactMyersPeq
namespace Go.Proofs.Yticfnhbjoaecjaa
/-- MyersPeq answers as its model, at every string and byte. -/
theorem fnExactMyersPeq_holds : Rows.FnExactMyersPeqSaid := fnExactMyersPeq.over
end Go.Proofs.Yticfnhbjoaecjaa
