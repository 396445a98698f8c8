/- For every argument: the law FnExactNumAt answers true, that is, NumAt answers as its model and writes into no argument. No condition. -/
import Derived.Test.YtfdlmpjccoaejaaBase
import Derived.Test.YtfdlmpjccoaejaaReads
import Derived.Test.YtfdlmpjccoaejaaNuU
import Derived.Deep.RegionHeld3
namespace Go.Proofs.Ytfdlmpjccoaejaa.fnExactNumAt
open Go.ChangeShapes Go.WideShapes Go.ChangeAt Go.RowKit
set_option linter.unusedVariables false

set_option maxRecDepth 100000 in
set_option maxHeartbeats 4000000 in
theorem walk (v0 : Value) (v1 : Value) (w : World) (h0 : Arg w 26 v0) (h1 : Arg w 3 v1) :
    Calls Try.prog 9 #[v0, v1] w fun e w' => e = .returned (.bool true) ∧ Below w.heap.size w w' := by
  obtain ⟨d0_0, m0, rfl, i0, b0⟩ := argUint64S h0
  have R_aNums := Lib.hid i0.lies
  obtain ⟨a0, cap0, rfl, _, hx0, _⟩ := uint64SIn_shape i0
  clear i0
  clear h0
  obtain ⟨m1, rfl, b1⟩ := arg_int h1
  clear h1
  have B : Hid (Below w.heap.size w w) := Lib.hid (Below.refl _ _)
  have B0s : 0 ≤ w.heap.size := Nat.zero_le _
  by_cases g0 : 1048576 < m0.length
  · go_enter Try.func9, Try.ntmps9
    go_wp2
    go_ret
    exact ⟨rfl, B.out⟩
  have hs0 : szUint64S m0 ≤ 1048576 := by unfold szUint64S; omega
  go_enter Try.func9, Try.ntmps9
  go_wp2_with fail
  refine (uToUint64S (.slice a0 m0.length cap0) m0 _ hs0 R_aNums.out.now).mono ?_
  rintro e w1 ⟨t0_0, rfl, ho, hb⟩
  obtain ⟨t0_a0, t0_n0, t0_c0, rfl⟩ := ho.shape
  have s_w1 : w.heap.size ≤ w1.heap.size := by have := hb.size; simpa only [size_box, size_drew] using this
  replace B := Lib.hid (below_seq B.out hb)
  replace R_aNums := Lib.hid (R_aNums.out.below hb)
  have A_t0_ := Lib.hid (ho.lies (Nat.le_refl _))
  clear ho hb
  go_wp2_with fail
  refine (uSpecNumAt (.slice t0_a0 t0_n0 t0_c0) m0 m1 _ A_t0_.out.now.read b0).mono ?_
  rintro e w2 ⟨rfl, hb⟩
  clear A_t0_
  have s_w2 : w1.heap.size ≤ w2.heap.size := by have := hb.size; simpa only [size_box, size_drew] using this
  replace B := Lib.hid (below_seq B.out hb)
  replace R_aNums := Lib.hid (R_aNums.out.below hb)
  clear hb
  go_wp2_with fail
  refine (uToUint64S (.slice a0 m0.length cap0) m0 _ hs0 R_aNums.out.now).mono ?_
  rintro e w3 ⟨x00, rfl, ho, hb⟩
  obtain ⟨x0a0, x0n0, x0c0, rfl⟩ := ho.shape
  have s_w3 : w2.heap.size ≤ w3.heap.size := by have := hb.size; simpa only [size_box, size_drew] using this
  replace B := Lib.hid (below_seq B.out hb)
  replace R_aNums := Lib.hid (R_aNums.out.below hb)
  have A_x0 := Lib.hid (ho.lies (Nat.le_refl _))
  clear ho hb
  go_wp2_with fail
  refine (uImplNumAt (.slice x0a0 x0n0 x0c0) m0 m1 _ A_x0.out.now.read b0).mono ?_
  rintro e w4 ⟨rfl, hb⟩
  have s_w4 : w3.heap.size ≤ w4.heap.size := by have := hb.size; simpa only [size_box, size_drew] using this
  replace B := Lib.hid (below_seq B.out hb)
  replace R_aNums := Lib.hid (R_aNums.out.below hb)
  replace A_x0 := Lib.hid (A_x0.out.below hb)
  clear hb
  go_wp2_with fail
  refine (uToUint64S (.slice a0 m0.length cap0) m0 _ hs0 R_aNums.out.now).mono ?_
  rintro e w5 ⟨te4_0, rfl, ho, hb⟩
  obtain ⟨te4_a0, te4_n0, te4_c0, rfl⟩ := ho.shape
  have s_w5 : w4.heap.size ≤ w5.heap.size := by have := hb.size; simpa only [size_box, size_drew] using this
  replace B := Lib.hid (below_seq B.out hb)
  replace R_aNums := Lib.hid (R_aNums.out.below hb)
  replace A_x0 := Lib.hid (A_x0.out.below hb)
  have A_te4_ := Lib.hid (ho.lies (Nat.le_refl _))
  clear ho hb
  go_wp2_with fail
  refine (uEqUint64S (.slice x0a0 x0n0 x0c0) (.slice te4_a0 te4_n0 te4_c0) m0 _ A_x0.out.now.read A_te4_.out.now.read).mono ?_
  rintro e w6 ⟨rfl, hb⟩
  have s_w6 : w5.heap.size ≤ w6.heap.size := by have := hb.size; simpa only [size_box, size_drew] using this
  replace B := Lib.hid (below_seq B.out hb)
  replace R_aNums := Lib.hid (R_aNums.out.below hb)
  replace A_x0 := Lib.hid (A_x0.out.below hb)
  replace A_te4_ := Lib.hid (A_te4_.out.below hb)
  clear hb
  clear A_te4_
  go_wp2
  go_ret
  exact ⟨rfl, B.out⟩

set_option maxRecDepth 100000 in
theorem lifted (os : Os) (started : os.Started) (H : Type) (enc : TypeId × Value → H) :
    ReturnsInHanded {} Try.checked os 9 .any (Rows.fnExactNumAtSpec.pre6 enc Try.prog Try.f9 Rows.fnExactNumAtRow.domain false) (Rows.fnExactNumAtSpec.post enc Try.prog Try.f9 false true false false) := by
  refine returnsInHanded_of_change (C := Try.checked) own started (by kernel_rfl) Try.func9
    (ChangeSpec.witness6 (enc := enc) (C := Try.checked) false ⟨#[], #[.slice none 0 0, .int .i64 0], []⟩ 8 (by kernel_rfl) (by kernel_rfl) (by kernel_rfl) (by kernel_rfl)) ?_
  intro W base args ds gs before hval0 hW hcnd _
  have hval : ∀ (j : Nat) t v, Try.f9.params[j]? = some t → args[j]? = some v → Value.okWide Try.prog W .any base t v := hval0
  have hW' := hW
  obtain ⟨p, q, hA0, hV, rfl, hfz, hnd⟩ := hW
  have hA : DataW.TrodAll enc Try.prog W 0 (fun _ => true) true Try.f9.params.toList args.toList ds p := hA0
  rw [Try.params9] at hA hval
  obtain ⟨v0, vs0, d0, ds0, p0, q0, hargs, rfl, rfl, h0, r0⟩ := trodAll_cons hA
  obtain ⟨v1, vs1, d1, ds1, p1, q1, rfl, rfl, rfl, h1, r1⟩ := trodAll_cons r0
  obtain ⟨rfl, rfl, rfl⟩ := trodAll_nil r1
  obtain rfl : args = #[v0, v1] := by cases args; simp_all
  obtain ⟨rfl, rfl⟩ := trodVars_none hV
  have lt0 : ∀ x ∈ p0, x.block < W.heap.size := by obtain ⟨m, hm⟩ := h0; exact DataW.trod_lt m _ _ _ hm
  have lt1 : ∀ x ∈ p1, x.block < W.heap.size := by obtain ⟨m, hm⟩ := h1; exact DataW.trod_lt m _ _ _ hm
  clear hA0 hval0
  refine (walk v0 v1 W ⟨⟨base, hval 0 26 v0 rfl rfl⟩, Rd.of h0⟩ ⟨⟨base, hval 1 3 v1 rfl rfl⟩, Rd.of h1⟩).mono fun e W' ⟨he, bel⟩ => ?_
  subst he
  exact ⟨_, rfl, _, _, _, [], _, [], hW', trodAll_mk1 (shut_bool Try.underlying4 _), (trodAll_cons_mk (Below.trod laidOut (by kernel_rfl) (of_decide_eq_true (by kernel_rfl)) h0 bel lt0) (trodAll_cons_mk (Below.trod laidOut (by kernel_rfl) (of_decide_eq_true (by kernel_rfl)) h1 bel lt1) trodAll_mk0)), rfl, bel.frame _, fun h => by cases h⟩

theorem over : Rows.fnExactNumAtRow.holds Try.pinned (OpenSpec.ofChange Rows.fnExactNumAtSpec) :=
  OpenClaim.holds_of_wide 9 Try.f9 rfl rfl rfl rfl rfl rfl rfl ⟨rfl, rfl, rfl, rfl, rfl⟩ rfl rfl rfl rfl rfl (by kernel_rfl) Try.func9 (by kernel_rfl)
    (of_decide_eq_true (by kernel_rfl)) (by unfold Func.isWrapper; first | (rw [if_pos (by decide +kernel)]; kernel_rfl) | (rw [if_neg (by decide +kernel)]; exact ⟨rfl, rfl⟩))
    (fun os started H enc _ => lifted os started H enc)
end Go.Proofs.Ytfdlmpjccoaejaa.fnExactNumAt
namespace Go.Proofs.Ytfdlmpjccoaejaa
/-- NumAt answers as its model, at every argument. -/
theorem fnExactNumAt_holds : Rows.FnExactNumAtSaid := fnExactNumAt.over
end Go.Proofs.Ytfdlmpjccoaejaa
