/- For every argument: the law FnExactPathNodes answers true, that is, PathNodes answers as its model and writes into no argument; its answer owns its memory. No condition. -/
import Derived.Test.YtabldmhjkggmjaaBase
import Derived.Test.YtabldmhjkggmjaaReads
import Derived.Test.YtabldmhjkggmjaaTrS
import Derived.Test.YtabldmhjkggmjaaTrI
import Derived.Deep.RegionHeld3
namespace Go.Proofs.Ytabldmhjkggmjaa.fnExactPathNodes
open Go.ChangeShapes Go.WideShapes Go.ChangeAt Go.RowKit
set_option linter.unusedVariables false
set_option linter.unusedSimpArgs false

set_option maxRecDepth 100000 in
set_option maxHeartbeats 4000000 in
theorem walk (v0 : Value) (v1 : Value) (w : World) (h0 : Arg w 3 v0) (h1 : Arg w 3 v1) :
    Calls Try.prog 7 #[v0, v1] w fun e w' => e = .returned (.bool true) ∧ Below w.heap.size w w' := by
  obtain ⟨m0, rfl, b0⟩ := arg_int h0
  clear h0
  obtain ⟨m1, rfl, b1⟩ := arg_int h1
  clear h1
  have B : Hid (Below w.heap.size w w) := Lib.hid (Below.refl _ _)
  have B0s : 0 ≤ w.heap.size := Nat.zero_le _
  go_enter Try.func7, Try.ntmps7
  go_wp2_with fail
  refine (uSpecPathNodes m0 m1 _ b0 b1).mono ?_
  rintro e w1 ⟨w0_0, rfl, ho_w0, hb⟩
  obtain ⟨w0_a0, w0_n0, w0_c0, rfl⟩ := ho_w0.shape
  have s_w1 : w.heap.size ≤ w1.heap.size := by have := hb.size; simpa only [size_box, size_drew] using this
  replace B := Lib.hid (below_seq B.out hb)
  have A_w0 := Lib.hid (ho_w0.lies (Nat.le_refl _))
  clear ho_w0 hb
  go_wp2_with fail
  refine (uImplPathNodes m0 m1 _ b0 b1).mono ?_
  rintro e w2 ⟨g0_0, rfl, ho_g0, hb⟩
  obtain ⟨g0_a0, g0_n0, g0_c0, rfl⟩ := ho_g0.shape
  have s_w2 : w1.heap.size ≤ w2.heap.size := by have := hb.size; simpa only [size_box, size_drew] using this
  replace B := Lib.hid (below_seq B.out hb)
  replace A_w0 := Lib.hid (A_w0.out.below hb)
  have A_g0 := Lib.hid (ho_g0.lies (Nat.le_refl _))
  clear ho_g0 hb
  have bd_g0 : szIntS (pathZ m0 m1) ≤ 1000000000000 := pathZ_bd m0 m1
  go_wp2_with fail
  refine (uEqIntS (.slice g0_a0 g0_n0 g0_c0) (.slice w0_a0 w0_n0 w0_c0) (pathZ m0 m1) _ A_g0.out.now.read A_w0.out.now.read).mono ?_
  rintro e w3 ⟨rfl, hb⟩
  have s_w3 : w2.heap.size ≤ w3.heap.size := by have := hb.size; simpa only [size_box, size_drew] using this
  replace B := Lib.hid (below_seq B.out hb)
  replace A_w0 := Lib.hid (A_w0.out.below hb)
  replace A_g0 := Lib.hid (A_g0.out.below hb)
  clear hb
  go_wp2_with fail
  refine (uMarkIntS w1.heap.size w2.heap.size 1 (.slice g0_a0 g0_n0 g0_c0) (pathZ m0 m1) _ (by have := bd_g0; omega) A_g0.out.now).mono ?_
  rintro e w4 ⟨k4, rfl, hk, ho, hc⟩
  have bd_k4 : k4 ≤ 2000000000000 := by have := bd_g0; omega
  have HK_k4 := Lib.hid hk
  have s_w4 : w3.heap.size ≤ w4.heap.size := by have := hc.size; simpa only [size_box, size_drew] using this
  have ho_t := A_g0.out.top
  clear A_g0
  replace B := Lib.hid (hc.below B.out (by have := B0s; omega))
  replace A_w0 := Lib.hid (A_w0.out.chg hc (by have := B0s; omega))
  have A_g0 := Lib.hid (ho.lies (Nat.le_trans ho_t s_w4))
  clear hk ho hc ho_t
  go_wp2_with fail
  refine (uHeldIntS 1 (.slice g0_a0 g0_n0 g0_c0) (pathZ m0 m1) _ (by have := HK_k4.out; omega) A_g0.out.now.read).mono ?_
  rintro e w5 ⟨k5, rfl, hk, hb⟩
  have hkk : k5 = k4 := by have := HK_k4.out; omega
  rw [hkk]
  clear hk hkk
  have s_w5 : w4.heap.size ≤ w5.heap.size := by have := hb.size; simpa only [size_box, size_drew] using this
  replace B := Lib.hid (below_seq B.out hb)
  replace A_w0 := Lib.hid (A_w0.out.below hb)
  replace A_g0 := Lib.hid (A_g0.out.below hb)
  clear hb
  go_wp2_with fail
  refine (uImplPathNodes m0 m1 _ b0 b1).mono ?_
  rintro e w6 ⟨h0_0, rfl, ho_h0, hb⟩
  obtain ⟨h0_a0, h0_n0, h0_c0, rfl⟩ := ho_h0.shape
  have s_w6 : w5.heap.size ≤ w6.heap.size := by have := hb.size; simpa only [size_box, size_drew] using this
  replace B := Lib.hid (below_seq B.out hb)
  replace A_w0 := Lib.hid (A_w0.out.below hb)
  replace A_g0 := Lib.hid (A_g0.out.below hb)
  have A_h0 := Lib.hid (ho_h0.lies (Nat.le_refl _))
  clear ho_h0 hb
  go_wp2_with fail
  refine (uEqIntS (.slice h0_a0 h0_n0 h0_c0) (.slice w0_a0 w0_n0 w0_c0) (pathZ m0 m1) _ A_h0.out.now.read A_w0.out.now.read).mono ?_
  rintro e w7 ⟨rfl, hb⟩
  have s_w7 : w6.heap.size ≤ w7.heap.size := by have := hb.size; simpa only [size_box, size_drew] using this
  replace B := Lib.hid (below_seq B.out hb)
  replace A_w0 := Lib.hid (A_w0.out.below hb)
  replace A_g0 := Lib.hid (A_g0.out.below hb)
  replace A_h0 := Lib.hid (A_h0.out.below hb)
  clear hb
  go_wp2_with fail
  refine (uHeldIntS 1 (.slice g0_a0 g0_n0 g0_c0) (pathZ m0 m1) _ (by have := HK_k4.out; omega) A_g0.out.now.read).mono ?_
  rintro e w8 ⟨k8, rfl, hk, hb⟩
  have hkk : k8 = k4 := by have := HK_k4.out; omega
  rw [hkk]
  clear hk hkk
  have s_w8 : w7.heap.size ≤ w8.heap.size := by have := hb.size; simpa only [size_box, size_drew] using this
  replace B := Lib.hid (below_seq B.out hb)
  replace A_w0 := Lib.hid (A_w0.out.below hb)
  replace A_g0 := Lib.hid (A_g0.out.below hb)
  replace A_h0 := Lib.hid (A_h0.out.below hb)
  clear hb
  go_wp2
  go_ret
  exact ⟨rfl, B.out⟩

set_option maxRecDepth 100000 in
theorem lifted (os : Os) (started : os.Started) (H : Type) (enc : TypeId × Value → H) :
    ReturnsInHanded {} Try.checked os 7 .any (Rows.fnExactPathNodesSpec.pre6 enc Try.prog Try.f7 Rows.fnExactPathNodesRow.domain false) (Rows.fnExactPathNodesSpec.post enc Try.prog Try.f7 false true false false) := by
  refine returnsInHanded_of_change (C := Try.checked) own started (by kernel_rfl) Try.func7
    (ChangeSpec.witness6 (enc := enc) (C := Try.checked) false ⟨#[], #[.int .i64 0, .int .i64 0], []⟩ 8 (by kernel_rfl) (by kernel_rfl) (by kernel_rfl) (by kernel_rfl)) ?_
  intro W base args ds gs before hval0 hW hcnd _
  have hval : ∀ (j : Nat) t v, Try.f7.params[j]? = some t → args[j]? = some v → Value.okWide Try.prog W .any base t v := hval0
  have hW' := hW
  obtain ⟨p, q, hA0, hV, rfl, hfz, hnd⟩ := hW
  have hA : DataW.TrodAll enc Try.prog W 0 (fun _ => true) true Try.f7.params.toList args.toList ds p := hA0
  rw [Try.params7] at hA hval
  obtain ⟨v0, vs0, d0, ds0, p0, q0, hargs, rfl, rfl, h0, r0⟩ := trodAll_cons hA
  obtain ⟨v1, vs1, d1, ds1, p1, q1, rfl, rfl, rfl, h1, r1⟩ := trodAll_cons r0
  obtain ⟨rfl, rfl, rfl⟩ := trodAll_nil r1
  obtain rfl : args = #[v0, v1] := by cases args; simp_all
  obtain ⟨rfl, rfl⟩ := trodVars_none hV
  have lt0 : ∀ x ∈ p0, x.block < W.heap.size := by obtain ⟨m, hm⟩ := h0; exact DataW.trod_lt m _ _ _ hm
  have lt1 : ∀ x ∈ p1, x.block < W.heap.size := by obtain ⟨m, hm⟩ := h1; exact DataW.trod_lt m _ _ _ hm
  clear hA0 hval0
  refine (walk v0 v1 W ⟨⟨base, hval 0 3 v0 rfl rfl⟩, Rd.of h0⟩ ⟨⟨base, hval 1 3 v1 rfl rfl⟩, Rd.of h1⟩).mono fun e W' ⟨he, bel⟩ => ?_
  subst he
  exact ⟨_, rfl, _, _, _, [], _, [], hW', trodAll_mk1 (shut_bool Try.underlying4 _), (trodAll_cons_mk (Below.trod laidOut (by kernel_rfl) (of_decide_eq_true (by kernel_rfl)) h0 bel lt0) (trodAll_cons_mk (Below.trod laidOut (by kernel_rfl) (of_decide_eq_true (by kernel_rfl)) h1 bel lt1) trodAll_mk0)), rfl, bel.frame _, fun h => by cases h⟩

theorem over : Rows.fnExactPathNodesRow.holds Try.pinned (OpenSpec.ofChange Rows.fnExactPathNodesSpec) :=
  OpenClaim.holds_of_wide 7 Try.f7 rfl rfl rfl rfl rfl rfl rfl ⟨rfl, rfl, rfl, rfl, rfl⟩ rfl rfl rfl rfl rfl (by kernel_rfl) Try.func7 (by kernel_rfl)
    (of_decide_eq_true (by kernel_rfl)) (by unfold Func.isWrapper; first | (rw [if_pos (by decide +kernel)]; kernel_rfl) | (rw [if_neg (by decide +kernel)]; exact ⟨rfl, rfl⟩))
    (fun os started H enc _ => lifted os started H enc)
end Go.Proofs.Ytabldmhjkggmjaa.fnExactPathNodes
namespace Go.Proofs.Ytabldmhjkggmjaa
/-- PathNodes answers as its model, at every argument. -/
theorem fnExactPathNodes_holds : Rows.FnExactPathNodesSaid := fnExactPathNodes.over
end Go.Proofs.Ytabldmhjkggmjaa
