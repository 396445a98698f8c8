/- For every argument: the law FnExactEvictPlan answers true, that is, EvictPlan answers as its model and writes into no argument; its answer owns its memory. No condition. -/
import Derived.Test.YtmkgddbdkpkgpaaJS1
import Derived.Test.YtmkgddbdkpkgpaaJS8
import Derived.Test.YtmkgddbdkpkgpaaJS47
import Derived.Test.YtmkgddbdkpkgpaaJS26
import Derived.Test.YtmkgddbdkpkgpaaJS50
import Derived.Deep.RegionHeld3
namespace Go.Proofs.Ytmkgddbdkpkgpaa.fnExactEvictPlan
open Go.ChangeShapes Go.WideShapes Go.ChangeAt Go.RowKit
set_option linter.unusedVariables false
set_option linter.unusedSimpArgs false

set_option maxRecDepth 100000 in
set_option maxHeartbeats 4000000 in
theorem walk (v0 : Value) (v1 : Value) (v2 : Value) (v3 : Value) (w : World) (h0 : Arg w 47 v0) (h1 : Arg w 3 v1) (h2 : Arg w 3 v2) (h3 : Arg w 3 v3) :
    Calls Try.prog 9 #[v0, v1, v2, v3] w fun e w' => e = .returned (.bool true) ∧ Below w.heap.size w w' := by
  obtain ⟨d0_0, m0, rfl, i0, b0⟩ := argBlockS h0
  have R_aList := Lib.hid i0.lies
  obtain ⟨a0, cap0, rfl, _, hx0, _⟩ := blockSIn_at i0
  clear i0
  clear h0
  obtain ⟨m1, rfl, b1⟩ := arg_int h1
  clear h1
  obtain ⟨m2, rfl, b2⟩ := arg_int h2
  clear h2
  obtain ⟨m3, rfl, b3⟩ := arg_int h3
  clear h3
  have B : Hid (Below w.heap.size w w) := Lib.hid (Below.refl _ _)
  have B0s : 0 ≤ w.heap.size := Nat.zero_le _
  by_cases g0 : 1048576 - (szBlockS m0 : Int) < 0
  · go_enter Try.func9, Try.ntmps9
    go_wp2_with fail
    refine (uSzBlockS (.slice a0 m0.length cap0) m0 1048576 _ (by omega) (by omega) R_aList.out.now).mono ?_
    rintro e w1 ⟨rfl, hb⟩
    rw [szI_no (by omega)]
    replace B := Lib.hid (below_seq B.out hb)
    replace R_aList := Lib.hid (R_aList.out.below hb)
    clear hb
    go_wp2
    go_ret
    exact ⟨rfl, B.out⟩
  have hs0 : szBlockS m0 ≤ 1048576 := by omega
  have hm0 : mcBlockS m0 ≤ 1000000000000 := mcBlockS_le hs0
  go_enter Try.func9, Try.ntmps9
  go_wp2_with fail
  refine (uSzBlockS (.slice a0 m0.length cap0) m0 1048576 _ (by omega) (by omega) R_aList.out.now).mono ?_
  rintro e w1 ⟨rfl, hb⟩
  rw [szI_yes (by omega)]
  have s_w1 : w.heap.size ≤ w1.heap.size := by have := hb.size; simpa only [size_box, size_drew] using this
  replace B := Lib.hid (below_seq B.out hb)
  replace R_aList := Lib.hid (R_aList.out.below hb)
  clear hb
  go_wp2_with fail
  refine (uToBlockS (.slice a0 m0.length cap0) m0 _ hs0 R_aList.out.now).mono ?_
  rintro e w2 ⟨t1_0, rfl, ho, hb⟩
  obtain ⟨t1_a0, t1_n0, t1_c0, rfl⟩ := ho.shape
  have s_w2 : w1.heap.size ≤ w2.heap.size := by have := hb.size; simpa only [size_box, size_drew] using this
  replace B := Lib.hid (below_seq B.out hb)
  replace R_aList := Lib.hid (R_aList.out.below hb)
  have A_t1_ := Lib.hid (ho.lies (Nat.le_refl _))
  clear ho hb
  go_wp2_with fail
  refine (uSpecEvictPlan (.slice t1_a0 t1_n0 t1_c0) m0 m1 m2 m3 _ A_t1_.out.now.read b1 b2 b3 hs0).mono ?_
  rintro e w3 ⟨w0_0, rfl, ho_w0, hb⟩
  obtain ⟨w0_a0, w0_n0, w0_c0, rfl⟩ := ho_w0.shape
  clear A_t1_
  have s_w3 : w2.heap.size ≤ w3.heap.size := by have := hb.size; simpa only [size_box, size_drew] using this
  replace B := Lib.hid (below_seq B.out hb)
  replace R_aList := Lib.hid (R_aList.out.below hb)
  have A_w0 := Lib.hid (ho_w0.lies (Nat.le_refl _))
  clear ho_w0 hb
  go_wp2_with fail
  refine (uToBlockS (.slice a0 m0.length cap0) m0 _ hs0 R_aList.out.now).mono ?_
  rintro e w4 ⟨x00, rfl, ho, hb⟩
  obtain ⟨x0a0, x0n0, x0c0, rfl⟩ := ho.shape
  have s_w4 : w3.heap.size ≤ w4.heap.size := by have := hb.size; simpa only [size_box, size_drew] using this
  replace B := Lib.hid (below_seq B.out hb)
  replace R_aList := Lib.hid (R_aList.out.below hb)
  replace A_w0 := Lib.hid (A_w0.out.below hb)
  have A_x0 := Lib.hid (ho.lies (Nat.le_refl _))
  clear ho hb
  go_wp2_with fail
  refine (uImplEvictPlan (.slice x0a0 x0n0 x0c0) m0 m1 m2 m3 _ A_x0.out.now.read b1 b2 b3 hs0).mono ?_
  rintro e w5 ⟨g0_0, rfl, ho_g0, hb⟩
  obtain ⟨g0_a0, g0_n0, g0_c0, rfl⟩ := ho_g0.shape
  have s_w5 : w4.heap.size ≤ w5.heap.size := by have := hb.size; simpa only [size_box, size_drew] using this
  replace B := Lib.hid (below_seq B.out hb)
  replace R_aList := Lib.hid (R_aList.out.below hb)
  replace A_w0 := Lib.hid (A_w0.out.below hb)
  replace A_x0 := Lib.hid (A_x0.out.below hb)
  have A_g0 := Lib.hid (ho_g0.lies (Nat.le_refl _))
  clear ho_g0 hb
  have bd_g0 : mcPutS (planZ m0 m1 m2 m3) ≤ 1000000000000 := planZ_bd m0 m1 m2 m3
  go_wp2_with fail
  refine (uEqPutS (.slice g0_a0 g0_n0 g0_c0) (.slice w0_a0 w0_n0 w0_c0) (planZ m0 m1 m2 m3) _ A_g0.out.now.read A_w0.out.now.read).mono ?_
  rintro e w6 ⟨rfl, hb⟩
  have s_w6 : w5.heap.size ≤ w6.heap.size := by have := hb.size; simpa only [size_box, size_drew] using this
  replace B := Lib.hid (below_seq B.out hb)
  replace R_aList := Lib.hid (R_aList.out.below hb)
  replace A_w0 := Lib.hid (A_w0.out.below hb)
  replace A_x0 := Lib.hid (A_x0.out.below hb)
  replace A_g0 := Lib.hid (A_g0.out.below hb)
  clear hb
  go_wp2_with fail
  refine (uToBlockS (.slice a0 m0.length cap0) m0 _ hs0 R_aList.out.now).mono ?_
  rintro e w7 ⟨te6_0, rfl, ho, hb⟩
  obtain ⟨te6_a0, te6_n0, te6_c0, rfl⟩ := ho.shape
  have s_w7 : w6.heap.size ≤ w7.heap.size := by have := hb.size; simpa only [size_box, size_drew] using this
  replace B := Lib.hid (below_seq B.out hb)
  replace R_aList := Lib.hid (R_aList.out.below hb)
  replace A_w0 := Lib.hid (A_w0.out.below hb)
  replace A_x0 := Lib.hid (A_x0.out.below hb)
  replace A_g0 := Lib.hid (A_g0.out.below hb)
  have A_te6_ := Lib.hid (ho.lies (Nat.le_refl _))
  clear ho hb
  go_wp2_with fail
  refine (uEqBlockS (.slice x0a0 x0n0 x0c0) (.slice te6_a0 te6_n0 te6_c0) m0 _ A_x0.out.now.read A_te6_.out.now.read).mono ?_
  rintro e w8 ⟨rfl, hb⟩
  have s_w8 : w7.heap.size ≤ w8.heap.size := by have := hb.size; simpa only [size_box, size_drew] using this
  replace B := Lib.hid (below_seq B.out hb)
  replace R_aList := Lib.hid (R_aList.out.below hb)
  replace A_w0 := Lib.hid (A_w0.out.below hb)
  replace A_x0 := Lib.hid (A_x0.out.below hb)
  replace A_g0 := Lib.hid (A_g0.out.below hb)
  replace A_te6_ := Lib.hid (A_te6_.out.below hb)
  clear hb
  clear A_te6_
  go_wp2_with fail
  refine (uMarkBlockS w3.heap.size w4.heap.size 1 (.slice x0a0 x0n0 x0c0) m0 _ (by omega) A_x0.out.now).mono ?_
  rintro e w9 ⟨k9, rfl, hk, ho, hc⟩
  have bd_k9 : k9 ≤ 2000000000000 := by omega
  have HK_k9 := Lib.hid hk
  have s_w9 : w8.heap.size ≤ w9.heap.size := by have := hc.size; simpa only [size_box, size_drew] using this
  have ho_t := A_x0.out.top
  clear A_x0
  replace B := Lib.hid (hc.below B.out (by have := B0s; omega))
  replace R_aList := Lib.hid (R_aList.out.chg hc (by have := B0s; omega))
  replace A_w0 := Lib.hid (A_w0.out.chg hc (by have := B0s; omega))
  replace A_g0 := Lib.hid (A_g0.out.chg hc (by have := B0s; omega))
  have A_x0 := Lib.hid (ho.lies (Nat.le_trans ho_t s_w9))
  clear hk ho hc ho_t
  go_wp2_with fail
  refine (uEqPutS (.slice g0_a0 g0_n0 g0_c0) (.slice w0_a0 w0_n0 w0_c0) (planZ m0 m1 m2 m3) _ A_g0.out.now.read A_w0.out.now.read).mono ?_
  rintro e w10 ⟨rfl, hb⟩
  have s_w10 : w9.heap.size ≤ w10.heap.size := by have := hb.size; simpa only [size_box, size_drew] using this
  replace B := Lib.hid (below_seq B.out hb)
  replace R_aList := Lib.hid (R_aList.out.below hb)
  replace A_w0 := Lib.hid (A_w0.out.below hb)
  replace A_g0 := Lib.hid (A_g0.out.below hb)
  replace A_x0 := Lib.hid (A_x0.out.below hb)
  clear hb
  go_wp2_with fail
  refine (uMarkPutS w4.heap.size w5.heap.size 1 (.slice g0_a0 g0_n0 g0_c0) (planZ m0 m1 m2 m3) _ (by have := bd_g0; omega) A_g0.out.now).mono ?_
  rintro e w11 ⟨k11, rfl, hk, ho, hc⟩
  have bd_k11 : k11 ≤ 2000000000000 := by have := bd_g0; omega
  have HK_k11 := Lib.hid hk
  have s_w11 : w10.heap.size ≤ w11.heap.size := by have := hc.size; simpa only [size_box, size_drew] using this
  have ho_t := A_g0.out.top
  clear A_g0
  replace B := Lib.hid (hc.below B.out (by have := B0s; omega))
  replace R_aList := Lib.hid (R_aList.out.chg hc (by have := B0s; omega))
  replace A_w0 := Lib.hid (A_w0.out.chg hc (by have := B0s; omega))
  replace A_x0 := Lib.hid (A_x0.out.chg hc (by have := B0s; omega))
  have A_g0 := Lib.hid (ho.lies (Nat.le_trans ho_t s_w11))
  clear hk ho hc ho_t
  go_wp2_with fail
  refine (uHeldPutS 1 (.slice g0_a0 g0_n0 g0_c0) (planZ m0 m1 m2 m3) _ (by have := HK_k11.out; omega) A_g0.out.now.read).mono ?_
  rintro e w12 ⟨k12, rfl, hk, hb⟩
  have hkk : k12 = k11 := by have := HK_k11.out; omega
  rw [hkk]
  clear hk hkk
  have s_w12 : w11.heap.size ≤ w12.heap.size := by have := hb.size; simpa only [size_box, size_drew] using this
  replace B := Lib.hid (below_seq B.out hb)
  replace R_aList := Lib.hid (R_aList.out.below hb)
  replace A_w0 := Lib.hid (A_w0.out.below hb)
  replace A_x0 := Lib.hid (A_x0.out.below hb)
  replace A_g0 := Lib.hid (A_g0.out.below hb)
  clear hb
  go_wp2_with fail
  refine (uToBlockS (.slice a0 m0.length cap0) m0 _ hs0 R_aList.out.now).mono ?_
  rintro e w13 ⟨t12_0, rfl, ho, hb⟩
  obtain ⟨t12_a0, t12_n0, t12_c0, rfl⟩ := ho.shape
  have s_w13 : w12.heap.size ≤ w13.heap.size := by have := hb.size; simpa only [size_box, size_drew] using this
  replace B := Lib.hid (below_seq B.out hb)
  replace R_aList := Lib.hid (R_aList.out.below hb)
  replace A_w0 := Lib.hid (A_w0.out.below hb)
  replace A_x0 := Lib.hid (A_x0.out.below hb)
  replace A_g0 := Lib.hid (A_g0.out.below hb)
  have A_t12_ := Lib.hid (ho.lies (Nat.le_refl _))
  clear ho hb
  go_wp2_with fail
  refine (uImplEvictPlan (.slice t12_a0 t12_n0 t12_c0) m0 m1 m2 m3 _ A_t12_.out.now.read b1 b2 b3 hs0).mono ?_
  rintro e w14 ⟨h0_0, rfl, ho_h0, hb⟩
  obtain ⟨h0_a0, h0_n0, h0_c0, rfl⟩ := ho_h0.shape
  clear A_t12_
  have s_w14 : w13.heap.size ≤ w14.heap.size := by have := hb.size; simpa only [size_box, size_drew] using this
  replace B := Lib.hid (below_seq B.out hb)
  replace R_aList := Lib.hid (R_aList.out.below hb)
  replace A_w0 := Lib.hid (A_w0.out.below hb)
  replace A_x0 := Lib.hid (A_x0.out.below hb)
  replace A_g0 := Lib.hid (A_g0.out.below hb)
  have A_h0 := Lib.hid (ho_h0.lies (Nat.le_refl _))
  clear ho_h0 hb
  go_wp2_with fail
  refine (uEqPutS (.slice h0_a0 h0_n0 h0_c0) (.slice w0_a0 w0_n0 w0_c0) (planZ m0 m1 m2 m3) _ A_h0.out.now.read A_w0.out.now.read).mono ?_
  rintro e w15 ⟨rfl, hb⟩
  have s_w15 : w14.heap.size ≤ w15.heap.size := by have := hb.size; simpa only [size_box, size_drew] using this
  replace B := Lib.hid (below_seq B.out hb)
  replace R_aList := Lib.hid (R_aList.out.below hb)
  replace A_w0 := Lib.hid (A_w0.out.below hb)
  replace A_x0 := Lib.hid (A_x0.out.below hb)
  replace A_g0 := Lib.hid (A_g0.out.below hb)
  replace A_h0 := Lib.hid (A_h0.out.below hb)
  clear hb
  go_wp2_with fail
  refine (uHeldPutS 1 (.slice g0_a0 g0_n0 g0_c0) (planZ m0 m1 m2 m3) _ (by have := HK_k11.out; omega) A_g0.out.now.read).mono ?_
  rintro e w16 ⟨k16, rfl, hk, hb⟩
  have hkk : k16 = k11 := by have := HK_k11.out; omega
  rw [hkk]
  clear hk hkk
  have s_w16 : w15.heap.size ≤ w16.heap.size := by have := hb.size; simpa only [size_box, size_drew] using this
  replace B := Lib.hid (below_seq B.out hb)
  replace R_aList := Lib.hid (R_aList.out.below hb)
  replace A_w0 := Lib.hid (A_w0.out.below hb)
  replace A_x0 := Lib.hid (A_x0.out.below hb)
  replace A_g0 := Lib.hid (A_g0.out.below hb)
  replace A_h0 := Lib.hid (A_h0.out.below hb)
  clear hb
  go_wp2
  go_ret
  exact ⟨rfl, B.out⟩

set_option maxRecDepth 100000 in
theorem lifted (os : Os) (started : os.Started) (H : Type) (enc : TypeId × Value → H) :
    ReturnsInHanded {} Try.checked os 9 .any (Rows.fnExactEvictPlanSpec.pre6 enc Try.prog Try.f9 Rows.fnExactEvictPlanRow.domain false) (Rows.fnExactEvictPlanSpec.post enc Try.prog Try.f9 false true false false) := by
  refine returnsInHanded_of_change (C := Try.checked) own started (by kernel_rfl) Try.func9
    (ChangeSpec.witness6 (enc := enc) (C := Try.checked) false ⟨#[], #[.slice none 0 0, .int .i64 0, .int .i64 0, .int .i64 0], []⟩ 8 (by kernel_rfl) (by kernel_rfl) (by kernel_rfl) (by kernel_rfl)) ?_
  intro W base args ds gs before hval0 hW hcnd _
  have hval : ∀ (j : Nat) t v, Try.f9.params[j]? = some t → args[j]? = some v → Value.okWide Try.prog W .any base t v := hval0
  have hW' := hW
  obtain ⟨p, q, hA0, hV, rfl, hfz, hnd⟩ := hW
  have hA : DataW.TrodAll enc Try.prog W 0 (fun _ => true) true Try.f9.params.toList args.toList ds p := hA0
  rw [Try.params9] at hA hval
  obtain ⟨v0, vs0, d0, ds0, p0, q0, hargs, rfl, rfl, h0, r0⟩ := trodAll_cons hA
  obtain ⟨v1, vs1, d1, ds1, p1, q1, rfl, rfl, rfl, h1, r1⟩ := trodAll_cons r0
  obtain ⟨v2, vs2, d2, ds2, p2, q2, rfl, rfl, rfl, h2, r2⟩ := trodAll_cons r1
  obtain ⟨v3, vs3, d3, ds3, p3, q3, rfl, rfl, rfl, h3, r3⟩ := trodAll_cons r2
  obtain ⟨rfl, rfl, rfl⟩ := trodAll_nil r3
  obtain rfl : args = #[v0, v1, v2, v3] := by cases args; simp_all
  obtain ⟨rfl, rfl⟩ := trodVars_none hV
  have lt0 : ∀ x ∈ p0, x.block < W.heap.size := by obtain ⟨m, hm⟩ := h0; exact DataW.trod_lt m _ _ _ hm
  have lt1 : ∀ x ∈ p1, x.block < W.heap.size := by obtain ⟨m, hm⟩ := h1; exact DataW.trod_lt m _ _ _ hm
  have lt2 : ∀ x ∈ p2, x.block < W.heap.size := by obtain ⟨m, hm⟩ := h2; exact DataW.trod_lt m _ _ _ hm
  have lt3 : ∀ x ∈ p3, x.block < W.heap.size := by obtain ⟨m, hm⟩ := h3; exact DataW.trod_lt m _ _ _ hm
  clear hA0 hval0
  refine (walk v0 v1 v2 v3 W ⟨⟨base, hval 0 47 v0 rfl rfl⟩, Rd.of h0⟩ ⟨⟨base, hval 1 3 v1 rfl rfl⟩, Rd.of h1⟩ ⟨⟨base, hval 2 3 v2 rfl rfl⟩, Rd.of h2⟩ ⟨⟨base, hval 3 3 v3 rfl rfl⟩, Rd.of h3⟩).mono fun e W' ⟨he, bel⟩ => ?_
  subst he
  exact ⟨_, rfl, _, _, _, [], _, [], hW', trodAll_mk1 (shut_bool Try.underlying4 _), (trodAll_cons_mk (Below.trod laidOut (by kernel_rfl) (of_decide_eq_true (by kernel_rfl)) h0 bel lt0) (trodAll_cons_mk (Below.trod laidOut (by kernel_rfl) (of_decide_eq_true (by kernel_rfl)) h1 bel lt1) (trodAll_cons_mk (Below.trod laidOut (by kernel_rfl) (of_decide_eq_true (by kernel_rfl)) h2 bel lt2) (trodAll_cons_mk (Below.trod laidOut (by kernel_rfl) (of_decide_eq_true (by kernel_rfl)) h3 bel lt3) trodAll_mk0)))), rfl, bel.frame _, fun h => by cases h⟩

theorem over : Rows.fnExactEvictPlanRow.holds Try.pinned (OpenSpec.ofChange Rows.fnExactEvictPlanSpec) :=
  OpenClaim.holds_of_wide 9 Try.f9 rfl rfl rfl rfl rfl rfl rfl ⟨rfl, rfl, rfl, rfl, rfl⟩ rfl rfl rfl rfl rfl (by kernel_rfl) Try.func9 (by kernel_rfl)
    (of_decide_eq_true (by kernel_rfl)) (by unfold Func.isWrapper; first | (rw [if_pos (by decide +kernel)]; kernel_rfl) | (rw [if_neg (by decide +kernel)]; exact ⟨rfl, rfl⟩))
    (fun os started H enc _ => lifted os started H enc)
end Go.Proofs.Ytmkgddbdkpkgpaa.fnExactEvictPlan
namespace Go.Proofs.Ytmkgddbdkpkgpaa
/-- EvictPlan answers as its model, at every argument. -/
theorem fnExactEvictPlan_holds : Rows.FnExactEvictPlanSaid := fnExactEvictPlan.over
end Go.Proofs.Ytmkgddbdkpkgpaa
