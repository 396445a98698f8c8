/- For every argument: the law FnExactBitonic answers true, that is, Bitonic answers as its model and writes into no argument; its answer owns its memory. No condition. -/
import Derived.Test.YtkifndcfmmdkpaaBase
import Derived.Test.YtkifndcfmmdkpaaReads
import Derived.Test.YtkifndcfmmdkpaaNtB
import Derived.Deep.RegionHeld3
namespace Go.Proofs.Ytkifndcfmmdkpaa.fnExactBitonic
open Go.ChangeShapes Go.WideShapes Go.ChangeAt Go.RowKit
set_option linter.unusedVariables false

set_option maxRecDepth 100000 in
set_option maxHeartbeats 4000000 in
theorem walk (v0 : Value) (w : World) (h0 : Arg w 3 v0) :
    Calls Try.prog 12 #[v0] w fun e w' => e = .returned (.bool true) ∧ Below w.heap.size w w' := by
  obtain ⟨m0, rfl, b0⟩ := arg_int h0
  clear h0
  have B : Hid (Below w.heap.size w w) := Lib.hid (Below.refl _ _)
  have B0s : 0 ≤ w.heap.size := Nat.zero_le _
  go_enter Try.func12, Try.ntmps12
  go_wp2_with fail
  refine (uSpecBitonic m0 _ b0).mono ?_
  rintro e w1 ⟨w0_0, w0_1, rfl, ho_w0, hb⟩
  obtain ⟨w0_z0, w0_a1, w0_n1, w0_c1, rfl, rfl⟩ := ho_w0.shape
  have s_w1 : w.heap.size ≤ w1.heap.size := by have := hb.size; simpa only [size_box, size_drew] using this
  replace B := Lib.hid (below_seq B.out hb)
  have A_w0 := Lib.hid (ho_w0.lies (Nat.le_refl _))
  clear ho_w0 hb
  replace B := Lib.hid (below_box B.out (.cells #[.int .i64 w0_z0, .slice w0_a1 w0_n1 w0_c1] 26))
  replace A_w0 := Lib.hid (A_w0.out.box (.cells #[.int .i64 w0_z0, .slice w0_a1 w0_n1 w0_c1] 26))
  have K_w0 := Lib.hid (lies_box w1 (.cells #[.int .i64 w0_z0, .slice w0_a1 w0_n1 w0_c1] 26))
  have c_w0_0 : (w1.alloc (.cells #[.int .i64 w0_z0, .slice w0_a1 w0_n1 w0_c1] 26)).cell? ⟨w1.heap.size, 0, none⟩ = some (.int .i64 w0_z0) := cur_cell K_w0.out.now 0
  have c_w0_1 : (w1.alloc (.cells #[.int .i64 w0_z0, .slice w0_a1 w0_n1 w0_c1] 26)).cell? ⟨w1.heap.size, 1, none⟩ = some (.slice w0_a1 w0_n1 w0_c1) := cur_cell K_w0.out.now 1
  go_wp2_with fail
  clear c_w0_0 c_w0_1
  refine (uImplBitonic m0 _ b0).mono ?_
  rintro e w2 ⟨g0_0, g0_1, rfl, ho_g0, hb⟩
  obtain ⟨g0_z0, g0_a1, g0_n1, g0_c1, rfl, rfl⟩ := ho_g0.shape
  have s_w2 : w1.heap.size + 1 ≤ w2.heap.size := by have := hb.size; simpa only [size_box, size_drew] using this
  replace B := Lib.hid (below_seq B.out hb)
  replace A_w0 := Lib.hid (A_w0.out.below hb)
  replace K_w0 := Lib.hid (K_w0.out.below hb)
  simp only [size_box] at ho_g0
  have A_g0 := Lib.hid (ho_g0.lies (Nat.le_refl _))
  clear ho_g0 hb
  replace B := Lib.hid (below_box B.out (.cells #[.int .i64 g0_z0, .slice g0_a1 g0_n1 g0_c1] 26))
  replace A_w0 := Lib.hid (A_w0.out.box (.cells #[.int .i64 g0_z0, .slice g0_a1 g0_n1 g0_c1] 26))
  replace K_w0 := Lib.hid (K_w0.out.box (.cells #[.int .i64 g0_z0, .slice g0_a1 g0_n1 g0_c1] 26))
  replace A_g0 := Lib.hid (A_g0.out.box (.cells #[.int .i64 g0_z0, .slice g0_a1 g0_n1 g0_c1] 26))
  have K_g0 := Lib.hid (lies_box w2 (.cells #[.int .i64 g0_z0, .slice g0_a1 g0_n1 g0_c1] 26))
  have bd_g0 : mcNet (bitonicM m0) ≤ 1000000000000 := bitonicM_bd m0
  have c_w0_0 : (w2.alloc (.cells #[.int .i64 g0_z0, .slice g0_a1 g0_n1 g0_c1] 26)).cell? ⟨w1.heap.size, 0, none⟩ = some (.int .i64 w0_z0) := cur_cell K_w0.out.now 0
  have c_w0_1 : (w2.alloc (.cells #[.int .i64 g0_z0, .slice g0_a1 g0_n1 g0_c1] 26)).cell? ⟨w1.heap.size, 1, none⟩ = some (.slice w0_a1 w0_n1 w0_c1) := cur_cell K_w0.out.now 1
  have c_g0_0 : (w2.alloc (.cells #[.int .i64 g0_z0, .slice g0_a1 g0_n1 g0_c1] 26)).cell? ⟨w2.heap.size, 0, none⟩ = some (.int .i64 g0_z0) := cur_cell K_g0.out.now 0
  have c_g0_1 : (w2.alloc (.cells #[.int .i64 g0_z0, .slice g0_a1 g0_n1 g0_c1] 26)).cell? ⟨w2.heap.size, 1, none⟩ = some (.slice g0_a1 g0_n1 g0_c1) := cur_cell K_g0.out.now 1
  go_wp2_with fail
  clear c_w0_0 c_w0_1 c_g0_0 c_g0_1
  refine (uEqNet (.int .i64 g0_z0) (.slice g0_a1 g0_n1 g0_c1) (.int .i64 w0_z0) (.slice w0_a1 w0_n1 w0_c1) (bitonicM m0) _ A_g0.out.now.read A_w0.out.now.read).mono ?_
  rintro e w3 ⟨rfl, hb⟩
  have s_w3 : w2.heap.size + 1 ≤ w3.heap.size := by have := hb.size; simpa only [size_box, size_drew] using this
  replace B := Lib.hid (below_seq B.out hb)
  replace A_w0 := Lib.hid (A_w0.out.below hb)
  replace K_w0 := Lib.hid (K_w0.out.below hb)
  replace A_g0 := Lib.hid (A_g0.out.below hb)
  replace K_g0 := Lib.hid (K_g0.out.below hb)
  clear hb
  have c_w0_0 : w3.cell? ⟨w1.heap.size, 0, none⟩ = some (.int .i64 w0_z0) := cur_cell K_w0.out.now 0
  have c_w0_1 : w3.cell? ⟨w1.heap.size, 1, none⟩ = some (.slice w0_a1 w0_n1 w0_c1) := cur_cell K_w0.out.now 1
  have c_g0_0 : w3.cell? ⟨w2.heap.size, 0, none⟩ = some (.int .i64 g0_z0) := cur_cell K_g0.out.now 0
  have c_g0_1 : w3.cell? ⟨w2.heap.size, 1, none⟩ = some (.slice g0_a1 g0_n1 g0_c1) := cur_cell K_g0.out.now 1
  go_wp2_with fail
  clear c_w0_0 c_w0_1 c_g0_0 c_g0_1
  refine (uMarkNet (w1.heap.size + 1) w2.heap.size 1 (.int .i64 g0_z0) (.slice g0_a1 g0_n1 g0_c1) (bitonicM m0) _ (by have := bd_g0; omega) A_g0.out.top A_g0.out.now).mono ?_
  rintro e w4 ⟨k4, rfl, hk, ho, hc⟩
  have bd_k4 : k4 ≤ 2000000000000 := by have := bd_g0; omega
  have HK_k4 := Lib.hid hk
  have s_w4 : w3.heap.size ≤ w4.heap.size := by have := hc.size; simpa only [size_box, size_drew] using this
  have ho_t := A_g0.out.top
  clear A_g0
  replace B := Lib.hid (hc.below B.out (by have := B0s; omega))
  replace A_w0 := Lib.hid (A_w0.out.chg hc (by have := B0s; omega))
  replace K_w0 := Lib.hid (K_w0.out.chg hc (by have := B0s; omega))
  replace K_g0 := Lib.hid (K_g0.out.chg hc (by have := B0s; omega))
  have A_g0 := Lib.hid (ho.lies (Nat.le_trans ho_t s_w4))
  clear hk ho hc ho_t
  have c_w0_0 : w4.cell? ⟨w1.heap.size, 0, none⟩ = some (.int .i64 w0_z0) := cur_cell K_w0.out.now 0
  have c_w0_1 : w4.cell? ⟨w1.heap.size, 1, none⟩ = some (.slice w0_a1 w0_n1 w0_c1) := cur_cell K_w0.out.now 1
  have c_g0_0 : w4.cell? ⟨w2.heap.size, 0, none⟩ = some (.int .i64 g0_z0) := cur_cell K_g0.out.now 0
  have c_g0_1 : w4.cell? ⟨w2.heap.size, 1, none⟩ = some (.slice g0_a1 g0_n1 g0_c1) := cur_cell K_g0.out.now 1
  go_wp2_with fail
  clear c_w0_0 c_w0_1 c_g0_0 c_g0_1
  refine (uHeldNet 1 (.int .i64 g0_z0) (.slice g0_a1 g0_n1 g0_c1) (bitonicM m0) _ (by have := HK_k4.out; omega) A_g0.out.now.read).mono ?_
  rintro e w5 ⟨k5, rfl, hk, hb⟩
  have hkk : k5 = k4 := by have := HK_k4.out; omega
  rw [hkk]
  clear hk hkk
  have s_w5 : w4.heap.size ≤ w5.heap.size := by have := hb.size; simpa only [size_box, size_drew] using this
  replace B := Lib.hid (below_seq B.out hb)
  replace A_w0 := Lib.hid (A_w0.out.below hb)
  replace K_w0 := Lib.hid (K_w0.out.below hb)
  replace K_g0 := Lib.hid (K_g0.out.below hb)
  replace A_g0 := Lib.hid (A_g0.out.below hb)
  clear hb
  have c_w0_0 : w5.cell? ⟨w1.heap.size, 0, none⟩ = some (.int .i64 w0_z0) := cur_cell K_w0.out.now 0
  have c_w0_1 : w5.cell? ⟨w1.heap.size, 1, none⟩ = some (.slice w0_a1 w0_n1 w0_c1) := cur_cell K_w0.out.now 1
  have c_g0_0 : w5.cell? ⟨w2.heap.size, 0, none⟩ = some (.int .i64 g0_z0) := cur_cell K_g0.out.now 0
  have c_g0_1 : w5.cell? ⟨w2.heap.size, 1, none⟩ = some (.slice g0_a1 g0_n1 g0_c1) := cur_cell K_g0.out.now 1
  go_wp2_with fail
  clear c_w0_0 c_w0_1 c_g0_0 c_g0_1
  refine (uImplBitonic m0 _ b0).mono ?_
  rintro e w6 ⟨h0_0, h0_1, rfl, ho_h0, hb⟩
  obtain ⟨h0_z0, h0_a1, h0_n1, h0_c1, rfl, rfl⟩ := ho_h0.shape
  have s_w6 : w5.heap.size ≤ w6.heap.size := by have := hb.size; simpa only [size_box, size_drew] using this
  replace B := Lib.hid (below_seq B.out hb)
  replace A_w0 := Lib.hid (A_w0.out.below hb)
  replace K_w0 := Lib.hid (K_w0.out.below hb)
  replace K_g0 := Lib.hid (K_g0.out.below hb)
  replace A_g0 := Lib.hid (A_g0.out.below hb)
  have A_h0 := Lib.hid (ho_h0.lies (Nat.le_refl _))
  clear ho_h0 hb
  replace B := Lib.hid (below_box B.out (.cells #[.int .i64 h0_z0, .slice h0_a1 h0_n1 h0_c1] 26))
  replace A_w0 := Lib.hid (A_w0.out.box (.cells #[.int .i64 h0_z0, .slice h0_a1 h0_n1 h0_c1] 26))
  replace K_w0 := Lib.hid (K_w0.out.box (.cells #[.int .i64 h0_z0, .slice h0_a1 h0_n1 h0_c1] 26))
  replace K_g0 := Lib.hid (K_g0.out.box (.cells #[.int .i64 h0_z0, .slice h0_a1 h0_n1 h0_c1] 26))
  replace A_g0 := Lib.hid (A_g0.out.box (.cells #[.int .i64 h0_z0, .slice h0_a1 h0_n1 h0_c1] 26))
  replace A_h0 := Lib.hid (A_h0.out.box (.cells #[.int .i64 h0_z0, .slice h0_a1 h0_n1 h0_c1] 26))
  have K_h0 := Lib.hid (lies_box w6 (.cells #[.int .i64 h0_z0, .slice h0_a1 h0_n1 h0_c1] 26))
  have c_w0_0 : (w6.alloc (.cells #[.int .i64 h0_z0, .slice h0_a1 h0_n1 h0_c1] 26)).cell? ⟨w1.heap.size, 0, none⟩ = some (.int .i64 w0_z0) := cur_cell K_w0.out.now 0
  have c_w0_1 : (w6.alloc (.cells #[.int .i64 h0_z0, .slice h0_a1 h0_n1 h0_c1] 26)).cell? ⟨w1.heap.size, 1, none⟩ = some (.slice w0_a1 w0_n1 w0_c1) := cur_cell K_w0.out.now 1
  have c_g0_0 : (w6.alloc (.cells #[.int .i64 h0_z0, .slice h0_a1 h0_n1 h0_c1] 26)).cell? ⟨w2.heap.size, 0, none⟩ = some (.int .i64 g0_z0) := cur_cell K_g0.out.now 0
  have c_g0_1 : (w6.alloc (.cells #[.int .i64 h0_z0, .slice h0_a1 h0_n1 h0_c1] 26)).cell? ⟨w2.heap.size, 1, none⟩ = some (.slice g0_a1 g0_n1 g0_c1) := cur_cell K_g0.out.now 1
  have c_h0_0 : (w6.alloc (.cells #[.int .i64 h0_z0, .slice h0_a1 h0_n1 h0_c1] 26)).cell? ⟨w6.heap.size, 0, none⟩ = some (.int .i64 h0_z0) := cur_cell K_h0.out.now 0
  have c_h0_1 : (w6.alloc (.cells #[.int .i64 h0_z0, .slice h0_a1 h0_n1 h0_c1] 26)).cell? ⟨w6.heap.size, 1, none⟩ = some (.slice h0_a1 h0_n1 h0_c1) := cur_cell K_h0.out.now 1
  go_wp2_with fail
  clear c_w0_0 c_w0_1 c_g0_0 c_g0_1 c_h0_0 c_h0_1
  refine (uEqNet (.int .i64 h0_z0) (.slice h0_a1 h0_n1 h0_c1) (.int .i64 w0_z0) (.slice w0_a1 w0_n1 w0_c1) (bitonicM m0) _ A_h0.out.now.read A_w0.out.now.read).mono ?_
  rintro e w7 ⟨rfl, hb⟩
  have s_w7 : w6.heap.size + 1 ≤ w7.heap.size := by have := hb.size; simpa only [size_box, size_drew] using this
  replace B := Lib.hid (below_seq B.out hb)
  replace A_w0 := Lib.hid (A_w0.out.below hb)
  replace K_w0 := Lib.hid (K_w0.out.below hb)
  replace K_g0 := Lib.hid (K_g0.out.below hb)
  replace A_g0 := Lib.hid (A_g0.out.below hb)
  replace A_h0 := Lib.hid (A_h0.out.below hb)
  replace K_h0 := Lib.hid (K_h0.out.below hb)
  clear hb
  have c_w0_0 : w7.cell? ⟨w1.heap.size, 0, none⟩ = some (.int .i64 w0_z0) := cur_cell K_w0.out.now 0
  have c_w0_1 : w7.cell? ⟨w1.heap.size, 1, none⟩ = some (.slice w0_a1 w0_n1 w0_c1) := cur_cell K_w0.out.now 1
  have c_g0_0 : w7.cell? ⟨w2.heap.size, 0, none⟩ = some (.int .i64 g0_z0) := cur_cell K_g0.out.now 0
  have c_g0_1 : w7.cell? ⟨w2.heap.size, 1, none⟩ = some (.slice g0_a1 g0_n1 g0_c1) := cur_cell K_g0.out.now 1
  have c_h0_0 : w7.cell? ⟨w6.heap.size, 0, none⟩ = some (.int .i64 h0_z0) := cur_cell K_h0.out.now 0
  have c_h0_1 : w7.cell? ⟨w6.heap.size, 1, none⟩ = some (.slice h0_a1 h0_n1 h0_c1) := cur_cell K_h0.out.now 1
  go_wp2_with fail
  clear c_w0_0 c_w0_1 c_g0_0 c_g0_1 c_h0_0 c_h0_1
  refine (uHeldNet 1 (.int .i64 g0_z0) (.slice g0_a1 g0_n1 g0_c1) (bitonicM m0) _ (by have := HK_k4.out; omega) A_g0.out.now.read).mono ?_
  rintro e w8 ⟨k8, rfl, hk, hb⟩
  have hkk : k8 = k4 := by have := HK_k4.out; omega
  rw [hkk]
  clear hk hkk
  have s_w8 : w7.heap.size ≤ w8.heap.size := by have := hb.size; simpa only [size_box, size_drew] using this
  replace B := Lib.hid (below_seq B.out hb)
  replace A_w0 := Lib.hid (A_w0.out.below hb)
  replace K_w0 := Lib.hid (K_w0.out.below hb)
  replace K_g0 := Lib.hid (K_g0.out.below hb)
  replace A_g0 := Lib.hid (A_g0.out.below hb)
  replace A_h0 := Lib.hid (A_h0.out.below hb)
  replace K_h0 := Lib.hid (K_h0.out.below hb)
  clear hb
  have c_w0_0 : w8.cell? ⟨w1.heap.size, 0, none⟩ = some (.int .i64 w0_z0) := cur_cell K_w0.out.now 0
  have c_w0_1 : w8.cell? ⟨w1.heap.size, 1, none⟩ = some (.slice w0_a1 w0_n1 w0_c1) := cur_cell K_w0.out.now 1
  have c_g0_0 : w8.cell? ⟨w2.heap.size, 0, none⟩ = some (.int .i64 g0_z0) := cur_cell K_g0.out.now 0
  have c_g0_1 : w8.cell? ⟨w2.heap.size, 1, none⟩ = some (.slice g0_a1 g0_n1 g0_c1) := cur_cell K_g0.out.now 1
  have c_h0_0 : w8.cell? ⟨w6.heap.size, 0, none⟩ = some (.int .i64 h0_z0) := cur_cell K_h0.out.now 0
  have c_h0_1 : w8.cell? ⟨w6.heap.size, 1, none⟩ = some (.slice h0_a1 h0_n1 h0_c1) := cur_cell K_h0.out.now 1
  go_wp2
  go_ret
  exact ⟨rfl, B.out⟩

set_option maxRecDepth 100000 in
theorem lifted (os : Os) (started : os.Started) (H : Type) (enc : TypeId × Value → H) :
    ReturnsInHanded {} Try.checked os 12 .any (Rows.fnExactBitonicSpec.pre6 enc Try.prog Try.f12 Rows.fnExactBitonicRow.domain false) (Rows.fnExactBitonicSpec.post enc Try.prog Try.f12 false true false false) := by
  refine returnsInHanded_of_change (C := Try.checked) own started (by kernel_rfl) Try.func12
    (ChangeSpec.witness6 (enc := enc) (C := Try.checked) false ⟨#[], #[.int .i64 0], []⟩ 8 (by kernel_rfl) (by kernel_rfl) (by kernel_rfl) (by kernel_rfl)) ?_
  intro W base args ds gs before hval0 hW hcnd _
  have hval : ∀ (j : Nat) t v, Try.f12.params[j]? = some t → args[j]? = some v → Value.okWide Try.prog W .any base t v := hval0
  have hW' := hW
  obtain ⟨p, q, hA0, hV, rfl, hfz, hnd⟩ := hW
  have hA : DataW.TrodAll enc Try.prog W 0 (fun _ => true) true Try.f12.params.toList args.toList ds p := hA0
  rw [Try.params12] at hA hval
  obtain ⟨v0, vs0, d0, ds0, p0, q0, hargs, rfl, rfl, h0, r0⟩ := trodAll_cons hA
  obtain ⟨rfl, rfl, rfl⟩ := trodAll_nil r0
  obtain rfl : args = #[v0] := by cases args; simp_all
  obtain ⟨rfl, rfl⟩ := trodVars_none hV
  have lt0 : ∀ x ∈ p0, x.block < W.heap.size := by obtain ⟨m, hm⟩ := h0; exact DataW.trod_lt m _ _ _ hm
  clear hA0 hval0
  refine (walk v0 W ⟨⟨base, hval 0 3 v0 rfl rfl⟩, Rd.of h0⟩).mono fun e W' ⟨he, bel⟩ => ?_
  subst he
  exact ⟨_, rfl, _, _, _, [], _, [], hW', trodAll_mk1 (shut_bool Try.underlying4 _), (trodAll_cons_mk (Below.trod laidOut (by kernel_rfl) (of_decide_eq_true (by kernel_rfl)) h0 bel lt0) trodAll_mk0), rfl, bel.frame _, fun h => by cases h⟩

theorem over : Rows.fnExactBitonicRow.holds Try.pinned (OpenSpec.ofChange Rows.fnExactBitonicSpec) :=
  OpenClaim.holds_of_wide 12 Try.f12 rfl rfl rfl rfl rfl rfl rfl ⟨rfl, rfl, rfl, rfl, rfl⟩ rfl rfl rfl rfl rfl (by kernel_rfl) Try.func12 (by kernel_rfl)
    (of_decide_eq_true (by kernel_rfl)) (by unfold Func.isWrapper; first | (rw [if_pos (by decide +kernel)]; kernel_rfl) | (rw [if_neg (by decide +kernel)]; exact ⟨rfl, rfl⟩))
    (fun os started H enc _ => lifted os started H enc)
end Go.Proofs.Ytkifndcfmmdkpaa.fnExactBitonic
namespace Go.Proofs.Ytkifndcfmmdkpaa
/-- Bitonic answers as its model, at every argument. -/
theorem fnExactBitonic_holds : Rows.FnExactBitonicSaid := fnExactBitonic.over
end Go.Proofs.Ytkifndcfmmdkpaa
