/- For every argument: the law FnExactRecRead answers true, that is, RecRead answers as its model and writes into no argument; its answer owns its memory. No condition. -/
import Derived.Test.YtkcplnmhonhmaaaBase
import Derived.Test.YtkcplnmhonhmaaaReads
import Derived.Test.YtkcplnmhonhmaaaRecW
import Derived.Test.YtkcplnmhonhmaaaRecK
import Derived.Deep.RegionHeld3
namespace Go.Proofs.Ytkcplnmhonhmaaa.fnExactRecRead
open Go.ChangeShapes Go.WideShapes Go.ChangeAt Go.RowKit
set_option linter.unusedVariables false

set_option maxRecDepth 100000 in
set_option maxHeartbeats 4000000 in
theorem walk (v0 : Value) (w : World) (h0 : Arg w 22 v0) :
    Calls Try.prog 7 #[v0] w fun e w' => e = .returned (.bool true) ∧ Below w.heap.size w w' := by
  obtain ⟨d0_0, m0, rfl, i0, b0⟩ := argByteS h0
  have R_aData := Lib.hid i0.lies
  obtain ⟨a0, cap0, rfl, _, hx0, _⟩ := byteSIn_shape i0
  clear i0
  clear h0
  have B : Hid (Below w.heap.size w w) := Lib.hid (Below.refl _ _)
  have B0s : 0 ≤ w.heap.size := Nat.zero_le _
  by_cases g0 : 1048576 < m0.length
  · go_enter Try.func7, Try.ntmps7
    go_wp2
    go_ret
    exact ⟨rfl, B.out⟩
  have hs0 : szByteS m0 ≤ 1048576 := by unfold szByteS; omega
  go_enter Try.func7, Try.ntmps7
  go_wp2_with fail
  refine (uToByteS (.slice a0 m0.length cap0) m0 _ hs0 R_aData.out.now).mono ?_
  rintro e w1 ⟨t0_0, rfl, ho, hb⟩
  obtain ⟨t0_a0, t0_n0, t0_c0, rfl⟩ := ho.shape
  have s_w1 : w.heap.size ≤ w1.heap.size := by have := hb.size; simpa only [size_box, size_drew] using this
  replace B := Lib.hid (below_seq B.out hb)
  replace R_aData := Lib.hid (R_aData.out.below hb)
  have A_t0_ := Lib.hid (ho.lies (Nat.le_refl _))
  clear ho hb
  go_wp2_with fail
  refine (uSpecRecRead (.slice t0_a0 t0_n0 t0_c0) m0 _ A_t0_.out.now.read).mono ?_
  rintro e w2 ⟨w0_0, w0_1, w0_2, w0_3, rfl, ho_w0, hb⟩
  obtain ⟨w0_b0, w0_z1, w0_z2, w0_t3, rfl, rfl, rfl, rfl⟩ := ho_w0.shape
  clear A_t0_
  have s_w2 : w1.heap.size ≤ w2.heap.size := by have := hb.size; simpa only [size_box, size_drew] using this
  replace B := Lib.hid (below_seq B.out hb)
  replace R_aData := Lib.hid (R_aData.out.below hb)
  have A_w0 := Lib.hid (ho_w0.lies (Nat.le_refl _))
  clear ho_w0 hb
  replace B := Lib.hid (below_box B.out (.cells #[.bool w0_b0, .int .i64 w0_z1, .int .i64 w0_z2, .string w0_t3] 25))
  replace R_aData := Lib.hid (R_aData.out.box (.cells #[.bool w0_b0, .int .i64 w0_z1, .int .i64 w0_z2, .string w0_t3] 25))
  replace A_w0 := Lib.hid (A_w0.out.box (.cells #[.bool w0_b0, .int .i64 w0_z1, .int .i64 w0_z2, .string w0_t3] 25))
  have K_w0 := Lib.hid (lies_box w2 (.cells #[.bool w0_b0, .int .i64 w0_z1, .int .i64 w0_z2, .string w0_t3] 25))
  have c_w0_0 : (w2.alloc (.cells #[.bool w0_b0, .int .i64 w0_z1, .int .i64 w0_z2, .string w0_t3] 25)).cell? ⟨w2.heap.size, 0, none⟩ = some (.bool w0_b0) := cur_cell K_w0.out.now 0
  have c_w0_1 : (w2.alloc (.cells #[.bool w0_b0, .int .i64 w0_z1, .int .i64 w0_z2, .string w0_t3] 25)).cell? ⟨w2.heap.size, 1, none⟩ = some (.int .i64 w0_z1) := cur_cell K_w0.out.now 1
  have c_w0_2 : (w2.alloc (.cells #[.bool w0_b0, .int .i64 w0_z1, .int .i64 w0_z2, .string w0_t3] 25)).cell? ⟨w2.heap.size, 2, none⟩ = some (.int .i64 w0_z2) := cur_cell K_w0.out.now 2
  have c_w0_3 : (w2.alloc (.cells #[.bool w0_b0, .int .i64 w0_z1, .int .i64 w0_z2, .string w0_t3] 25)).cell? ⟨w2.heap.size, 3, none⟩ = some (.string w0_t3) := cur_cell K_w0.out.now 3
  go_wp2_with fail
  clear c_w0_0 c_w0_1 c_w0_2 c_w0_3
  refine (uToByteS (.slice a0 m0.length cap0) m0 _ hs0 R_aData.out.now).mono ?_
  rintro e w3 ⟨x00, rfl, ho, hb⟩
  obtain ⟨x0a0, x0n0, x0c0, rfl⟩ := ho.shape
  have s_w3 : w2.heap.size + 1 ≤ w3.heap.size := by have := hb.size; simpa only [size_box, size_drew] using this
  replace B := Lib.hid (below_seq B.out hb)
  replace R_aData := Lib.hid (R_aData.out.below hb)
  replace A_w0 := Lib.hid (A_w0.out.below hb)
  replace K_w0 := Lib.hid (K_w0.out.below hb)
  simp only [size_box] at ho
  have A_x0 := Lib.hid (ho.lies (Nat.le_refl _))
  clear ho hb
  have c_w0_0 : w3.cell? ⟨w2.heap.size, 0, none⟩ = some (.bool w0_b0) := cur_cell K_w0.out.now 0
  have c_w0_1 : w3.cell? ⟨w2.heap.size, 1, none⟩ = some (.int .i64 w0_z1) := cur_cell K_w0.out.now 1
  have c_w0_2 : w3.cell? ⟨w2.heap.size, 2, none⟩ = some (.int .i64 w0_z2) := cur_cell K_w0.out.now 2
  have c_w0_3 : w3.cell? ⟨w2.heap.size, 3, none⟩ = some (.string w0_t3) := cur_cell K_w0.out.now 3
  go_wp2_with fail
  clear c_w0_0 c_w0_1 c_w0_2 c_w0_3
  refine (uImplRecRead (.slice x0a0 x0n0 x0c0) m0 _ A_x0.out.now.read).mono ?_
  rintro e w4 ⟨g0_0, g0_1, g0_2, g0_3, rfl, ho_g0, hb⟩
  obtain ⟨g0_b0, g0_z1, g0_z2, g0_t3, rfl, rfl, rfl, rfl⟩ := ho_g0.shape
  have s_w4 : w3.heap.size ≤ w4.heap.size := by have := hb.size; simpa only [size_box, size_drew] using this
  replace B := Lib.hid (below_seq B.out hb)
  replace R_aData := Lib.hid (R_aData.out.below hb)
  replace A_w0 := Lib.hid (A_w0.out.below hb)
  replace K_w0 := Lib.hid (K_w0.out.below hb)
  replace A_x0 := Lib.hid (A_x0.out.below hb)
  have A_g0 := Lib.hid (ho_g0.lies (Nat.le_refl _))
  clear ho_g0 hb
  replace B := Lib.hid (below_box B.out (.cells #[.bool g0_b0, .int .i64 g0_z1, .int .i64 g0_z2, .string g0_t3] 25))
  replace R_aData := Lib.hid (R_aData.out.box (.cells #[.bool g0_b0, .int .i64 g0_z1, .int .i64 g0_z2, .string g0_t3] 25))
  replace A_w0 := Lib.hid (A_w0.out.box (.cells #[.bool g0_b0, .int .i64 g0_z1, .int .i64 g0_z2, .string g0_t3] 25))
  replace K_w0 := Lib.hid (K_w0.out.box (.cells #[.bool g0_b0, .int .i64 g0_z1, .int .i64 g0_z2, .string g0_t3] 25))
  replace A_x0 := Lib.hid (A_x0.out.box (.cells #[.bool g0_b0, .int .i64 g0_z1, .int .i64 g0_z2, .string g0_t3] 25))
  replace A_g0 := Lib.hid (A_g0.out.box (.cells #[.bool g0_b0, .int .i64 g0_z1, .int .i64 g0_z2, .string g0_t3] 25))
  have K_g0 := Lib.hid (lies_box w4 (.cells #[.bool g0_b0, .int .i64 g0_z1, .int .i64 g0_z2, .string g0_t3] 25))
  have c_w0_0 : (w4.alloc (.cells #[.bool g0_b0, .int .i64 g0_z1, .int .i64 g0_z2, .string g0_t3] 25)).cell? ⟨w2.heap.size, 0, none⟩ = some (.bool w0_b0) := cur_cell K_w0.out.now 0
  have c_w0_1 : (w4.alloc (.cells #[.bool g0_b0, .int .i64 g0_z1, .int .i64 g0_z2, .string g0_t3] 25)).cell? ⟨w2.heap.size, 1, none⟩ = some (.int .i64 w0_z1) := cur_cell K_w0.out.now 1
  have c_w0_2 : (w4.alloc (.cells #[.bool g0_b0, .int .i64 g0_z1, .int .i64 g0_z2, .string g0_t3] 25)).cell? ⟨w2.heap.size, 2, none⟩ = some (.int .i64 w0_z2) := cur_cell K_w0.out.now 2
  have c_w0_3 : (w4.alloc (.cells #[.bool g0_b0, .int .i64 g0_z1, .int .i64 g0_z2, .string g0_t3] 25)).cell? ⟨w2.heap.size, 3, none⟩ = some (.string w0_t3) := cur_cell K_w0.out.now 3
  have c_g0_0 : (w4.alloc (.cells #[.bool g0_b0, .int .i64 g0_z1, .int .i64 g0_z2, .string g0_t3] 25)).cell? ⟨w4.heap.size, 0, none⟩ = some (.bool g0_b0) := cur_cell K_g0.out.now 0
  have c_g0_1 : (w4.alloc (.cells #[.bool g0_b0, .int .i64 g0_z1, .int .i64 g0_z2, .string g0_t3] 25)).cell? ⟨w4.heap.size, 1, none⟩ = some (.int .i64 g0_z1) := cur_cell K_g0.out.now 1
  have c_g0_2 : (w4.alloc (.cells #[.bool g0_b0, .int .i64 g0_z1, .int .i64 g0_z2, .string g0_t3] 25)).cell? ⟨w4.heap.size, 2, none⟩ = some (.int .i64 g0_z2) := cur_cell K_g0.out.now 2
  have c_g0_3 : (w4.alloc (.cells #[.bool g0_b0, .int .i64 g0_z1, .int .i64 g0_z2, .string g0_t3] 25)).cell? ⟨w4.heap.size, 3, none⟩ = some (.string g0_t3) := cur_cell K_g0.out.now 3
  go_wp2_with fail
  clear c_w0_0 c_w0_1 c_w0_2 c_w0_3 c_g0_0 c_g0_1 c_g0_2 c_g0_3
  refine (uEqRec (.bool g0_b0) (.int .i64 g0_z1) (.int .i64 g0_z2) (.string g0_t3) (.bool w0_b0) (.int .i64 w0_z1) (.int .i64 w0_z2) (.string w0_t3) (readM m0) _ A_g0.out.now.read A_w0.out.now.read).mono ?_
  rintro e w5 ⟨rfl, hb⟩
  have s_w5 : w4.heap.size + 1 ≤ w5.heap.size := by have := hb.size; simpa only [size_box, size_drew] using this
  replace B := Lib.hid (below_seq B.out hb)
  replace R_aData := Lib.hid (R_aData.out.below hb)
  replace A_w0 := Lib.hid (A_w0.out.below hb)
  replace K_w0 := Lib.hid (K_w0.out.below hb)
  replace A_x0 := Lib.hid (A_x0.out.below hb)
  replace A_g0 := Lib.hid (A_g0.out.below hb)
  replace K_g0 := Lib.hid (K_g0.out.below hb)
  clear hb
  have c_w0_0 : w5.cell? ⟨w2.heap.size, 0, none⟩ = some (.bool w0_b0) := cur_cell K_w0.out.now 0
  have c_w0_1 : w5.cell? ⟨w2.heap.size, 1, none⟩ = some (.int .i64 w0_z1) := cur_cell K_w0.out.now 1
  have c_w0_2 : w5.cell? ⟨w2.heap.size, 2, none⟩ = some (.int .i64 w0_z2) := cur_cell K_w0.out.now 2
  have c_w0_3 : w5.cell? ⟨w2.heap.size, 3, none⟩ = some (.string w0_t3) := cur_cell K_w0.out.now 3
  have c_g0_0 : w5.cell? ⟨w4.heap.size, 0, none⟩ = some (.bool g0_b0) := cur_cell K_g0.out.now 0
  have c_g0_1 : w5.cell? ⟨w4.heap.size, 1, none⟩ = some (.int .i64 g0_z1) := cur_cell K_g0.out.now 1
  have c_g0_2 : w5.cell? ⟨w4.heap.size, 2, none⟩ = some (.int .i64 g0_z2) := cur_cell K_g0.out.now 2
  have c_g0_3 : w5.cell? ⟨w4.heap.size, 3, none⟩ = some (.string g0_t3) := cur_cell K_g0.out.now 3
  go_wp2_with fail
  clear c_w0_0 c_w0_1 c_w0_2 c_w0_3 c_g0_0 c_g0_1 c_g0_2 c_g0_3
  refine (uToByteS (.slice a0 m0.length cap0) m0 _ hs0 R_aData.out.now).mono ?_
  rintro e w6 ⟨te5_0, rfl, ho, hb⟩
  obtain ⟨te5_a0, te5_n0, te5_c0, rfl⟩ := ho.shape
  have s_w6 : w5.heap.size ≤ w6.heap.size := by have := hb.size; simpa only [size_box, size_drew] using this
  replace B := Lib.hid (below_seq B.out hb)
  replace R_aData := Lib.hid (R_aData.out.below hb)
  replace A_w0 := Lib.hid (A_w0.out.below hb)
  replace K_w0 := Lib.hid (K_w0.out.below hb)
  replace A_x0 := Lib.hid (A_x0.out.below hb)
  replace A_g0 := Lib.hid (A_g0.out.below hb)
  replace K_g0 := Lib.hid (K_g0.out.below hb)
  have A_te5_ := Lib.hid (ho.lies (Nat.le_refl _))
  clear ho hb
  have c_w0_0 : w6.cell? ⟨w2.heap.size, 0, none⟩ = some (.bool w0_b0) := cur_cell K_w0.out.now 0
  have c_w0_1 : w6.cell? ⟨w2.heap.size, 1, none⟩ = some (.int .i64 w0_z1) := cur_cell K_w0.out.now 1
  have c_w0_2 : w6.cell? ⟨w2.heap.size, 2, none⟩ = some (.int .i64 w0_z2) := cur_cell K_w0.out.now 2
  have c_w0_3 : w6.cell? ⟨w2.heap.size, 3, none⟩ = some (.string w0_t3) := cur_cell K_w0.out.now 3
  have c_g0_0 : w6.cell? ⟨w4.heap.size, 0, none⟩ = some (.bool g0_b0) := cur_cell K_g0.out.now 0
  have c_g0_1 : w6.cell? ⟨w4.heap.size, 1, none⟩ = some (.int .i64 g0_z1) := cur_cell K_g0.out.now 1
  have c_g0_2 : w6.cell? ⟨w4.heap.size, 2, none⟩ = some (.int .i64 g0_z2) := cur_cell K_g0.out.now 2
  have c_g0_3 : w6.cell? ⟨w4.heap.size, 3, none⟩ = some (.string g0_t3) := cur_cell K_g0.out.now 3
  go_wp2_with fail
  clear c_w0_0 c_w0_1 c_w0_2 c_w0_3 c_g0_0 c_g0_1 c_g0_2 c_g0_3
  refine (uEqByteS (.slice x0a0 x0n0 x0c0) (.slice te5_a0 te5_n0 te5_c0) m0 _ A_x0.out.now.read A_te5_.out.now.read).mono ?_
  rintro e w7 ⟨rfl, hb⟩
  have s_w7 : w6.heap.size ≤ w7.heap.size := by have := hb.size; simpa only [size_box, size_drew] using this
  replace B := Lib.hid (below_seq B.out hb)
  replace R_aData := Lib.hid (R_aData.out.below hb)
  replace A_w0 := Lib.hid (A_w0.out.below hb)
  replace K_w0 := Lib.hid (K_w0.out.below hb)
  replace A_x0 := Lib.hid (A_x0.out.below hb)
  replace A_g0 := Lib.hid (A_g0.out.below hb)
  replace K_g0 := Lib.hid (K_g0.out.below hb)
  replace A_te5_ := Lib.hid (A_te5_.out.below hb)
  clear hb
  clear A_te5_
  have c_w0_0 : w7.cell? ⟨w2.heap.size, 0, none⟩ = some (.bool w0_b0) := cur_cell K_w0.out.now 0
  have c_w0_1 : w7.cell? ⟨w2.heap.size, 1, none⟩ = some (.int .i64 w0_z1) := cur_cell K_w0.out.now 1
  have c_w0_2 : w7.cell? ⟨w2.heap.size, 2, none⟩ = some (.int .i64 w0_z2) := cur_cell K_w0.out.now 2
  have c_w0_3 : w7.cell? ⟨w2.heap.size, 3, none⟩ = some (.string w0_t3) := cur_cell K_w0.out.now 3
  have c_g0_0 : w7.cell? ⟨w4.heap.size, 0, none⟩ = some (.bool g0_b0) := cur_cell K_g0.out.now 0
  have c_g0_1 : w7.cell? ⟨w4.heap.size, 1, none⟩ = some (.int .i64 g0_z1) := cur_cell K_g0.out.now 1
  have c_g0_2 : w7.cell? ⟨w4.heap.size, 2, none⟩ = some (.int .i64 g0_z2) := cur_cell K_g0.out.now 2
  have c_g0_3 : w7.cell? ⟨w4.heap.size, 3, none⟩ = some (.string g0_t3) := cur_cell K_g0.out.now 3
  go_wp2
  go_ret
  exact ⟨rfl, B.out⟩

set_option maxRecDepth 100000 in
theorem lifted (os : Os) (started : os.Started) (H : Type) (enc : TypeId × Value → H) :
    ReturnsInHanded {} Try.checked os 7 .any (Rows.fnExactRecReadSpec.pre6 enc Try.prog Try.f7 Rows.fnExactRecReadRow.domain false) (Rows.fnExactRecReadSpec.post enc Try.prog Try.f7 false true false false) := by
  refine returnsInHanded_of_change (C := Try.checked) own started (by kernel_rfl) Try.func7
    (ChangeSpec.witness6 (enc := enc) (C := Try.checked) false ⟨#[], #[.slice none 0 0], []⟩ 8 (by kernel_rfl) (by kernel_rfl) (by kernel_rfl) (by kernel_rfl)) ?_
  intro W base args ds gs before hval0 hW hcnd _
  have hval : ∀ (j : Nat) t v, Try.f7.params[j]? = some t → args[j]? = some v → Value.okWide Try.prog W .any base t v := hval0
  have hW' := hW
  obtain ⟨p, q, hA0, hV, rfl, hfz, hnd⟩ := hW
  have hA : DataW.TrodAll enc Try.prog W 0 (fun _ => true) true Try.f7.params.toList args.toList ds p := hA0
  rw [Try.params7] at hA hval
  obtain ⟨v0, vs0, d0, ds0, p0, q0, hargs, rfl, rfl, h0, r0⟩ := trodAll_cons hA
  obtain ⟨rfl, rfl, rfl⟩ := trodAll_nil r0
  obtain rfl : args = #[v0] := by cases args; simp_all
  obtain ⟨rfl, rfl⟩ := trodVars_none hV
  have lt0 : ∀ x ∈ p0, x.block < W.heap.size := by obtain ⟨m, hm⟩ := h0; exact DataW.trod_lt m _ _ _ hm
  clear hA0 hval0
  refine (walk v0 W ⟨⟨base, hval 0 22 v0 rfl rfl⟩, Rd.of h0⟩).mono fun e W' ⟨he, bel⟩ => ?_
  subst he
  exact ⟨_, rfl, _, _, _, [], _, [], hW', trodAll_mk1 (shut_bool Try.underlying4 _), (trodAll_cons_mk (Below.trod laidOut (by kernel_rfl) (of_decide_eq_true (by kernel_rfl)) h0 bel lt0) trodAll_mk0), rfl, bel.frame _, fun h => by cases h⟩

theorem over : Rows.fnExactRecReadRow.holds Try.pinned (OpenSpec.ofChange Rows.fnExactRecReadSpec) :=
  OpenClaim.holds_of_wide 7 Try.f7 rfl rfl rfl rfl rfl rfl rfl ⟨rfl, rfl, rfl, rfl, rfl⟩ rfl rfl rfl rfl rfl (by kernel_rfl) Try.func7 (by kernel_rfl)
    (of_decide_eq_true (by kernel_rfl)) (by unfold Func.isWrapper; first | (rw [if_pos (by decide +kernel)]; kernel_rfl) | (rw [if_neg (by decide +kernel)]; exact ⟨rfl, rfl⟩))
    (fun os started H enc _ => lifted os started H enc)
end Go.Proofs.Ytkcplnmhonhmaaa.fnExactRecRead
namespace Go.Proofs.Ytkcplnmhonhmaaa
/-- RecRead answers as its model, at every argument. -/
theorem fnExactRecRead_holds : Rows.FnExactRecReadSaid := fnExactRecRead.over
end Go.Proofs.Ytkcplnmhonhmaaa
