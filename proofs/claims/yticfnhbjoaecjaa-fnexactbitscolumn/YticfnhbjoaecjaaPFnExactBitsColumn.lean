/- For every column, valid or not: the law FnExactBitsColumn answers true, that is, BitsColumn answers as its model, in memory of its own. No condition. -/
import Derived.Test.YticfnhbjoaecjaaBase
import Derived.Test.YticfnhbjoaecjaaMyX
namespace Go.Proofs.Yticfnhbjoaecjaa.fnExactBitsColumn
open Go.ChangeShapes Go.WideShapes Go.ChangeAt Go.RowKit
set_option linter.unusedVariables false

theorem okL_len (pv mv : Nat) (sc ln : Int) (hpv : pv < 18446744073709551616) (hmv : mv < 18446744073709551616) : (okL pv mv sc ln).length ≤ 33 := by
  cases h : okB pv mv sc ln
  · rw [okL_no h]; simp
  · obtain ⟨n, rfl, hk⟩ := okB_of hpv hmv h
    rw [okL_yes hk, listF_length]
    have := hk.len
    omega
set_option maxRecDepth 100000 in
set_option maxHeartbeats 2000000 in
theorem walk (v0 : Value) (w : World) (h0 : Arg w 39 v0) :
    Calls Try.prog 6 #[v0] w fun e w' => e = .returned (.bool true) ∧ Below w.heap.size w w' := by
  obtain ⟨pv, mv, sc, ln, rfl, h1, h2, h3, h4⟩ := argBits h0
  have TB := Lib.hid (fun w => lawsToBits pv mv sc ln w)
  have SB := Lib.hid (fun w => specBitsColumn pv mv sc ln w h1 h2 h3 h4)
  have IB := Lib.hid (fun w => implBitsColumn pv mv sc ln w h1 h2 h3 h4)
  have LL := okL_len pv mv sc ln h1 h2
  clear h0 h1 h2 h3 h4
  generalize okL pv mv sc ln = L at *
  unfold bitsV at *
  go_enter Try.func6, Try.ntmps6
  go_wp2_with fail
  refine (TB.out _).mono ?_
  rintro e w1 ⟨rfl, hb1⟩
  have K1 := Lib.hid (And.intro (kept_block (alloc_at w (.cells #[.int .u64 pv, .int .u64 mv, .int .i64 sc, .int .i64 ln] 39) _ rfl) hb1) (below_seq (below_box (Below.refl w.heap.size w) _) hb1))
  clear hb1
  go_wp2_with fail
  refine (SB.out _).mono ?_
  rintro e w2 ⟨cs, rfl, hs, hb2⟩
  have K2 := Lib.hid (And.intro (kept_block K1.out.1 hb2) (below_seq K1.out.2 hb2))
  have S2 := Lib.hid (hs.lies (Nat.le_refl _))
  obtain ⟨aS, ns, caps, rfl⟩ := hs.shape
  clear hb2 K1 hs
  have c0 := cur_cell K2.out.1 0
  have c1 := cur_cell K2.out.1 1
  have c2 := cur_cell K2.out.1 2
  have c3 := cur_cell K2.out.1 3
  simp at c0 c1 c2 c3
  go_wp2_with fail
  refine (TB.out _).mono ?_
  rintro e w3 ⟨rfl, hb3⟩
  have K3 := Lib.hid (And.intro (kept_block K2.out.1 hb3) (below_seq K2.out.2 hb3))
  have S3 := Lib.hid (S2.out.below hb3)
  clear hb3 K2 S2 c0 c1 c2 c3
  go_wp2_with fail
  refine (IB.out _).mono ?_
  rintro e w4 ⟨cg, rfl, hg, hb4⟩
  have K4 := Lib.hid (And.intro (kept_block K3.out.1 hb4) (below_seq K3.out.2 hb4))
  have S4 := Lib.hid (S3.out.below hb4)
  have hlo4 : w2.heap.size ≤ w3.heap.size := S3.out.top
  have hk4 : w.heap.size < w3.heap.size := cur_lt K3.out.1
  have G4 := Lib.hid (hg.lies (Nat.le_refl _))
  obtain ⟨ag, ng, capg, rfl⟩ := hg.shape
  clear hb4 K3 S3 hg
  go_wp2_with fail
  refine (uEqIntS _ _ L _ G4.out.now.read S4.out.now.read).mono ?_
  rintro e w5 ⟨rfl, hb5⟩
  have K5 := Lib.hid (And.intro (kept_block K4.out.1 hb5) (below_seq K4.out.2 hb5))
  have S5 := Lib.hid (S4.out.below hb5)
  have G5 := Lib.hid (G4.out.below hb5)
  clear hb5 K4 S4 G4
  go_wp2_with fail
  refine (uMarkIntS _ _ 1 _ L _ (by unfold szIntS; omega) G5.out.now).mono ?_
  rintro e w6 ⟨m6, rfl, hm6, hP6, hc6⟩
  have K6 := Lib.hid (And.intro (hc6.block w.heap.size (cur_lt K5.out.1) (by omega) |>.trans K5.out.1) (Chg.below K5.out.2 hc6 (by omega)))
  have S6 := Lib.hid (S5.out.chg hc6 (.inl hlo4))
  have G6 := Lib.hid (hP6.lies (Nat.le_trans G5.out.top hc6.size))
  have hm : m6 ≤ 100 := by rw [hm6]; unfold szIntS; omega
  have M6 := Lib.hid hm6
  clear hc6 hP6 K5 S5 G5 hm6
  go_wp2_with fail
  refine (uHeldIntS 1 _ L _ (by unfold szIntS; omega) G6.out.now.read).mono ?_
  rintro e w7 ⟨m7, rfl, hm7, hb7⟩
  obtain rfl : m7 = m6 := hm7.trans M6.out.symm
  have K7 := Lib.hid (And.intro (kept_block K6.out.1 hb7) (below_seq K6.out.2 hb7))
  have S7 := Lib.hid (S6.out.below hb7)
  have G7 := Lib.hid (G6.out.below hb7)
  clear hb7 K6 S6 G6 hm7
  have c0 := cur_cell K7.out.1 0
  have c1 := cur_cell K7.out.1 1
  have c2 := cur_cell K7.out.1 2
  have c3 := cur_cell K7.out.1 3
  simp at c0 c1 c2 c3
  have hq : ((m7 : Int) != (m7 : Int)) = false := by simp
  have hq2 : ¬ (m7 : Int) < 0 := by omega
  go_wp2_with fail
  refine (TB.out _).mono ?_
  rintro e w8 ⟨rfl, hb8⟩
  have K8 := Lib.hid (below_seq K7.out.2 hb8)
  have S8 := Lib.hid (S7.out.below hb8)
  have G8 := Lib.hid (G7.out.below hb8)
  clear hb8 K7 S7 G7 c0 c1 c2 c3
  go_wp2_with fail
  refine (IB.out _).mono ?_
  rintro e w9 ⟨ch, rfl, hh, hb9⟩
  have K9 := Lib.hid (below_seq K8.out hb9)
  have S9 := Lib.hid (S8.out.below hb9)
  have G9 := Lib.hid (G8.out.below hb9)
  have H9 := Lib.hid hh
  obtain ⟨ah, nh, caph, rfl⟩ := hh.shape
  clear hb9 K8 S8 G8 hh
  go_wp2_with fail
  refine (uEqIntS _ _ L _ H9.out.read S9.out.now.read).mono ?_
  rintro e w10 ⟨rfl, hb10⟩
  have K10 := Lib.hid (below_seq K9.out hb10)
  have G10 := Lib.hid (G9.out.below hb10)
  clear hb10 K9 S9 G9 H9
  go_wp2_with fail
  refine (uHeldIntS 1 _ L _ (by unfold szIntS; omega) G10.out.now.read).mono ?_
  rintro e w11 ⟨m11, rfl, hm11, hb11⟩
  obtain rfl : m11 = m7 := hm11.trans M6.out.symm
  have K11 := Lib.hid (below_seq K10.out hb11)
  clear hb11 K10 G10 hm11
  go_wp2
  go_ret
  exact ⟨rfl, K11.out⟩

set_option maxRecDepth 100000 in
theorem lifted (os : Os) (started : os.Started) (H : Type) (enc : TypeId × Value → H) :
    ReturnsInHanded {} Try.checked os 6 .any (Rows.fnExactBitsColumnSpec.pre6 enc Try.prog Try.f6 Rows.fnExactBitsColumnRow.domain false) (Rows.fnExactBitsColumnSpec.post enc Try.prog Try.f6 false true false false) := by
  refine returnsInHanded_of_change (C := Try.checked) own started (by kernel_rfl) Try.func6
    (ChangeSpec.witness6 (enc := enc) (C := Try.checked) false ⟨#[], #[.agg #[.int .u64 0, .int .u64 0, .int .i64 0, .int .i64 0]], []⟩ 8 (by kernel_rfl) (by kernel_rfl) (by kernel_rfl) (by kernel_rfl)) ?_
  intro W base args ds gs before hval0 hW hcnd _
  have hval : ∀ (j : Nat) t v, Try.f6.params[j]? = some t → args[j]? = some v → Value.okWide Try.prog W .any base t v := hval0
  have hW' := hW
  obtain ⟨p, q, hA0, hV, rfl, hfz, hnd⟩ := hW
  have hA : DataW.TrodAll enc Try.prog W 0 (fun _ => true) true Try.f6.params.toList args.toList ds p := hA0
  rw [Try.params6] at hA hval
  obtain ⟨v0, vs0, d0, ds0, p0, q0, hargs, rfl, rfl, h0, r0⟩ := trodAll_cons hA
  obtain ⟨rfl, rfl, rfl⟩ := trodAll_nil r0
  obtain rfl : args = #[v0] := by cases args; simp_all
  obtain ⟨rfl, rfl⟩ := trodVars_none hV
  have lt0 : ∀ x ∈ p0, x.block < W.heap.size := by obtain ⟨m, hm⟩ := h0; exact DataW.trod_lt m _ _ _ hm
  clear hA0 hval0
  refine (walk v0 W ⟨⟨base, hval 0 39 v0 rfl rfl⟩, Rd.of h0⟩).mono fun e W' ⟨he, bel⟩ => ?_
  subst he
  exact ⟨_, rfl, _, _, _, [], _, [], hW', trodAll_mk1 (shut_bool Try.underlying4 _), (trodAll_cons_mk (Below.trod laidOut (by kernel_rfl) (of_decide_eq_true (by kernel_rfl)) h0 bel lt0) trodAll_mk0), rfl, bel.frame _, fun h => by cases h⟩

theorem over : Rows.fnExactBitsColumnRow.holds Try.pinned (OpenSpec.ofChange Rows.fnExactBitsColumnSpec) :=
  OpenClaim.holds_of_wide 6 Try.f6 rfl rfl rfl rfl rfl rfl rfl ⟨rfl, rfl, rfl, rfl, rfl⟩ rfl rfl rfl rfl rfl (by kernel_rfl) Try.func6 (by kernel_rfl)
    (of_decide_eq_true (by kernel_rfl)) (by unfold Func.isWrapper; first | (rw [if_pos (by decide +kernel)]; kernel_rfl) | (rw [if_neg (by decide +kernel)]; exact ⟨rfl, rfl⟩))
    (fun os started H enc _ => lifted os started H enc)
end Go.Proofs.Yticfnhbjoaecjaa.fnExactBitsColumn
namespace Go.Proofs.Yticfnhbjoaecjaa
/-- BitsColumn answers as its model, at every column. -/
theorem fnExactBitsColumn_holds : Rows.FnExactBitsColumnSaid := fnExactBitsColumn.over
end Go.Proofs.Yticfnhbjoaecjaa
