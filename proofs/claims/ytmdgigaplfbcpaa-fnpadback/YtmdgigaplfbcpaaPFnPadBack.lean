/- For every code: the law FnPadBack answers true, that is, the drawn word is recovered from its Pad, and the Pad has 33 bytes. No condition. -/
import Derived.Test.YtmdgigaplfbcpaaBase
import Derived.Test.YtmdgigaplfbcpaaUnpad
import Derived.Test.YtmdgigaplfbcpaaBad
import Derived.Test.YtmdgigaplfbcpaaLawAid
namespace Go.Proofs.Ytmdgigaplfbcpaa.fnPadBack
open Go.ChangeShapes Go.WideShapes Go.ChangeAt Go.RowKit
open Go.ChangeMaps (open_string shut_string)
set_option linter.unusedVariables false

theorem inner_pad {l : List UInt8} (h : wordB l = true) : inner (padL l) = l := by
  have hl := word_len h
  unfold inner padL
  rw [h]
  have e : (UInt8.ofNat l.length).toNat = l.length := by simp; omega
  simp only [if_true, List.drop_succ_cons, List.drop_zero, List.getD_cons_zero, e]
  rw [List.take_left]
theorem unp_pad {l : List UInt8} (h : wordB l = true) : unpB (padL l) = true ∧ unpL (padL l) = l := by
  have hl := word_len h
  have hb : unpB (padL l) = true := by
    unfold unpB
    rw [inner_pad h, padL_length, h]
    have e : ((padL l).getD 0 0).toNat ≤ 32 := by
      unfold padL; rw [h]
      have e : (UInt8.ofNat l.length).toNat = l.length := by simp; omega
      simp only [if_true, List.getD_cons_zero, e]; exact hl.2
    simp
    simpa using e
  exact ⟨hb, by rw [unp_yes hb, inner_pad h]⟩
theorem unp_none {l : List UInt8} (h : wordB l = false) : unpB (padL l) = false ∧ unpL (padL l) = [] := by
  have e : padL l = List.replicate 33 0 := by unfold padL; rw [h]; rfl
  have hb : unpB (padL l) = false := unp_small (by rw [e]; decide)
  exact ⟨hb, unp_no hb⟩

set_option maxHeartbeats 400000 in
theorem drawPad (a : Option Addr) (l : List UInt8) (cap : Nat) (w : World) (hl : l.length ≤ 1048576) (r : Row w a (l.map bval)) :
    Calls Try.prog 12 #[.slice a l.length cap] w fun e w' => (∃ s : ByteArray, e = .returned (.string s) ∧ s.size ≤ 96) ∧ Below w.heap.size w w' := by
  have R := Lib.hid r
  clear r
  go_enter Try.func12, Try.ntmps12
  go_wp2_with fail
  refine (curOpen a l cap _ hl R.out).mono ?_
  rintro e w1 ⟨rfl, hI1, hb1⟩
  have I1 := Lib.hid hI1
  have B1 := Lib.hid hb1
  clear hI1 hb1
  go_wp2_with fail
  refine (curBadWord _ a l cap 0 _ hl (by omega) I1.out).mono ?_
  rintro e w2 ⟨s, rfl, hs, hI2, hg2⟩
  have B2 := Lib.hid (below_write B1.out hg2 (Nat.le_refl _))
  clear hI2 hg2
  go_wp2
  go_ret
  exact ⟨⟨s, rfl, hs⟩, B2.out⟩

set_option maxHeartbeats 1000000 in
theorem walk (a0 : Option Addr) (len0 cap0 : Nat) (z0 : List Int) (w : World) (w0 : IsRow .u8 w a0 len0 cap0 z0) :
    Calls Try.prog 3 #[.slice a0 len0 cap0] w fun e w' => e = .returned (.bool true) ∧ Below w.heap.size w w' := by
  obtain ⟨l, hl, hcap, hmax, hr⟩ := row_of_isRow w0
  clear w0
  subst hl
  have R := Lib.hid hr
  clear hr
  by_cases h1 : 1048576 < l.length
  · go_enter Try.func3, Try.ntmps3
    go_wp2_with fail
    refine (bigIs _ _ _ _ (by omega)).mono ?_
    rintro e w1 ⟨rfl, rfl⟩
    rw [decide_eq_true h1]
    go_wp2
    go_ret
    exact ⟨rfl, Below.refl _ _⟩
  go_enter Try.func3, Try.ntmps3
  go_wp2_with fail
  refine (bigIs _ _ _ _ (by omega)).mono ?_
  rintro e w1 ⟨rfl, rfl⟩
  rw [decide_eq_false h1]
  go_wp2_with fail
  refine (drawPad a0 l cap0 _ (by omega) R.out).mono ?_
  rintro e w1 ⟨⟨s, rfl, hs⟩, hb1⟩
  have B1 := Lib.hid hb1
  clear hb1
  have hsm : s.size ≤ maxLen := by unfold maxLen; omega
  go_wp2_with fail
  refine (implPad s _ hsm).mono ?_
  rintro e w2 ⟨rfl, hA2, hb2⟩
  have A2 := Lib.hid hA2
  have B2 := Lib.hid (below_seq B1.out hb2)
  clear hA2 hb2
  have BO := bytesOfIs w1.heap.size 0 33 (padL s.data.toList) w2 (by rw [padL_length]; decide) (own_cells A2.out (padL_length _))
  rw [padL_length] at BO
  have BO' := Lib.hid BO
  clear BO
  go_wp2_with fail
  refine BO'.out.mono ?_
  rintro e w3 ⟨v, rfl, hA3, hb3⟩
  obtain ⟨a3, cap3, rfl⟩ := own_shape hA3
  have hc3 := own_cap hA3
  have B3 := Lib.hid (below_seq B2.out hb3)
  have UP := implUnpad cap3 a3 (padL s.data.toList) w3 (by rw [padL_length]; decide) (by rw [padL_length]; exact hc3) (Row.of_own hA3)
  rw [padL_length] at UP
  have UP' := Lib.hid UP
  clear UP hA3 hb3
  go_wp2_with fail
  refine UP'.out.mono ?_
  rintro e w4 ⟨rfl, hb4⟩
  have B4 := Lib.hid (below_seq B3.out hb4)
  clear hb4
  have WK := Lib.hid (fun w => specWordOk s w hsm)
  have es : strL s.data.toList = s := rfl
  cases hw : wordB s.data.toList
  · obtain ⟨e1, e2⟩ := unp_none hw
    rw [e1, e2, strL_empty]
    rw [hw] at WK
    clear e1 e2 hw es
    go_wp2_with fail
    refine (WK.out _).mono ?_
    rintro e w5 ⟨rfl, rfl⟩
    go_wp2
    all_goals
      go_ret
      exact ⟨rfl, B4.out⟩
  · obtain ⟨e1, e2⟩ := unp_pad hw
    rw [e1, e2, es]
    rw [hw] at WK
    clear e1 e2 hw es
    go_wp2_with fail
    refine (WK.out _).mono ?_
    rintro e w5 ⟨rfl, rfl⟩
    go_wp2
    go_ret
    exact ⟨rfl, B4.out⟩

set_option maxRecDepth 100000 in
theorem lifted (os : Os) (started : os.Started) (H : Type) (enc : TypeId × Value → H) :
    ReturnsInHanded {} Try.checked os 3 .any (Rows.fnPadBackSpec.pre6 enc Try.prog Try.f3 Rows.fnPadBackRow.domain false) (Rows.fnPadBackSpec.post enc Try.prog Try.f3 false true false false) := by
  refine returnsInHanded_of_change (C := Try.checked) own started (by kernel_rfl) Try.func3
    (ChangeSpec.witness6 (enc := enc) (C := Try.checked) false ⟨#[], #[.slice none 0 0], []⟩ 8 (by kernel_rfl) (by kernel_rfl) (by kernel_rfl) (by kernel_rfl)) ?_
  intro W base args ds gs before hval0 hW hcnd _
  have hval : ∀ (j : Nat) t v, Try.f3.params[j]? = some t → args[j]? = some v → Value.okWide Try.prog W .any base t v := hval0
  have hW' := hW
  obtain ⟨p, q, hA0, hV, rfl, hfz, hnd⟩ := hW
  have hA : DataW.TrodAll enc Try.prog W 0 (fun _ => true) true Try.f3.params.toList args.toList ds p := hA0
  rw [Try.params3] at hA hval
  obtain ⟨v0, vs0, d0, ds0, p0, q0, hargs, rfl, rfl, h0, r0⟩ := trodAll_cons hA
  obtain ⟨rfl, rfl, rfl⟩ := trodAll_nil r0
  obtain rfl : args = #[v0] := by cases args; simp_all
  obtain ⟨rfl, rfl⟩ := trodVars_none hV
  obtain ⟨a0, len0, cap0, rfl⟩ := okWide_slice Try.underlying22 (hval 0 22 v0 rfl rfl)
  have k0 := h0
  have lt0 : ∀ x ∈ p0, x.block < W.heap.size := by obtain ⟨m, hm⟩ := k0; exact DataW.trod_lt m _ _ _ hm
  obtain ⟨z0, w0⟩ : ∃ zs, IsRow .u8 W a0 len0 cap0 zs := by
    obtain ⟨fuel, hf⟩ := h0
    rcases open_ints Try.underlying22 Try.underlying5 (by kernel_rfl) hf with ⟨hcs, _⟩ | ⟨x, l, c, zs, hcs, _, hl, hm, hz, _, hcell, hwz⟩
    · simp [Value.cells] at hcs
      obtain ⟨rfl, rfl, rfl⟩ := hcs
      exact ⟨[], .inl ⟨rfl, rfl, rfl, rfl⟩⟩
    · simp [Value.cells] at hcs
      obtain ⟨rfl, rfl, rfl⟩ := hcs
      exact ⟨zs, .inr ⟨_, rfl, hl, hm, by simpa using hz, hcell, hwz⟩⟩
  clear hA0 hval0
  refine (walk a0 len0 cap0 z0 W w0).mono fun e W' ⟨he, bel⟩ => ?_
  subst he
  exact ⟨_, rfl, _, _, _, [], _, [], hW', trodAll_mk1 (shut_bool Try.underlying4 _), (trodAll_cons_mk (Below.trod laidOut (by kernel_rfl) (of_decide_eq_true (by kernel_rfl)) k0 bel lt0) trodAll_mk0), rfl, bel.frame _, fun h => by cases h⟩

theorem over : Rows.fnPadBackRow.holds Try.pinned (OpenSpec.ofChange Rows.fnPadBackSpec) :=
  OpenClaim.holds_of_wide 3 Try.f3 rfl rfl rfl rfl rfl rfl rfl ⟨rfl, rfl, rfl, rfl, rfl⟩ rfl rfl rfl rfl rfl (by kernel_rfl) Try.func3 (by kernel_rfl)
    (of_decide_eq_true (by kernel_rfl)) (by unfold Func.isWrapper; first | (rw [if_pos (by decide +kernel)]; kernel_rfl) | (rw [if_neg (by decide +kernel)]; exact ⟨rfl, rfl⟩))
    (fun os started H enc _ => lifted os started H enc)
end Go.Proofs.Ytmdgigaplfbcpaa.fnPadBack
namespace Go.Proofs.Ytmdgigaplfbcpaa
/-- The drawn word is recovered from its Pad, for every code. -/
theorem fnPadBack_holds : Rows.FnPadBackSaid := fnPadBack.over
end Go.Proofs.Ytmdgigaplfbcpaa
