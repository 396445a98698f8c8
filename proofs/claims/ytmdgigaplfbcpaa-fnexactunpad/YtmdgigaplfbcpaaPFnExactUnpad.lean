/- For every slice of bytes: the law FnExactUnpad answers true, that is, Unpad answers as its model and writes into no argument. No condition. -/
import Derived.Test.YtmdgigaplfbcpaaBase
import Derived.Test.YtmdgigaplfbcpaaUnpad
namespace Go.Proofs.Ytmdgigaplfbcpaa.fnExactUnpad
open Go.ChangeShapes Go.WideShapes Go.ChangeAt Go.RowKit
open Go.ChangeMaps (open_string shut_string)
set_option linter.unusedVariables false

set_option maxHeartbeats 1000000 in
theorem walk (a0 : Option Addr) (len0 cap0 : Nat) (z0 : List Int) (w : World) (w0 : IsRow .u8 w a0 len0 cap0 z0) :
    Calls Try.prog 8 #[.slice a0 len0 cap0] w fun e w' => e = .returned (.bool true) ∧ Below w.heap.size w w' := by
  obtain ⟨l, hl, hcap, hmax, hr⟩ := row_of_isRow w0
  clear w0
  subst hl
  have R := Lib.hid hr
  clear hr
  have hm := hmax
  unfold maxLen at hm
  by_cases h1 : 1048576 < l.length
  · go_enter Try.func8, Try.ntmps8
    go_wp2
    go_ret
    exact ⟨rfl, Below.refl _ _⟩
  · have hl' : l.length ≤ 281474976710656 := by omega
    have hl2 : l.length ≤ maxLen := by unfold maxLen; omega
    go_enter Try.func8, Try.ntmps8
    go_wp2_with fail
    refine (lawsToByteS _ cap0 l _ hl' R.out).mono ?_
    rintro e w1 ⟨rfl, hA1, hb1⟩
    have A1 := Lib.hid hA1
    have B1 := Lib.hid hb1
    clear hA1 hb1
    go_wp2_with fail
    refine (specUnpad _ _ l _ hl2 (Nat.le_refl _) (Row.of_own A1.out)).mono ?_
    rintro e w2 ⟨rfl, hb2⟩
    have B2 := Lib.hid (below_seq B1.out hb2)
    clear hb2
    go_wp2_with fail
    refine (lawsToByteS _ cap0 l _ hl' (R.out.below B2.out)).mono ?_
    rintro e w3 ⟨rfl, hA3, hb3⟩
    have A3 := Lib.hid hA3
    have B3 := Lib.hid (below_seq B2.out hb3)
    clear hA3 hb3
    go_wp2_with fail
    refine (implUnpad _ _ l _ hl2 (Nat.le_refl _) (Row.of_own A3.out)).mono ?_
    rintro e w4 ⟨rfl, hb4⟩
    have A4 := Lib.hid (own_below A3.out hb4)
    have B4 := Lib.hid (below_seq B3.out hb4)
    clear hb4
    generalize strL (unpL l) = x
    generalize unpB l = y
    go_wp2_with fail
    refine (lawsToByteS _ cap0 l _ hl' (R.out.below B4.out)).mono ?_
    rintro e w5 ⟨rfl, hA5, hb5⟩
    have EQ := lawsEqByteS (some ⟨w2.heap.size, 0, none⟩) (some ⟨w4.heap.size, 0, none⟩) l.length l.length l l w5 hl2 hl2 (Row.of_own (own_below A4.out hb5)) (Row.of_own hA5)
    rw [beq_self_eq_true] at EQ
    have E5 := Lib.hid EQ
    have B5 := Lib.hid (below_seq B4.out hb5)
    clear EQ hA5 hb5
    go_wp2_with fail
    refine E5.out.mono ?_
    rintro e w6 ⟨rfl, n6, rfl⟩
    go_wp2
    go_ret
    exact ⟨rfl, below_seq B5.out (belowN n6)⟩

set_option maxRecDepth 100000 in
theorem lifted (os : Os) (started : os.Started) (H : Type) (enc : TypeId × Value → H) :
    ReturnsInHanded {} Try.checked os 8 .any (Rows.fnExactUnpadSpec.pre6 enc Try.prog Try.f8 Rows.fnExactUnpadRow.domain false) (Rows.fnExactUnpadSpec.post enc Try.prog Try.f8 false true false false) := by
  refine returnsInHanded_of_change (C := Try.checked) own started (by kernel_rfl) Try.func8
    (ChangeSpec.witness6 (enc := enc) (C := Try.checked) false ⟨#[], #[.slice none 0 0], []⟩ 8 (by kernel_rfl) (by kernel_rfl) (by kernel_rfl) (by kernel_rfl)) ?_
  intro W base args ds gs before hval0 hW hcnd _
  have hval : ∀ (j : Nat) t v, Try.f8.params[j]? = some t → args[j]? = some v → Value.okWide Try.prog W .any base t v := hval0
  have hW' := hW
  obtain ⟨p, q, hA0, hV, rfl, hfz, hnd⟩ := hW
  have hA : DataW.TrodAll enc Try.prog W 0 (fun _ => true) true Try.f8.params.toList args.toList ds p := hA0
  rw [Try.params8] at hA hval
  obtain ⟨v0, vs0, d0, ds0, p0, q0, hargs, rfl, rfl, h0, r0⟩ := trodAll_cons hA
  obtain ⟨rfl, rfl, rfl⟩ := trodAll_nil r0
  obtain rfl : args = #[v0] := by cases args; simp_all
  obtain ⟨rfl, rfl⟩ := trodVars_none hV
  obtain ⟨a0, len0, cap0, rfl⟩ := okWide_slice Try.underlying22 (hval 0 22 v0 rfl rfl)
  have k0 := h0
  have lt0 : ∀ x ∈ p0, x.block < W.heap.size := by obtain ⟨m, hm⟩ := k0; exact DataW.trod_lt m _ _ _ hm
  obtain ⟨z0, w0⟩ : ∃ zs, IsRow .u8 W a0 len0 cap0 zs := by
    obtain ⟨fuel, hf⟩ := h0
    rcases open_ints Try.underlying22 Try.underlying5 (by kernel_rfl) hf with ⟨hcs, _⟩ | ⟨x, l, c, zs, hcs, _, hl, hm, hz, _, hcell, hwz⟩
    · simp [Value.cells] at hcs
      obtain ⟨rfl, rfl, rfl⟩ := hcs
      exact ⟨[], .inl ⟨rfl, rfl, rfl, rfl⟩⟩
    · simp [Value.cells] at hcs
      obtain ⟨rfl, rfl, rfl⟩ := hcs
      exact ⟨zs, .inr ⟨_, rfl, hl, hm, by simpa using hz, hcell, hwz⟩⟩
  clear hA0 hval0
  refine (walk a0 len0 cap0 z0 W w0).mono fun e W' ⟨he, bel⟩ => ?_
  subst he
  exact ⟨_, rfl, _, _, _, [], _, [], hW', trodAll_mk1 (shut_bool Try.underlying4 _), (trodAll_cons_mk (Below.trod laidOut (by kernel_rfl) (of_decide_eq_true (by kernel_rfl)) k0 bel lt0) trodAll_mk0), rfl, bel.frame _, fun h => by cases h⟩

theorem over : Rows.fnExactUnpadRow.holds Try.pinned (OpenSpec.ofChange Rows.fnExactUnpadSpec) :=
  OpenClaim.holds_of_wide 8 Try.f8 rfl rfl rfl rfl rfl rfl rfl ⟨rfl, rfl, rfl, rfl, rfl⟩ rfl rfl rfl rfl rfl (by kernel_rfl) Try.func8 (by kernel_rfl)
    (of_decide_eq_true (by kernel_rfl)) (by unfold Func.isWrapper; first | (rw [if_pos (by decide +kernel)]; kernel_rfl) | (rw [if_neg (by decide +kernel)]; exact ⟨rfl, rfl⟩))
    (fun os started H enc _ => lifted os started H enc)
end Go.Proofs.Ytmdgigaplfbcpaa.fnExactUnpad
namespace Go.Proofs.Ytmdgigaplfbcpaa
/-- Unpad answers as its model, at every slice of bytes, and writes into no argument. -/
theorem fnExactUnpad_holds : Rows.FnExactUnpadSaid := fnExactUnpad.over
end Go.Proofs.Ytmdgigaplfbcpaa
