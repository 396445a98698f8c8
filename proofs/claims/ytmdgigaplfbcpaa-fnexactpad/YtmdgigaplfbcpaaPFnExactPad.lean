/- For every string: the law FnExactPad answers true, that is, Pad answers as its model and its answer owns its memory. No condition. -/
import Derived.Test.YtmdgigaplfbcpaaBase
import Derived.Test.YtmdgigaplfbcpaaPad
namespace Go.Proofs.Ytmdgigaplfbcpaa.fnExactPad
open Go.ChangeShapes Go.WideShapes Go.ChangeAt Go.RowKit
open Go.ChangeMaps (open_string shut_string)
set_option linter.unusedVariables false

set_option maxHeartbeats 1000000 in
theorem walk (a0 : ByteArray) (w0 : a0.size ≤ maxLen) (w : World) :
    Calls Try.prog 7 #[.string a0] w fun e w' => e = .returned (.bool true) ∧ Below w.heap.size w w' := by
  have hs := w0
  unfold maxLen at hs
  by_cases h1 : 1048576 < a0.size
  · go_enter Try.func7, Try.ntmps7
    go_wp2
    go_ret
    exact ⟨rfl, Below.refl _ _⟩
  · obtain ⟨l, hl⟩ : ∃ l, l = padL a0.data.toList := ⟨_, rfl⟩
    have hlen : l.length = 33 := by rw [hl]; exact padL_length _
    have HL := Lib.hid hl
    have HN := Lib.hid hlen
    clear hl hlen
    go_enter Try.func7, Try.ntmps7
    go_wp2_with fail
    refine (specPad a0 _ w0).mono ?_
    rintro e w1 ⟨rfl, hA1, hb1⟩
    rw [← HL.out] at hA1
    have A1 := Lib.hid hA1
    have B1 := Lib.hid hb1
    clear hA1 hb1
    go_wp2_with fail
    refine (implPad a0 _ w0).mono ?_
    rintro e w2 ⟨rfl, hA2, hb2⟩
    rw [← HL.out] at hA2
    have A2 := Lib.hid hA2
    have B2 := Lib.hid hb2
    have C1 := Lib.hid (own_below A1.out hb2)
    clear hA2 hb2
    have E1 := lawsEqByteS (some ⟨w1.heap.size, 0, none⟩) (some ⟨w.heap.size, 0, none⟩) 33 33 l l w2 (by rw [HN.out]; decide) (by rw [HN.out]; decide) (Row.of_own A2.out) (Row.of_own C1.out)
    rw [HN.out, beq_self_eq_true] at E1
    have E1' := Lib.hid E1
    clear E1
    go_wp2_with fail
    refine E1'.out.mono ?_
    rintro e w3 ⟨rfl, n3, rfl⟩
    go_wp2_with fail
    refine (lawsMarkByteS w1.heap.size w1.heap.size 33 33 1 _ _ (by decide) (own_drewN A2.out n3)).mono ?_
    rintro e w4 ⟨rfl, hA4, hg4⟩
    have A4 := Lib.hid hA4
    have G4 := Lib.hid hg4
    clear hA4 hg4
    go_wp2_with fail
    refine (lawsHeldByteS _ 33 33 1 _ (by decide) (Row.of_own A4.out)).mono ?_
    rintro e w5 ⟨rfl, rfl⟩
    go_wp2_with fail
    refine (implPad a0 _ w0).mono ?_
    rintro e w6 ⟨rfl, hA6, hb6⟩
    rw [← HL.out] at hA6
    have lt1 : w.heap.size < w1.heap.size := (A1.out.lt _ rfl).2
    have C4 := (own_drewN C1.out n3).kept G4.out (.inr (by simp [Value.ownBlock]; omega))
    have D6 := Lib.hid (own_below C4 hb6)
    have A6 := Lib.hid hA6
    have M6 := Lib.hid (own_below A4.out hb6)
    have B6 := Lib.hid (below_seq (below_write (below_seq (below_seq B1.out B2.out) (belowN n3)) G4.out (Nat.le_of_lt lt1)) hb6)
    clear hA6 hb6 C4 lt1
    have E6 := lawsEqByteS (some ⟨w4.heap.size, 0, none⟩) (some ⟨w.heap.size, 0, none⟩) 33 33 l l w6 (by rw [HN.out]; decide) (by rw [HN.out]; decide) (Row.of_own A6.out) (Row.of_own D6.out)
    rw [HN.out, beq_self_eq_true] at E6
    have E6' := Lib.hid E6
    clear E6
    go_wp2_with fail
    refine E6'.out.mono ?_
    rintro e w7 ⟨rfl, n7, rfl⟩
    go_wp2_with fail
    refine (lawsHeldByteS _ 33 33 1 _ (by decide) (Row.of_own (own_drewN M6.out n7))).mono ?_
    rintro e w8 ⟨rfl, rfl⟩
    go_wp2
    go_ret
    exact ⟨rfl, below_seq B6.out (belowN n7)⟩

set_option maxRecDepth 100000 in
theorem lifted (os : Os) (started : os.Started) (H : Type) (enc : TypeId × Value → H) :
    ReturnsInHanded {} Try.checked os 7 .any (Rows.fnExactPadSpec.pre6 enc Try.prog Try.f7 Rows.fnExactPadRow.domain false) (Rows.fnExactPadSpec.post enc Try.prog Try.f7 false true false false) := by
  refine returnsInHanded_of_change (C := Try.checked) own started (by kernel_rfl) Try.func7
    (ChangeSpec.witness6 (enc := enc) (C := Try.checked) false ⟨#[], #[.string ByteArray.empty], []⟩ 8 (by kernel_rfl) (by kernel_rfl) (by kernel_rfl) (by kernel_rfl)) ?_
  intro W base args ds gs before hval0 hW hcnd _
  have hval : ∀ (j : Nat) t v, Try.f7.params[j]? = some t → args[j]? = some v → Value.okWide Try.prog W .any base t v := hval0
  have hW' := hW
  obtain ⟨p, q, hA0, hV, rfl, hfz, hnd⟩ := hW
  have hA : DataW.TrodAll enc Try.prog W 0 (fun _ => true) true Try.f7.params.toList args.toList ds p := hA0
  rw [Try.params7] at hA hval
  obtain ⟨v0, vs0, d0, ds0, p0, q0, hargs, rfl, rfl, h0, r0⟩ := trodAll_cons hA
  obtain ⟨rfl, rfl, rfl⟩ := trodAll_nil r0
  obtain rfl : args = #[v0] := by cases args; simp_all
  obtain ⟨rfl, rfl⟩ := trodVars_none hV
  obtain ⟨a0, rfl, rfl, rfl, w0⟩ := open_string Try.underlying9 (hval 0 9 v0 rfl rfl) h0
  clear hA0 hval0
  simp only [List.append_nil] at hW'
  refine (walk a0 w0 W).mono fun e W' ⟨he, hg⟩ => ?_
  subst he
  exact ⟨_, rfl, _, _, _, [], [], [], hW', (trodAll_cons_mk (shut_bool Try.underlying4 _) trodAll_mk0), (trodAll_cons_mk (shut_string Try.underlying9 w0) trodAll_mk0), rfl, hg.frame _, fun h => by cases h⟩

theorem over : Rows.fnExactPadRow.holds Try.pinned (OpenSpec.ofChange Rows.fnExactPadSpec) :=
  OpenClaim.holds_of_wide 7 Try.f7 rfl rfl rfl rfl rfl rfl rfl ⟨rfl, rfl, rfl, rfl, rfl⟩ rfl rfl rfl rfl rfl (by kernel_rfl) Try.func7 (by kernel_rfl)
    (of_decide_eq_true (by kernel_rfl)) (by unfold Func.isWrapper; first | (rw [if_pos (by decide +kernel)]; kernel_rfl) | (rw [if_neg (by decide +kernel)]; exact ⟨rfl, rfl⟩))
    (fun os started H enc _ => lifted os started H enc)
end Go.Proofs.Ytmdgigaplfbcpaa.fnExactPad
namespace Go.Proofs.Ytmdgigaplfbcpaa
/-- Pad answers as its model, at every string, and its answer owns its memory. -/
theorem fnExactPad_holds : Rows.FnExactPadSaid := fnExactPad.over
end Go.Proofs.Ytmdgigaplfbcpaa
