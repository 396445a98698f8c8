/- For every code: the law FnMyers answers true: the bit-parallel computation yields the distance of two drawn strings, for words as for their Pads. No condition. -/
import Derived.Test.YticfnhbjoaecjaaBase
import Derived.Test.YticfnhbjoaecjaaMyX
import Derived.Test.YticfnhbjoaecjaaEdS
import Derived.Test.YticfnhbjoaecjaaMyD
namespace Go.Proofs.Yticfnhbjoaecjaa.fnMyers
open Go.ChangeShapes Go.WideShapes Go.ChangeAt Go.RowKit
open Go.ChangeMaps (open_string shut_string)
set_option linter.unusedVariables false

set_option maxRecDepth 100000 in
set_option maxHeartbeats 2000000 in
theorem walk (a0 : Option Addr) (len0 cap0 : Nat) (z0 : List Int) (w : World) (w0 : IsRow .u8 w a0 len0 cap0 z0) :
    Calls Try.prog 3 #[.slice a0 len0 cap0] w fun e w' => e = .returned (.bool true) ∧ Below w.heap.size w w' := by
  obtain ⟨l, hl, hcap, hmax, hr⟩ := row_of_isRow w0
  clear w0
  subst hl
  have R := Lib.hid hr
  clear hr
  have hm : l.length ≤ maxLen := Nat.le_trans hcap hmax
  by_cases hbig : 1048576 < l.length
  · have hB : decide (1048576 < l.length) = true := by simp [hbig]
    go_enter Try.func3, Try.ntmps3
    go_wp2_with fail
    refine (bigIs a0 l.length cap0 _ hm).mono ?_
    rintro e w1 ⟨rfl, rfl⟩
    rw [hB]
    go_wp2
    go_ret
    exact ⟨rfl, Below.refl _ _⟩
  have hB : decide (1048576 < l.length) = false := by simp; omega
  have hl2 : l.length ≤ 1048576 := by omega
  go_enter Try.func3, Try.ntmps3
  go_wp2_with fail
  refine (bigIs a0 l.length cap0 _ hm).mono ?_
  rintro e w1 ⟨rfl, rfl⟩
  rw [hB]
  clear hB
  go_wp2_with fail
  refine (drawMyersRun a0 l cap0 _ hl2 R.out).mono ?_
  rintro e w2 ⟨s, t, rfl, hs, ht, hb2⟩
  have hs' : s.size ≤ maxLen := by unfold maxLen; omega
  have ht' : t.size ≤ maxLen := by unfold maxLen; omega
  have B2 := Lib.hid hb2
  clear hb2
  go_wp2_with fail
  refine (specDistance s t _ hs' ht').mono ?_
  rintro e w3 ⟨rfl, hb3⟩
  have B3 := Lib.hid (below_seq B2.out hb3)
  clear hb3 B2
  go_wp2_with fail
  refine (implRun s t _ hs' ht').mono ?_
  rintro e w4 ⟨rfl, hb4⟩
  have B4 := Lib.hid (below_seq B3.out hb4)
  clear hb4 B3
  have hq : (distZ s.data.toList t.data.toList != distZ s.data.toList t.data.toList) = false := by simp
  have W1 := Lib.hid (fun w => specWordOk s w hs')
  have W2 := Lib.hid (fun w => specWordOk t w ht')
  have PZ : Hid (wordB s.data.toList = true → wordB t.data.toList = true → padZ (padL s.data.toList) (padL t.data.toList) = distZ s.data.toList t.data.toList) := Lib.hid (fun h1 h2 => by
    obtain ⟨p1, p2⟩ := unp_pad h1
    obtain ⟨p3, p4⟩ := unp_pad h2
    unfold padZ
    rw [p1, p2, p3, p4]
    rfl)
  generalize distZ s.data.toList t.data.toList = D at *
  cases hw1 : wordB s.data.toList
  · rw [hw1] at W1
    clear hw1
    go_wp2_with fail
    refine (W1.out _).mono ?_
    rintro e w5 ⟨rfl, rfl⟩
    go_wp2
    go_ret
    exact ⟨rfl, B4.out⟩
  cases hw2 : wordB t.data.toList
  · rw [hw1] at W1
    rw [hw2] at W2
    clear hw1 hw2
    go_wp2_with fail
    refine (W1.out _).mono ?_
    rintro e w5 ⟨rfl, rfl⟩
    go_wp2_with fail
    refine (W2.out _).mono ?_
    rintro e w5 ⟨rfl, rfl⟩
    go_wp2
    go_ret
    exact ⟨rfl, B4.out⟩
  have PE := Lib.hid (PZ.out hw1 hw2)
  rw [hw1] at W1
  rw [hw2] at W2
  clear hw1 hw2 PZ
  go_wp2_with fail
  refine (W1.out _).mono ?_
  rintro e w5 ⟨rfl, rfl⟩
  go_wp2_with fail
  refine (W2.out _).mono ?_
  rintro e w5 ⟨rfl, rfl⟩
  go_wp2_with fail
  refine (implPad s _ hs').mono ?_
  rintro e w5 ⟨rfl, ho5, hb5⟩
  have R5 := Lib.hid (Row.of_own ho5)
  have B5 := Lib.hid (below_seq B4.out hb5)
  clear ho5 hb5 B4
  go_wp2_with fail
  refine (implPad t _ ht').mono ?_
  rintro e w6 ⟨rfl, ho6, hb6⟩
  have R6 := Lib.hid (Row.of_own ho6)
  have R56 := Lib.hid (R5.out.below hb6)
  have B6 := Lib.hid (below_seq B5.out hb6)
  clear ho6 hb6 B5 R5
  have PD := Lib.hid (implPadded (some ⟨w4.heap.size, 0, none⟩) (some ⟨w5.heap.size, 0, none⟩) 33 33 (padL s.data.toList) (padL t.data.toList) w6 (by rw [padL_length]; unfold maxLen; omega) (by rw [padL_length]; unfold maxLen; omega) (by rw [padL_length]; omega) (by rw [padL_length]; omega) R56.out R6.out)
  rw [padL_length, padL_length, PE.out] at PD
  go_wp2_with fail
  refine PD.out.mono ?_
  rintro e w7 ⟨rfl, hb7⟩
  have B7 := Lib.hid (below_seq B6.out hb7)
  clear hb7 B6
  have hq2 : (D == D) = true := by simp
  go_wp2
  go_ret
  exact ⟨rfl, B7.out⟩

set_option maxRecDepth 100000 in
theorem lifted (os : Os) (started : os.Started) (H : Type) (enc : TypeId × Value → H) :
    ReturnsInHanded {} Try.checked os 3 .any (Rows.fnMyersSpec.pre6 enc Try.prog Try.f3 Rows.fnMyersRow.domain false) (Rows.fnMyersSpec.post enc Try.prog Try.f3 false true false false) := by
  refine returnsInHanded_of_change (C := Try.checked) own started (by kernel_rfl) Try.func3
    (ChangeSpec.witness6 (enc := enc) (C := Try.checked) false ⟨#[], #[.slice none 0 0], []⟩ 8 (by kernel_rfl) (by kernel_rfl) (by kernel_rfl) (by kernel_rfl)) ?_
  intro W base args ds gs before hval0 hW hcnd _
  have hval : ∀ (j : Nat) t v, Try.f3.params[j]? = some t → args[j]? = some v → Value.okWide Try.prog W .any base t v := hval0
  have hW' := hW
  obtain ⟨p, q, hA0, hV, rfl, hfz, hnd⟩ := hW
  have hA : DataW.TrodAll enc Try.prog W 0 (fun _ => true) true Try.f3.params.toList args.toList ds p := hA0
  rw [Try.params3] at hA hval
  obtain ⟨v0, vs0, d0, ds0, p0, q0, hargs, rfl, rfl, h0, r0⟩ := trodAll_cons hA
  obtain ⟨rfl, rfl, rfl⟩ := trodAll_nil r0
  obtain rfl : args = #[v0] := by cases args; simp_all
  obtain ⟨rfl, rfl⟩ := trodVars_none hV
  obtain ⟨a0, len0, cap0, rfl⟩ := okWide_slice Try.underlying22 (hval 0 22 v0 rfl rfl)
  have k0 := h0
  have lt0 : ∀ x ∈ p0, x.block < W.heap.size := by obtain ⟨m, hm⟩ := k0; exact DataW.trod_lt m _ _ _ hm
  obtain ⟨z0, w0⟩ : ∃ zs, IsRow .u8 W a0 len0 cap0 zs := by
    obtain ⟨fuel, hf⟩ := h0
    rcases open_ints Try.underlying22 Try.underlying5 (by kernel_rfl) hf with ⟨hcs, _⟩ | ⟨x, l, c, zs, hcs, _, hl, hm, hz, _, hcell, hwz⟩
    · simp [Value.cells] at hcs
      obtain ⟨rfl, rfl, rfl⟩ := hcs
      exact ⟨[], .inl ⟨rfl, rfl, rfl, rfl⟩⟩
    · simp [Value.cells] at hcs
      obtain ⟨rfl, rfl, rfl⟩ := hcs
      exact ⟨zs, .inr ⟨_, rfl, hl, hm, by simpa using hz, hcell, hwz⟩⟩
  clear hA0 hval0
  refine (walk a0 len0 cap0 z0 W w0).mono fun e W' ⟨he, bel⟩ => ?_
  subst he
  exact ⟨_, rfl, _, _, _, [], _, [], hW', trodAll_mk1 (shut_bool Try.underlying4 _), (trodAll_cons_mk (Below.trod laidOut (by kernel_rfl) (of_decide_eq_true (by kernel_rfl)) k0 bel lt0) trodAll_mk0), rfl, bel.frame _, fun h => by cases h⟩

theorem over : Rows.fnMyersRow.holds Try.pinned (OpenSpec.ofChange Rows.fnMyersSpec) :=
  OpenClaim.holds_of_wide 3 Try.f3 rfl rfl rfl rfl rfl rfl rfl ⟨rfl, rfl, rfl, rfl, rfl⟩ rfl rfl rfl rfl rfl (by kernel_rfl) Try.func3 (by kernel_rfl)
    (of_decide_eq_true (by kernel_rfl)) (by unfold Func.isWrapper; first | (rw [if_pos (by decide +kernel)]; kernel_rfl) | (rw [if_neg (by decide +kernel)]; exact ⟨rfl, rfl⟩))
    (fun os started H enc _ => lifted os started H enc)
end Go.Proofs.Yticfnhbjoaecjaa.fnMyers
namespace Go.Proofs.Yticfnhbjoaecjaa
theorem fnMyers_holds : Rows.FnMyersSaid := fnMyers.over
end Go.Proofs.Yticfnhbjoaecjaa
