/- For every code: the law FnEditsLeast answers true: no drawn edits that transform one drawn string into the other cost less than Distance. No condition. -/
import Derived.Test.YtcjcklpmlfoloaaBase
import Derived.Test.YtcjcklpmlfoloaaDrawQ
import Derived.Test.YtcjcklpmlfoloaaEdD
import Derived.Test.YtcjcklpmlfoloaaEdCS
namespace Go.Proofs.Ytcjcklpmlfoloaa.fnEditsLeast
open Go.ChangeShapes Go.WideShapes Go.ChangeAt Go.RowKit
open Go.ChangeMaps (open_string shut_string)
set_option linter.unusedVariables false

set_option maxRecDepth 100000 in
set_option maxHeartbeats 2000000 in
theorem walk (a0 : Option Addr) (len0 cap0 : Nat) (z0 : List Int) (w : World) (w0 : IsRow .u8 w a0 len0 cap0 z0) :
    Calls Try.prog 4 #[.slice a0 len0 cap0] w fun e w' => e = .returned (.bool true) ∧ Below w.heap.size w w' := by
  obtain ⟨l, hl, hcap, hmax, hr⟩ := row_of_isRow w0
  clear w0
  subst hl
  have R := Lib.hid hr
  clear hr
  have hm : l.length ≤ maxLen := Nat.le_trans hcap hmax
  by_cases hbig : 1048576 < l.length
  · have hB : decide (1048576 < l.length) = true := by simp [hbig]
    go_enter Try.func4, Try.ntmps4
    go_wp2_with fail
    refine (bigIs a0 l.length cap0 _ hm).mono ?_
    rintro e w1 ⟨rfl, rfl⟩
    rw [hB]
    go_wp2
    go_ret
    exact ⟨rfl, Below.refl _ _⟩
  have hB : decide (1048576 < l.length) = false := by simp; omega
  have hl2 : l.length ≤ 1048576 := by omega
  go_enter Try.func4, Try.ntmps4
  go_wp2_with fail
  refine (bigIs a0 l.length cap0 _ hm).mono ?_
  rintro e w1 ⟨rfl, rfl⟩
  rw [hB]
  clear hB
  go_wp2_with fail
  refine (drawEditCost a0 l cap0 _ hl2 R.out).mono ?_
  rintro e w2 ⟨q, s, t, rfl, hq, hs, ht, hb2⟩
  have hq' : q.size ≤ maxLen := by unfold maxLen; omega
  have hs' : s.size ≤ maxLen := by unfold maxLen; omega
  have ht' : t.size ≤ maxLen := by unfold maxLen; omega
  have B2 := Lib.hid hb2
  clear hb2
  have CA := Lib.hid (cost_above q.data.toList s.data.toList t.data.toList)
  have C1 := fun w => Lib.hid (implEditCost q s t w hq' hs' ht')
  have C2 := fun w => Lib.hid (specEditCost q s t w hq' hs' ht')
  have C3 := fun w => Lib.hid (implDistance s t w hs' ht')
  have C4 := fun w => Lib.hid (specDistance s t w hs' ht')
  generalize costZ q.data.toList s.data.toList t.data.toList = c at *
  generalize distZ s.data.toList t.data.toList = d at *
  go_wp2_with fail
  refine (C1 _).out.mono ?_
  rintro e w3 ⟨rfl, n3, rfl⟩
  have B3 := Lib.hid (below_seq B2.out (belowN n3))
  clear B2
  obtain ⟨w4, hw4⟩ : ∃ w4, w4 = w2.drewN n3 := ⟨_, rfl⟩
  rw [← hw4] at B3 ⊢
  clear hw4
  go_wp2_with fail
  refine (C2 _).out.mono ?_
  rintro e w5 ⟨rfl, n5, hw5⟩
  have B5 := Lib.hid (show Below w.heap.size w w5 by rw [hw5]; exact below_seq B3.out (belowN n5))
  clear hw5 B3
  have hcc : (c == c) = true := by simp
  by_cases hc : c < 0
  · go_wp2_with fail
    refine (C3 _).out.mono ?_
    rintro e w6 ⟨rfl, hb6⟩
    have B6 := Lib.hid (below_seq B5.out hb6)
    clear hb6 B5
    go_wp2_with fail
    refine (C4 _).out.mono ?_
    rintro e w7 ⟨rfl, hb7⟩
    have B7 := Lib.hid (below_seq B6.out hb7)
    clear hb7 B6 CA C1 C2 C3 C4
    go_wp2
    go_ret
    exact ⟨rfl, B7.out⟩
  · have hcd : d ≤ c := by rcases CA.out with h | h <;> omega
    go_wp2_with fail
    refine (C3 _).out.mono ?_
    rintro e w6 ⟨rfl, hb6⟩
    have B6 := Lib.hid (below_seq B5.out hb6)
    clear hb6 B5
    go_wp2_with fail
    refine (C3 _).out.mono ?_
    rintro e w8 ⟨rfl, hb8⟩
    have B8 := Lib.hid (below_seq B6.out hb8)
    clear hb8 B6
    go_wp2_with fail
    refine (C4 _).out.mono ?_
    rintro e w7 ⟨rfl, hb7⟩
    have B7 := Lib.hid (below_seq B8.out hb7)
    clear hb7 B8 CA C1 C2 C3 C4
    go_wp2
    go_ret
    exact ⟨rfl, B7.out⟩

set_option maxRecDepth 100000 in
theorem lifted (os : Os) (started : os.Started) (H : Type) (enc : TypeId × Value → H) :
    ReturnsInHanded {} Try.checked os 4 .any (Rows.fnEditsLeastSpec.pre6 enc Try.prog Try.f4 Rows.fnEditsLeastRow.domain false) (Rows.fnEditsLeastSpec.post enc Try.prog Try.f4 false true false false) := by
  refine returnsInHanded_of_change (C := Try.checked) own started (by kernel_rfl) Try.func4
    (ChangeSpec.witness6 (enc := enc) (C := Try.checked) false ⟨#[], #[.slice none 0 0], []⟩ 8 (by kernel_rfl) (by kernel_rfl) (by kernel_rfl) (by kernel_rfl)) ?_
  intro W base args ds gs before hval0 hW hcnd _
  have hval : ∀ (j : Nat) t v, Try.f4.params[j]? = some t → args[j]? = some v → Value.okWide Try.prog W .any base t v := hval0
  have hW' := hW
  obtain ⟨p, q, hA0, hV, rfl, hfz, hnd⟩ := hW
  have hA : DataW.TrodAll enc Try.prog W 0 (fun _ => true) true Try.f4.params.toList args.toList ds p := hA0
  rw [Try.params4] at hA hval
  obtain ⟨v0, vs0, d0, ds0, p0, q0, hargs, rfl, rfl, h0, r0⟩ := trodAll_cons hA
  obtain ⟨rfl, rfl, rfl⟩ := trodAll_nil r0
  obtain rfl : args = #[v0] := by cases args; simp_all
  obtain ⟨rfl, rfl⟩ := trodVars_none hV
  obtain ⟨a0, len0, cap0, rfl⟩ := okWide_slice Try.underlying22 (hval 0 22 v0 rfl rfl)
  have k0 := h0
  have lt0 : ∀ x ∈ p0, x.block < W.heap.size := by obtain ⟨m, hm⟩ := k0; exact DataW.trod_lt m _ _ _ hm
  obtain ⟨z0, w0⟩ : ∃ zs, IsRow .u8 W a0 len0 cap0 zs := by
    obtain ⟨fuel, hf⟩ := h0
    rcases open_ints Try.underlying22 Try.underlying5 (by kernel_rfl) hf with ⟨hcs, _⟩ | ⟨x, l, c, zs, hcs, _, hl, hm, hz, _, hcell, hwz⟩
    · simp [Value.cells] at hcs
      obtain ⟨rfl, rfl, rfl⟩ := hcs
      exact ⟨[], .inl ⟨rfl, rfl, rfl, rfl⟩⟩
    · simp [Value.cells] at hcs
      obtain ⟨rfl, rfl, rfl⟩ := hcs
      exact ⟨zs, .inr ⟨_, rfl, hl, hm, by simpa using hz, hcell, hwz⟩⟩
  clear hA0 hval0
  refine (walk a0 len0 cap0 z0 W w0).mono fun e W' ⟨he, bel⟩ => ?_
  subst he
  exact ⟨_, rfl, _, _, _, [], _, [], hW', trodAll_mk1 (shut_bool Try.underlying4 _), (trodAll_cons_mk (Below.trod laidOut (by kernel_rfl) (of_decide_eq_true (by kernel_rfl)) k0 bel lt0) trodAll_mk0), rfl, bel.frame _, fun h => by cases h⟩

theorem over : Rows.fnEditsLeastRow.holds Try.pinned (OpenSpec.ofChange Rows.fnEditsLeastSpec) :=
  OpenClaim.holds_of_wide 4 Try.f4 rfl rfl rfl rfl rfl rfl rfl ⟨rfl, rfl, rfl, rfl, rfl⟩ rfl rfl rfl rfl rfl (by kernel_rfl) Try.func4 (by kernel_rfl)
    (of_decide_eq_true (by kernel_rfl)) (by unfold Func.isWrapper; first | (rw [if_pos (by decide +kernel)]; kernel_rfl) | (rw [if_neg (by decide +kernel)]; exact ⟨rfl, rfl⟩))
    (fun os started H enc _ => lifted os started H enc)
end Go.Proofs.Ytcjcklpmlfoloaa.fnEditsLeast
namespace Go.Proofs.Ytcjcklpmlfoloaa
theorem fnEditsLeast_holds : Rows.FnEditsLeastSaid := fnEditsLeast.over
end Go.Proofs.Ytcjcklpmlfoloaa
