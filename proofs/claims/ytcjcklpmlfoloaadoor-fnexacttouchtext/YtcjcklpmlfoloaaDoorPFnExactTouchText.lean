/- For every argument: the law FnExactTouchText answers true, that is, TouchText answers as its model and writes into no argument. The table that strconv reads lies as the row lists it, and the card ties that to the program's text. -/
import Derived.Test.YtcjcklpmlfoloaaDoorBase
import Derived.Test.YtcjcklpmlfoloaaDoorReads
import Derived.Test.YtcjcklpmlfoloaaDoorTchI
import Derived.Test.YtcjcklpmlfoloaaDoorTie
import Derived.Test.YtcjcklpmlfoloaaDoorCards
namespace Go.Proofs.YtcjcklpmlfoloaaDoor.fnExactTouchText
open Go.ChangeShapes Go.WideShapes Go.ChangeAt Go.RowKit
set_option linter.unusedVariables false

set_option maxRecDepth 100000 in
set_option maxHeartbeats 4000000 in
theorem walk (v0 : Value) (w : World) (h0 : Arg w 41 v0) (hL : laidMetH Tryd.prog Rows.fnExactTouchTextRow.laid w) :
    Calls Tryd.prog 4 #[v0] w fun e w' => e = .returned (.bool true) ∧ Below w.heap.size w w' := by
  obtain ⟨c, l, rfl, hi, b0⟩ := argTouchS h0
  have P0 := Lib.hid (pow_of hL)
  have R := Lib.hid hi.lies
  have BD := Lib.hid b0
  clear hi h0 hL b0
  by_cases g0 : 1048576 - (szTouchS l : Int) < 0
  · go_enter Tryd.func4, Tryd.ntmps4
    go_wp2_with fail
    refine (uSzTouchS v0 l 1048576 _ (by omega) (by omega) R.out.now).mono ?_
    rintro e w1 ⟨rfl, hb⟩
    rw [szI_no (by omega)]
    go_wp2
    go_ret
    exact ⟨rfl, hb⟩
  have hs0 : szTouchS l ≤ 1048576 := by omega
  go_enter Tryd.func4, Tryd.ntmps4
  go_wp2_with fail
  refine (uSzTouchS v0 l 1048576 _ (by omega) (by omega) R.out.now).mono ?_
  rintro e w1 ⟨rfl, hb⟩
  rw [szI_yes (by omega)]
  have B1 := Lib.hid hb
  replace R := Lib.hid (R.out.below hb)
  clear hb
  go_wp2_with fail
  refine (uToTouchS v0 l _ hs0 R.out.now).mono ?_
  rintro e w2 ⟨t1, rfl, ho, hb⟩
  have A1 := Lib.hid ho
  have B2 := Lib.hid (below_seq B1.out hb)
  replace R := Lib.hid (R.out.below hb)
  clear hb ho B1
  go_wp2_with fail
  refine (uSpecTouchText t1 l _ A1.out.read BD.out).mono ?_
  rintro e w3 ⟨rfl, hb⟩
  have B3 := Lib.hid (below_seq B2.out hb)
  replace R := Lib.hid (R.out.below hb)
  clear hb B2 A1
  go_wp2_with fail
  refine (uToTouchS v0 l _ hs0 R.out.now).mono ?_
  rintro e w4 ⟨x0, rfl, ho, hb⟩
  have A2 := Lib.hid (ho.lies (Nat.le_refl _))
  have B4 := Lib.hid (below_seq B3.out hb)
  replace R := Lib.hid (R.out.below hb)
  clear hb ho B3
  go_wp2_with fail
  refine (uImplTouchText x0 l _ A2.out.now.read BD.out (P0.out.stays B4.out)).mono ?_
  rintro e w5 ⟨rfl, hb⟩
  have B5 := Lib.hid (below_seq B4.out hb)
  replace R := Lib.hid (R.out.below hb)
  replace A2 := Lib.hid (A2.out.below hb)
  clear hb B4
  generalize strL (textL l) = z
  go_wp2_with fail
  refine (uToTouchS v0 l _ hs0 R.out.now).mono ?_
  rintro e w6 ⟨t3, rfl, ho, hb⟩
  have A3 := Lib.hid ho
  have B6 := Lib.hid (below_seq B5.out hb)
  replace A2 := Lib.hid (A2.out.below hb)
  clear hb ho B5
  go_wp2_with fail
  refine (uEqTouchS x0 t3 l _ A2.out.now.read A3.out.read).mono ?_
  rintro e w7 ⟨rfl, hb⟩
  have B7 := Lib.hid (below_seq B6.out hb)
  clear hb B6
  go_wp2
  go_ret
  exact ⟨rfl, B7.out⟩

set_option maxRecDepth 100000 in
theorem lifted (os : Os) (started : os.Started) (H : Type) (enc : TypeId × Value → H) :
    ReturnsInHanded {} Tryd.checked os 4 .any (fun w args => (Rows.fnExactTouchTextSpec.pre enc Tryd.prog Tryd.f4 [] false w args ∧ laidMetH Tryd.prog Rows.fnExactTouchTextRow.laid w) ∧ sizedMet enc Tryd.prog Tryd.f4 (OpenSpec.ofChange Rows.fnExactTouchTextSpec) false w args) (Rows.fnExactTouchTextSpec.post enc Tryd.prog Tryd.f4 false true false false) := by
  refine returnsInHanded_of_change_and (C := Tryd.checked) (X := fun w _ => laidMetH Tryd.prog Rows.fnExactTouchTextRow.laid w) (fun _ _ _ hh h => h.of_heap hh) own started (by kernel_rfl) Tryd.func4
    (ChangeSpec.witness_shaped (enc := enc) (C := Tryd.checked) (os := os) (X := fun w _ => laidMetH Tryd.prog Rows.fnExactTouchTextRow.laid w) false (World.doorLaid Tryd.prog 400 os) #[.slice none 0 0] 8 rfl (World.shaped_of_RefB (by kernel_rfl) (by kernel_rfl)) (by kernel_rfl) (by kernel_rfl) (by kernel_rfl)
      (laidMetH_of_parts3 (fuel := 8) (laidMet_of_run' 8 (by kernel_rfl) (by kernel_rfl)) (by kernel_rfl) (by kernel_rfl))) ?_
  intro W base args ds gs before hval0 hW _ _ hL _
  have hval : ∀ (j : Nat) t v, Tryd.f4.params[j]? = some t → args[j]? = some v → Value.okWide Tryd.prog W .any base t v := hval0
  have hW' := hW
  obtain ⟨p, q, hA0, hV, rfl, hfz, hnd⟩ := hW
  have hA : DataW.TrodAll enc Tryd.prog W 0 (fun _ => true) true Tryd.f4.params.toList args.toList ds p := hA0
  rw [Tryd.params4] at hA hval
  obtain ⟨v0, vs0, d0, ds0, p0, q0, hargs, rfl, rfl, h0, r0⟩ := trodAll_cons hA
  obtain ⟨rfl, rfl, rfl⟩ := trodAll_nil r0
  obtain rfl : args = #[v0] := by cases args; simp_all
  obtain ⟨rfl, rfl⟩ := trodVars_none hV
  have lt0 : ∀ x ∈ p0, x.block < W.heap.size := by obtain ⟨m, hm⟩ := h0; exact DataW.trod_lt m _ _ _ hm
  clear hA0 hval0
  refine (walk v0 W ⟨⟨base, hval 0 41 v0 rfl rfl⟩, Rd.of h0⟩ hL).mono fun e W' ⟨he, bel⟩ => ?_
  subst he
  exact ⟨_, rfl, _, _, _, [], _, [], hW', trodAll_mk1 (shut_bool Tryd.underlying4 _), (trodAll_cons_mk (Below.trod laidOut (by kernel_rfl) (of_decide_eq_true (by kernel_rfl)) h0 bel lt0) trodAll_mk0), rfl, bel.frame _, fun h => by cases h⟩

theorem over : Rows.fnExactTouchTextRow.holds Tryd.pinned (OpenSpec.ofChange Rows.fnExactTouchTextSpec) :=
  OpenClaim.holds_of_wide 4 Tryd.f4 rfl rfl rfl rfl rfl rfl rfl ⟨rfl, rfl, rfl, rfl, rfl⟩ rfl rfl rfl rfl rfl (by kernel_rfl) Tryd.func4 (by kernel_rfl)
    (of_decide_eq_true (by kernel_rfl)) (by unfold Func.isWrapper; first | (rw [if_pos (by decide +kernel)]; kernel_rfl) | (rw [if_neg (by decide +kernel)]; exact ⟨rfl, rfl⟩))
    (fun os started H enc _ => lifted os started H enc)

theorem card : Rows.FnExactTouchTextCardSaid :=
  Claim7.holds_tied_plain_at .later [] _ true _ false
    over (fun _ h => by cases h) (by kernel_rfl) (fun _ h => by cases h) fnExactTouchText_row_tie rfl ⟨rfl, rfl⟩ (by kernel_rfl) rfl
    (fun f fn hf hfn => by
      obtain rfl : f = 4 := Option.some.inj ((show Tryd.prog.funcNamed Rows.fnExactTouchTextRow.func = some 4 by kernel_rfl).symm.trans hf) |>.symm
      obtain rfl : fn = Tryd.f4 := (Option.some.inj (Tryd.func4.symm.trans hfn)).symm
      exact ⟨by kernel_rfl, fun j t ht => by
        rw [Tryd.params4] at ht
        have hm : t ∈ [41] := by simpa using Array.mem_of_getElem? ht
        have hall : ([41].all fun u => !Tryd.prog.wantsStandIn u) = true := by kernel_rfl
        exact (show Tryd.prog.wantsStandIn t = false by simpa using List.all_eq_true.1 hall t hm)⟩)
    (by kernel_rfl)
end Go.Proofs.YtcjcklpmlfoloaaDoor.fnExactTouchText
namespace Go.Proofs.YtcjcklpmlfoloaaDoor
/-- TouchText answers as its model, at every argument. -/
theorem fnExactTouchText_holds : Rows.FnExactTouchTextCardSaid := fnExactTouchText.card
end Go.Proofs.YtcjcklpmlfoloaaDoor
