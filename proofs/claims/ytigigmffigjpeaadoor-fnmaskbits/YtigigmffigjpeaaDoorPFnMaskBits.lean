/- For every code: the law FnMaskBits answers true, that is, a mask of the n lowest bits has n bits, and the lowest bit above them is n; the table of math/bits lies as the program's text lays it (the card's tie). No other condition. -/
import Derived.Test.YtigigmffigjpeaaDoorBase
import Derived.Test.YtigigmffigjpeaaDoorTie
import Derived.Test.YtigigmffigjpeaaDoorCards
import Derived.Test.YtigigmffigjpeaaDoorTz
import Derived.Test.YtigigmffigjpeaaDoorPop
import Derived.Test.YtigigmffigjpeaaDoorLPick
import Derived.SevenTiedAt
namespace Go.Proofs.YtigigmffigjpeaaDoor.fnMaskBits
open Go.ChangeShapes Go.WideShapes Go.ChangeAt Go.RowKit
set_option linter.unusedVariables false

theorem low_pop : ∀ n : Fin 64, popN 64 (2 ^ n.val - 1) = n.val := by decide +kernel
theorem low_sel : ∀ n : Fin 64, selN (2 ^ n.val - 1) (2 ^ n.val - 1) 18446744073709551615 = 18446744073709551615 := by decide +kernel
theorem low_is {n : Nat} (h : n < 64) : lowN (n : Int) = 2 ^ n - 1 := by
  unfold lowN
  rw [show min (n : Int).toNat 64 = n from by omega]
theorem low_64 : lowN 64 = 18446744073709551615 := by decide +kernel

set_option maxHeartbeats 800000 in
theorem walkYes (a : Option Addr) (l : List UInt8) (cap : Nat) (w : World) (hl : l.length ≤ 1048576) (hm : l.length ≤ maxLen) (R : Hid (Row w a (l.map bval))) (T : Hid (Tab w)) :
    Calls Tryd.prog 3 #[.slice a l.length cap] w fun e w' => e = .returned (.bool true) ∧ w = w' := by
  have h1 : ¬ 1048576 < l.length := by omega
  go_enter Tryd.func3, Tryd.ntmps3
  go_wp2_with fail
  refine (bigIs _ _ _ _ hm).mono ?_
  rintro e w1 ⟨rfl, rfl⟩
  rw [decide_eq_false h1]
  clear h1
  go_wp2_with fail
  refine (lawsPick a cap l 1 64 w hm (by omega) (by omega) (by omega) R.out).mono ?_
  rintro e w1 ⟨⟨n, rfl, hn⟩, rfl⟩
  have P := Lib.hid (low_pop ⟨n, hn⟩)
  have S := Lib.hid (low_sel ⟨n, hn⟩)
  have Z := Lib.hid (tz_pow ⟨n, hn⟩)
  have L := Lib.hid (low_is hn)
  have hp : 2 ^ n ≤ 9223372036854775808 := Nat.pow_le_pow_right (n := 2) (by omega) (show n ≤ 63 by omega)
  have hp0 : 0 < 2 ^ n := Nat.pow_pos (by omega)
  obtain ⟨m, hM⟩ : ∃ m, m = 2 ^ n - 1 := ⟨_, rfl⟩
  have hm1 : m < 9223372036854775808 := by omega
  have E : Hid (2 ^ n = m + 1) := Lib.hid (by omega)
  simp only at P S Z
  rw [← hM] at P S L
  rw [E.out] at Z
  clear hp hp0 hM E
  go_wp2_with fail
  refine (implMaskLow n _ (by omega)).mono ?_
  rintro e w1 ⟨rfl, rfl⟩
  rw [L.out]
  go_wp2_with fail
  refine (implBitCount m _ (by omega)).mono ?_
  rintro e w1 ⟨rfl, rfl⟩
  rw [P.out]
  go_wp2_with fail
  refine (implLowBit (m + 1) _ (by omega) T.out).mono ?_
  rintro e w1 ⟨rfl, rfl⟩
  rw [Z.out]
  go_wp2_with fail
  refine (implMaskLow 64 _ (by omega)).mono ?_
  rintro e w1 ⟨rfl, rfl⟩
  rw [low_64]
  go_wp2_with fail
  refine (implSelect m m 18446744073709551615 _ (by omega) (by omega) (by omega)).mono ?_
  rintro e w1 ⟨rfl, rfl⟩
  rw [S.out]
  go_wp2_with fail
  refine (implMaskLow 64 _ (by omega)).mono ?_
  rintro e w1 ⟨rfl, rfl⟩
  rw [low_64]
  go_wp2_with fail
  refine (implLowBit 0 _ (by omega) T.out).mono ?_
  rintro e w1 ⟨rfl, rfl⟩
  rw [tz_zero]
  go_wp2
  go_ret
  exact ⟨rfl, rfl⟩

set_option maxHeartbeats 400000 in
theorem walk (a : Option Addr) (len cap : Nat) (zs : List Int) (w : World) (h : IsRow .u8 w a len cap zs) (hL : laidMetH Tryd.prog Rows.fnMaskBitsRow.laid w) :
    Calls Tryd.prog 3 #[.slice a len cap] w fun e w' => e = .returned (.bool true) ∧ Below w.heap.size w w' := by
  obtain ⟨l, rfl, h1, h2, r⟩ := row_of_isRow h
  have hm : l.length ≤ maxLen := by omega
  have T := Lib.hid (tab_of hL)
  clear hL h
  by_cases hl : l.length ≤ 1048576
  · refine (walkYes a l cap w hl hm (Lib.hid r) T).mono ?_
    rintro e w' ⟨rfl, rfl⟩
    exact ⟨rfl, Below.refl _ _⟩
  · have h1 : 1048576 < l.length := by omega
    go_enter Tryd.func3, Tryd.ntmps3
    go_wp2_with fail
    refine (bigIs _ _ _ _ hm).mono ?_
    rintro e w1 ⟨rfl, rfl⟩
    rw [decide_eq_true h1]
    go_wp2
    go_ret
    exact ⟨rfl, Below.refl _ _⟩

set_option maxRecDepth 100000 in
theorem lifted (os : Os) (started : os.Started) (H : Type) (enc : TypeId × Value → H) :
    ReturnsInHanded {} Tryd.checked os 3 .any (fun w args => (Rows.fnMaskBitsSpec.pre enc Tryd.prog Tryd.f3 [] false w args ∧ laidMetH Tryd.prog Rows.fnMaskBitsRow.laid w) ∧ sizedMet enc Tryd.prog Tryd.f3 (OpenSpec.ofChange Rows.fnMaskBitsSpec) false w args) (Rows.fnMaskBitsSpec.post enc Tryd.prog Tryd.f3 false true false false) := by
  refine returnsInHanded_of_change_and (C := Tryd.checked) (X := fun w _ => laidMetH Tryd.prog Rows.fnMaskBitsRow.laid w) (fun _ _ _ hh h => h.of_heap hh) own started (by kernel_rfl) Tryd.func3
    (ChangeSpec.witness_shaped (enc := enc) (C := Tryd.checked) (os := os) (X := fun w _ => laidMetH Tryd.prog Rows.fnMaskBitsRow.laid w) false (World.doorLaid Tryd.prog 400 os) #[.slice none 0 0] 8 rfl (World.shaped_of_RefB (by kernel_rfl) (by kernel_rfl)) (by kernel_rfl) (by kernel_rfl) (by kernel_rfl)
      (laidMetH_of_parts3 (fuel := 8) (laidMet_of_run' 8 (by kernel_rfl) (by kernel_rfl)) (by kernel_rfl) (by kernel_rfl))) ?_
  intro W base args ds gs before hval0 hW _ _ hL _
  have hval : ∀ (j : Nat) t v, Tryd.f3.params[j]? = some t → args[j]? = some v → Value.okWide Tryd.prog W .any base t v := hval0
  have hW' := hW
  obtain ⟨p, q, hA0, hV, rfl, hfz, hnd⟩ := hW
  have hA : DataW.TrodAll enc Tryd.prog W 0 (fun _ => true) true Tryd.f3.params.toList args.toList ds p := hA0
  rw [Tryd.params3] at hA hval
  obtain ⟨v0, vs0, d0, ds0, p0, q0, hargs, rfl, rfl, h0, r0⟩ := trodAll_cons hA
  obtain ⟨rfl, rfl, rfl⟩ := trodAll_nil r0
  obtain rfl : args = #[v0] := by cases args; simp_all
  obtain ⟨rfl, rfl⟩ := trodVars_none hV
  obtain ⟨a0, len0, cap0, rfl⟩ := okWide_slice Tryd.underlying22 (hval 0 22 v0 rfl rfl)
  have k0 := h0
  have lt0 : ∀ x ∈ p0, x.block < W.heap.size := by obtain ⟨m, hm⟩ := k0; exact DataW.trod_lt m _ _ _ hm
  obtain ⟨z0, w0⟩ : ∃ zs, IsRow .u8 W a0 len0 cap0 zs := by
    obtain ⟨fuel, hf⟩ := h0
    rcases open_ints Tryd.underlying22 Tryd.underlying5 (by kernel_rfl) hf with ⟨hcs, _⟩ | ⟨x, l, c, zs, hcs, _, hl, hm, hz, _, hcell, hwz⟩
    · simp [Value.cells] at hcs
      obtain ⟨rfl, rfl, rfl⟩ := hcs
      exact ⟨[], .inl ⟨rfl, rfl, rfl, rfl⟩⟩
    · simp [Value.cells] at hcs
      obtain ⟨rfl, rfl, rfl⟩ := hcs
      exact ⟨zs, .inr ⟨_, rfl, hl, hm, by simpa using hz, hcell, hwz⟩⟩
  clear hA0 hval0
  refine (walk a0 len0 cap0 z0 W w0 hL).mono fun e W' ⟨he, bel⟩ => ?_
  subst he
  exact ⟨_, rfl, _, _, _, [], _, [], hW', trodAll_mk1 (shut_bool Tryd.underlying4 _), (trodAll_cons_mk (Below.trod laidOut (by kernel_rfl) (of_decide_eq_true (by kernel_rfl)) k0 bel lt0) trodAll_mk0), rfl, bel.frame _, fun h => by cases h⟩

theorem over : Rows.fnMaskBitsRow.holds Tryd.pinned (OpenSpec.ofChange Rows.fnMaskBitsSpec) :=
  OpenClaim.holds_of_wide 3 Tryd.f3 rfl rfl rfl rfl rfl rfl rfl ⟨rfl, rfl, rfl, rfl, rfl⟩ rfl rfl rfl rfl rfl (by kernel_rfl) Tryd.func3 (by kernel_rfl)
    (of_decide_eq_true (by kernel_rfl)) (by unfold Func.isWrapper; first | (rw [if_pos (by decide +kernel)]; kernel_rfl) | (rw [if_neg (by decide +kernel)]; exact ⟨rfl, rfl⟩))
    (fun os started H enc _ => lifted os started H enc)

theorem card : Rows.FnMaskBitsCardSaid :=
  Claim7.holds_tied_plain_at .later [] _ true _ false
    over (fun _ h => by cases h) (by kernel_rfl) (fun _ h => by cases h) fnMaskBits_row_tie rfl ⟨rfl, rfl⟩ (by kernel_rfl) rfl
    (fun f fn hf hfn => by
      obtain rfl : f = 3 := Option.some.inj ((show Tryd.prog.funcNamed Rows.fnMaskBitsRow.func = some 3 by kernel_rfl).symm.trans hf) |>.symm
      obtain rfl : fn = Tryd.f3 := (Option.some.inj (Tryd.func3.symm.trans hfn)).symm
      exact ⟨by kernel_rfl, fun j t ht => by
        rw [Tryd.params3] at ht
        have hm : t ∈ [22] := by simpa using Array.mem_of_getElem? ht
        have hall : ([22].all fun u => !Tryd.prog.wantsStandIn u) = true := by kernel_rfl
        exact (show Tryd.prog.wantsStandIn t = false by simpa using List.all_eq_true.1 hall t hm)⟩)
    (by kernel_rfl)
end Go.Proofs.YtigigmffigjpeaaDoor.fnMaskBits
namespace Go.Proofs.YtigigmffigjpeaaDoor
/-- A mask of the n lowest bits has n bits; the lowest bit above them is n. -/
theorem fnMaskBits_holds : Rows.FnMaskBitsCardSaid := fnMaskBits.card
end Go.Proofs.YtigigmffigjpeaaDoor
