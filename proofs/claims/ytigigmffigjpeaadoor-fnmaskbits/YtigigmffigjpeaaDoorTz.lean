/- Chapter 3 (masks): LowBit in the program and in the model. The table that math/bits reads lies as the row lists it. -/
import Derived.Test.YtigigmffigjpeaaDoorMask
import Derived.Test.YtigigmffigjpeaaDoorBitsTz
import Derived.ProofKit
import Derived.LaidMore
import Derived.OpenShut
import Derived.Stop.Joined
namespace Go.Proofs.YtigigmffigjpeaaDoor
open Go.RowKit
set_option linter.unusedVariables false
def litI : DataW Unit → Int
  | .lit (.int _ n) => n
  | _ => 0
/-- The table's numbers, off the row's own datum. -/
def tabL : List Int := match (Rows.laid_math_bits_deBruijn64tab : DataW Unit) with
  | .agg ps => ps.map litI
  | _ => []
theorem tab_len : tabL.length = 64 := by decide +kernel
/-- The table undoes the product's six highest bits. -/
theorem tab_at : ∀ i : Fin 64, tabL.getD ((2 ^ i.val * 285870213051353865) % 18446744073709551616 / 288230376151711744) 0 = (i.val : Int) := by decide +kernel
theorem tab_idx (p : Nat) : (p * 285870213051353865) % 18446744073709551616 / 288230376151711744 < 64 := by omega
theorem gTab : Tryd.prog.globalNamed "math/bits.deBruijn64tab" = some 0 := by kernel_rfl
theorem tTab : (Tryd.prog.globals[0]?).map (·.type) = some 32 := by kernel_rfl
/-- What the listed variable gives the walks: its cells. -/
def Tab (W : World) : Prop := ∀ i, i < 64 → W.cell? ⟨0, i, none⟩ = some (.int .u8 (tabL.getD i 0))
theorem tab_of {W : World} (h : laidMetH Tryd.prog [("math/bits.deBruijn64tab", Rows.laid_math_bits_deBruijn64tab)] W) : Tab W := by
  rw [MakeChecks.laidMetH_plain _ _ _ (by kernel_rfl)] at h
  obtain ⟨ps, ⟨g0, t0, cs0, f0, p0, q0, hg0, ht0, hv0, hd0, _, _⟩, _, _⟩ := h
  obtain rfl := Option.some.inj (gTab.symm.trans hg0)
  obtain rfl := Option.some.inj (tTab.symm.trans ht0)
  obtain ⟨xs, m1, rfl, hx1, hlen, hn3, hel⟩ := DataW.trod_array Tryd.underlying32 hd0
  have c1 : Tryd.prog.cellsOf 5 = 1 := by kernel_rfl
  simp only [Prod.mk.injEq] at hx1
  intro i hi
  rw [World.var?_cell hg0 hv0 i]
  have h0 := hel i hi
  rw [c1, Nat.mul_one] at h0
  have hxi : xs[i]? = some xs[i] := List.getElem?_eq_getElem (by omega)
  rw [hxi] at h0
  obtain ⟨k, e1, e2, _⟩ := DataW.trod_int Tryd.underlying5 h0
  have hk : tabL.getD i 0 = k := by
    have ht : tabL = (xs.map (·.1)).map litI := by
      unfold tabL
      rw [hx1.1]
    rw [ht]
    simp [hxi, e2, litI]
  rw [hk]
  have hc : (cs0.toList.drop i).take 1 = [.int .u8 k] := e1
  have := congrArg (fun l => l[0]?) hc
  simpa using this
theorem tz_walk {x : Nat} (hx : x < 18446744073709551616) (h0 : 0 < x) : ∃ p q z : Nat, z = tzN 64 x ∧ z < 64 ∧ q < 64 ∧ bits .and .u64 (x : Int) (IntKind.u64.wrap (-(x : Int))) = (p : Int) ∧
    IntKind.u64.wrap ((p : Int) * 285870213051353865) / 288230376151711744 = (q : Int) ∧ tabL.getD q 0 = (z : Int) := by
  have L := low_and 64 x h0 hx
  have T := tab_at ⟨tzN 64 x, L.1⟩
  refine ⟨2 ^ tzN 64 x, (2 ^ tzN 64 x * 285870213051353865) % 18446744073709551616 / 288230376151711744, tzN 64 x, rfl, L.1, tab_idx _, ?_, ?_, T⟩
  · have e : (-(x : Int)) % 18446744073709551616 = ((18446744073709551616 - x : Nat) : Int) := by omega
    have L2 := L.2
    rw [show (2 : Nat) ^ 64 = 18446744073709551616 from by decide] at L2
    rw [IntKind.wrap_u64, e, u64_and_nat _ _ (by omega) (by omega), L2]
  · rw [IntKind.wrap_u64]
    generalize 2 ^ tzN 64 x = p
    omega
set_option maxHeartbeats 400000 in
theorem trailing0 (w : World) :
    Calls Tryd.prog 13 #[.int .u64 0] w fun e w' => e = .returned (.int .i64 64) ∧ w = w' := by
  go_enter Tryd.func13, Tryd.ntmps13
  go_wp2
  go_ret
  exact ⟨rfl, rfl⟩
set_option maxHeartbeats 400000 in
theorem trailing1 (x p q z : Nat) (w : World) (hx : x < 18446744073709551616) (hxx : ((x : Int) == 0) = false) (hz : z < 64) (hq : q < 64) (hA : bits .and .u64 (x : Int) (IntKind.u64.wrap (-(x : Int))) = (p : Int))
    (hI : IntKind.u64.wrap ((p : Int) * 285870213051353865) / 288230376151711744 = (q : Int)) (hc : w.cell? ⟨0, q, none⟩ = some (.int .u8 z)) :
    Calls Tryd.prog 13 #[.int .u64 x] w fun e w' => e = .returned (.int .i64 z) ∧ w = w' := by
  go_enter Tryd.func13, Tryd.ntmps13
  go_wp2
  go_ret
  exact ⟨rfl, rfl⟩
theorem trailing (x : Nat) (w : World) (hx : x < 18446744073709551616) (ht : Tab w) :
    Calls Tryd.prog 13 #[.int .u64 x] w fun e w' => e = .returned (.int .i64 ((tzN 64 x : Nat) : Int)) ∧ w = w' := by
  by_cases h0 : x = 0
  · subst h0
    rw [tz_zero]
    exact trailing0 w
  · obtain ⟨p, q, z, e, hz, hq, hA, hI, hT⟩ := tz_walk hx (by omega)
    rw [← e]
    have hc := ht q hq
    rw [hT] at hc
    exact trailing1 x p q z w hx (by simp; omega) hz hq hA hI hc
set_option maxHeartbeats 400000 in
theorem implLowBit (x : Nat) (w : World) (hx : x < 18446744073709551616) (ht : Tab w) :
    Calls Tryd.prog 9 #[.int .u64 x] w fun e w' => e = .returned (.int .i64 ((tzN 64 x : Nat) : Int)) ∧ w = w' := by
  have T := Lib.hid ht
  clear ht
  go_enter Tryd.func9, Tryd.ntmps9
  go_wp2_with fail
  refine (trailing x _ hx T.out).mono ?_
  rintro e w' ⟨rfl, rfl⟩
  go_wp2
  go_ret
  exact ⟨rfl, rfl⟩
set_option maxHeartbeats 400000 in
theorem specLowBit (x : Nat) (w : World) (hx : x < 18446744073709551616) :
    Calls Tryd.prog 11 #[.int .u64 x] w fun e w' => e = .returned (.int .i64 ((tzN 64 x : Nat) : Int)) ∧ w = w' := by
  go_enter Tryd.func11, Tryd.ntmps11
  go_wp2
  go_loop [3] (fun i => ∃ k : Nat, k ≤ 64 ∧ i = .int .i64 k ∧ Hid (k + tzN (64 - k) (x / 2 ^ k) = tzN 64 x)) (fun i => 64 - (intOf i).toNat)
  case atStart => exact ⟨0, by omega, rfl, Lib.hid (by rw [Nat.pow_zero, Nat.div_one, Nat.zero_add])⟩
  case round =>
    obtain ⟨k, hk, rfl, H⟩ := hrel
    by_cases hlt : k < 64
    · have H2 := Lib.hid (tzN_at x k hlt)
      have Bk : Hid (∀ w, Calls Tryd.prog 15 #[.int .u64 x, .int .i64 k] w fun e w' => e = .returned (.bool (x.testBit k)) ∧ w = w') := Lib.hid fun w => specBit x k w hx (by omega)
      cases hb : x.testBit k
      · rw [hb] at Bk H2
        have H3 : Hid (k + 1 + tzN (64 - (k + 1)) (x / 2 ^ (k + 1)) = tzN 64 x) := Lib.hid (by have h1 := H.out; have h2 := H2.out; rw [if_neg (by simp)] at h2; omega)
        clear hb H2 H
        go_wp2_with fail
        refine (Bk.out _).mono ?_
        rintro e w' ⟨rfl, rfl⟩
        go_wp2
        go_round
        case rel => exact ⟨k + 1, by omega, by go_num, H3⟩
        case measure => simp [intOf]; omega
      · rw [hb] at Bk H2
        have H3 : Hid (tzN 64 x = k) := Lib.hid (by have h1 := H.out; have h2 := H2.out; rw [if_pos rfl] at h2; omega)
        clear hb H2 H
        go_wp2_with fail
        refine (Bk.out _).mono ?_
        rintro e w' ⟨rfl, rfl⟩
        go_wp2
        go_ret
        exact ⟨ret_int (by rw [H3.out]), rfl⟩
    · have hk' : k = 64 := by omega
      subst hk'
      have H3 : Hid (tzN 64 x = 64) := Lib.hid (by have h1 := H.out; rw [Nat.sub_self] at h1; exact h1.symm)
      clear H
      go_wp2
      go_ret
      exact ⟨by rw [H3.out]; rfl, rfl⟩
end Go.Proofs.YtigigmffigjpeaaDoor
