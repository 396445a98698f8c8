/- FnLeavesCover: the walk. Written by tools/mkwmt.py. -/
import Derived.Test.YtabldmhjkggmjaaBase
import Derived.Test.YtabldmhjkggmjaaBigIs
import Derived.Test.YtabldmhjkggmjaaTrD
import Derived.Deep.RegionHeld3
import Derived.Deep.DeepCutAuto
import Derived.Deep.LoopGhost
namespace Go.Proofs.Ytabldmhjkggmjaa.fnLeavesCover
open Go.ChangeShapes Go.WideShapes Go.ChangeAt Go.RowKit
open Go.ChangeMaps (open_string shut_string)
set_option linter.unusedVariables false
set_option linter.unusedSimpArgs false

set_option maxRecDepth 100000 in
set_option maxHeartbeats 4000000 in
theorem walk0 (I : Impl11) (a0 : Option Addr) (len0 cap0 : Nat) (z0 : List Int) (w : World) (w0 : IsRow .u8 w a0 len0 cap0 z0) :
    Calls Try.prog 4 #[.slice a0 len0 cap0] w fun e w' => e = .returned (.bool true) ∧ Below w.heap.size w w' := by
  obtain ⟨l, hl, hcap, hmax, hr⟩ := row_of_isRow w0
  clear w0
  subst hl
  have R := Lib.hid hr
  clear hr
  have hm : l.length ≤ maxLen := Nat.le_trans hcap hmax
  by_cases hbig : 1048576 < l.length
  · have hB : decide (1048576 < l.length) = true := by simp [hbig]
    go_enter Try.func4, Try.ntmps4
    go_wp2_with fail
    refine (bigIs a0 l.length cap0 _ hm).mono ?_
    rintro e w1 ⟨rfl, rfl⟩
    rw [hB]
    go_wp2
    go_ret
    exact ⟨rfl, Below.refl _ _⟩
  have hB : decide (1048576 < l.length) = false := by simp; omega
  have hl2 : l.length ≤ 1048576 := by omega
  go_enter Try.func4, Try.ntmps4
  go_wp2_with fail
  refine (bigIs a0 l.length cap0 _ hm).mono ?_
  rintro e w1 ⟨rfl, rfl⟩
  rw [hB]
  clear hB
  go_wp2_with fail
  refine (drawNodeLeaves a0 l cap0 w hl2 R.out).mono ?_
  rintro e w1 ⟨x, n, rfl, hx, hn, hb⟩
  have B1 := Lib.hid hb
  have BX := Lib.hid hx
  have BN := Lib.hid hn
  clear hb R hx hn
  have SL := Lib.hid (fun w' => uSpecNodeLeaves x n w' BX.out BN.out)
  have IL := Lib.hid (fun w' => I.leaves x n w' BX.out BN.out)
  cases hnb : nodeB x n
  · rw [lowZ_no hnb, highZ_no hnb] at SL IL
    clear hnb
    go_wp2_with fail
    refine (IL.out _).mono ?_
    rintro e w2 ⟨rfl, hb⟩
    have B2 := Lib.hid (below_seq B1.out hb)
    clear hb B1 IL
    go_wp2_with fail
    refine (SL.out _).mono ?_
    rintro e w3 ⟨rfl, hb⟩
    have B3 := Lib.hid (below_seq B2.out hb)
    clear hb B2 SL
    go_wp2
    go_ret
    exact ⟨rfl, B3.out⟩
  obtain ⟨g, m, rfl, rfl, hg, hm1, hm2⟩ := nodeB_ok hnb
  obtain ⟨c1, c2, c3, c4⟩ := cover hg hm1 hm2
  rw [lowZ_at hg hm1 hm2, highZ_at hg hm1 hm2] at SL IL
  have hp64 := pow_64 hg
  have hp128 : 2 ^ (g + 1) ≤ 128 := Nat.pow_le_pow_right (n := 2) (by omega) (show g + 1 ≤ 7 by omega)
  have LVL := Lib.hid (show levelZ (m : Int) = lvN m from levelZ_at hm1 (by omega))
  clear hp128
  have TNE := Lib.hid (treeNodesZ_at hg)
  rw [Nat.pow_succ] at TNE
  have ON := Lib.hid (fun (k : Nat) (hk : k < 2 ^ g) => (onZ_at (n := m) hg hk).trans (c1 k hk))
  have IV := Lib.hid (fun w' => I.level m w' BN.out)
  rw [LVL.out] at IV
  have IT := Lib.hid (fun w' => I.nodes g w' BX.out)
  have IO := Lib.hid (fun (k : Nat) (hk : k < 2 ^ g) w' => I.on g m k w' BX.out BN.out (by unfold i64T; omega))
  have PD := Lib.hid (show 2 ^ (g - lvN m) ≤ 64 from Nat.le_trans (Nat.pow_le_pow_right (by omega) (Nat.sub_le _ _)) hp64.2)
  clear hnb c1 hm2
  obtain ⟨p, hp⟩ : ∃ p, 2 ^ g = p := ⟨_, rfl⟩
  rw [hp] at ON IO hp64 TNE c2
  rw [TNE.out] at IT
  clear hp TNE
  generalize loN g m = lo at *
  generalize hiN g m = hi' at *
  obtain ⟨v, hv⟩ : ∃ v, lvN m = v := ⟨_, rfl⟩
  rw [hv] at c3 c4 IV PD
  clear hv LVL
  have C3 := Lib.hid c3
  clear c3
  have hll : ((lo : Int) != (lo : Int)) = false := by simp
  have hhh : ((hi' : Int) != (hi' : Int)) = false := by simp
  have hl0 : ¬ (lo : Int) < 0 := by omega
  go_wp2_with fail
  refine (IL.out _).mono ?_
  rintro e w2 ⟨rfl, hb⟩
  have B2 := Lib.hid (below_seq B1.out hb)
  clear hb B1 IL
  go_wp2_with fail
  refine (SL.out _).mono ?_
  rintro e w3 ⟨rfl, hb⟩
  have B3 := Lib.hid (below_seq B2.out hb)
  clear hb B2 SL
  go_wp2_with fail
  refine (IV.out _).mono ?_
  rintro e w4 ⟨rfl, hb⟩
  have B4 := Lib.hid (below_seq B3.out hb)
  clear hb B3 IV
  go_wp2_with fail
  go_loopg [9, 10] (g - v) (fun kk nv iv wr => ∃ k : Nat, k ≤ g - v ∧ g - v - k = kk ∧ nv = .int .i64 (2 ^ k : Nat) ∧ iv = .int .i64 (v + k : Nat) ∧ wr = w4)
  case atStart => exact ⟨0, Nat.zero_le _, rfl, rfl, rfl, rfl⟩
  case round =>
    obtain ⟨k, hk, hkk, rfl, rfl, rfl⟩ := hrel
    have hkp : 2 ^ k ≤ 64 := Nat.pow_le_pow_right (n := 2) (by omega) (show k ≤ 6 by omega)
    have NX := Lib.hid (show 2 ^ (k + 1) = 2 * 2 ^ k by rw [Nat.pow_succ, Nat.mul_comm])
    by_cases hlt : k < g - v
    · have h1 : ((v + k : Nat) : Int) < (g : Int) := by omega
      obtain ⟨q, hq⟩ : ∃ q, 2 ^ k = q := ⟨_, rfl⟩
      rw [hq] at hkp NX ⊢
      clear hq
      go_wp2
      go_roundg (g - v - (k + 1))
      case measure => omega
      case rel => exact ⟨k + 1, by omega, rfl, by rw [NX.out]; go_num, by go_num, rfl⟩
    · have hkg : k = g - v := by omega
      subst hkg
      have h1 : ¬ ((v + (g - v) : Nat) : Int) < (g : Int) := by omega
      obtain ⟨d, hd⟩ : ∃ d, 2 ^ (g - v) = d := ⟨_, rfl⟩
      rw [hd] at hkp C3 ⊢
      clear hd NX
      have c3 := C3.out
      have h2 : ((hi' : Int) - (lo : Int) + 1 != (d : Int)) = false := by simp; omega
      obtain ⟨WR, hWR⟩ : ∃ WR, WR = wr := ⟨_, rfl⟩
      rw [← hWR] at B4 ⊢
      clear hWR
      clear C3
      go_wp2_with fail
      go_loopg [11] p (fun kk lv wq => ∃ j : Nat, j ≤ p ∧ p - j = kk ∧ lv = .int .i64 j ∧ Hid (Below WR.heap.size WR wq))
      case atStart => exact ⟨0, Nat.zero_le _, rfl, rfl, Lib.hid (Below.refl _ _)⟩
      case round =>
        obtain ⟨j, hj, hjk, rfl, HB⟩ := hrel
        have hq2 : (((p * 2 : Nat) : Int) - 1 + 1) / 2 = (p : Int) := by omega
        go_wp2_with fail
        refine (IT.out _).mono ?_
        rintro e w6 ⟨rfl, hb⟩
        replace HB := Lib.hid (below_seq HB.out hb)
        clear hb
        by_cases hjp : j < p
        · have hji : (j : Int) < (p : Int) := by omega
          have OE := ON.out j hjp
          have OP := Lib.hid (IO.out j hjp)
          rw [OE] at OP
          clear OE
          by_cases h3 : lo ≤ j
          · have h3i : decide ((lo : Int) ≤ (j : Int)) = true := by simp; omega
            by_cases h4 : j ≤ hi'
            · have h4i : decide ((j : Int) ≤ (hi' : Int)) = true := by simp; omega
              rw [decide_eq_true h3, decide_eq_true h4] at OP
              go_wp2_with fail
              refine (OP.out _).mono ?_
              rintro e w7 ⟨rfl, hb⟩
              replace HB := Lib.hid (below_seq HB.out hb)
              clear hb OP
              go_wp2
              go_roundg (p - (j + 1))
              case measure => omega
              case rel => exact ⟨j + 1, by omega, rfl, by go_num, HB⟩
            · have h4i : decide ((j : Int) ≤ (hi' : Int)) = false := by simp; omega
              rw [decide_eq_true h3, decide_eq_false h4] at OP
              go_wp2_with fail
              refine (OP.out _).mono ?_
              rintro e w7 ⟨rfl, hb⟩
              replace HB := Lib.hid (below_seq HB.out hb)
              clear hb OP
              go_wp2
              go_roundg (p - (j + 1))
              case measure => omega
              case rel => exact ⟨j + 1, by omega, rfl, by go_num, HB⟩
          · have h3i : decide ((lo : Int) ≤ (j : Int)) = false := by simp; omega
            rw [decide_eq_false h3, Bool.false_and] at OP
            go_wp2_with fail
            refine (OP.out _).mono ?_
            rintro e w7 ⟨rfl, hb⟩
            replace HB := Lib.hid (below_seq HB.out hb)
            clear hb OP
            go_wp2
            go_roundg (p - (j + 1))
            case measure => omega
            case rel => exact ⟨j + 1, by omega, rfl, by go_num, HB⟩
        · have hjp2 : j = p := by omega
          subst hjp2
          have B6 := Lib.hid (below_seq B4.out HB.out)
          go_wp2
          go_ret
          exact ⟨rfl, B6.out⟩
end Go.Proofs.Ytabldmhjkggmjaa.fnLeavesCover
