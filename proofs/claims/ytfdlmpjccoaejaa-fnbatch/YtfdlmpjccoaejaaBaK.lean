/- Chapter 7 in the program: the distance at the own length; BatchCapped. -/
import Derived.Test.YtfdlmpjccoaejaaBaJ
import Derived.Test.YtfdlmpjccoaejaaEdD
namespace Go.Proofs.Ytfdlmpjccoaejaa
open Go.RowKit
set_option linter.unusedVariables false
set_option maxRecDepth 100000

theorem run_index {V : Nat → Value} {k vc : Nat} {va : Option Addr} (hk : k < 33) (ev : V k = .slice va 6 vc) (w : World) : (Instr.index 75 (.agg (cellsG 33 V)) (.int .i64 (k : Nat))).run Try.prog w = .ok (.slice va 6 vc) w := by
  have h1 := cellsG_at V hk
  rw [ev] at h1
  simp [Instr.index, asIntOf, run_underlying Try.underlying75, hk, part]
  rw [h1]
  rfl
set_option maxHeartbeats 4000000 in
theorem implAt (V : Nat → Value) (N : Nat → List Nat) (c1 : Value) (lens : List Nat) (w : World) (hR : RowIn V N w) (hI : Uint64SIn [c1] lens w) (h6 : lens.length = 6) (hb : bd64 lens) :
    Calls Try.prog 71 #[.agg (cellsG 33 V), c1] w (Uint64SRet (atL N lens) w) := by
  obtain ⟨a1, x1, rfl, _, _, _⟩ := uint64SIn_shape hI
  have HR := Lib.hid hR
  have LW := Lib.hid (fun (n : Nat) w' (hn : n < 64) (hb' : Below w.heap.size w w') => implLanesWith _ lens n w' (hI.below hb') hb (by omega) hn)
  obtain ⟨i0, hi, hz0, hz1, hz2⟩ := info_parts Try.infoU64
  clear hR hI h6 hb
  go_enter Try.func71, Try.ntmps71
  go_wp2_with (refine wp_arrG_box rfl 75 _ rfl 33 V rfl ?_)
  intro w1 A1 G1 S1
  go_wp2_with (at_make; refine wpList_make_full _ rfl _ _ 26 rfl (w.heap.size + 1) 43 i0 (.int .u64 0) 1 Try.underlying26 hi hz0 hz1 .i64 .i64 _ _ 6 rfl rfl rfl rfl (by rw [hz2]; omega) (by unfold maxLen; omega) (by omega) ?_)
  clear hi hz0 hz1 hz2
  intro w2 hown hgr
  rw [toList_madeCells_one] at hown
  have B2 := (grown_below G1).trans ((grown_below hgr).mono (by omega))
  have A2 : ArrG w2 w.heap.size 75 33 V := A1.kept hgr (by simp)
  have U2 : ArrU w2 (w.heap.size + 1) 43 6 (atR N lens 0) := own_arrG hown
  have H0 := Lib.hid (And.intro U2 B2)
  clear hown hgr A1 G1 B2 U2
  go_wp2_with (refine wp_arrG_load rfl 75 _ rfl _ _ 33 _ _ Try.underlying75 rfl Try.sizeRow rfl A2 ?_)
  clear A2 S1
  have hL : w.heap.size < w.heap.size + 1 := by omega
  generalize w.heap.size + 1 = D at *
  go_loopw [12, 6, 7, 8, 9] (fun i _ _ _ _ wr => ∃ k : Nat, k ≤ 33 ∧ i = .int .i64 k ∧ Hid (ArrU wr D 43 6 (atR N lens k) ∧ Below w.heap.size w wr)) (fun i _ _ _ _ _ => 33 - (intOf i).toNat)
  case atStart => exact ⟨0, by omega, rfl, H0⟩
  case round =>
    clear H0
    obtain ⟨k, hk, rfl, H⟩ := hrel
    by_cases hlt : k < 33
    · have hd : decide ((k : Int) < 33) = true := by simp; omega
      have C := Lib.hid (LW.out k wr (by omega) H.out.2)
      obtain ⟨va, vc, ev⟩ := HR.out.shape hlt
      have ek := run_index hlt ev
      have IK : Hid (∀ w', Below w.heap.size w w' → Uint64SIn [.slice va 6 vc] (N k) w') := Lib.hid (fun w' hb' => by have := (HR.out.below hb').rd k hlt; rw [ev] at this; exact this)
      have lw := withN_lt lens k
      have lN := HR.out.bd k hlt
      have A1 : Hid (ArrU wr D 43 6 (progN (atR N lens (k + 1)) (atR N lens k) 0) ∧ Below w.heap.size w wr) := Lib.hid ⟨by rw [progN_zero]; exact H.out.1, H.out.2⟩
      have SR : Hid (∀ i, atR N lens (k + 1) i = atR N lens k i ||| ((N k).getD i 0 &&& withN lens k)) := Lib.hid (fun i => rfl)
      have LR : Hid (∀ i, atR N lens k i < 18446744073709551616) := Lib.hid (fun i => atR_lt lens k i)
      generalize hG1 : atR N lens (k + 1) = G1 at *
      have HG1 := Lib.hid hG1
      generalize atR N lens k = G0 at *
      generalize withN lens k = mv at *
      have l6 := Lib.hid (HR.out.six k hlt)
      clear H ev hG1
      go_wp2_with fail
      refine C.out.mono ?_
      rintro e w3 ⟨rfl, rfl⟩
      clear C ek hd
      go_wp2
      go_loopw [21, 9] (fun i _ wq => ∃ j : Nat, j ≤ 6 ∧ i = .int .i64 j ∧ Hid (ArrU wq D 43 6 (progN G1 G0 j) ∧ Below w.heap.size w wq)) (fun i _ _ => 6 - (intOf i).toNat)
      case atStart => exact ⟨0, by omega, rfl, A1⟩
      case round =>
        clear A1
        obtain ⟨j, hj, rfl, H⟩ := hrel
        by_cases hj6 : j < 6
        · obtain ⟨b, off, cap', e, q⟩ := in_at (IK.out wr H.out.2) (i := j) (by rw [l6.out]; exact hj6)
          simp at e
          obtain ⟨rfl, -, rfl⟩ := e
          have hc := H.out.1.cell hj6
          rw [progN_at] at hc
          have hf := H.out.1.free j
          have RS := Lib.hid (progN_set G1 G0 j)
          have ej := SR.out j
          have R := Lib.hid (And.intro ((H.out.1.drew 1).set j (G1 j)) ((below_seq H.out.2 (belowN 1)).setCell (p := ⟨D, j, none⟩) (by simp; omega) (.int .u64 ((G1 j : Nat) : Int))))
          rw [RS.out] at R
          have hu := LR.out j
          have hx := lN.at j
          generalize (N k).getD j 0 = x at *
          generalize G0 j = u at *
          generalize G1 j = v at *
          have q1 := u64_and_nat x mv hx lw
          have l1 : x &&& mv < 18446744073709551616 := Nat.and_lt_two_pow (n := 64) _ lw
          generalize x &&& mv = y at *
          have q2 := u64_or_nat u y hu l1
          rw [← ej] at q2
          have i1 : (0 : Int) ≤ (j : Int) := by omega
          have i2 : (j : Int) < 6 := by omega
          clear H RS ej
          go_wp2
          go_region
          go_wp2
          go_roundw
          case rel => exact ⟨j + 1, by omega, by go_num, R⟩
          case measure => simp [intOf]; omega
        · have hj' : j = 6 := by omega
          subst hj'
          have Dn : Hid (ArrU wr D 43 6 G1 ∧ Below w.heap.size w wr) := Lib.hid ⟨H.out.1.ext fun i hi => by unfold progN; rw [if_pos hi], H.out.2⟩
          clear H
          go_wp2
          go_roundw
          case rel => exact ⟨k + 1, by omega, by go_num, Lib.hid ⟨by rw [HG1.out]; exact Dn.out.1, Dn.out.2⟩⟩
          case measure => simp [intOf]; omega
    · have hk' : k = 33 := by omega
      subst hk'
      go_wp2
      go_ret
      exact ⟨_, rfl, H.out.1.mk (by omega) (by unfold maxLen; omega) rfl, H.out.2⟩
end Go.Proofs.Ytfdlmpjccoaejaa
