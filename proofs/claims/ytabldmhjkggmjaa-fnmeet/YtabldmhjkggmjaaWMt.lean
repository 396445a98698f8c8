/- FnMeet: the walk. Written by tools/mkwmt.py. -/
import Derived.Test.YtabldmhjkggmjaaBase
import Derived.Test.YtabldmhjkggmjaaBigIs
import Derived.Test.YtabldmhjkggmjaaTrD
import Derived.Deep.RegionHeld3
import Derived.Deep.DeepCutAuto
import Derived.Deep.LoopGhost
namespace Go.Proofs.Ytabldmhjkggmjaa.fnMeet
open Go.ChangeShapes Go.WideShapes Go.ChangeAt Go.RowKit
open Go.ChangeMaps (open_string shut_string)
set_option linter.unusedVariables false
set_option linter.unusedSimpArgs false

set_option maxRecDepth 100000 in
set_option maxHeartbeats 4000000 in
theorem walk0 (I : Impl11) (a0 : Option Addr) (len0 cap0 : Nat) (z0 : List Int) (w : World) (w0 : IsRow .u8 w a0 len0 cap0 z0) :
    Calls Try.prog 3 #[.slice a0 len0 cap0] w fun e w' => e = .returned (.bool true) ∧ Below w.heap.size w w' := by
  obtain ⟨l, hl, hcap, hmax, hr⟩ := row_of_isRow w0
  clear w0
  subst hl
  have R := Lib.hid hr
  clear hr
  have hm : l.length ≤ maxLen := Nat.le_trans hcap hmax
  by_cases hbig : 1048576 < l.length
  · have hB : decide (1048576 < l.length) = true := by simp [hbig]
    go_enter Try.func3, Try.ntmps3
    go_wp2_with fail
    refine (bigIs a0 l.length cap0 _ hm).mono ?_
    rintro e w1 ⟨rfl, rfl⟩
    rw [hB]
    go_wp2
    go_ret
    exact ⟨rfl, Below.refl _ _⟩
  have hB : decide (1048576 < l.length) = false := by simp; omega
  have hl2 : l.length ≤ 1048576 := by omega
  go_enter Try.func3, Try.ntmps3
  go_wp2_with fail
  refine (bigIs a0 l.length cap0 _ hm).mono ?_
  rintro e w1 ⟨rfl, rfl⟩
  rw [hB]
  clear hB
  go_wp2_with fail
  refine (drawMeet a0 l cap0 w hl2 R.out).mono ?_
  rintro e w1 ⟨x, y, z, rfl, hx, hy, hz, hb⟩
  have B1 := Lib.hid hb
  have BX := Lib.hid hx
  have BY := Lib.hid hy
  have BZ := Lib.hid hz
  clear hb R hx hy hz
  have SM := Lib.hid (fun w' => uSpecMeet x y z w' BX.out BY.out BZ.out)
  go_wp2_with fail
  refine (I.meet x y z _ BX.out BY.out BZ.out).mono ?_
  rintro e w2 ⟨rfl, hb⟩
  have B2 := Lib.hid (below_seq B1.out hb)
  clear hb B1
  by_cases hbad : leafB x y = false ∨ leafB x z = false
  · rw [meetZ_no hbad] at SM ⊢
    clear hbad
    go_wp2_with fail
    refine (SM.out _).mono ?_
    rintro e w3 ⟨rfl, hb⟩
    have B3 := Lib.hid (below_seq B2.out hb)
    clear hb B2
    go_wp2_with fail
    refine (SM.out _).mono ?_
    rintro e w4 ⟨rfl, hb⟩
    have B4 := Lib.hid (below_seq B3.out hb)
    clear hb B3 SM
    go_wp2
    go_ret
    exact ⟨rfl, B4.out⟩
  have hly : leafB x y = true := by
    cases e : leafB x y
    · exact absurd (.inl e) hbad
    · rfl
  have hlz : leafB x z = true := by
    cases e : leafB x z
    · exact absurd (.inr e) hbad
    · rfl
  clear hbad
  obtain ⟨g, a, rfl, rfl, hg, ha⟩ := leafB_ok hly
  obtain ⟨g', b, e1, rfl, _, hb⟩ := leafB_ok hlz
  have e2 : g = g' := by omega
  subst e2
  clear hly hlz e1
  have MS := meet_sym hg ha hb
  have MA := Lib.hid (fun i hi => meet_at (i := i) hg ha hb hi)
  have NN := Lib.hid (fun i hi => nd_node (i := i) ha hi)
  have ON := Lib.hid (fun n => onZ_at (n := n) hg hb)
  have LP := Lib.hid (pathZ_length hg ha)
  have LQ := Lib.hid (pathZ_length hg hb)
  have GP := Lib.hid (fun i (hi : i < (pathZ g a).length) => pathZ_get hg ha hi)
  have GQ := Lib.hid (fun i (hi : i < (pathZ g b).length) => pathZ_get hg hb hi)
  have MR := Lib.hid (show meetZ g b a = mtN g a b (g + 1) by rw [meetZ_at hg hb ha, MS.1])
  have N0 := Lib.hid MS.2.1
  have hmg := MS.2.2
  rw [meetZ_at hg ha hb] at SM ⊢
  clear MS ha hb
  obtain ⟨m, hm'⟩ : ∃ m, mtN g a b (g + 1) = m := ⟨_, rfl⟩
  rw [hm'] at SM MA MR hmg ⊢
  clear hm'
  have hmm : ((m : Int) != (m : Int)) = false := by simp
  have hm0 : ¬ (m : Int) < 0 := by omega
  go_wp2_with fail
  refine (SM.out _).mono ?_
  rintro e w3 ⟨rfl, hb⟩
  have B3 := Lib.hid (below_seq B2.out hb)
  clear hb B2 SM
  go_wp2_with fail
  refine (I.path g a _ BX.out BY.out).mono ?_
  rintro e w4 ⟨c4, rfl, ho, hb⟩
  obtain ⟨a4, k4, rfl, _, _, r4⟩ := intSIn_shape ho.read
  have B4 := Lib.hid (below_seq B3.out hb)
  rw [LP.out]
  clear ho hb B3
  go_wp2_with fail
  refine (I.path g b _ BX.out BZ.out).mono ?_
  rintro e w5 ⟨c5, rfl, ho, hb⟩
  obtain ⟨a5, k5, rfl, _, _, r5⟩ := intSIn_shape ho.read
  have B5 := Lib.hid (below_seq B4.out hb)
  have RP := Lib.hid (r4.below hb)
  have RQ := Lib.hid r5
  rw [LQ.out]
  clear ho hb B4 r4 r5
  have hgg : (((g + 1 : Nat) : Int) != (g : Int) + 1) = false := by simp
  have hgg2 : (((g : Int) + 1) != (g : Int) + 1) = false := by simp
  go_wp2_with fail
  go_loopg [9] (g + 1) (fun kk iv wr => ∃ i : Nat, i ≤ g + 1 ∧ g + 1 - i = kk ∧ iv = .int .i64 i ∧ Hid (Below w5.heap.size w5 wr))
  case atStart => exact ⟨0, Nat.zero_le _, rfl, rfl, Lib.hid (Below.refl _ _)⟩
  case round =>
    obtain ⟨i, hi, hik, rfl, HB⟩ := hrel
    by_cases hlt : i < g + 1
    · have hiP : i < (pathZ g a).length := by rw [LP.out]; exact hlt
      have hiQ : i < (pathZ g b).length := by rw [LQ.out]; exact hlt
      obtain ⟨b1, o1, rfl, q1⟩ := (RP.out.below HB.out).at (i := i) (by simpa using hiP)
      obtain ⟨b2, o2, rfl, q2⟩ := (RQ.out.below HB.out).at (i := i) (by simpa using hiQ)
      rw [List.getElem?_map, List.getElem?_eq_getElem hiP, GP.out i hiP] at q1
      rw [List.getElem?_map, List.getElem?_eq_getElem hiQ, GQ.out i hiQ] at q2
      obtain ⟨f1, f2, f3, f4, f5, f6⟩ := MA.out i (by omega)
      obtain ⟨n1, n2⟩ := NN.out i (by omega)
      have hp64 : 2 ^ (g + 1) ≤ 128 := Nat.pow_le_pow_right (n := 2) (by omega) (show g + 1 ≤ 7 by omega)
      have LO := lowZ_at hg n1 n2
      have HI := highZ_at hg n1 n2
      have LE := levelZ_at n1 (by omega)
      have OE := ON.out (nd g a i)
      obtain ⟨u, hu⟩ : ∃ u, nd g a i = u := ⟨_, rfl⟩
      obtain ⟨v, hv⟩ : ∃ v, nd g b i = v := ⟨_, rfl⟩
      rw [hu] at q1 f1 f2 f3 f4 f5 f6 n1 n2 LO HI LE OE
      rw [hv] at q2 f2
      clear hu hv hiP hiQ
      have hu127 : u ≤ 127 := by omega
      have NL := Lib.hid (fun w' => I.leaves g u w' BX.out (by unfold i64T; omega))
      have OP := Lib.hid (fun w' => I.on g u b w' BX.out (by unfold i64T; omega) BZ.out)
      have LV := Lib.hid (fun w' => I.level u w' (by unfold i64T; omega))
      rw [LO, HI] at NL
      rw [OE, f1] at OP
      rw [LE, f3] at LV
      generalize loN g u = lo at *
      generalize hiN g u = hi' at *
      clear LO HI LE OE f1 f3 n1 n2 hp64
      replace q1 : wr.cell? ⟨b1, o1 + i, none⟩ = some (.int .i64 u) := q1
      replace q2 : wr.cell? ⟨b2, o2 + i, none⟩ = some (.int .i64 v) := q2
      have hi0 : (0 : Int) ≤ (i : Int) := by omega
      have hi1 : (i : Int) < ((g + 1 : Nat) : Int) := by omega
      have hi2 : (i : Int) < (g : Int) + 1 := by omega
      go_wp2_with fail
      refine (NL.out _).mono ?_
      rintro e w6 ⟨rfl, hb⟩
      replace HB := Lib.hid (below_seq HB.out hb)
      replace q1 := cell_keep q1 hb
      replace q2 := cell_keep q2 hb
      clear hb NL
      have hii : ((i : Int) != (i : Int)) = false := by simp
      have g1 : ¬ (a : Int) < (lo : Int) := by omega
      have g1b : decide ((a : Int) < (lo : Int)) = false := by simp; omega
      have g1n : ¬ a < lo := by omega
      have g1d : decide (a < lo) = false := by simp; omega
      have g2n : ¬ hi' < a := by omega
      have g2d : decide (hi' < a) = false := by simp; omega
      have g2 : ¬ (hi' : Int) < (a : Int) := by omega
      have g2b : decide ((hi' : Int) < (a : Int)) = false := by simp; omega
      clear f4 f5
      go_upto_region 15 with fail
      have KS := Lib.hid (fun w' (hb : Below w6.heap.size w6 w') => (show w'.cell? ⟨b1, o1 + i, none⟩ = some (.int .i64 u) ∧ w'.cell? ⟨b2, o2 + i, none⟩ = some (.int .i64 v) from ⟨cell_keep q1 hb, cell_keep q2 hb⟩))
      have HD := Lib.hid (below_drew (Below.refl w6.heap.size w6))
      clear q1 q2
      by_cases him : i ≤ m
      · have k1 : decide ((i : Int) ≤ (m : Int)) = true := by simp; omega
        rw [decide_eq_true him] at f2 f6 OP
        have huv : u = v := of_decide_eq_true f2
        subst huv
        simp only [Bool.and_eq_true, decide_eq_true_eq] at f6
        have k2 : decide ((lo : Int) ≤ (b : Int)) = true := by simp; omega
        have k2n : decide (lo ≤ b) = true := by simp; omega
        have k2p : (lo : Int) ≤ (b : Int) := by omega
        have k2q : lo ≤ b := by omega
        have k3 : decide ((b : Int) ≤ (hi' : Int)) = true := by simp; omega
        have k3n : decide (b ≤ hi') = true := by simp; omega
        have k3p : (b : Int) ≤ (hi' : Int) := by omega
        have k3q : b ≤ hi' := by omega
        have k4 : ((u : Int) == (u : Int)) = true := by simp
        clear f2 f6
        refine wp_region_held_drew (S := (fun w' => w'.cell? ⟨b1, o1 + i, none⟩ = some (.int .i64 u) ∧ w'.cell? ⟨b2, o2 + i, none⟩ = some (.int .i64 u))) (by kernel_rfl) (KS.out _ HD.out) (fun hHeld => ?_)
        refine wpAnyH_take (i := 0) (oi := ?oa_0) (v := ?va_0) ?hia_0 (by kernel_rfl) (by kernel_rfl) (by kernel_rfl) ?hqa_0 ?hya_0 (by assumption) ?ra_0
        case hia_0 => (simp only [List.getElem?_toArray, List.getElem?_cons_succ, List.getElem?_cons_zero]; rfl)
        case hqa_0 => exact fun _ _ _ h => h
        case hya_0 =>
          first
            | (refine Or.inl ⟨by rfl, ?_⟩; intro wq hSw; (try dsimp only at hSw); go_simp; (try with_reducible rfl); done)
            | (refine Or.inr ⟨by rfl, ?_⟩; with_reducible rfl)
        try simp only [Act.put, List.setIfInBounds_toArray, List.set_cons_zero, List.set_cons_succ]
        refine wpAnyH_take (i := 1) (oi := ?oa_1) (v := ?va_1) ?hia_1 (by kernel_rfl) (by kernel_rfl) (by kernel_rfl) ?hqa_1 ?hya_1 (by assumption) ?ra_1
        case hia_1 => (simp only [List.getElem?_toArray, List.getElem?_cons_succ, List.getElem?_cons_zero]; rfl)
        case hqa_1 => exact fun _ _ _ h => h
        case hya_1 =>
          first
            | (refine Or.inl ⟨by rfl, ?_⟩; intro wq hSw; (try dsimp only at hSw); go_simp; (try with_reducible rfl); done)
            | (refine Or.inr ⟨by rfl, ?_⟩; with_reducible rfl)
        try simp only [Act.put, List.setIfInBounds_toArray, List.set_cons_zero, List.set_cons_succ]
        refine wpAnyH_take (i := 2) (oi := ?oa_2) (v := ?va_2) ?hia_2 (by kernel_rfl) (by kernel_rfl) (by kernel_rfl) ?hqa_2 ?hya_2 (by assumption) ?ra_2
        case hia_2 => (simp only [List.getElem?_toArray, List.getElem?_cons_succ, List.getElem?_cons_zero]; rfl)
        case hqa_2 => exact fun _ _ _ h => h
        case hya_2 =>
          first
            | (refine Or.inl ⟨by rfl, ?_⟩; intro wq hSw; (try dsimp only at hSw); go_simp; (try with_reducible rfl); done)
            | (refine Or.inr ⟨by rfl, ?_⟩; with_reducible rfl)
        try simp only [Act.put, List.setIfInBounds_toArray, List.set_cons_zero, List.set_cons_succ]
        refine wpAnyH_take (i := 3) (oi := ?oa_3) (v := ?va_3) ?hia_3 (by kernel_rfl) (by kernel_rfl) (by kernel_rfl) ?hqa_3 ?hya_3 (by assumption) ?ra_3
        case hia_3 => (simp only [List.getElem?_toArray, List.getElem?_cons_succ, List.getElem?_cons_zero]; rfl)
        case hqa_3 => exact fun _ _ _ h => h
        case hya_3 =>
          first
            | (refine Or.inl ⟨by rfl, ?_⟩; intro wq hSw; (try dsimp only at hSw); go_simp; (try with_reducible rfl); done)
            | (refine Or.inr ⟨by rfl, ?_⟩; with_reducible rfl)
        try simp only [Act.put, List.setIfInBounds_toArray, List.set_cons_zero, List.set_cons_succ]
        refine wpAnyH_take (i := 4) (oi := ?oa_4) (v := ?va_4) ?hia_4 (by kernel_rfl) (by kernel_rfl) (by kernel_rfl) ?hqa_4 ?hya_4 (by assumption) ?ra_4
        case hia_4 => (simp only [List.getElem?_toArray, List.getElem?_cons_succ, List.getElem?_cons_zero]; rfl)
        case hqa_4 => exact fun _ _ _ h => h
        case hya_4 =>
          first
            | (refine Or.inl ⟨by rfl, ?_⟩; intro wq hSw; (try dsimp only at hSw); go_simp; (try with_reducible rfl); done)
            | (refine Or.inr ⟨by rfl, ?_⟩; with_reducible rfl)
        try simp only [Act.put, List.setIfInBounds_toArray, List.set_cons_zero, List.set_cons_succ]
        refine wpAnyH_take (i := 5) (oi := ?oa_5) (v := ?va_5) ?hia_5 (by kernel_rfl) (by kernel_rfl) (by kernel_rfl) ?hqa_5 ?hya_5 (by assumption) ?ra_5
        case hia_5 => (simp only [List.getElem?_toArray, List.getElem?_cons_succ, List.getElem?_cons_zero]; rfl)
        case hqa_5 => exact fun _ _ _ h => h
        case hya_5 =>
          first
            | (refine Or.inl ⟨by rfl, ?_⟩; intro wq hSw; (try dsimp only at hSw); go_simp; (try with_reducible rfl); done)
            | (refine Or.inr ⟨by rfl, ?_⟩; with_reducible rfl)
        try simp only [Act.put, List.setIfInBounds_toArray, List.set_cons_zero, List.set_cons_succ]
        refine wpAnyH_take (i := 7) (oi := ?oa_7) (v := ?va_7) ?hia_7 (by kernel_rfl) (by kernel_rfl) (by kernel_rfl) ?hqa_7 ?hya_7 (by assumption) ?ra_7
        case hia_7 => (simp only [List.getElem?_toArray, List.getElem?_cons_succ, List.getElem?_cons_zero]; rfl)
        case hqa_7 => exact fun _ _ _ h => h
        case hya_7 =>
          first
            | (refine Or.inl ⟨by rfl, ?_⟩; intro wq hSw; (try dsimp only at hSw); go_simp; (try with_reducible rfl); done)
            | (refine Or.inr ⟨by rfl, ?_⟩; with_reducible rfl)
        try simp only [Act.put, List.setIfInBounds_toArray, List.set_cons_zero, List.set_cons_succ]
        refine wpAnyH_take (i := 8) (oi := ?oa_8) (v := ?va_8) ?hia_8 (by kernel_rfl) (by kernel_rfl) (by kernel_rfl) ?hqa_8 ?hya_8 (by assumption) ?ra_8
        case hia_8 => (simp only [List.getElem?_toArray, List.getElem?_cons_succ, List.getElem?_cons_zero]; rfl)
        case hqa_8 => exact fun _ _ _ h => h
        case hya_8 =>
          first
            | (refine Or.inl ⟨by rfl, ?_⟩; intro wq hSw; (try dsimp only at hSw); go_simp; (try with_reducible rfl); done)
            | (refine Or.inr ⟨by rfl, ?_⟩; with_reducible rfl)
        try simp only [Act.put, List.setIfInBounds_toArray, List.set_cons_zero, List.set_cons_succ]
        refine wpAnyH_take (i := 9) (oi := ?oa_9) (v := ?va_9) ?hia_9 (by kernel_rfl) (by kernel_rfl) (by kernel_rfl) ?hqa_9 ?hya_9 (by assumption) ?ra_9
        case hia_9 => (simp only [List.getElem?_toArray, List.getElem?_cons_succ, List.getElem?_cons_zero]; rfl)
        case hqa_9 => exact fun _ _ _ h => h
        case hya_9 =>
          first
            | (refine Or.inl ⟨by rfl, ?_⟩; intro wq hSw; (try dsimp only at hSw); go_simp; (try with_reducible rfl); done)
            | (refine Or.inr ⟨by rfl, ?_⟩; with_reducible rfl)
        try simp only [Act.put, List.setIfInBounds_toArray, List.set_cons_zero, List.set_cons_succ]
        refine wpAnyH_ready (rs := [6]) (by kernel_rfl) (by simp) ?_
        refine AllReadyH.cons (by simp only [List.getElem?_toArray, List.getElem?_cons_succ, List.getElem?_cons_zero]; rfl) (fun K hK => ?_) AllReadyH.nil
        go_simp
        go_at_call 18
        refine (OP.out _).mono ?_
        rintro e wn ⟨rfl, hb⟩
        replace HD := Lib.hid (below_seq HD.out hb)
        clear hb
        refine hK.out _ _ (KS.out _ HD.out) (fun hHeld6 => ?_)
        clear hK K hHeld
        try simp only [Act.put, List.setIfInBounds_toArray, List.set_cons_zero, List.set_cons_succ]
        refine wpAnyH_take (i := 10) (oi := ?oa_10) (v := ?va_10) ?hia_10 (by kernel_rfl) (by kernel_rfl) (by kernel_rfl) ?hqa_10 ?hya_10 (by assumption) ?ra_10
        case hia_10 => (simp only [List.getElem?_toArray, List.getElem?_cons_succ, List.getElem?_cons_zero]; rfl)
        case hqa_10 => exact fun _ _ _ h => h
        case hya_10 =>
          first
            | (refine Or.inl ⟨by rfl, ?_⟩; intro wq hSw; (try dsimp only at hSw); go_simp; (try with_reducible rfl); done)
            | (refine Or.inr ⟨by rfl, ?_⟩; with_reducible rfl)
        try simp only [Act.put, List.setIfInBounds_toArray, List.set_cons_zero, List.set_cons_succ]
        refine wpAnyH_take (i := 11) (oi := ?oa_11) (v := ?va_11) ?hia_11 (by kernel_rfl) (by kernel_rfl) (by kernel_rfl) ?hqa_11 ?hya_11 (by assumption) ?ra_11
        case hia_11 => (simp only [List.getElem?_toArray, List.getElem?_cons_succ, List.getElem?_cons_zero]; rfl)
        case hqa_11 => exact fun _ _ _ h => h
        case hya_11 =>
          first
            | (refine Or.inl ⟨by rfl, ?_⟩; intro wq hSw; (try dsimp only at hSw); go_simp; (try with_reducible rfl); done)
            | (refine Or.inr ⟨by rfl, ?_⟩; with_reducible rfl)
        try simp only [Act.put, List.setIfInBounds_toArray, List.set_cons_zero, List.set_cons_succ]
        refine wpAnyH_take (i := 12) (oi := ?oa_12) (v := ?va_12) ?hia_12 (by kernel_rfl) (by kernel_rfl) (by kernel_rfl) ?hqa_12 ?hya_12 (by assumption) ?ra_12
        case hia_12 => (simp only [List.getElem?_toArray, List.getElem?_cons_succ, List.getElem?_cons_zero]; rfl)
        case hqa_12 => exact fun _ _ _ h => h
        case hya_12 =>
          first
            | (refine Or.inl ⟨by rfl, ?_⟩; intro wq hSw; (try dsimp only at hSw); go_simp; (try with_reducible rfl); done)
            | (refine Or.inr ⟨by rfl, ?_⟩; with_reducible rfl)
        try simp only [Act.put, List.setIfInBounds_toArray, List.set_cons_zero, List.set_cons_succ]
        refine wpAnyH_take (i := 13) (oi := ?oa_13) (v := ?va_13) ?hia_13 (by kernel_rfl) (by kernel_rfl) (by kernel_rfl) ?hqa_13 ?hya_13 (by assumption) ?ra_13
        case hia_13 => (simp only [List.getElem?_toArray, List.getElem?_cons_succ, List.getElem?_cons_zero]; rfl)
        case hqa_13 => exact fun _ _ _ h => h
        case hya_13 =>
          first
            | (refine Or.inl ⟨by rfl, ?_⟩; intro wq hSw; (try dsimp only at hSw); go_simp; (try with_reducible rfl); done)
            | (refine Or.inr ⟨by rfl, ?_⟩; with_reducible rfl)
        try simp only [Act.put, List.setIfInBounds_toArray, List.set_cons_zero, List.set_cons_succ]
        refine wpAnyH_take (i := 14) (oi := ?oa_14) (v := ?va_14) ?hia_14 (by kernel_rfl) (by kernel_rfl) (by kernel_rfl) ?hqa_14 ?hya_14 (by assumption) ?ra_14
        case hia_14 => (simp only [List.getElem?_toArray, List.getElem?_cons_succ, List.getElem?_cons_zero]; rfl)
        case hqa_14 => exact fun _ _ _ h => h
        case hya_14 =>
          first
            | (refine Or.inl ⟨by rfl, ?_⟩; intro wq hSw; (try dsimp only at hSw); go_simp; (try with_reducible rfl); done)
            | (refine Or.inr ⟨by rfl, ?_⟩; with_reducible rfl)
        try simp only [Act.put, List.setIfInBounds_toArray, List.set_cons_zero, List.set_cons_succ]
        refine wpAnyH_take (i := 15) (oi := ?oa_15) (v := ?va_15) ?hia_15 (by kernel_rfl) (by kernel_rfl) (by kernel_rfl) ?hqa_15 ?hya_15 (by assumption) ?ra_15
        case hia_15 => (simp only [List.getElem?_toArray, List.getElem?_cons_succ, List.getElem?_cons_zero]; rfl)
        case hqa_15 => exact fun _ _ _ h => h
        case hya_15 =>
          first
            | (refine Or.inl ⟨by rfl, ?_⟩; intro wq hSw; (try dsimp only at hSw); go_simp; (try with_reducible rfl); done)
            | (refine Or.inr ⟨by rfl, ?_⟩; with_reducible rfl)
        try simp only [Act.put, List.setIfInBounds_toArray, List.set_cons_zero, List.set_cons_succ]
        refine wpAnyH_take (i := 16) (oi := ?oa_16) (v := ?va_16) ?hia_16 (by kernel_rfl) (by kernel_rfl) (by kernel_rfl) ?hqa_16 ?hya_16 (by assumption) ?ra_16
        case hia_16 => (simp only [List.getElem?_toArray, List.getElem?_cons_succ, List.getElem?_cons_zero]; rfl)
        case hqa_16 => exact fun _ _ _ h => h
        case hya_16 =>
          first
            | (refine Or.inl ⟨by rfl, ?_⟩; intro wq hSw; (try dsimp only at hSw); go_simp; (try with_reducible rfl); done)
            | (refine Or.inr ⟨by rfl, ?_⟩; with_reducible rfl)
        try simp only [Act.put, List.setIfInBounds_toArray, List.set_cons_zero, List.set_cons_succ]
        refine wpAnyH_take (i := 17) (oi := ?oa_17) (v := ?va_17) ?hia_17 (by kernel_rfl) (by kernel_rfl) (by kernel_rfl) ?hqa_17 ?hya_17 (by assumption) ?ra_17
        case hia_17 => (simp only [List.getElem?_toArray, List.getElem?_cons_succ, List.getElem?_cons_zero]; rfl)
        case hqa_17 => exact fun _ _ _ h => h
        case hya_17 =>
          first
            | (refine Or.inl ⟨by rfl, ?_⟩; intro wq hSw; (try dsimp only at hSw); go_simp; (try with_reducible rfl); done)
            | (refine Or.inr ⟨by rfl, ?_⟩; with_reducible rfl)
        try simp only [Act.put, List.setIfInBounds_toArray, List.set_cons_zero, List.set_cons_succ]
        refine wpAnyH_take (i := 18) (oi := ?oa_18) (v := ?va_18) ?hia_18 (by kernel_rfl) (by kernel_rfl) (by kernel_rfl) ?hqa_18 ?hya_18 (by assumption) ?ra_18
        case hia_18 => (simp only [List.getElem?_toArray, List.getElem?_cons_succ, List.getElem?_cons_zero]; rfl)
        case hqa_18 => exact fun _ _ _ h => h
        case hya_18 =>
          first
            | (refine Or.inl ⟨by rfl, ?_⟩; intro wq hSw; (try dsimp only at hSw); go_simp; (try with_reducible rfl); done)
            | (refine Or.inr ⟨by rfl, ?_⟩; with_reducible rfl)
        try simp only [Act.put, List.setIfInBounds_toArray, List.set_cons_zero, List.set_cons_succ]
        refine wpAnyH_take (i := 19) (oi := ?oa_19) (v := ?va_19) ?hia_19 (by kernel_rfl) (by kernel_rfl) (by kernel_rfl) ?hqa_19 ?hya_19 (by assumption) ?ra_19
        case hia_19 => (simp only [List.getElem?_toArray, List.getElem?_cons_succ, List.getElem?_cons_zero]; rfl)
        case hqa_19 => exact fun _ _ _ h => h
        case hya_19 =>
          first
            | (refine Or.inl ⟨by rfl, ?_⟩; intro wq hSw; (try dsimp only at hSw); go_simp; (try with_reducible rfl); done)
            | (refine Or.inr ⟨by rfl, ?_⟩; with_reducible rfl)
        try simp only [Act.put, List.setIfInBounds_toArray, List.set_cons_zero, List.set_cons_succ]
        refine wpAnyH_take (i := 20) (oi := ?oa_20) (v := ?va_20) ?hia_20 (by kernel_rfl) (by kernel_rfl) (by kernel_rfl) ?hqa_20 ?hya_20 (by assumption) ?ra_20
        case hia_20 => (simp only [List.getElem?_toArray, List.getElem?_cons_succ, List.getElem?_cons_zero]; rfl)
        case hqa_20 => exact fun _ _ _ h => h
        case hya_20 =>
          first
            | (refine Or.inl ⟨by rfl, ?_⟩; intro wq hSw; (try dsimp only at hSw); go_simp; (try with_reducible rfl); done)
            | (refine Or.inr ⟨by rfl, ?_⟩; with_reducible rfl)
        try simp only [Act.put, List.setIfInBounds_toArray, List.set_cons_zero, List.set_cons_succ]
        refine wpAnyH_take (i := 21) (oi := ?oa_21) (v := ?va_21) ?hia_21 (by kernel_rfl) (by kernel_rfl) (by kernel_rfl) ?hqa_21 ?hya_21 (by assumption) ?ra_21
        case hia_21 => (simp only [List.getElem?_toArray, List.getElem?_cons_succ, List.getElem?_cons_zero]; rfl)
        case hqa_21 => exact fun _ _ _ h => h
        case hya_21 =>
          first
            | (refine Or.inl ⟨by rfl, ?_⟩; intro wq hSw; (try dsimp only at hSw); go_simp; (try with_reducible rfl); done)
            | (refine Or.inr ⟨by rfl, ?_⟩; with_reducible rfl)
        try simp only [Act.put, List.setIfInBounds_toArray, List.set_cons_zero, List.set_cons_succ]
        refine wpAnyH_take (i := 22) (oi := ?oa_22) (v := ?va_22) ?hia_22 (by kernel_rfl) (by kernel_rfl) (by kernel_rfl) ?hqa_22 ?hya_22 (by assumption) ?ra_22
        case hia_22 => (simp only [List.getElem?_toArray, List.getElem?_cons_succ, List.getElem?_cons_zero]; rfl)
        case hqa_22 => exact fun _ _ _ h => h
        case hya_22 =>
          first
            | (refine Or.inl ⟨by rfl, ?_⟩; intro wq hSw; (try dsimp only at hSw); go_simp; (try with_reducible rfl); done)
            | (refine Or.inr ⟨by rfl, ?_⟩; with_reducible rfl)
        try simp only [Act.put, List.setIfInBounds_toArray, List.set_cons_zero, List.set_cons_succ]
        refine wpAnyH_take (i := 23) (oi := ?oa_23) (v := ?va_23) ?hia_23 (by kernel_rfl) (by kernel_rfl) (by kernel_rfl) ?hqa_23 ?hya_23 (by assumption) ?ra_23
        case hia_23 => (simp only [List.getElem?_toArray, List.getElem?_cons_succ, List.getElem?_cons_zero]; rfl)
        case hqa_23 => exact fun _ _ _ h => h
        case hya_23 =>
          first
            | (refine Or.inl ⟨by rfl, ?_⟩; intro wq hSw; (try dsimp only at hSw); go_simp; (try with_reducible rfl); done)
            | (refine Or.inr ⟨by rfl, ?_⟩; with_reducible rfl)
        try simp only [Act.put, List.setIfInBounds_toArray, List.set_cons_zero, List.set_cons_succ]
        refine wpAnyH_take (i := 24) (oi := ?oa_24) (v := ?va_24) ?hia_24 (by kernel_rfl) (by kernel_rfl) (by kernel_rfl) ?hqa_24 ?hya_24 (by assumption) ?ra_24
        case hia_24 => (simp only [List.getElem?_toArray, List.getElem?_cons_succ, List.getElem?_cons_zero]; rfl)
        case hqa_24 => exact fun _ _ _ h => h
        case hya_24 =>
          first
            | (refine Or.inl ⟨by rfl, ?_⟩; intro wq hSw; (try dsimp only at hSw); go_simp; (try with_reducible rfl); done)
            | (refine Or.inr ⟨by rfl, ?_⟩; with_reducible rfl)
        try simp only [Act.put, List.setIfInBounds_toArray, List.set_cons_zero, List.set_cons_succ]
        refine wpAnyH_take (i := 25) (oi := ?oa_25) (v := ?va_25) ?hia_25 (by kernel_rfl) (by kernel_rfl) (by kernel_rfl) ?hqa_25 ?hya_25 (by assumption) ?ra_25
        case hia_25 => (simp only [List.getElem?_toArray, List.getElem?_cons_succ, List.getElem?_cons_zero]; rfl)
        case hqa_25 => exact fun _ _ _ h => h
        case hya_25 =>
          first
            | (refine Or.inl ⟨by rfl, ?_⟩; intro wq hSw; (try dsimp only at hSw); go_simp; (try with_reducible rfl); done)
            | (refine Or.inr ⟨by rfl, ?_⟩; with_reducible rfl)
        try simp only [Act.put, List.setIfInBounds_toArray, List.set_cons_zero, List.set_cons_succ]
        refine wpAnyH_take (i := 26) (oi := ?oa_26) (v := ?va_26) ?hia_26 (by kernel_rfl) (by kernel_rfl) (by kernel_rfl) ?hqa_26 ?hya_26 (by assumption) ?ra_26
        case hia_26 => (simp only [List.getElem?_toArray, List.getElem?_cons_succ, List.getElem?_cons_zero]; rfl)
        case hqa_26 => exact fun _ _ _ h => h
        case hya_26 =>
          first
            | (refine Or.inl ⟨by rfl, ?_⟩; intro wq hSw; (try dsimp only at hSw); go_simp; (try with_reducible rfl); done)
            | (refine Or.inr ⟨by rfl, ?_⟩; with_reducible rfl)
        try simp only [Act.put, List.setIfInBounds_toArray, List.set_cons_zero, List.set_cons_succ]
        refine wpAnyH_take (i := 27) (oi := ?oa_27) (v := ?va_27) ?hia_27 (by kernel_rfl) (by kernel_rfl) (by kernel_rfl) ?hqa_27 ?hya_27 (by assumption) ?ra_27
        case hia_27 => (simp only [List.getElem?_toArray, List.getElem?_cons_succ, List.getElem?_cons_zero]; rfl)
        case hqa_27 => exact fun _ _ _ h => h
        case hya_27 =>
          first
            | (refine Or.inl ⟨by rfl, ?_⟩; intro wq hSw; (try dsimp only at hSw); go_simp; (try with_reducible rfl); done)
            | (refine Or.inr ⟨by rfl, ?_⟩; with_reducible rfl)
        try simp only [Act.put, List.setIfInBounds_toArray, List.set_cons_zero, List.set_cons_succ]
        refine wpAnyH_take (i := 28) (oi := ?oa_28) (v := ?va_28) ?hia_28 (by kernel_rfl) (by kernel_rfl) (by kernel_rfl) ?hqa_28 ?hya_28 (by assumption) ?ra_28
        case hia_28 => (simp only [List.getElem?_toArray, List.getElem?_cons_succ, List.getElem?_cons_zero]; rfl)
        case hqa_28 => exact fun _ _ _ h => h
        case hya_28 =>
          first
            | (refine Or.inl ⟨by rfl, ?_⟩; intro wq hSw; (try dsimp only at hSw); go_simp; (try with_reducible rfl); done)
            | (refine Or.inr ⟨by rfl, ?_⟩; with_reducible rfl)
        try simp only [Act.put, List.setIfInBounds_toArray, List.set_cons_zero, List.set_cons_succ]
        refine wpAnyH_take (i := 29) (oi := ?oa_29) (v := ?va_29) ?hia_29 (by kernel_rfl) (by kernel_rfl) (by kernel_rfl) ?hqa_29 ?hya_29 (by assumption) ?ra_29
        case hia_29 => (simp only [List.getElem?_toArray, List.getElem?_cons_succ, List.getElem?_cons_zero]; rfl)
        case hqa_29 => exact fun _ _ _ h => h
        case hya_29 =>
          first
            | (refine Or.inl ⟨by rfl, ?_⟩; intro wq hSw; (try dsimp only at hSw); go_simp; (try with_reducible rfl); done)
            | (refine Or.inr ⟨by rfl, ?_⟩; with_reducible rfl)
        try simp only [Act.put, List.setIfInBounds_toArray, List.set_cons_zero, List.set_cons_succ]
        refine wpAnyH_take (i := 30) (oi := ?oa_30) (v := ?va_30) ?hia_30 (by kernel_rfl) (by kernel_rfl) (by kernel_rfl) ?hqa_30 ?hya_30 (by assumption) ?ra_30
        case hia_30 => (simp only [List.getElem?_toArray, List.getElem?_cons_succ, List.getElem?_cons_zero]; rfl)
        case hqa_30 => exact fun _ _ _ h => h
        case hya_30 =>
          first
            | (refine Or.inl ⟨by rfl, ?_⟩; intro wq hSw; (try dsimp only at hSw); go_simp; (try with_reducible rfl); done)
            | (refine Or.inr ⟨by rfl, ?_⟩; with_reducible rfl)
        try simp only [Act.put, List.setIfInBounds_toArray, List.set_cons_zero, List.set_cons_succ]
        refine wpAnyH_take (i := 32) (oi := ?oa_32) (v := ?va_32) ?hia_32 (by kernel_rfl) (by kernel_rfl) (by kernel_rfl) ?hqa_32 ?hya_32 (by assumption) ?ra_32
        case hia_32 => (simp only [List.getElem?_toArray, List.getElem?_cons_succ, List.getElem?_cons_zero]; rfl)
        case hqa_32 => exact fun _ _ _ h => h
        case hya_32 =>
          first
            | (refine Or.inl ⟨by rfl, ?_⟩; intro wq hSw; (try dsimp only at hSw); go_simp; (try with_reducible rfl); done)
            | (refine Or.inr ⟨by rfl, ?_⟩; with_reducible rfl)
        try simp only [Act.put, List.setIfInBounds_toArray, List.set_cons_zero, List.set_cons_succ]
        refine wpAnyH_ready (rs := [31]) (by kernel_rfl) (by simp) ?_
        refine AllReadyH.cons (by simp only [List.getElem?_toArray, List.getElem?_cons_succ, List.getElem?_cons_zero]; rfl) (fun K hK => ?_) AllReadyH.nil
        go_simp
        go_at_call 19
        refine (LV.out _).mono ?_
        rintro e wn ⟨rfl, hb⟩
        replace HD := Lib.hid (below_seq HD.out hb)
        clear hb
        refine hK.out _ _ (KS.out _ HD.out) (fun hHeld31 => ?_)
        clear hK K hHeld6
        try simp only [Act.put, List.setIfInBounds_toArray, List.set_cons_zero, List.set_cons_succ]
        refine wpAnyH_take (i := 33) (oi := ?oa_33) (v := ?va_33) ?hia_33 (by kernel_rfl) (by kernel_rfl) (by kernel_rfl) ?hqa_33 ?hya_33 (by assumption) ?ra_33
        case hia_33 => (simp only [List.getElem?_toArray, List.getElem?_cons_succ, List.getElem?_cons_zero]; rfl)
        case hqa_33 => exact fun _ _ _ h => h
        case hya_33 =>
          first
            | (refine Or.inl ⟨by rfl, ?_⟩; intro wq hSw; (try dsimp only at hSw); go_simp; (try with_reducible rfl); done)
            | (refine Or.inr ⟨by rfl, ?_⟩; with_reducible rfl)
        try simp only [Act.put, List.setIfInBounds_toArray, List.set_cons_zero, List.set_cons_succ]
        refine wpAnyH_take (i := 34) (oi := ?oa_34) (v := ?va_34) ?hia_34 (by kernel_rfl) (by kernel_rfl) (by kernel_rfl) ?hqa_34 ?hya_34 (by assumption) ?ra_34
        case hia_34 => (simp only [List.getElem?_toArray, List.getElem?_cons_succ, List.getElem?_cons_zero]; rfl)
        case hqa_34 => exact fun _ _ _ h => h
        case hya_34 =>
          first
            | (refine Or.inl ⟨by rfl, ?_⟩; intro wq hSw; (try dsimp only at hSw); go_simp; (try with_reducible rfl); done)
            | (refine Or.inr ⟨by rfl, ?_⟩; with_reducible rfl)
        try simp only [Act.put, List.setIfInBounds_toArray, List.set_cons_zero, List.set_cons_succ]
        refine wpAnyH_take (i := 35) (oi := ?oa_35) (v := ?va_35) ?hia_35 (by kernel_rfl) (by kernel_rfl) (by kernel_rfl) ?hqa_35 ?hya_35 (by assumption) ?ra_35
        case hia_35 => (simp only [List.getElem?_toArray, List.getElem?_cons_succ, List.getElem?_cons_zero]; rfl)
        case hqa_35 => exact fun _ _ _ h => h
        case hya_35 =>
          first
            | (refine Or.inl ⟨by rfl, ?_⟩; intro wq hSw; (try dsimp only at hSw); go_simp; (try with_reducible rfl); done)
            | (refine Or.inr ⟨by rfl, ?_⟩; with_reducible rfl)
        try simp only [Act.put, List.setIfInBounds_toArray, List.set_cons_zero, List.set_cons_succ]
        refine wpAnyH_take (i := 36) (oi := ?oa_36) (v := ?va_36) ?hia_36 (by kernel_rfl) (by kernel_rfl) (by kernel_rfl) ?hqa_36 ?hya_36 (by assumption) ?ra_36
        case hia_36 => (simp only [List.getElem?_toArray, List.getElem?_cons_succ, List.getElem?_cons_zero]; rfl)
        case hqa_36 => exact fun _ _ _ h => h
        case hya_36 =>
          first
            | (refine Or.inl ⟨by rfl, ?_⟩; intro wq hSw; (try dsimp only at hSw); go_simp; (try with_reducible rfl); done)
            | (refine Or.inr ⟨by rfl, ?_⟩; with_reducible rfl)
        try simp only [Act.put, List.setIfInBounds_toArray, List.set_cons_zero, List.set_cons_succ]
        refine wpAnyH_take (i := 37) (oi := ?oa_37) (v := ?va_37) ?hia_37 (by kernel_rfl) (by kernel_rfl) (by kernel_rfl) ?hqa_37 ?hya_37 (by assumption) ?ra_37
        case hia_37 => (simp only [List.getElem?_toArray, List.getElem?_cons_succ, List.getElem?_cons_zero]; rfl)
        case hqa_37 => exact fun _ _ _ h => h
        case hya_37 =>
          first
            | (refine Or.inl ⟨by rfl, ?_⟩; intro wq hSw; (try dsimp only at hSw); go_simp; (try with_reducible rfl); done)
            | (refine Or.inr ⟨by rfl, ?_⟩; with_reducible rfl)
        try simp only [Act.put, List.setIfInBounds_toArray, List.set_cons_zero, List.set_cons_succ]
        refine wpAnyH_take (i := 38) (oi := ?oa_38) (v := ?va_38) ?hia_38 (by kernel_rfl) (by kernel_rfl) (by kernel_rfl) ?hqa_38 ?hya_38 (by assumption) ?ra_38
        case hia_38 => (simp only [List.getElem?_toArray, List.getElem?_cons_succ, List.getElem?_cons_zero]; rfl)
        case hqa_38 => exact fun _ _ _ h => h
        case hya_38 =>
          first
            | (refine Or.inl ⟨by rfl, ?_⟩; intro wq hSw; (try dsimp only at hSw); go_simp; (try with_reducible rfl); done)
            | (refine Or.inr ⟨by rfl, ?_⟩; with_reducible rfl)
        try simp only [Act.put, List.setIfInBounds_toArray, List.set_cons_zero, List.set_cons_succ]
        refine wpAnyH_take (i := 39) (oi := ?oa_39) (v := ?va_39) ?hia_39 (by kernel_rfl) (by kernel_rfl) (by kernel_rfl) ?hqa_39 ?hya_39 (by assumption) ?ra_39
        case hia_39 => (simp only [List.getElem?_toArray, List.getElem?_cons_succ, List.getElem?_cons_zero]; rfl)
        case hqa_39 => exact fun _ _ _ h => h
        case hya_39 =>
          first
            | (refine Or.inl ⟨by rfl, ?_⟩; intro wq hSw; (try dsimp only at hSw); go_simp; (try with_reducible rfl); done)
            | (refine Or.inr ⟨by rfl, ?_⟩; with_reducible rfl)
        try simp only [Act.put, List.setIfInBounds_toArray, List.set_cons_zero, List.set_cons_succ]
        refine wpAnyH_take (i := 40) (oi := ?oa_40) (v := ?va_40) ?hia_40 (by kernel_rfl) (by kernel_rfl) (by kernel_rfl) ?hqa_40 ?hya_40 (by assumption) ?ra_40
        case hia_40 => (simp only [List.getElem?_toArray, List.getElem?_cons_succ, List.getElem?_cons_zero]; rfl)
        case hqa_40 => exact fun _ _ _ h => h
        case hya_40 =>
          first
            | (refine Or.inl ⟨by rfl, ?_⟩; intro wq hSw; (try dsimp only at hSw); go_simp; (try with_reducible rfl); done)
            | (refine Or.inr ⟨by rfl, ?_⟩; with_reducible rfl)
        try simp only [Act.put, List.setIfInBounds_toArray, List.set_cons_zero, List.set_cons_succ]
        refine wpAnyH_take (i := 41) (oi := ?oa_41) (v := ?va_41) ?hia_41 (by kernel_rfl) (by kernel_rfl) (by kernel_rfl) ?hqa_41 ?hya_41 (by assumption) ?ra_41
        case hia_41 => (simp only [List.getElem?_toArray, List.getElem?_cons_succ, List.getElem?_cons_zero]; rfl)
        case hqa_41 => exact fun _ _ _ h => h
        case hya_41 =>
          first
            | (refine Or.inl ⟨by rfl, ?_⟩; intro wq hSw; (try dsimp only at hSw); go_simp; (try with_reducible rfl); done)
            | (refine Or.inr ⟨by rfl, ?_⟩; with_reducible rfl)
        try simp only [Act.put, List.setIfInBounds_toArray, List.set_cons_zero, List.set_cons_succ]
        refine wpAnyH_take (i := 42) (oi := ?oa_42) (v := ?va_42) ?hia_42 (by kernel_rfl) (by kernel_rfl) (by kernel_rfl) ?hqa_42 ?hya_42 (by assumption) ?ra_42
        case hia_42 => (simp only [List.getElem?_toArray, List.getElem?_cons_succ, List.getElem?_cons_zero]; rfl)
        case hqa_42 => exact fun _ _ _ h => h
        case hya_42 =>
          first
            | (refine Or.inl ⟨by rfl, ?_⟩; intro wq hSw; (try dsimp only at hSw); go_simp; (try with_reducible rfl); done)
            | (refine Or.inr ⟨by rfl, ?_⟩; with_reducible rfl)
        try simp only [Act.put, List.setIfInBounds_toArray, List.set_cons_zero, List.set_cons_succ]
        refine wpAnyH_take (i := 43) (oi := ?oa_43) (v := ?va_43) ?hia_43 (by kernel_rfl) (by kernel_rfl) (by kernel_rfl) ?hqa_43 ?hya_43 (by assumption) ?ra_43
        case hia_43 => (simp only [List.getElem?_toArray, List.getElem?_cons_succ, List.getElem?_cons_zero]; rfl)
        case hqa_43 => exact fun _ _ _ h => h
        case hya_43 =>
          first
            | (refine Or.inl ⟨by rfl, ?_⟩; intro wq hSw; (try dsimp only at hSw); go_simp; (try with_reducible rfl); done)
            | (refine Or.inr ⟨by rfl, ?_⟩; with_reducible rfl)
        try simp only [Act.put, List.setIfInBounds_toArray, List.set_cons_zero, List.set_cons_succ]
        refine wpAnyH_take (i := 44) (oi := ?oa_44) (v := ?va_44) ?hia_44 (by kernel_rfl) (by kernel_rfl) (by kernel_rfl) ?hqa_44 ?hya_44 (by assumption) ?ra_44
        case hia_44 => (simp only [List.getElem?_toArray, List.getElem?_cons_succ, List.getElem?_cons_zero]; rfl)
        case hqa_44 => exact fun _ _ _ h => h
        case hya_44 =>
          first
            | (refine Or.inl ⟨by rfl, ?_⟩; intro wq hSw; (try dsimp only at hSw); go_simp; (try with_reducible rfl); done)
            | (refine Or.inr ⟨by rfl, ?_⟩; with_reducible rfl)
        try simp only [Act.put, List.setIfInBounds_toArray, List.set_cons_zero, List.set_cons_succ]
        refine wpAnyH_take (i := 45) (oi := ?oa_45) (v := ?va_45) ?hia_45 (by kernel_rfl) (by kernel_rfl) (by kernel_rfl) ?hqa_45 ?hya_45 (by assumption) ?ra_45
        case hia_45 => (simp only [List.getElem?_toArray, List.getElem?_cons_succ, List.getElem?_cons_zero]; rfl)
        case hqa_45 => exact fun _ _ _ h => h
        case hya_45 =>
          first
            | (refine Or.inl ⟨by rfl, ?_⟩; intro wq hSw; (try dsimp only at hSw); go_simp; (try with_reducible rfl); done)
            | (refine Or.inr ⟨by rfl, ?_⟩; with_reducible rfl)
        try simp only [Act.put, List.setIfInBounds_toArray, List.set_cons_zero, List.set_cons_succ]
        refine wpAnyH_take (i := 46) (oi := ?oa_46) (v := ?va_46) ?hia_46 (by kernel_rfl) (by kernel_rfl) (by kernel_rfl) ?hqa_46 ?hya_46 (by assumption) ?ra_46
        case hia_46 => (simp only [List.getElem?_toArray, List.getElem?_cons_succ, List.getElem?_cons_zero]; rfl)
        case hqa_46 => exact fun _ _ _ h => h
        case hya_46 =>
          first
            | (refine Or.inl ⟨by rfl, ?_⟩; intro wq hSw; (try dsimp only at hSw); go_simp; (try with_reducible rfl); done)
            | (refine Or.inr ⟨by rfl, ?_⟩; with_reducible rfl)
        try simp only [Act.put, List.setIfInBounds_toArray, List.set_cons_zero, List.set_cons_succ]
        refine wpAnyH_take (i := 47) (oi := ?oa_47) (v := ?va_47) ?hia_47 (by kernel_rfl) (by kernel_rfl) (by kernel_rfl) ?hqa_47 ?hya_47 (by assumption) ?ra_47
        case hia_47 => (simp only [List.getElem?_toArray, List.getElem?_cons_succ, List.getElem?_cons_zero]; rfl)
        case hqa_47 => exact fun _ _ _ h => h
        case hya_47 =>
          first
            | (refine Or.inl ⟨by rfl, ?_⟩; intro wq hSw; (try dsimp only at hSw); go_simp; (try with_reducible rfl); done)
            | (refine Or.inr ⟨by rfl, ?_⟩; with_reducible rfl)
        try simp only [Act.put, List.setIfInBounds_toArray, List.set_cons_zero, List.set_cons_succ]
        refine wpAnyH_take (i := 48) (oi := ?oa_48) (v := ?va_48) ?hia_48 (by kernel_rfl) (by kernel_rfl) (by kernel_rfl) ?hqa_48 ?hya_48 (by assumption) ?ra_48
        case hia_48 => (simp only [List.getElem?_toArray, List.getElem?_cons_succ, List.getElem?_cons_zero]; rfl)
        case hqa_48 => exact fun _ _ _ h => h
        case hya_48 =>
          first
            | (refine Or.inl ⟨by rfl, ?_⟩; intro wq hSw; (try dsimp only at hSw); go_simp; (try with_reducible rfl); done)
            | (refine Or.inr ⟨by rfl, ?_⟩; with_reducible rfl)
        try simp only [Act.put, List.setIfInBounds_toArray, List.set_cons_zero, List.set_cons_succ]
        refine wpAnyH_take (i := 49) (oi := ?oa_49) (v := ?va_49) ?hia_49 (by kernel_rfl) (by kernel_rfl) (by kernel_rfl) ?hqa_49 ?hya_49 (by assumption) ?ra_49
        case hia_49 => (simp only [List.getElem?_toArray, List.getElem?_cons_succ, List.getElem?_cons_zero]; rfl)
        case hqa_49 => exact fun _ _ _ h => h
        case hya_49 =>
          first
            | (refine Or.inl ⟨by rfl, ?_⟩; intro wq hSw; (try dsimp only at hSw); go_simp; (try with_reducible rfl); done)
            | (refine Or.inr ⟨by rfl, ?_⟩; with_reducible rfl)
        try simp only [Act.put, List.setIfInBounds_toArray, List.set_cons_zero, List.set_cons_succ]
        refine wpAnyH_take (i := 50) (oi := ?oa_50) (v := ?va_50) ?hia_50 (by kernel_rfl) (by kernel_rfl) (by kernel_rfl) ?hqa_50 ?hya_50 (by assumption) ?ra_50
        case hia_50 => (simp only [List.getElem?_toArray, List.getElem?_cons_succ, List.getElem?_cons_zero]; rfl)
        case hqa_50 => exact fun _ _ _ h => h
        case hya_50 =>
          first
            | (refine Or.inl ⟨by rfl, ?_⟩; intro wq hSw; (try dsimp only at hSw); go_simp; (try with_reducible rfl); done)
            | (refine Or.inr ⟨by rfl, ?_⟩; with_reducible rfl)
        try simp only [Act.put, List.setIfInBounds_toArray, List.set_cons_zero, List.set_cons_succ]
        refine wpAnyH_take (i := 51) (oi := ?oa_51) (v := ?va_51) ?hia_51 (by kernel_rfl) (by kernel_rfl) (by kernel_rfl) ?hqa_51 ?hya_51 (by assumption) ?ra_51
        case hia_51 => (simp only [List.getElem?_toArray, List.getElem?_cons_succ, List.getElem?_cons_zero]; rfl)
        case hqa_51 => exact fun _ _ _ h => h
        case hya_51 =>
          first
            | (refine Or.inl ⟨by rfl, ?_⟩; intro wq hSw; (try dsimp only at hSw); go_simp; (try with_reducible rfl); done)
            | (refine Or.inr ⟨by rfl, ?_⟩; with_reducible rfl)
        try simp only [Act.put, List.setIfInBounds_toArray, List.set_cons_zero, List.set_cons_succ]
        refine wpAnyH_take (i := 52) (oi := ?oa_52) (v := ?va_52) ?hia_52 (by kernel_rfl) (by kernel_rfl) (by kernel_rfl) ?hqa_52 ?hya_52 (by assumption) ?ra_52
        case hia_52 => (simp only [List.getElem?_toArray, List.getElem?_cons_succ, List.getElem?_cons_zero]; rfl)
        case hqa_52 => exact fun _ _ _ h => h
        case hya_52 =>
          first
            | (refine Or.inl ⟨by rfl, ?_⟩; intro wq hSw; (try dsimp only at hSw); go_simp; (try with_reducible rfl); done)
            | (refine Or.inr ⟨by rfl, ?_⟩; with_reducible rfl)
        try simp only [Act.put, List.setIfInBounds_toArray, List.set_cons_zero, List.set_cons_succ]
        refine wpAnyH_take (i := 53) (oi := ?oa_53) (v := ?va_53) ?hia_53 (by kernel_rfl) (by kernel_rfl) (by kernel_rfl) ?hqa_53 ?hya_53 (by assumption) ?ra_53
        case hia_53 => (simp only [List.getElem?_toArray, List.getElem?_cons_succ, List.getElem?_cons_zero]; rfl)
        case hqa_53 => exact fun _ _ _ h => h
        case hya_53 =>
          first
            | (refine Or.inl ⟨by rfl, ?_⟩; intro wq hSw; (try dsimp only at hSw); go_simp; (try with_reducible rfl); done)
            | (refine Or.inr ⟨by rfl, ?_⟩; with_reducible rfl)
        try simp only [Act.put, List.setIfInBounds_toArray, List.set_cons_zero, List.set_cons_succ]
        refine wpAnyH_take (i := 54) (oi := ?oa_54) (v := ?va_54) ?hia_54 (by kernel_rfl) (by kernel_rfl) (by kernel_rfl) ?hqa_54 ?hya_54 (by assumption) ?ra_54
        case hia_54 => (simp only [List.getElem?_toArray, List.getElem?_cons_succ, List.getElem?_cons_zero]; rfl)
        case hqa_54 => exact fun _ _ _ h => h
        case hya_54 =>
          first
            | (refine Or.inl ⟨by rfl, ?_⟩; intro wq hSw; (try dsimp only at hSw); go_simp; (try with_reducible rfl); done)
            | (refine Or.inr ⟨by rfl, ?_⟩; with_reducible rfl)
        try simp only [Act.put, List.setIfInBounds_toArray, List.set_cons_zero, List.set_cons_succ]
        refine wpAnyH_take (i := 55) (oi := ?oa_55) (v := ?va_55) ?hia_55 (by kernel_rfl) (by kernel_rfl) (by kernel_rfl) ?hqa_55 ?hya_55 (by assumption) ?ra_55
        case hia_55 => (simp only [List.getElem?_toArray, List.getElem?_cons_succ, List.getElem?_cons_zero]; rfl)
        case hqa_55 => exact fun _ _ _ h => h
        case hya_55 =>
          first
            | (refine Or.inl ⟨by rfl, ?_⟩; intro wq hSw; (try dsimp only at hSw); go_simp; (try with_reducible rfl); done)
            | (refine Or.inr ⟨by rfl, ?_⟩; with_reducible rfl)
        try simp only [Act.put, List.setIfInBounds_toArray, List.set_cons_zero, List.set_cons_succ]
        refine wpAnyH_take (i := 56) (oi := ?oa_56) (v := ?va_56) ?hia_56 (by kernel_rfl) (by kernel_rfl) (by kernel_rfl) ?hqa_56 ?hya_56 (by assumption) ?ra_56
        case hia_56 => (simp only [List.getElem?_toArray, List.getElem?_cons_succ, List.getElem?_cons_zero]; rfl)
        case hqa_56 => exact fun _ _ _ h => h
        case hya_56 =>
          first
            | (refine Or.inl ⟨by rfl, ?_⟩; intro wq hSw; (try dsimp only at hSw); go_simp; (try with_reducible rfl); done)
            | (refine Or.inr ⟨by rfl, ?_⟩; with_reducible rfl)
        try simp only [Act.put, List.setIfInBounds_toArray, List.set_cons_zero, List.set_cons_succ]
        refine wpAnyH_take (i := 57) (oi := ?oa_57) (v := ?va_57) ?hia_57 (by kernel_rfl) (by kernel_rfl) (by kernel_rfl) ?hqa_57 ?hya_57 (by assumption) ?ra_57
        case hia_57 => (simp only [List.getElem?_toArray, List.getElem?_cons_succ, List.getElem?_cons_zero]; rfl)
        case hqa_57 => exact fun _ _ _ h => h
        case hya_57 =>
          first
            | (refine Or.inl ⟨by rfl, ?_⟩; intro wq hSw; (try dsimp only at hSw); go_simp; (try with_reducible rfl); done)
            | (refine Or.inr ⟨by rfl, ?_⟩; with_reducible rfl)
        try simp only [Act.put, List.setIfInBounds_toArray, List.set_cons_zero, List.set_cons_succ]
        refine wpAnyH_take (i := 58) (oi := ?oa_58) (v := ?va_58) ?hia_58 (by kernel_rfl) (by kernel_rfl) (by kernel_rfl) ?hqa_58 ?hya_58 (by assumption) ?ra_58
        case hia_58 => (simp only [List.getElem?_toArray, List.getElem?_cons_succ, List.getElem?_cons_zero]; rfl)
        case hqa_58 => exact fun _ _ _ h => h
        case hya_58 =>
          first
            | (refine Or.inl ⟨by rfl, ?_⟩; intro wq hSw; (try dsimp only at hSw); go_simp; (try with_reducible rfl); done)
            | (refine Or.inr ⟨by rfl, ?_⟩; with_reducible rfl)
        try simp only [Act.put, List.setIfInBounds_toArray, List.set_cons_zero, List.set_cons_succ]
        refine wpAnyH_done (by kernel_rfl) ?_ _
        have B6 := Lib.hid (below_seq HB.out HD.out)
        clear KS HD OP LV
        go_wp2
        go_roundg (g + 1 - (i + 1))
        case measure => omega
        case rel => exact ⟨i + 1, by omega, rfl, by go_num, B6⟩
      · have k1 : decide ((i : Int) ≤ (m : Int)) = false := by simp; omega
        have k1n : decide (i ≤ m) = false := by simp; omega
        have k1p : ¬ (i : Int) ≤ (m : Int) := by omega
        rw [decide_eq_false him] at f2 f6 OP
        have huv : ¬ u = v := of_decide_eq_false f2
        have k4 : ((u : Int) == (v : Int)) = false := by simp; omega
        have k4n : (u == v) = false := by simp; omega
        have k4d : decide (u = v) = false := by simp; omega
        by_cases hlo : lo ≤ b
        · rw [decide_eq_true hlo, Bool.true_and] at f6
          have hbh := of_decide_eq_false f6
          have k2 : decide ((lo : Int) ≤ (b : Int)) = true := by simp; omega
          have k2n : decide (lo ≤ b) = true := by simp; omega
          have k2p : (lo : Int) ≤ (b : Int) := by omega
          have k3 : decide ((b : Int) ≤ (hi' : Int)) = false := by simp; omega
          have k3n : decide (b ≤ hi') = false := by simp; omega
          have k3p : ¬ (b : Int) ≤ (hi' : Int) := by omega
          clear f2 f6
          refine wp_region_held_drew (S := (fun w' => w'.cell? ⟨b1, o1 + i, none⟩ = some (.int .i64 u) ∧ w'.cell? ⟨b2, o2 + i, none⟩ = some (.int .i64 v))) (by kernel_rfl) (KS.out _ HD.out) (fun hHeld => ?_)
          refine wpAnyH_take (i := 0) (oi := ?ob_0) (v := ?vb_0) ?hib_0 (by kernel_rfl) (by kernel_rfl) (by kernel_rfl) ?hqb_0 ?hyb_0 (by assumption) ?rb_0
          case hib_0 => (simp only [List.getElem?_toArray, List.getElem?_cons_succ, List.getElem?_cons_zero]; rfl)
          case hqb_0 => exact fun _ _ _ h => h
          case hyb_0 =>
            first
              | (refine Or.inl ⟨by rfl, ?_⟩; intro wq hSw; (try dsimp only at hSw); go_simp; (try with_reducible rfl); done)
              | (refine Or.inr ⟨by rfl, ?_⟩; with_reducible rfl)
          try simp only [Act.put, List.setIfInBounds_toArray, List.set_cons_zero, List.set_cons_succ]
          refine wpAnyH_take (i := 1) (oi := ?ob_1) (v := ?vb_1) ?hib_1 (by kernel_rfl) (by kernel_rfl) (by kernel_rfl) ?hqb_1 ?hyb_1 (by assumption) ?rb_1
          case hib_1 => (simp only [List.getElem?_toArray, List.getElem?_cons_succ, List.getElem?_cons_zero]; rfl)
          case hqb_1 => exact fun _ _ _ h => h
          case hyb_1 =>
            first
              | (refine Or.inl ⟨by rfl, ?_⟩; intro wq hSw; (try dsimp only at hSw); go_simp; (try with_reducible rfl); done)
              | (refine Or.inr ⟨by rfl, ?_⟩; with_reducible rfl)
          try simp only [Act.put, List.setIfInBounds_toArray, List.set_cons_zero, List.set_cons_succ]
          refine wpAnyH_take (i := 2) (oi := ?ob_2) (v := ?vb_2) ?hib_2 (by kernel_rfl) (by kernel_rfl) (by kernel_rfl) ?hqb_2 ?hyb_2 (by assumption) ?rb_2
          case hib_2 => (simp only [List.getElem?_toArray, List.getElem?_cons_succ, List.getElem?_cons_zero]; rfl)
          case hqb_2 => exact fun _ _ _ h => h
          case hyb_2 =>
            first
              | (refine Or.inl ⟨by rfl, ?_⟩; intro wq hSw; (try dsimp only at hSw); go_simp; (try with_reducible rfl); done)
              | (refine Or.inr ⟨by rfl, ?_⟩; with_reducible rfl)
          try simp only [Act.put, List.setIfInBounds_toArray, List.set_cons_zero, List.set_cons_succ]
          refine wpAnyH_take (i := 3) (oi := ?ob_3) (v := ?vb_3) ?hib_3 (by kernel_rfl) (by kernel_rfl) (by kernel_rfl) ?hqb_3 ?hyb_3 (by assumption) ?rb_3
          case hib_3 => (simp only [List.getElem?_toArray, List.getElem?_cons_succ, List.getElem?_cons_zero]; rfl)
          case hqb_3 => exact fun _ _ _ h => h
          case hyb_3 =>
            first
              | (refine Or.inl ⟨by rfl, ?_⟩; intro wq hSw; (try dsimp only at hSw); go_simp; (try with_reducible rfl); done)
              | (refine Or.inr ⟨by rfl, ?_⟩; with_reducible rfl)
          try simp only [Act.put, List.setIfInBounds_toArray, List.set_cons_zero, List.set_cons_succ]
          refine wpAnyH_take (i := 4) (oi := ?ob_4) (v := ?vb_4) ?hib_4 (by kernel_rfl) (by kernel_rfl) (by kernel_rfl) ?hqb_4 ?hyb_4 (by assumption) ?rb_4
          case hib_4 => (simp only [List.getElem?_toArray, List.getElem?_cons_succ, List.getElem?_cons_zero]; rfl)
          case hqb_4 => exact fun _ _ _ h => h
          case hyb_4 =>
            first
              | (refine Or.inl ⟨by rfl, ?_⟩; intro wq hSw; (try dsimp only at hSw); go_simp; (try with_reducible rfl); done)
              | (refine Or.inr ⟨by rfl, ?_⟩; with_reducible rfl)
          try simp only [Act.put, List.setIfInBounds_toArray, List.set_cons_zero, List.set_cons_succ]
          refine wpAnyH_take (i := 5) (oi := ?ob_5) (v := ?vb_5) ?hib_5 (by kernel_rfl) (by kernel_rfl) (by kernel_rfl) ?hqb_5 ?hyb_5 (by assumption) ?rb_5
          case hib_5 => (simp only [List.getElem?_toArray, List.getElem?_cons_succ, List.getElem?_cons_zero]; rfl)
          case hqb_5 => exact fun _ _ _ h => h
          case hyb_5 =>
            first
              | (refine Or.inl ⟨by rfl, ?_⟩; intro wq hSw; (try dsimp only at hSw); go_simp; (try with_reducible rfl); done)
              | (refine Or.inr ⟨by rfl, ?_⟩; with_reducible rfl)
          try simp only [Act.put, List.setIfInBounds_toArray, List.set_cons_zero, List.set_cons_succ]
          refine wpAnyH_take (i := 7) (oi := ?ob_7) (v := ?vb_7) ?hib_7 (by kernel_rfl) (by kernel_rfl) (by kernel_rfl) ?hqb_7 ?hyb_7 (by assumption) ?rb_7
          case hib_7 => (simp only [List.getElem?_toArray, List.getElem?_cons_succ, List.getElem?_cons_zero]; rfl)
          case hqb_7 => exact fun _ _ _ h => h
          case hyb_7 =>
            first
              | (refine Or.inl ⟨by rfl, ?_⟩; intro wq hSw; (try dsimp only at hSw); go_simp; (try with_reducible rfl); done)
              | (refine Or.inr ⟨by rfl, ?_⟩; with_reducible rfl)
          try simp only [Act.put, List.setIfInBounds_toArray, List.set_cons_zero, List.set_cons_succ]
          refine wpAnyH_take (i := 8) (oi := ?ob_8) (v := ?vb_8) ?hib_8 (by kernel_rfl) (by kernel_rfl) (by kernel_rfl) ?hqb_8 ?hyb_8 (by assumption) ?rb_8
          case hib_8 => (simp only [List.getElem?_toArray, List.getElem?_cons_succ, List.getElem?_cons_zero]; rfl)
          case hqb_8 => exact fun _ _ _ h => h
          case hyb_8 =>
            first
              | (refine Or.inl ⟨by rfl, ?_⟩; intro wq hSw; (try dsimp only at hSw); go_simp; (try with_reducible rfl); done)
              | (refine Or.inr ⟨by rfl, ?_⟩; with_reducible rfl)
          try simp only [Act.put, List.setIfInBounds_toArray, List.set_cons_zero, List.set_cons_succ]
          refine wpAnyH_take (i := 9) (oi := ?ob_9) (v := ?vb_9) ?hib_9 (by kernel_rfl) (by kernel_rfl) (by kernel_rfl) ?hqb_9 ?hyb_9 (by assumption) ?rb_9
          case hib_9 => (simp only [List.getElem?_toArray, List.getElem?_cons_succ, List.getElem?_cons_zero]; rfl)
          case hqb_9 => exact fun _ _ _ h => h
          case hyb_9 =>
            first
              | (refine Or.inl ⟨by rfl, ?_⟩; intro wq hSw; (try dsimp only at hSw); go_simp; (try with_reducible rfl); done)
              | (refine Or.inr ⟨by rfl, ?_⟩; with_reducible rfl)
          try simp only [Act.put, List.setIfInBounds_toArray, List.set_cons_zero, List.set_cons_succ]
          refine wpAnyH_ready (rs := [6]) (by kernel_rfl) (by simp) ?_
          refine AllReadyH.cons (by simp only [List.getElem?_toArray, List.getElem?_cons_succ, List.getElem?_cons_zero]; rfl) (fun K hK => ?_) AllReadyH.nil
          go_simp
          go_at_call 18
          refine (OP.out _).mono ?_
          rintro e wn ⟨rfl, hb⟩
          replace HD := Lib.hid (below_seq HD.out hb)
          clear hb
          refine hK.out _ _ (KS.out _ HD.out) (fun hHeld6 => ?_)
          clear hK K hHeld
          try simp only [Act.put, List.setIfInBounds_toArray, List.set_cons_zero, List.set_cons_succ]
          refine wpAnyH_take (i := 10) (oi := ?ob_10) (v := ?vb_10) ?hib_10 (by kernel_rfl) (by kernel_rfl) (by kernel_rfl) ?hqb_10 ?hyb_10 (by assumption) ?rb_10
          case hib_10 => (simp only [List.getElem?_toArray, List.getElem?_cons_succ, List.getElem?_cons_zero]; rfl)
          case hqb_10 => exact fun _ _ _ h => h
          case hyb_10 =>
            first
              | (refine Or.inl ⟨by rfl, ?_⟩; intro wq hSw; (try dsimp only at hSw); go_simp; (try with_reducible rfl); done)
              | (refine Or.inr ⟨by rfl, ?_⟩; with_reducible rfl)
          try simp only [Act.put, List.setIfInBounds_toArray, List.set_cons_zero, List.set_cons_succ]
          refine wpAnyH_take (i := 11) (oi := ?ob_11) (v := ?vb_11) ?hib_11 (by kernel_rfl) (by kernel_rfl) (by kernel_rfl) ?hqb_11 ?hyb_11 (by assumption) ?rb_11
          case hib_11 => (simp only [List.getElem?_toArray, List.getElem?_cons_succ, List.getElem?_cons_zero]; rfl)
          case hqb_11 => exact fun _ _ _ h => h
          case hyb_11 =>
            first
              | (refine Or.inl ⟨by rfl, ?_⟩; intro wq hSw; (try dsimp only at hSw); go_simp; (try with_reducible rfl); done)
              | (refine Or.inr ⟨by rfl, ?_⟩; with_reducible rfl)
          try simp only [Act.put, List.setIfInBounds_toArray, List.set_cons_zero, List.set_cons_succ]
          refine wpAnyH_take (i := 12) (oi := ?ob_12) (v := ?vb_12) ?hib_12 (by kernel_rfl) (by kernel_rfl) (by kernel_rfl) ?hqb_12 ?hyb_12 (by assumption) ?rb_12
          case hib_12 => (simp only [List.getElem?_toArray, List.getElem?_cons_succ, List.getElem?_cons_zero]; rfl)
          case hqb_12 => exact fun _ _ _ h => h
          case hyb_12 =>
            first
              | (refine Or.inl ⟨by rfl, ?_⟩; intro wq hSw; (try dsimp only at hSw); go_simp; (try with_reducible rfl); done)
              | (refine Or.inr ⟨by rfl, ?_⟩; with_reducible rfl)
          try simp only [Act.put, List.setIfInBounds_toArray, List.set_cons_zero, List.set_cons_succ]
          refine wpAnyH_take (i := 13) (oi := ?ob_13) (v := ?vb_13) ?hib_13 (by kernel_rfl) (by kernel_rfl) (by kernel_rfl) ?hqb_13 ?hyb_13 (by assumption) ?rb_13
          case hib_13 => (simp only [List.getElem?_toArray, List.getElem?_cons_succ, List.getElem?_cons_zero]; rfl)
          case hqb_13 => exact fun _ _ _ h => h
          case hyb_13 =>
            first
              | (refine Or.inl ⟨by rfl, ?_⟩; intro wq hSw; (try dsimp only at hSw); go_simp; (try with_reducible rfl); done)
              | (refine Or.inr ⟨by rfl, ?_⟩; with_reducible rfl)
          try simp only [Act.put, List.setIfInBounds_toArray, List.set_cons_zero, List.set_cons_succ]
          refine wpAnyH_take (i := 14) (oi := ?ob_14) (v := ?vb_14) ?hib_14 (by kernel_rfl) (by kernel_rfl) (by kernel_rfl) ?hqb_14 ?hyb_14 (by assumption) ?rb_14
          case hib_14 => (simp only [List.getElem?_toArray, List.getElem?_cons_succ, List.getElem?_cons_zero]; rfl)
          case hqb_14 => exact fun _ _ _ h => h
          case hyb_14 =>
            first
              | (refine Or.inl ⟨by rfl, ?_⟩; intro wq hSw; (try dsimp only at hSw); go_simp; (try with_reducible rfl); done)
              | (refine Or.inr ⟨by rfl, ?_⟩; with_reducible rfl)
          try simp only [Act.put, List.setIfInBounds_toArray, List.set_cons_zero, List.set_cons_succ]
          refine wpAnyH_take (i := 15) (oi := ?ob_15) (v := ?vb_15) ?hib_15 (by kernel_rfl) (by kernel_rfl) (by kernel_rfl) ?hqb_15 ?hyb_15 (by assumption) ?rb_15
          case hib_15 => (simp only [List.getElem?_toArray, List.getElem?_cons_succ, List.getElem?_cons_zero]; rfl)
          case hqb_15 => exact fun _ _ _ h => h
          case hyb_15 =>
            first
              | (refine Or.inl ⟨by rfl, ?_⟩; intro wq hSw; (try dsimp only at hSw); go_simp; (try with_reducible rfl); done)
              | (refine Or.inr ⟨by rfl, ?_⟩; with_reducible rfl)
          try simp only [Act.put, List.setIfInBounds_toArray, List.set_cons_zero, List.set_cons_succ]
          refine wpAnyH_take (i := 16) (oi := ?ob_16) (v := ?vb_16) ?hib_16 (by kernel_rfl) (by kernel_rfl) (by kernel_rfl) ?hqb_16 ?hyb_16 (by assumption) ?rb_16
          case hib_16 => (simp only [List.getElem?_toArray, List.getElem?_cons_succ, List.getElem?_cons_zero]; rfl)
          case hqb_16 => exact fun _ _ _ h => h
          case hyb_16 =>
            first
              | (refine Or.inl ⟨by rfl, ?_⟩; intro wq hSw; (try dsimp only at hSw); go_simp; (try with_reducible rfl); done)
              | (refine Or.inr ⟨by rfl, ?_⟩; with_reducible rfl)
          try simp only [Act.put, List.setIfInBounds_toArray, List.set_cons_zero, List.set_cons_succ]
          refine wpAnyH_take (i := 17) (oi := ?ob_17) (v := ?vb_17) ?hib_17 (by kernel_rfl) (by kernel_rfl) (by kernel_rfl) ?hqb_17 ?hyb_17 (by assumption) ?rb_17
          case hib_17 => (simp only [List.getElem?_toArray, List.getElem?_cons_succ, List.getElem?_cons_zero]; rfl)
          case hqb_17 => exact fun _ _ _ h => h
          case hyb_17 =>
            first
              | (refine Or.inl ⟨by rfl, ?_⟩; intro wq hSw; (try dsimp only at hSw); go_simp; (try with_reducible rfl); done)
              | (refine Or.inr ⟨by rfl, ?_⟩; with_reducible rfl)
          try simp only [Act.put, List.setIfInBounds_toArray, List.set_cons_zero, List.set_cons_succ]
          refine wpAnyH_take (i := 18) (oi := ?ob_18) (v := ?vb_18) ?hib_18 (by kernel_rfl) (by kernel_rfl) (by kernel_rfl) ?hqb_18 ?hyb_18 (by assumption) ?rb_18
          case hib_18 => (simp only [List.getElem?_toArray, List.getElem?_cons_succ, List.getElem?_cons_zero]; rfl)
          case hqb_18 => exact fun _ _ _ h => h
          case hyb_18 =>
            first
              | (refine Or.inl ⟨by rfl, ?_⟩; intro wq hSw; (try dsimp only at hSw); go_simp; (try with_reducible rfl); done)
              | (refine Or.inr ⟨by rfl, ?_⟩; with_reducible rfl)
          try simp only [Act.put, List.setIfInBounds_toArray, List.set_cons_zero, List.set_cons_succ]
          refine wpAnyH_take (i := 19) (oi := ?ob_19) (v := ?vb_19) ?hib_19 (by kernel_rfl) (by kernel_rfl) (by kernel_rfl) ?hqb_19 ?hyb_19 (by assumption) ?rb_19
          case hib_19 => (simp only [List.getElem?_toArray, List.getElem?_cons_succ, List.getElem?_cons_zero]; rfl)
          case hqb_19 => exact fun _ _ _ h => h
          case hyb_19 =>
            first
              | (refine Or.inl ⟨by rfl, ?_⟩; intro wq hSw; (try dsimp only at hSw); go_simp; (try with_reducible rfl); done)
              | (refine Or.inr ⟨by rfl, ?_⟩; with_reducible rfl)
          try simp only [Act.put, List.setIfInBounds_toArray, List.set_cons_zero, List.set_cons_succ]
          refine wpAnyH_take (i := 20) (oi := ?ob_20) (v := ?vb_20) ?hib_20 (by kernel_rfl) (by kernel_rfl) (by kernel_rfl) ?hqb_20 ?hyb_20 (by assumption) ?rb_20
          case hib_20 => (simp only [List.getElem?_toArray, List.getElem?_cons_succ, List.getElem?_cons_zero]; rfl)
          case hqb_20 => exact fun _ _ _ h => h
          case hyb_20 =>
            first
              | (refine Or.inl ⟨by rfl, ?_⟩; intro wq hSw; (try dsimp only at hSw); go_simp; (try with_reducible rfl); done)
              | (refine Or.inr ⟨by rfl, ?_⟩; with_reducible rfl)
          try simp only [Act.put, List.setIfInBounds_toArray, List.set_cons_zero, List.set_cons_succ]
          refine wpAnyH_take (i := 21) (oi := ?ob_21) (v := ?vb_21) ?hib_21 (by kernel_rfl) (by kernel_rfl) (by kernel_rfl) ?hqb_21 ?hyb_21 (by assumption) ?rb_21
          case hib_21 => (simp only [List.getElem?_toArray, List.getElem?_cons_succ, List.getElem?_cons_zero]; rfl)
          case hqb_21 => exact fun _ _ _ h => h
          case hyb_21 =>
            first
              | (refine Or.inl ⟨by rfl, ?_⟩; intro wq hSw; (try dsimp only at hSw); go_simp; (try with_reducible rfl); done)
              | (refine Or.inr ⟨by rfl, ?_⟩; with_reducible rfl)
          try simp only [Act.put, List.setIfInBounds_toArray, List.set_cons_zero, List.set_cons_succ]
          refine wpAnyH_take (i := 22) (oi := ?ob_22) (v := ?vb_22) ?hib_22 (by kernel_rfl) (by kernel_rfl) (by kernel_rfl) ?hqb_22 ?hyb_22 (by assumption) ?rb_22
          case hib_22 => (simp only [List.getElem?_toArray, List.getElem?_cons_succ, List.getElem?_cons_zero]; rfl)
          case hqb_22 => exact fun _ _ _ h => h
          case hyb_22 =>
            first
              | (refine Or.inl ⟨by rfl, ?_⟩; intro wq hSw; (try dsimp only at hSw); go_simp; (try with_reducible rfl); done)
              | (refine Or.inr ⟨by rfl, ?_⟩; with_reducible rfl)
          try simp only [Act.put, List.setIfInBounds_toArray, List.set_cons_zero, List.set_cons_succ]
          refine wpAnyH_take (i := 23) (oi := ?ob_23) (v := ?vb_23) ?hib_23 (by kernel_rfl) (by kernel_rfl) (by kernel_rfl) ?hqb_23 ?hyb_23 (by assumption) ?rb_23
          case hib_23 => (simp only [List.getElem?_toArray, List.getElem?_cons_succ, List.getElem?_cons_zero]; rfl)
          case hqb_23 => exact fun _ _ _ h => h
          case hyb_23 =>
            first
              | (refine Or.inl ⟨by rfl, ?_⟩; intro wq hSw; (try dsimp only at hSw); go_simp; (try with_reducible rfl); done)
              | (refine Or.inr ⟨by rfl, ?_⟩; with_reducible rfl)
          try simp only [Act.put, List.setIfInBounds_toArray, List.set_cons_zero, List.set_cons_succ]
          refine wpAnyH_take (i := 24) (oi := ?ob_24) (v := ?vb_24) ?hib_24 (by kernel_rfl) (by kernel_rfl) (by kernel_rfl) ?hqb_24 ?hyb_24 (by assumption) ?rb_24
          case hib_24 => (simp only [List.getElem?_toArray, List.getElem?_cons_succ, List.getElem?_cons_zero]; rfl)
          case hqb_24 => exact fun _ _ _ h => h
          case hyb_24 =>
            first
              | (refine Or.inl ⟨by rfl, ?_⟩; intro wq hSw; (try dsimp only at hSw); go_simp; (try with_reducible rfl); done)
              | (refine Or.inr ⟨by rfl, ?_⟩; with_reducible rfl)
          try simp only [Act.put, List.setIfInBounds_toArray, List.set_cons_zero, List.set_cons_succ]
          refine wpAnyH_take (i := 25) (oi := ?ob_25) (v := ?vb_25) ?hib_25 (by kernel_rfl) (by kernel_rfl) (by kernel_rfl) ?hqb_25 ?hyb_25 (by assumption) ?rb_25
          case hib_25 => (simp only [List.getElem?_toArray, List.getElem?_cons_succ, List.getElem?_cons_zero]; rfl)
          case hqb_25 => exact fun _ _ _ h => h
          case hyb_25 =>
            first
              | (refine Or.inl ⟨by rfl, ?_⟩; intro wq hSw; (try dsimp only at hSw); go_simp; (try with_reducible rfl); done)
              | (refine Or.inr ⟨by rfl, ?_⟩; with_reducible rfl)
          try simp only [Act.put, List.setIfInBounds_toArray, List.set_cons_zero, List.set_cons_succ]
          refine wpAnyH_take (i := 26) (oi := ?ob_26) (v := ?vb_26) ?hib_26 (by kernel_rfl) (by kernel_rfl) (by kernel_rfl) ?hqb_26 ?hyb_26 (by assumption) ?rb_26
          case hib_26 => (simp only [List.getElem?_toArray, List.getElem?_cons_succ, List.getElem?_cons_zero]; rfl)
          case hqb_26 => exact fun _ _ _ h => h
          case hyb_26 =>
            first
              | (refine Or.inl ⟨by rfl, ?_⟩; intro wq hSw; (try dsimp only at hSw); go_simp; (try with_reducible rfl); done)
              | (refine Or.inr ⟨by rfl, ?_⟩; with_reducible rfl)
          try simp only [Act.put, List.setIfInBounds_toArray, List.set_cons_zero, List.set_cons_succ]
          refine wpAnyH_take (i := 27) (oi := ?ob_27) (v := ?vb_27) ?hib_27 (by kernel_rfl) (by kernel_rfl) (by kernel_rfl) ?hqb_27 ?hyb_27 (by assumption) ?rb_27
          case hib_27 => (simp only [List.getElem?_toArray, List.getElem?_cons_succ, List.getElem?_cons_zero]; rfl)
          case hqb_27 => exact fun _ _ _ h => h
          case hyb_27 =>
            first
              | (refine Or.inl ⟨by rfl, ?_⟩; intro wq hSw; (try dsimp only at hSw); go_simp; (try with_reducible rfl); done)
              | (refine Or.inr ⟨by rfl, ?_⟩; with_reducible rfl)
          try simp only [Act.put, List.setIfInBounds_toArray, List.set_cons_zero, List.set_cons_succ]
          refine wpAnyH_take (i := 28) (oi := ?ob_28) (v := ?vb_28) ?hib_28 (by kernel_rfl) (by kernel_rfl) (by kernel_rfl) ?hqb_28 ?hyb_28 (by assumption) ?rb_28
          case hib_28 => (simp only [List.getElem?_toArray, List.getElem?_cons_succ, List.getElem?_cons_zero]; rfl)
          case hqb_28 => exact fun _ _ _ h => h
          case hyb_28 =>
            first
              | (refine Or.inl ⟨by rfl, ?_⟩; intro wq hSw; (try dsimp only at hSw); go_simp; (try with_reducible rfl); done)
              | (refine Or.inr ⟨by rfl, ?_⟩; with_reducible rfl)
          try simp only [Act.put, List.setIfInBounds_toArray, List.set_cons_zero, List.set_cons_succ]
          refine wpAnyH_take (i := 29) (oi := ?ob_29) (v := ?vb_29) ?hib_29 (by kernel_rfl) (by kernel_rfl) (by kernel_rfl) ?hqb_29 ?hyb_29 (by assumption) ?rb_29
          case hib_29 => (simp only [List.getElem?_toArray, List.getElem?_cons_succ, List.getElem?_cons_zero]; rfl)
          case hqb_29 => exact fun _ _ _ h => h
          case hyb_29 =>
            first
              | (refine Or.inl ⟨by rfl, ?_⟩; intro wq hSw; (try dsimp only at hSw); go_simp; (try with_reducible rfl); done)
              | (refine Or.inr ⟨by rfl, ?_⟩; with_reducible rfl)
          try simp only [Act.put, List.setIfInBounds_toArray, List.set_cons_zero, List.set_cons_succ]
          refine wpAnyH_take (i := 30) (oi := ?ob_30) (v := ?vb_30) ?hib_30 (by kernel_rfl) (by kernel_rfl) (by kernel_rfl) ?hqb_30 ?hyb_30 (by assumption) ?rb_30
          case hib_30 => (simp only [List.getElem?_toArray, List.getElem?_cons_succ, List.getElem?_cons_zero]; rfl)
          case hqb_30 => exact fun _ _ _ h => h
          case hyb_30 =>
            first
              | (refine Or.inl ⟨by rfl, ?_⟩; intro wq hSw; (try dsimp only at hSw); go_simp; (try with_reducible rfl); done)
              | (refine Or.inr ⟨by rfl, ?_⟩; with_reducible rfl)
          try simp only [Act.put, List.setIfInBounds_toArray, List.set_cons_zero, List.set_cons_succ]
          refine wpAnyH_take (i := 32) (oi := ?ob_32) (v := ?vb_32) ?hib_32 (by kernel_rfl) (by kernel_rfl) (by kernel_rfl) ?hqb_32 ?hyb_32 (by assumption) ?rb_32
          case hib_32 => (simp only [List.getElem?_toArray, List.getElem?_cons_succ, List.getElem?_cons_zero]; rfl)
          case hqb_32 => exact fun _ _ _ h => h
          case hyb_32 =>
            first
              | (refine Or.inl ⟨by rfl, ?_⟩; intro wq hSw; (try dsimp only at hSw); go_simp; (try with_reducible rfl); done)
              | (refine Or.inr ⟨by rfl, ?_⟩; with_reducible rfl)
          try simp only [Act.put, List.setIfInBounds_toArray, List.set_cons_zero, List.set_cons_succ]
          refine wpAnyH_ready (rs := [31]) (by kernel_rfl) (by simp) ?_
          refine AllReadyH.cons (by simp only [List.getElem?_toArray, List.getElem?_cons_succ, List.getElem?_cons_zero]; rfl) (fun K hK => ?_) AllReadyH.nil
          go_simp
          go_at_call 19
          refine (LV.out _).mono ?_
          rintro e wn ⟨rfl, hb⟩
          replace HD := Lib.hid (below_seq HD.out hb)
          clear hb
          refine hK.out _ _ (KS.out _ HD.out) (fun hHeld31 => ?_)
          clear hK K hHeld6
          try simp only [Act.put, List.setIfInBounds_toArray, List.set_cons_zero, List.set_cons_succ]
          refine wpAnyH_take (i := 33) (oi := ?ob_33) (v := ?vb_33) ?hib_33 (by kernel_rfl) (by kernel_rfl) (by kernel_rfl) ?hqb_33 ?hyb_33 (by assumption) ?rb_33
          case hib_33 => (simp only [List.getElem?_toArray, List.getElem?_cons_succ, List.getElem?_cons_zero]; rfl)
          case hqb_33 => exact fun _ _ _ h => h
          case hyb_33 =>
            first
              | (refine Or.inl ⟨by rfl, ?_⟩; intro wq hSw; (try dsimp only at hSw); go_simp; (try with_reducible rfl); done)
              | (refine Or.inr ⟨by rfl, ?_⟩; with_reducible rfl)
          try simp only [Act.put, List.setIfInBounds_toArray, List.set_cons_zero, List.set_cons_succ]
          refine wpAnyH_take (i := 34) (oi := ?ob_34) (v := ?vb_34) ?hib_34 (by kernel_rfl) (by kernel_rfl) (by kernel_rfl) ?hqb_34 ?hyb_34 (by assumption) ?rb_34
          case hib_34 => (simp only [List.getElem?_toArray, List.getElem?_cons_succ, List.getElem?_cons_zero]; rfl)
          case hqb_34 => exact fun _ _ _ h => h
          case hyb_34 =>
            first
              | (refine Or.inl ⟨by rfl, ?_⟩; intro wq hSw; (try dsimp only at hSw); go_simp; (try with_reducible rfl); done)
              | (refine Or.inr ⟨by rfl, ?_⟩; with_reducible rfl)
          try simp only [Act.put, List.setIfInBounds_toArray, List.set_cons_zero, List.set_cons_succ]
          refine wpAnyH_take (i := 35) (oi := ?ob_35) (v := ?vb_35) ?hib_35 (by kernel_rfl) (by kernel_rfl) (by kernel_rfl) ?hqb_35 ?hyb_35 (by assumption) ?rb_35
          case hib_35 => (simp only [List.getElem?_toArray, List.getElem?_cons_succ, List.getElem?_cons_zero]; rfl)
          case hqb_35 => exact fun _ _ _ h => h
          case hyb_35 =>
            first
              | (refine Or.inl ⟨by rfl, ?_⟩; intro wq hSw; (try dsimp only at hSw); go_simp; (try with_reducible rfl); done)
              | (refine Or.inr ⟨by rfl, ?_⟩; with_reducible rfl)
          try simp only [Act.put, List.setIfInBounds_toArray, List.set_cons_zero, List.set_cons_succ]
          refine wpAnyH_take (i := 36) (oi := ?ob_36) (v := ?vb_36) ?hib_36 (by kernel_rfl) (by kernel_rfl) (by kernel_rfl) ?hqb_36 ?hyb_36 (by assumption) ?rb_36
          case hib_36 => (simp only [List.getElem?_toArray, List.getElem?_cons_succ, List.getElem?_cons_zero]; rfl)
          case hqb_36 => exact fun _ _ _ h => h
          case hyb_36 =>
            first
              | (refine Or.inl ⟨by rfl, ?_⟩; intro wq hSw; (try dsimp only at hSw); go_simp; (try with_reducible rfl); done)
              | (refine Or.inr ⟨by rfl, ?_⟩; with_reducible rfl)
          try simp only [Act.put, List.setIfInBounds_toArray, List.set_cons_zero, List.set_cons_succ]
          refine wpAnyH_take (i := 37) (oi := ?ob_37) (v := ?vb_37) ?hib_37 (by kernel_rfl) (by kernel_rfl) (by kernel_rfl) ?hqb_37 ?hyb_37 (by assumption) ?rb_37
          case hib_37 => (simp only [List.getElem?_toArray, List.getElem?_cons_succ, List.getElem?_cons_zero]; rfl)
          case hqb_37 => exact fun _ _ _ h => h
          case hyb_37 =>
            first
              | (refine Or.inl ⟨by rfl, ?_⟩; intro wq hSw; (try dsimp only at hSw); go_simp; (try with_reducible rfl); done)
              | (refine Or.inr ⟨by rfl, ?_⟩; with_reducible rfl)
          try simp only [Act.put, List.setIfInBounds_toArray, List.set_cons_zero, List.set_cons_succ]
          refine wpAnyH_take (i := 38) (oi := ?ob_38) (v := ?vb_38) ?hib_38 (by kernel_rfl) (by kernel_rfl) (by kernel_rfl) ?hqb_38 ?hyb_38 (by assumption) ?rb_38
          case hib_38 => (simp only [List.getElem?_toArray, List.getElem?_cons_succ, List.getElem?_cons_zero]; rfl)
          case hqb_38 => exact fun _ _ _ h => h
          case hyb_38 =>
            first
              | (refine Or.inl ⟨by rfl, ?_⟩; intro wq hSw; (try dsimp only at hSw); go_simp; (try with_reducible rfl); done)
              | (refine Or.inr ⟨by rfl, ?_⟩; with_reducible rfl)
          try simp only [Act.put, List.setIfInBounds_toArray, List.set_cons_zero, List.set_cons_succ]
          refine wpAnyH_take (i := 39) (oi := ?ob_39) (v := ?vb_39) ?hib_39 (by kernel_rfl) (by kernel_rfl) (by kernel_rfl) ?hqb_39 ?hyb_39 (by assumption) ?rb_39
          case hib_39 => (simp only [List.getElem?_toArray, List.getElem?_cons_succ, List.getElem?_cons_zero]; rfl)
          case hqb_39 => exact fun _ _ _ h => h
          case hyb_39 =>
            first
              | (refine Or.inl ⟨by rfl, ?_⟩; intro wq hSw; (try dsimp only at hSw); go_simp; (try with_reducible rfl); done)
              | (refine Or.inr ⟨by rfl, ?_⟩; with_reducible rfl)
          try simp only [Act.put, List.setIfInBounds_toArray, List.set_cons_zero, List.set_cons_succ]
          refine wpAnyH_take (i := 40) (oi := ?ob_40) (v := ?vb_40) ?hib_40 (by kernel_rfl) (by kernel_rfl) (by kernel_rfl) ?hqb_40 ?hyb_40 (by assumption) ?rb_40
          case hib_40 => (simp only [List.getElem?_toArray, List.getElem?_cons_succ, List.getElem?_cons_zero]; rfl)
          case hqb_40 => exact fun _ _ _ h => h
          case hyb_40 =>
            first
              | (refine Or.inl ⟨by rfl, ?_⟩; intro wq hSw; (try dsimp only at hSw); go_simp; (try with_reducible rfl); done)
              | (refine Or.inr ⟨by rfl, ?_⟩; with_reducible rfl)
          try simp only [Act.put, List.setIfInBounds_toArray, List.set_cons_zero, List.set_cons_succ]
          refine wpAnyH_take (i := 41) (oi := ?ob_41) (v := ?vb_41) ?hib_41 (by kernel_rfl) (by kernel_rfl) (by kernel_rfl) ?hqb_41 ?hyb_41 (by assumption) ?rb_41
          case hib_41 => (simp only [List.getElem?_toArray, List.getElem?_cons_succ, List.getElem?_cons_zero]; rfl)
          case hqb_41 => exact fun _ _ _ h => h
          case hyb_41 =>
            first
              | (refine Or.inl ⟨by rfl, ?_⟩; intro wq hSw; (try dsimp only at hSw); go_simp; (try with_reducible rfl); done)
              | (refine Or.inr ⟨by rfl, ?_⟩; with_reducible rfl)
          try simp only [Act.put, List.setIfInBounds_toArray, List.set_cons_zero, List.set_cons_succ]
          refine wpAnyH_take (i := 42) (oi := ?ob_42) (v := ?vb_42) ?hib_42 (by kernel_rfl) (by kernel_rfl) (by kernel_rfl) ?hqb_42 ?hyb_42 (by assumption) ?rb_42
          case hib_42 => (simp only [List.getElem?_toArray, List.getElem?_cons_succ, List.getElem?_cons_zero]; rfl)
          case hqb_42 => exact fun _ _ _ h => h
          case hyb_42 =>
            first
              | (refine Or.inl ⟨by rfl, ?_⟩; intro wq hSw; (try dsimp only at hSw); go_simp; (try with_reducible rfl); done)
              | (refine Or.inr ⟨by rfl, ?_⟩; with_reducible rfl)
          try simp only [Act.put, List.setIfInBounds_toArray, List.set_cons_zero, List.set_cons_succ]
          refine wpAnyH_take (i := 43) (oi := ?ob_43) (v := ?vb_43) ?hib_43 (by kernel_rfl) (by kernel_rfl) (by kernel_rfl) ?hqb_43 ?hyb_43 (by assumption) ?rb_43
          case hib_43 => (simp only [List.getElem?_toArray, List.getElem?_cons_succ, List.getElem?_cons_zero]; rfl)
          case hqb_43 => exact fun _ _ _ h => h
          case hyb_43 =>
            first
              | (refine Or.inl ⟨by rfl, ?_⟩; intro wq hSw; (try dsimp only at hSw); go_simp; (try with_reducible rfl); done)
              | (refine Or.inr ⟨by rfl, ?_⟩; with_reducible rfl)
          try simp only [Act.put, List.setIfInBounds_toArray, List.set_cons_zero, List.set_cons_succ]
          refine wpAnyH_take (i := 44) (oi := ?ob_44) (v := ?vb_44) ?hib_44 (by kernel_rfl) (by kernel_rfl) (by kernel_rfl) ?hqb_44 ?hyb_44 (by assumption) ?rb_44
          case hib_44 => (simp only [List.getElem?_toArray, List.getElem?_cons_succ, List.getElem?_cons_zero]; rfl)
          case hqb_44 => exact fun _ _ _ h => h
          case hyb_44 =>
            first
              | (refine Or.inl ⟨by rfl, ?_⟩; intro wq hSw; (try dsimp only at hSw); go_simp; (try with_reducible rfl); done)
              | (refine Or.inr ⟨by rfl, ?_⟩; with_reducible rfl)
          try simp only [Act.put, List.setIfInBounds_toArray, List.set_cons_zero, List.set_cons_succ]
          refine wpAnyH_take (i := 45) (oi := ?ob_45) (v := ?vb_45) ?hib_45 (by kernel_rfl) (by kernel_rfl) (by kernel_rfl) ?hqb_45 ?hyb_45 (by assumption) ?rb_45
          case hib_45 => (simp only [List.getElem?_toArray, List.getElem?_cons_succ, List.getElem?_cons_zero]; rfl)
          case hqb_45 => exact fun _ _ _ h => h
          case hyb_45 =>
            first
              | (refine Or.inl ⟨by rfl, ?_⟩; intro wq hSw; (try dsimp only at hSw); go_simp; (try with_reducible rfl); done)
              | (refine Or.inr ⟨by rfl, ?_⟩; with_reducible rfl)
          try simp only [Act.put, List.setIfInBounds_toArray, List.set_cons_zero, List.set_cons_succ]
          refine wpAnyH_take (i := 46) (oi := ?ob_46) (v := ?vb_46) ?hib_46 (by kernel_rfl) (by kernel_rfl) (by kernel_rfl) ?hqb_46 ?hyb_46 (by assumption) ?rb_46
          case hib_46 => (simp only [List.getElem?_toArray, List.getElem?_cons_succ, List.getElem?_cons_zero]; rfl)
          case hqb_46 => exact fun _ _ _ h => h
          case hyb_46 =>
            first
              | (refine Or.inl ⟨by rfl, ?_⟩; intro wq hSw; (try dsimp only at hSw); go_simp; (try with_reducible rfl); done)
              | (refine Or.inr ⟨by rfl, ?_⟩; with_reducible rfl)
          try simp only [Act.put, List.setIfInBounds_toArray, List.set_cons_zero, List.set_cons_succ]
          refine wpAnyH_take (i := 47) (oi := ?ob_47) (v := ?vb_47) ?hib_47 (by kernel_rfl) (by kernel_rfl) (by kernel_rfl) ?hqb_47 ?hyb_47 (by assumption) ?rb_47
          case hib_47 => (simp only [List.getElem?_toArray, List.getElem?_cons_succ, List.getElem?_cons_zero]; rfl)
          case hqb_47 => exact fun _ _ _ h => h
          case hyb_47 =>
            first
              | (refine Or.inl ⟨by rfl, ?_⟩; intro wq hSw; (try dsimp only at hSw); go_simp; (try with_reducible rfl); done)
              | (refine Or.inr ⟨by rfl, ?_⟩; with_reducible rfl)
          try simp only [Act.put, List.setIfInBounds_toArray, List.set_cons_zero, List.set_cons_succ]
          refine wpAnyH_take (i := 48) (oi := ?ob_48) (v := ?vb_48) ?hib_48 (by kernel_rfl) (by kernel_rfl) (by kernel_rfl) ?hqb_48 ?hyb_48 (by assumption) ?rb_48
          case hib_48 => (simp only [List.getElem?_toArray, List.getElem?_cons_succ, List.getElem?_cons_zero]; rfl)
          case hqb_48 => exact fun _ _ _ h => h
          case hyb_48 =>
            first
              | (refine Or.inl ⟨by rfl, ?_⟩; intro wq hSw; (try dsimp only at hSw); go_simp; (try with_reducible rfl); done)
              | (refine Or.inr ⟨by rfl, ?_⟩; with_reducible rfl)
          try simp only [Act.put, List.setIfInBounds_toArray, List.set_cons_zero, List.set_cons_succ]
          refine wpAnyH_take (i := 49) (oi := ?ob_49) (v := ?vb_49) ?hib_49 (by kernel_rfl) (by kernel_rfl) (by kernel_rfl) ?hqb_49 ?hyb_49 (by assumption) ?rb_49
          case hib_49 => (simp only [List.getElem?_toArray, List.getElem?_cons_succ, List.getElem?_cons_zero]; rfl)
          case hqb_49 => exact fun _ _ _ h => h
          case hyb_49 =>
            first
              | (refine Or.inl ⟨by rfl, ?_⟩; intro wq hSw; (try dsimp only at hSw); go_simp; (try with_reducible rfl); done)
              | (refine Or.inr ⟨by rfl, ?_⟩; with_reducible rfl)
          try simp only [Act.put, List.setIfInBounds_toArray, List.set_cons_zero, List.set_cons_succ]
          refine wpAnyH_take (i := 50) (oi := ?ob_50) (v := ?vb_50) ?hib_50 (by kernel_rfl) (by kernel_rfl) (by kernel_rfl) ?hqb_50 ?hyb_50 (by assumption) ?rb_50
          case hib_50 => (simp only [List.getElem?_toArray, List.getElem?_cons_succ, List.getElem?_cons_zero]; rfl)
          case hqb_50 => exact fun _ _ _ h => h
          case hyb_50 =>
            first
              | (refine Or.inl ⟨by rfl, ?_⟩; intro wq hSw; (try dsimp only at hSw); go_simp; (try with_reducible rfl); done)
              | (refine Or.inr ⟨by rfl, ?_⟩; with_reducible rfl)
          try simp only [Act.put, List.setIfInBounds_toArray, List.set_cons_zero, List.set_cons_succ]
          refine wpAnyH_take (i := 51) (oi := ?ob_51) (v := ?vb_51) ?hib_51 (by kernel_rfl) (by kernel_rfl) (by kernel_rfl) ?hqb_51 ?hyb_51 (by assumption) ?rb_51
          case hib_51 => (simp only [List.getElem?_toArray, List.getElem?_cons_succ, List.getElem?_cons_zero]; rfl)
          case hqb_51 => exact fun _ _ _ h => h
          case hyb_51 =>
            first
              | (refine Or.inl ⟨by rfl, ?_⟩; intro wq hSw; (try dsimp only at hSw); go_simp; (try with_reducible rfl); done)
              | (refine Or.inr ⟨by rfl, ?_⟩; with_reducible rfl)
          try simp only [Act.put, List.setIfInBounds_toArray, List.set_cons_zero, List.set_cons_succ]
          refine wpAnyH_take (i := 52) (oi := ?ob_52) (v := ?vb_52) ?hib_52 (by kernel_rfl) (by kernel_rfl) (by kernel_rfl) ?hqb_52 ?hyb_52 (by assumption) ?rb_52
          case hib_52 => (simp only [List.getElem?_toArray, List.getElem?_cons_succ, List.getElem?_cons_zero]; rfl)
          case hqb_52 => exact fun _ _ _ h => h
          case hyb_52 =>
            first
              | (refine Or.inl ⟨by rfl, ?_⟩; intro wq hSw; (try dsimp only at hSw); go_simp; (try with_reducible rfl); done)
              | (refine Or.inr ⟨by rfl, ?_⟩; with_reducible rfl)
          try simp only [Act.put, List.setIfInBounds_toArray, List.set_cons_zero, List.set_cons_succ]
          refine wpAnyH_take (i := 53) (oi := ?ob_53) (v := ?vb_53) ?hib_53 (by kernel_rfl) (by kernel_rfl) (by kernel_rfl) ?hqb_53 ?hyb_53 (by assumption) ?rb_53
          case hib_53 => (simp only [List.getElem?_toArray, List.getElem?_cons_succ, List.getElem?_cons_zero]; rfl)
          case hqb_53 => exact fun _ _ _ h => h
          case hyb_53 =>
            first
              | (refine Or.inl ⟨by rfl, ?_⟩; intro wq hSw; (try dsimp only at hSw); go_simp; (try with_reducible rfl); done)
              | (refine Or.inr ⟨by rfl, ?_⟩; with_reducible rfl)
          try simp only [Act.put, List.setIfInBounds_toArray, List.set_cons_zero, List.set_cons_succ]
          refine wpAnyH_take (i := 54) (oi := ?ob_54) (v := ?vb_54) ?hib_54 (by kernel_rfl) (by kernel_rfl) (by kernel_rfl) ?hqb_54 ?hyb_54 (by assumption) ?rb_54
          case hib_54 => (simp only [List.getElem?_toArray, List.getElem?_cons_succ, List.getElem?_cons_zero]; rfl)
          case hqb_54 => exact fun _ _ _ h => h
          case hyb_54 =>
            first
              | (refine Or.inl ⟨by rfl, ?_⟩; intro wq hSw; (try dsimp only at hSw); go_simp; (try with_reducible rfl); done)
              | (refine Or.inr ⟨by rfl, ?_⟩; with_reducible rfl)
          try simp only [Act.put, List.setIfInBounds_toArray, List.set_cons_zero, List.set_cons_succ]
          refine wpAnyH_take (i := 55) (oi := ?ob_55) (v := ?vb_55) ?hib_55 (by kernel_rfl) (by kernel_rfl) (by kernel_rfl) ?hqb_55 ?hyb_55 (by assumption) ?rb_55
          case hib_55 => (simp only [List.getElem?_toArray, List.getElem?_cons_succ, List.getElem?_cons_zero]; rfl)
          case hqb_55 => exact fun _ _ _ h => h
          case hyb_55 =>
            first
              | (refine Or.inl ⟨by rfl, ?_⟩; intro wq hSw; (try dsimp only at hSw); go_simp; (try with_reducible rfl); done)
              | (refine Or.inr ⟨by rfl, ?_⟩; with_reducible rfl)
          try simp only [Act.put, List.setIfInBounds_toArray, List.set_cons_zero, List.set_cons_succ]
          refine wpAnyH_take (i := 56) (oi := ?ob_56) (v := ?vb_56) ?hib_56 (by kernel_rfl) (by kernel_rfl) (by kernel_rfl) ?hqb_56 ?hyb_56 (by assumption) ?rb_56
          case hib_56 => (simp only [List.getElem?_toArray, List.getElem?_cons_succ, List.getElem?_cons_zero]; rfl)
          case hqb_56 => exact fun _ _ _ h => h
          case hyb_56 =>
            first
              | (refine Or.inl ⟨by rfl, ?_⟩; intro wq hSw; (try dsimp only at hSw); go_simp; (try with_reducible rfl); done)
              | (refine Or.inr ⟨by rfl, ?_⟩; with_reducible rfl)
          try simp only [Act.put, List.setIfInBounds_toArray, List.set_cons_zero, List.set_cons_succ]
          refine wpAnyH_take (i := 57) (oi := ?ob_57) (v := ?vb_57) ?hib_57 (by kernel_rfl) (by kernel_rfl) (by kernel_rfl) ?hqb_57 ?hyb_57 (by assumption) ?rb_57
          case hib_57 => (simp only [List.getElem?_toArray, List.getElem?_cons_succ, List.getElem?_cons_zero]; rfl)
          case hqb_57 => exact fun _ _ _ h => h
          case hyb_57 =>
            first
              | (refine Or.inl ⟨by rfl, ?_⟩; intro wq hSw; (try dsimp only at hSw); go_simp; (try with_reducible rfl); done)
              | (refine Or.inr ⟨by rfl, ?_⟩; with_reducible rfl)
          try simp only [Act.put, List.setIfInBounds_toArray, List.set_cons_zero, List.set_cons_succ]
          refine wpAnyH_take (i := 58) (oi := ?ob_58) (v := ?vb_58) ?hib_58 (by kernel_rfl) (by kernel_rfl) (by kernel_rfl) ?hqb_58 ?hyb_58 (by assumption) ?rb_58
          case hib_58 => (simp only [List.getElem?_toArray, List.getElem?_cons_succ, List.getElem?_cons_zero]; rfl)
          case hqb_58 => exact fun _ _ _ h => h
          case hyb_58 =>
            first
              | (refine Or.inl ⟨by rfl, ?_⟩; intro wq hSw; (try dsimp only at hSw); go_simp; (try with_reducible rfl); done)
              | (refine Or.inr ⟨by rfl, ?_⟩; with_reducible rfl)
          try simp only [Act.put, List.setIfInBounds_toArray, List.set_cons_zero, List.set_cons_succ]
          refine wpAnyH_done (by kernel_rfl) ?_ _
          have B6 := Lib.hid (below_seq HB.out HD.out)
          clear KS HD OP LV
          go_wp2
          go_roundg (g + 1 - (i + 1))
          case measure => omega
          case rel => exact ⟨i + 1, by omega, rfl, by go_num, B6⟩
        · have k2 : decide ((lo : Int) ≤ (b : Int)) = false := by simp; omega
          have k2n : decide (lo ≤ b) = false := by simp; omega
          have k2p : ¬ (lo : Int) ≤ (b : Int) := by omega
          clear f2 f6
          refine wp_region_held_drew (S := (fun w' => w'.cell? ⟨b1, o1 + i, none⟩ = some (.int .i64 u) ∧ w'.cell? ⟨b2, o2 + i, none⟩ = some (.int .i64 v))) (by kernel_rfl) (KS.out _ HD.out) (fun hHeld => ?_)
          refine wpAnyH_take (i := 0) (oi := ?oc_0) (v := ?vc_0) ?hic_0 (by kernel_rfl) (by kernel_rfl) (by kernel_rfl) ?hqc_0 ?hyc_0 (by assumption) ?rc_0
          case hic_0 => (simp only [List.getElem?_toArray, List.getElem?_cons_succ, List.getElem?_cons_zero]; rfl)
          case hqc_0 => exact fun _ _ _ h => h
          case hyc_0 =>
            first
              | (refine Or.inl ⟨by rfl, ?_⟩; intro wq hSw; (try dsimp only at hSw); go_simp; (try with_reducible rfl); done)
              | (refine Or.inr ⟨by rfl, ?_⟩; with_reducible rfl)
          try simp only [Act.put, List.setIfInBounds_toArray, List.set_cons_zero, List.set_cons_succ]
          refine wpAnyH_take (i := 1) (oi := ?oc_1) (v := ?vc_1) ?hic_1 (by kernel_rfl) (by kernel_rfl) (by kernel_rfl) ?hqc_1 ?hyc_1 (by assumption) ?rc_1
          case hic_1 => (simp only [List.getElem?_toArray, List.getElem?_cons_succ, List.getElem?_cons_zero]; rfl)
          case hqc_1 => exact fun _ _ _ h => h
          case hyc_1 =>
            first
              | (refine Or.inl ⟨by rfl, ?_⟩; intro wq hSw; (try dsimp only at hSw); go_simp; (try with_reducible rfl); done)
              | (refine Or.inr ⟨by rfl, ?_⟩; with_reducible rfl)
          try simp only [Act.put, List.setIfInBounds_toArray, List.set_cons_zero, List.set_cons_succ]
          refine wpAnyH_take (i := 2) (oi := ?oc_2) (v := ?vc_2) ?hic_2 (by kernel_rfl) (by kernel_rfl) (by kernel_rfl) ?hqc_2 ?hyc_2 (by assumption) ?rc_2
          case hic_2 => (simp only [List.getElem?_toArray, List.getElem?_cons_succ, List.getElem?_cons_zero]; rfl)
          case hqc_2 => exact fun _ _ _ h => h
          case hyc_2 =>
            first
              | (refine Or.inl ⟨by rfl, ?_⟩; intro wq hSw; (try dsimp only at hSw); go_simp; (try with_reducible rfl); done)
              | (refine Or.inr ⟨by rfl, ?_⟩; with_reducible rfl)
          try simp only [Act.put, List.setIfInBounds_toArray, List.set_cons_zero, List.set_cons_succ]
          refine wpAnyH_take (i := 3) (oi := ?oc_3) (v := ?vc_3) ?hic_3 (by kernel_rfl) (by kernel_rfl) (by kernel_rfl) ?hqc_3 ?hyc_3 (by assumption) ?rc_3
          case hic_3 => (simp only [List.getElem?_toArray, List.getElem?_cons_succ, List.getElem?_cons_zero]; rfl)
          case hqc_3 => exact fun _ _ _ h => h
          case hyc_3 =>
            first
              | (refine Or.inl ⟨by rfl, ?_⟩; intro wq hSw; (try dsimp only at hSw); go_simp; (try with_reducible rfl); done)
              | (refine Or.inr ⟨by rfl, ?_⟩; with_reducible rfl)
          try simp only [Act.put, List.setIfInBounds_toArray, List.set_cons_zero, List.set_cons_succ]
          refine wpAnyH_take (i := 4) (oi := ?oc_4) (v := ?vc_4) ?hic_4 (by kernel_rfl) (by kernel_rfl) (by kernel_rfl) ?hqc_4 ?hyc_4 (by assumption) ?rc_4
          case hic_4 => (simp only [List.getElem?_toArray, List.getElem?_cons_succ, List.getElem?_cons_zero]; rfl)
          case hqc_4 => exact fun _ _ _ h => h
          case hyc_4 =>
            first
              | (refine Or.inl ⟨by rfl, ?_⟩; intro wq hSw; (try dsimp only at hSw); go_simp; (try with_reducible rfl); done)
              | (refine Or.inr ⟨by rfl, ?_⟩; with_reducible rfl)
          try simp only [Act.put, List.setIfInBounds_toArray, List.set_cons_zero, List.set_cons_succ]
          refine wpAnyH_take (i := 5) (oi := ?oc_5) (v := ?vc_5) ?hic_5 (by kernel_rfl) (by kernel_rfl) (by kernel_rfl) ?hqc_5 ?hyc_5 (by assumption) ?rc_5
          case hic_5 => (simp only [List.getElem?_toArray, List.getElem?_cons_succ, List.getElem?_cons_zero]; rfl)
          case hqc_5 => exact fun _ _ _ h => h
          case hyc_5 =>
            first
              | (refine Or.inl ⟨by rfl, ?_⟩; intro wq hSw; (try dsimp only at hSw); go_simp; (try with_reducible rfl); done)
              | (refine Or.inr ⟨by rfl, ?_⟩; with_reducible rfl)
          try simp only [Act.put, List.setIfInBounds_toArray, List.set_cons_zero, List.set_cons_succ]
          refine wpAnyH_take (i := 7) (oi := ?oc_7) (v := ?vc_7) ?hic_7 (by kernel_rfl) (by kernel_rfl) (by kernel_rfl) ?hqc_7 ?hyc_7 (by assumption) ?rc_7
          case hic_7 => (simp only [List.getElem?_toArray, List.getElem?_cons_succ, List.getElem?_cons_zero]; rfl)
          case hqc_7 => exact fun _ _ _ h => h
          case hyc_7 =>
            first
              | (refine Or.inl ⟨by rfl, ?_⟩; intro wq hSw; (try dsimp only at hSw); go_simp; (try with_reducible rfl); done)
              | (refine Or.inr ⟨by rfl, ?_⟩; with_reducible rfl)
          try simp only [Act.put, List.setIfInBounds_toArray, List.set_cons_zero, List.set_cons_succ]
          refine wpAnyH_take (i := 8) (oi := ?oc_8) (v := ?vc_8) ?hic_8 (by kernel_rfl) (by kernel_rfl) (by kernel_rfl) ?hqc_8 ?hyc_8 (by assumption) ?rc_8
          case hic_8 => (simp only [List.getElem?_toArray, List.getElem?_cons_succ, List.getElem?_cons_zero]; rfl)
          case hqc_8 => exact fun _ _ _ h => h
          case hyc_8 =>
            first
              | (refine Or.inl ⟨by rfl, ?_⟩; intro wq hSw; (try dsimp only at hSw); go_simp; (try with_reducible rfl); done)
              | (refine Or.inr ⟨by rfl, ?_⟩; with_reducible rfl)
          try simp only [Act.put, List.setIfInBounds_toArray, List.set_cons_zero, List.set_cons_succ]
          refine wpAnyH_take (i := 9) (oi := ?oc_9) (v := ?vc_9) ?hic_9 (by kernel_rfl) (by kernel_rfl) (by kernel_rfl) ?hqc_9 ?hyc_9 (by assumption) ?rc_9
          case hic_9 => (simp only [List.getElem?_toArray, List.getElem?_cons_succ, List.getElem?_cons_zero]; rfl)
          case hqc_9 => exact fun _ _ _ h => h
          case hyc_9 =>
            first
              | (refine Or.inl ⟨by rfl, ?_⟩; intro wq hSw; (try dsimp only at hSw); go_simp; (try with_reducible rfl); done)
              | (refine Or.inr ⟨by rfl, ?_⟩; with_reducible rfl)
          try simp only [Act.put, List.setIfInBounds_toArray, List.set_cons_zero, List.set_cons_succ]
          refine wpAnyH_ready (rs := [6]) (by kernel_rfl) (by simp) ?_
          refine AllReadyH.cons (by simp only [List.getElem?_toArray, List.getElem?_cons_succ, List.getElem?_cons_zero]; rfl) (fun K hK => ?_) AllReadyH.nil
          go_simp
          go_at_call 18
          refine (OP.out _).mono ?_
          rintro e wn ⟨rfl, hb⟩
          replace HD := Lib.hid (below_seq HD.out hb)
          clear hb
          refine hK.out _ _ (KS.out _ HD.out) (fun hHeld6 => ?_)
          clear hK K hHeld
          try simp only [Act.put, List.setIfInBounds_toArray, List.set_cons_zero, List.set_cons_succ]
          refine wpAnyH_take (i := 10) (oi := ?oc_10) (v := ?vc_10) ?hic_10 (by kernel_rfl) (by kernel_rfl) (by kernel_rfl) ?hqc_10 ?hyc_10 (by assumption) ?rc_10
          case hic_10 => (simp only [List.getElem?_toArray, List.getElem?_cons_succ, List.getElem?_cons_zero]; rfl)
          case hqc_10 => exact fun _ _ _ h => h
          case hyc_10 =>
            first
              | (refine Or.inl ⟨by rfl, ?_⟩; intro wq hSw; (try dsimp only at hSw); go_simp; (try with_reducible rfl); done)
              | (refine Or.inr ⟨by rfl, ?_⟩; with_reducible rfl)
          try simp only [Act.put, List.setIfInBounds_toArray, List.set_cons_zero, List.set_cons_succ]
          refine wpAnyH_take (i := 11) (oi := ?oc_11) (v := ?vc_11) ?hic_11 (by kernel_rfl) (by kernel_rfl) (by kernel_rfl) ?hqc_11 ?hyc_11 (by assumption) ?rc_11
          case hic_11 => (simp only [List.getElem?_toArray, List.getElem?_cons_succ, List.getElem?_cons_zero]; rfl)
          case hqc_11 => exact fun _ _ _ h => h
          case hyc_11 =>
            first
              | (refine Or.inl ⟨by rfl, ?_⟩; intro wq hSw; (try dsimp only at hSw); go_simp; (try with_reducible rfl); done)
              | (refine Or.inr ⟨by rfl, ?_⟩; with_reducible rfl)
          try simp only [Act.put, List.setIfInBounds_toArray, List.set_cons_zero, List.set_cons_succ]
          refine wpAnyH_take (i := 12) (oi := ?oc_12) (v := ?vc_12) ?hic_12 (by kernel_rfl) (by kernel_rfl) (by kernel_rfl) ?hqc_12 ?hyc_12 (by assumption) ?rc_12
          case hic_12 => (simp only [List.getElem?_toArray, List.getElem?_cons_succ, List.getElem?_cons_zero]; rfl)
          case hqc_12 => exact fun _ _ _ h => h
          case hyc_12 =>
            first
              | (refine Or.inl ⟨by rfl, ?_⟩; intro wq hSw; (try dsimp only at hSw); go_simp; (try with_reducible rfl); done)
              | (refine Or.inr ⟨by rfl, ?_⟩; with_reducible rfl)
          try simp only [Act.put, List.setIfInBounds_toArray, List.set_cons_zero, List.set_cons_succ]
          refine wpAnyH_take (i := 13) (oi := ?oc_13) (v := ?vc_13) ?hic_13 (by kernel_rfl) (by kernel_rfl) (by kernel_rfl) ?hqc_13 ?hyc_13 (by assumption) ?rc_13
          case hic_13 => (simp only [List.getElem?_toArray, List.getElem?_cons_succ, List.getElem?_cons_zero]; rfl)
          case hqc_13 => exact fun _ _ _ h => h
          case hyc_13 =>
            first
              | (refine Or.inl ⟨by rfl, ?_⟩; intro wq hSw; (try dsimp only at hSw); go_simp; (try with_reducible rfl); done)
              | (refine Or.inr ⟨by rfl, ?_⟩; with_reducible rfl)
          try simp only [Act.put, List.setIfInBounds_toArray, List.set_cons_zero, List.set_cons_succ]
          refine wpAnyH_take (i := 14) (oi := ?oc_14) (v := ?vc_14) ?hic_14 (by kernel_rfl) (by kernel_rfl) (by kernel_rfl) ?hqc_14 ?hyc_14 (by assumption) ?rc_14
          case hic_14 => (simp only [List.getElem?_toArray, List.getElem?_cons_succ, List.getElem?_cons_zero]; rfl)
          case hqc_14 => exact fun _ _ _ h => h
          case hyc_14 =>
            first
              | (refine Or.inl ⟨by rfl, ?_⟩; intro wq hSw; (try dsimp only at hSw); go_simp; (try with_reducible rfl); done)
              | (refine Or.inr ⟨by rfl, ?_⟩; with_reducible rfl)
          try simp only [Act.put, List.setIfInBounds_toArray, List.set_cons_zero, List.set_cons_succ]
          refine wpAnyH_take (i := 15) (oi := ?oc_15) (v := ?vc_15) ?hic_15 (by kernel_rfl) (by kernel_rfl) (by kernel_rfl) ?hqc_15 ?hyc_15 (by assumption) ?rc_15
          case hic_15 => (simp only [List.getElem?_toArray, List.getElem?_cons_succ, List.getElem?_cons_zero]; rfl)
          case hqc_15 => exact fun _ _ _ h => h
          case hyc_15 =>
            first
              | (refine Or.inl ⟨by rfl, ?_⟩; intro wq hSw; (try dsimp only at hSw); go_simp; (try with_reducible rfl); done)
              | (refine Or.inr ⟨by rfl, ?_⟩; with_reducible rfl)
          try simp only [Act.put, List.setIfInBounds_toArray, List.set_cons_zero, List.set_cons_succ]
          refine wpAnyH_take (i := 16) (oi := ?oc_16) (v := ?vc_16) ?hic_16 (by kernel_rfl) (by kernel_rfl) (by kernel_rfl) ?hqc_16 ?hyc_16 (by assumption) ?rc_16
          case hic_16 => (simp only [List.getElem?_toArray, List.getElem?_cons_succ, List.getElem?_cons_zero]; rfl)
          case hqc_16 => exact fun _ _ _ h => h
          case hyc_16 =>
            first
              | (refine Or.inl ⟨by rfl, ?_⟩; intro wq hSw; (try dsimp only at hSw); go_simp; (try with_reducible rfl); done)
              | (refine Or.inr ⟨by rfl, ?_⟩; with_reducible rfl)
          try simp only [Act.put, List.setIfInBounds_toArray, List.set_cons_zero, List.set_cons_succ]
          refine wpAnyH_take (i := 17) (oi := ?oc_17) (v := ?vc_17) ?hic_17 (by kernel_rfl) (by kernel_rfl) (by kernel_rfl) ?hqc_17 ?hyc_17 (by assumption) ?rc_17
          case hic_17 => (simp only [List.getElem?_toArray, List.getElem?_cons_succ, List.getElem?_cons_zero]; rfl)
          case hqc_17 => exact fun _ _ _ h => h
          case hyc_17 =>
            first
              | (refine Or.inl ⟨by rfl, ?_⟩; intro wq hSw; (try dsimp only at hSw); go_simp; (try with_reducible rfl); done)
              | (refine Or.inr ⟨by rfl, ?_⟩; with_reducible rfl)
          try simp only [Act.put, List.setIfInBounds_toArray, List.set_cons_zero, List.set_cons_succ]
          refine wpAnyH_take (i := 18) (oi := ?oc_18) (v := ?vc_18) ?hic_18 (by kernel_rfl) (by kernel_rfl) (by kernel_rfl) ?hqc_18 ?hyc_18 (by assumption) ?rc_18
          case hic_18 => (simp only [List.getElem?_toArray, List.getElem?_cons_succ, List.getElem?_cons_zero]; rfl)
          case hqc_18 => exact fun _ _ _ h => h
          case hyc_18 =>
            first
              | (refine Or.inl ⟨by rfl, ?_⟩; intro wq hSw; (try dsimp only at hSw); go_simp; (try with_reducible rfl); done)
              | (refine Or.inr ⟨by rfl, ?_⟩; with_reducible rfl)
          try simp only [Act.put, List.setIfInBounds_toArray, List.set_cons_zero, List.set_cons_succ]
          refine wpAnyH_take (i := 19) (oi := ?oc_19) (v := ?vc_19) ?hic_19 (by kernel_rfl) (by kernel_rfl) (by kernel_rfl) ?hqc_19 ?hyc_19 (by assumption) ?rc_19
          case hic_19 => (simp only [List.getElem?_toArray, List.getElem?_cons_succ, List.getElem?_cons_zero]; rfl)
          case hqc_19 => exact fun _ _ _ h => h
          case hyc_19 =>
            first
              | (refine Or.inl ⟨by rfl, ?_⟩; intro wq hSw; (try dsimp only at hSw); go_simp; (try with_reducible rfl); done)
              | (refine Or.inr ⟨by rfl, ?_⟩; with_reducible rfl)
          try simp only [Act.put, List.setIfInBounds_toArray, List.set_cons_zero, List.set_cons_succ]
          refine wpAnyH_take (i := 20) (oi := ?oc_20) (v := ?vc_20) ?hic_20 (by kernel_rfl) (by kernel_rfl) (by kernel_rfl) ?hqc_20 ?hyc_20 (by assumption) ?rc_20
          case hic_20 => (simp only [List.getElem?_toArray, List.getElem?_cons_succ, List.getElem?_cons_zero]; rfl)
          case hqc_20 => exact fun _ _ _ h => h
          case hyc_20 =>
            first
              | (refine Or.inl ⟨by rfl, ?_⟩; intro wq hSw; (try dsimp only at hSw); go_simp; (try with_reducible rfl); done)
              | (refine Or.inr ⟨by rfl, ?_⟩; with_reducible rfl)
          try simp only [Act.put, List.setIfInBounds_toArray, List.set_cons_zero, List.set_cons_succ]
          refine wpAnyH_take (i := 21) (oi := ?oc_21) (v := ?vc_21) ?hic_21 (by kernel_rfl) (by kernel_rfl) (by kernel_rfl) ?hqc_21 ?hyc_21 (by assumption) ?rc_21
          case hic_21 => (simp only [List.getElem?_toArray, List.getElem?_cons_succ, List.getElem?_cons_zero]; rfl)
          case hqc_21 => exact fun _ _ _ h => h
          case hyc_21 =>
            first
              | (refine Or.inl ⟨by rfl, ?_⟩; intro wq hSw; (try dsimp only at hSw); go_simp; (try with_reducible rfl); done)
              | (refine Or.inr ⟨by rfl, ?_⟩; with_reducible rfl)
          try simp only [Act.put, List.setIfInBounds_toArray, List.set_cons_zero, List.set_cons_succ]
          refine wpAnyH_take (i := 22) (oi := ?oc_22) (v := ?vc_22) ?hic_22 (by kernel_rfl) (by kernel_rfl) (by kernel_rfl) ?hqc_22 ?hyc_22 (by assumption) ?rc_22
          case hic_22 => (simp only [List.getElem?_toArray, List.getElem?_cons_succ, List.getElem?_cons_zero]; rfl)
          case hqc_22 => exact fun _ _ _ h => h
          case hyc_22 =>
            first
              | (refine Or.inl ⟨by rfl, ?_⟩; intro wq hSw; (try dsimp only at hSw); go_simp; (try with_reducible rfl); done)
              | (refine Or.inr ⟨by rfl, ?_⟩; with_reducible rfl)
          try simp only [Act.put, List.setIfInBounds_toArray, List.set_cons_zero, List.set_cons_succ]
          refine wpAnyH_take (i := 23) (oi := ?oc_23) (v := ?vc_23) ?hic_23 (by kernel_rfl) (by kernel_rfl) (by kernel_rfl) ?hqc_23 ?hyc_23 (by assumption) ?rc_23
          case hic_23 => (simp only [List.getElem?_toArray, List.getElem?_cons_succ, List.getElem?_cons_zero]; rfl)
          case hqc_23 => exact fun _ _ _ h => h
          case hyc_23 =>
            first
              | (refine Or.inl ⟨by rfl, ?_⟩; intro wq hSw; (try dsimp only at hSw); go_simp; (try with_reducible rfl); done)
              | (refine Or.inr ⟨by rfl, ?_⟩; with_reducible rfl)
          try simp only [Act.put, List.setIfInBounds_toArray, List.set_cons_zero, List.set_cons_succ]
          refine wpAnyH_take (i := 24) (oi := ?oc_24) (v := ?vc_24) ?hic_24 (by kernel_rfl) (by kernel_rfl) (by kernel_rfl) ?hqc_24 ?hyc_24 (by assumption) ?rc_24
          case hic_24 => (simp only [List.getElem?_toArray, List.getElem?_cons_succ, List.getElem?_cons_zero]; rfl)
          case hqc_24 => exact fun _ _ _ h => h
          case hyc_24 =>
            first
              | (refine Or.inl ⟨by rfl, ?_⟩; intro wq hSw; (try dsimp only at hSw); go_simp; (try with_reducible rfl); done)
              | (refine Or.inr ⟨by rfl, ?_⟩; with_reducible rfl)
          try simp only [Act.put, List.setIfInBounds_toArray, List.set_cons_zero, List.set_cons_succ]
          refine wpAnyH_take (i := 25) (oi := ?oc_25) (v := ?vc_25) ?hic_25 (by kernel_rfl) (by kernel_rfl) (by kernel_rfl) ?hqc_25 ?hyc_25 (by assumption) ?rc_25
          case hic_25 => (simp only [List.getElem?_toArray, List.getElem?_cons_succ, List.getElem?_cons_zero]; rfl)
          case hqc_25 => exact fun _ _ _ h => h
          case hyc_25 =>
            first
              | (refine Or.inl ⟨by rfl, ?_⟩; intro wq hSw; (try dsimp only at hSw); go_simp; (try with_reducible rfl); done)
              | (refine Or.inr ⟨by rfl, ?_⟩; with_reducible rfl)
          try simp only [Act.put, List.setIfInBounds_toArray, List.set_cons_zero, List.set_cons_succ]
          refine wpAnyH_take (i := 26) (oi := ?oc_26) (v := ?vc_26) ?hic_26 (by kernel_rfl) (by kernel_rfl) (by kernel_rfl) ?hqc_26 ?hyc_26 (by assumption) ?rc_26
          case hic_26 => (simp only [List.getElem?_toArray, List.getElem?_cons_succ, List.getElem?_cons_zero]; rfl)
          case hqc_26 => exact fun _ _ _ h => h
          case hyc_26 =>
            first
              | (refine Or.inl ⟨by rfl, ?_⟩; intro wq hSw; (try dsimp only at hSw); go_simp; (try with_reducible rfl); done)
              | (refine Or.inr ⟨by rfl, ?_⟩; with_reducible rfl)
          try simp only [Act.put, List.setIfInBounds_toArray, List.set_cons_zero, List.set_cons_succ]
          refine wpAnyH_take (i := 27) (oi := ?oc_27) (v := ?vc_27) ?hic_27 (by kernel_rfl) (by kernel_rfl) (by kernel_rfl) ?hqc_27 ?hyc_27 (by assumption) ?rc_27
          case hic_27 => (simp only [List.getElem?_toArray, List.getElem?_cons_succ, List.getElem?_cons_zero]; rfl)
          case hqc_27 => exact fun _ _ _ h => h
          case hyc_27 =>
            first
              | (refine Or.inl ⟨by rfl, ?_⟩; intro wq hSw; (try dsimp only at hSw); go_simp; (try with_reducible rfl); done)
              | (refine Or.inr ⟨by rfl, ?_⟩; with_reducible rfl)
          try simp only [Act.put, List.setIfInBounds_toArray, List.set_cons_zero, List.set_cons_succ]
          refine wpAnyH_take (i := 28) (oi := ?oc_28) (v := ?vc_28) ?hic_28 (by kernel_rfl) (by kernel_rfl) (by kernel_rfl) ?hqc_28 ?hyc_28 (by assumption) ?rc_28
          case hic_28 => (simp only [List.getElem?_toArray, List.getElem?_cons_succ, List.getElem?_cons_zero]; rfl)
          case hqc_28 => exact fun _ _ _ h => h
          case hyc_28 =>
            first
              | (refine Or.inl ⟨by rfl, ?_⟩; intro wq hSw; (try dsimp only at hSw); go_simp; (try with_reducible rfl); done)
              | (refine Or.inr ⟨by rfl, ?_⟩; with_reducible rfl)
          try simp only [Act.put, List.setIfInBounds_toArray, List.set_cons_zero, List.set_cons_succ]
          refine wpAnyH_take (i := 29) (oi := ?oc_29) (v := ?vc_29) ?hic_29 (by kernel_rfl) (by kernel_rfl) (by kernel_rfl) ?hqc_29 ?hyc_29 (by assumption) ?rc_29
          case hic_29 => (simp only [List.getElem?_toArray, List.getElem?_cons_succ, List.getElem?_cons_zero]; rfl)
          case hqc_29 => exact fun _ _ _ h => h
          case hyc_29 =>
            first
              | (refine Or.inl ⟨by rfl, ?_⟩; intro wq hSw; (try dsimp only at hSw); go_simp; (try with_reducible rfl); done)
              | (refine Or.inr ⟨by rfl, ?_⟩; with_reducible rfl)
          try simp only [Act.put, List.setIfInBounds_toArray, List.set_cons_zero, List.set_cons_succ]
          refine wpAnyH_take (i := 30) (oi := ?oc_30) (v := ?vc_30) ?hic_30 (by kernel_rfl) (by kernel_rfl) (by kernel_rfl) ?hqc_30 ?hyc_30 (by assumption) ?rc_30
          case hic_30 => (simp only [List.getElem?_toArray, List.getElem?_cons_succ, List.getElem?_cons_zero]; rfl)
          case hqc_30 => exact fun _ _ _ h => h
          case hyc_30 =>
            first
              | (refine Or.inl ⟨by rfl, ?_⟩; intro wq hSw; (try dsimp only at hSw); go_simp; (try with_reducible rfl); done)
              | (refine Or.inr ⟨by rfl, ?_⟩; with_reducible rfl)
          try simp only [Act.put, List.setIfInBounds_toArray, List.set_cons_zero, List.set_cons_succ]
          refine wpAnyH_take (i := 32) (oi := ?oc_32) (v := ?vc_32) ?hic_32 (by kernel_rfl) (by kernel_rfl) (by kernel_rfl) ?hqc_32 ?hyc_32 (by assumption) ?rc_32
          case hic_32 => (simp only [List.getElem?_toArray, List.getElem?_cons_succ, List.getElem?_cons_zero]; rfl)
          case hqc_32 => exact fun _ _ _ h => h
          case hyc_32 =>
            first
              | (refine Or.inl ⟨by rfl, ?_⟩; intro wq hSw; (try dsimp only at hSw); go_simp; (try with_reducible rfl); done)
              | (refine Or.inr ⟨by rfl, ?_⟩; with_reducible rfl)
          try simp only [Act.put, List.setIfInBounds_toArray, List.set_cons_zero, List.set_cons_succ]
          refine wpAnyH_ready (rs := [31]) (by kernel_rfl) (by simp) ?_
          refine AllReadyH.cons (by simp only [List.getElem?_toArray, List.getElem?_cons_succ, List.getElem?_cons_zero]; rfl) (fun K hK => ?_) AllReadyH.nil
          go_simp
          go_at_call 19
          refine (LV.out _).mono ?_
          rintro e wn ⟨rfl, hb⟩
          replace HD := Lib.hid (below_seq HD.out hb)
          clear hb
          refine hK.out _ _ (KS.out _ HD.out) (fun hHeld31 => ?_)
          clear hK K hHeld6
          try simp only [Act.put, List.setIfInBounds_toArray, List.set_cons_zero, List.set_cons_succ]
          refine wpAnyH_take (i := 33) (oi := ?oc_33) (v := ?vc_33) ?hic_33 (by kernel_rfl) (by kernel_rfl) (by kernel_rfl) ?hqc_33 ?hyc_33 (by assumption) ?rc_33
          case hic_33 => (simp only [List.getElem?_toArray, List.getElem?_cons_succ, List.getElem?_cons_zero]; rfl)
          case hqc_33 => exact fun _ _ _ h => h
          case hyc_33 =>
            first
              | (refine Or.inl ⟨by rfl, ?_⟩; intro wq hSw; (try dsimp only at hSw); go_simp; (try with_reducible rfl); done)
              | (refine Or.inr ⟨by rfl, ?_⟩; with_reducible rfl)
          try simp only [Act.put, List.setIfInBounds_toArray, List.set_cons_zero, List.set_cons_succ]
          refine wpAnyH_take (i := 34) (oi := ?oc_34) (v := ?vc_34) ?hic_34 (by kernel_rfl) (by kernel_rfl) (by kernel_rfl) ?hqc_34 ?hyc_34 (by assumption) ?rc_34
          case hic_34 => (simp only [List.getElem?_toArray, List.getElem?_cons_succ, List.getElem?_cons_zero]; rfl)
          case hqc_34 => exact fun _ _ _ h => h
          case hyc_34 =>
            first
              | (refine Or.inl ⟨by rfl, ?_⟩; intro wq hSw; (try dsimp only at hSw); go_simp; (try with_reducible rfl); done)
              | (refine Or.inr ⟨by rfl, ?_⟩; with_reducible rfl)
          try simp only [Act.put, List.setIfInBounds_toArray, List.set_cons_zero, List.set_cons_succ]
          refine wpAnyH_take (i := 35) (oi := ?oc_35) (v := ?vc_35) ?hic_35 (by kernel_rfl) (by kernel_rfl) (by kernel_rfl) ?hqc_35 ?hyc_35 (by assumption) ?rc_35
          case hic_35 => (simp only [List.getElem?_toArray, List.getElem?_cons_succ, List.getElem?_cons_zero]; rfl)
          case hqc_35 => exact fun _ _ _ h => h
          case hyc_35 =>
            first
              | (refine Or.inl ⟨by rfl, ?_⟩; intro wq hSw; (try dsimp only at hSw); go_simp; (try with_reducible rfl); done)
              | (refine Or.inr ⟨by rfl, ?_⟩; with_reducible rfl)
          try simp only [Act.put, List.setIfInBounds_toArray, List.set_cons_zero, List.set_cons_succ]
          refine wpAnyH_take (i := 36) (oi := ?oc_36) (v := ?vc_36) ?hic_36 (by kernel_rfl) (by kernel_rfl) (by kernel_rfl) ?hqc_36 ?hyc_36 (by assumption) ?rc_36
          case hic_36 => (simp only [List.getElem?_toArray, List.getElem?_cons_succ, List.getElem?_cons_zero]; rfl)
          case hqc_36 => exact fun _ _ _ h => h
          case hyc_36 =>
            first
              | (refine Or.inl ⟨by rfl, ?_⟩; intro wq hSw; (try dsimp only at hSw); go_simp; (try with_reducible rfl); done)
              | (refine Or.inr ⟨by rfl, ?_⟩; with_reducible rfl)
          try simp only [Act.put, List.setIfInBounds_toArray, List.set_cons_zero, List.set_cons_succ]
          refine wpAnyH_take (i := 37) (oi := ?oc_37) (v := ?vc_37) ?hic_37 (by kernel_rfl) (by kernel_rfl) (by kernel_rfl) ?hqc_37 ?hyc_37 (by assumption) ?rc_37
          case hic_37 => (simp only [List.getElem?_toArray, List.getElem?_cons_succ, List.getElem?_cons_zero]; rfl)
          case hqc_37 => exact fun _ _ _ h => h
          case hyc_37 =>
            first
              | (refine Or.inl ⟨by rfl, ?_⟩; intro wq hSw; (try dsimp only at hSw); go_simp; (try with_reducible rfl); done)
              | (refine Or.inr ⟨by rfl, ?_⟩; with_reducible rfl)
          try simp only [Act.put, List.setIfInBounds_toArray, List.set_cons_zero, List.set_cons_succ]
          refine wpAnyH_take (i := 38) (oi := ?oc_38) (v := ?vc_38) ?hic_38 (by kernel_rfl) (by kernel_rfl) (by kernel_rfl) ?hqc_38 ?hyc_38 (by assumption) ?rc_38
          case hic_38 => (simp only [List.getElem?_toArray, List.getElem?_cons_succ, List.getElem?_cons_zero]; rfl)
          case hqc_38 => exact fun _ _ _ h => h
          case hyc_38 =>
            first
              | (refine Or.inl ⟨by rfl, ?_⟩; intro wq hSw; (try dsimp only at hSw); go_simp; (try with_reducible rfl); done)
              | (refine Or.inr ⟨by rfl, ?_⟩; with_reducible rfl)
          try simp only [Act.put, List.setIfInBounds_toArray, List.set_cons_zero, List.set_cons_succ]
          refine wpAnyH_take (i := 39) (oi := ?oc_39) (v := ?vc_39) ?hic_39 (by kernel_rfl) (by kernel_rfl) (by kernel_rfl) ?hqc_39 ?hyc_39 (by assumption) ?rc_39
          case hic_39 => (simp only [List.getElem?_toArray, List.getElem?_cons_succ, List.getElem?_cons_zero]; rfl)
          case hqc_39 => exact fun _ _ _ h => h
          case hyc_39 =>
            first
              | (refine Or.inl ⟨by rfl, ?_⟩; intro wq hSw; (try dsimp only at hSw); go_simp; (try with_reducible rfl); done)
              | (refine Or.inr ⟨by rfl, ?_⟩; with_reducible rfl)
          try simp only [Act.put, List.setIfInBounds_toArray, List.set_cons_zero, List.set_cons_succ]
          refine wpAnyH_take (i := 40) (oi := ?oc_40) (v := ?vc_40) ?hic_40 (by kernel_rfl) (by kernel_rfl) (by kernel_rfl) ?hqc_40 ?hyc_40 (by assumption) ?rc_40
          case hic_40 => (simp only [List.getElem?_toArray, List.getElem?_cons_succ, List.getElem?_cons_zero]; rfl)
          case hqc_40 => exact fun _ _ _ h => h
          case hyc_40 =>
            first
              | (refine Or.inl ⟨by rfl, ?_⟩; intro wq hSw; (try dsimp only at hSw); go_simp; (try with_reducible rfl); done)
              | (refine Or.inr ⟨by rfl, ?_⟩; with_reducible rfl)
          try simp only [Act.put, List.setIfInBounds_toArray, List.set_cons_zero, List.set_cons_succ]
          refine wpAnyH_take (i := 41) (oi := ?oc_41) (v := ?vc_41) ?hic_41 (by kernel_rfl) (by kernel_rfl) (by kernel_rfl) ?hqc_41 ?hyc_41 (by assumption) ?rc_41
          case hic_41 => (simp only [List.getElem?_toArray, List.getElem?_cons_succ, List.getElem?_cons_zero]; rfl)
          case hqc_41 => exact fun _ _ _ h => h
          case hyc_41 =>
            first
              | (refine Or.inl ⟨by rfl, ?_⟩; intro wq hSw; (try dsimp only at hSw); go_simp; (try with_reducible rfl); done)
              | (refine Or.inr ⟨by rfl, ?_⟩; with_reducible rfl)
          try simp only [Act.put, List.setIfInBounds_toArray, List.set_cons_zero, List.set_cons_succ]
          refine wpAnyH_take (i := 42) (oi := ?oc_42) (v := ?vc_42) ?hic_42 (by kernel_rfl) (by kernel_rfl) (by kernel_rfl) ?hqc_42 ?hyc_42 (by assumption) ?rc_42
          case hic_42 => (simp only [List.getElem?_toArray, List.getElem?_cons_succ, List.getElem?_cons_zero]; rfl)
          case hqc_42 => exact fun _ _ _ h => h
          case hyc_42 =>
            first
              | (refine Or.inl ⟨by rfl, ?_⟩; intro wq hSw; (try dsimp only at hSw); go_simp; (try with_reducible rfl); done)
              | (refine Or.inr ⟨by rfl, ?_⟩; with_reducible rfl)
          try simp only [Act.put, List.setIfInBounds_toArray, List.set_cons_zero, List.set_cons_succ]
          refine wpAnyH_take (i := 43) (oi := ?oc_43) (v := ?vc_43) ?hic_43 (by kernel_rfl) (by kernel_rfl) (by kernel_rfl) ?hqc_43 ?hyc_43 (by assumption) ?rc_43
          case hic_43 => (simp only [List.getElem?_toArray, List.getElem?_cons_succ, List.getElem?_cons_zero]; rfl)
          case hqc_43 => exact fun _ _ _ h => h
          case hyc_43 =>
            first
              | (refine Or.inl ⟨by rfl, ?_⟩; intro wq hSw; (try dsimp only at hSw); go_simp; (try with_reducible rfl); done)
              | (refine Or.inr ⟨by rfl, ?_⟩; with_reducible rfl)
          try simp only [Act.put, List.setIfInBounds_toArray, List.set_cons_zero, List.set_cons_succ]
          refine wpAnyH_take (i := 44) (oi := ?oc_44) (v := ?vc_44) ?hic_44 (by kernel_rfl) (by kernel_rfl) (by kernel_rfl) ?hqc_44 ?hyc_44 (by assumption) ?rc_44
          case hic_44 => (simp only [List.getElem?_toArray, List.getElem?_cons_succ, List.getElem?_cons_zero]; rfl)
          case hqc_44 => exact fun _ _ _ h => h
          case hyc_44 =>
            first
              | (refine Or.inl ⟨by rfl, ?_⟩; intro wq hSw; (try dsimp only at hSw); go_simp; (try with_reducible rfl); done)
              | (refine Or.inr ⟨by rfl, ?_⟩; with_reducible rfl)
          try simp only [Act.put, List.setIfInBounds_toArray, List.set_cons_zero, List.set_cons_succ]
          refine wpAnyH_take (i := 45) (oi := ?oc_45) (v := ?vc_45) ?hic_45 (by kernel_rfl) (by kernel_rfl) (by kernel_rfl) ?hqc_45 ?hyc_45 (by assumption) ?rc_45
          case hic_45 => (simp only [List.getElem?_toArray, List.getElem?_cons_succ, List.getElem?_cons_zero]; rfl)
          case hqc_45 => exact fun _ _ _ h => h
          case hyc_45 =>
            first
              | (refine Or.inl ⟨by rfl, ?_⟩; intro wq hSw; (try dsimp only at hSw); go_simp; (try with_reducible rfl); done)
              | (refine Or.inr ⟨by rfl, ?_⟩; with_reducible rfl)
          try simp only [Act.put, List.setIfInBounds_toArray, List.set_cons_zero, List.set_cons_succ]
          refine wpAnyH_take (i := 46) (oi := ?oc_46) (v := ?vc_46) ?hic_46 (by kernel_rfl) (by kernel_rfl) (by kernel_rfl) ?hqc_46 ?hyc_46 (by assumption) ?rc_46
          case hic_46 => (simp only [List.getElem?_toArray, List.getElem?_cons_succ, List.getElem?_cons_zero]; rfl)
          case hqc_46 => exact fun _ _ _ h => h
          case hyc_46 =>
            first
              | (refine Or.inl ⟨by rfl, ?_⟩; intro wq hSw; (try dsimp only at hSw); go_simp; (try with_reducible rfl); done)
              | (refine Or.inr ⟨by rfl, ?_⟩; with_reducible rfl)
          try simp only [Act.put, List.setIfInBounds_toArray, List.set_cons_zero, List.set_cons_succ]
          refine wpAnyH_take (i := 47) (oi := ?oc_47) (v := ?vc_47) ?hic_47 (by kernel_rfl) (by kernel_rfl) (by kernel_rfl) ?hqc_47 ?hyc_47 (by assumption) ?rc_47
          case hic_47 => (simp only [List.getElem?_toArray, List.getElem?_cons_succ, List.getElem?_cons_zero]; rfl)
          case hqc_47 => exact fun _ _ _ h => h
          case hyc_47 =>
            first
              | (refine Or.inl ⟨by rfl, ?_⟩; intro wq hSw; (try dsimp only at hSw); go_simp; (try with_reducible rfl); done)
              | (refine Or.inr ⟨by rfl, ?_⟩; with_reducible rfl)
          try simp only [Act.put, List.setIfInBounds_toArray, List.set_cons_zero, List.set_cons_succ]
          refine wpAnyH_take (i := 48) (oi := ?oc_48) (v := ?vc_48) ?hic_48 (by kernel_rfl) (by kernel_rfl) (by kernel_rfl) ?hqc_48 ?hyc_48 (by assumption) ?rc_48
          case hic_48 => (simp only [List.getElem?_toArray, List.getElem?_cons_succ, List.getElem?_cons_zero]; rfl)
          case hqc_48 => exact fun _ _ _ h => h
          case hyc_48 =>
            first
              | (refine Or.inl ⟨by rfl, ?_⟩; intro wq hSw; (try dsimp only at hSw); go_simp; (try with_reducible rfl); done)
              | (refine Or.inr ⟨by rfl, ?_⟩; with_reducible rfl)
          try simp only [Act.put, List.setIfInBounds_toArray, List.set_cons_zero, List.set_cons_succ]
          refine wpAnyH_take (i := 49) (oi := ?oc_49) (v := ?vc_49) ?hic_49 (by kernel_rfl) (by kernel_rfl) (by kernel_rfl) ?hqc_49 ?hyc_49 (by assumption) ?rc_49
          case hic_49 => (simp only [List.getElem?_toArray, List.getElem?_cons_succ, List.getElem?_cons_zero]; rfl)
          case hqc_49 => exact fun _ _ _ h => h
          case hyc_49 =>
            first
              | (refine Or.inl ⟨by rfl, ?_⟩; intro wq hSw; (try dsimp only at hSw); go_simp; (try with_reducible rfl); done)
              | (refine Or.inr ⟨by rfl, ?_⟩; with_reducible rfl)
          try simp only [Act.put, List.setIfInBounds_toArray, List.set_cons_zero, List.set_cons_succ]
          refine wpAnyH_take (i := 50) (oi := ?oc_50) (v := ?vc_50) ?hic_50 (by kernel_rfl) (by kernel_rfl) (by kernel_rfl) ?hqc_50 ?hyc_50 (by assumption) ?rc_50
          case hic_50 => (simp only [List.getElem?_toArray, List.getElem?_cons_succ, List.getElem?_cons_zero]; rfl)
          case hqc_50 => exact fun _ _ _ h => h
          case hyc_50 =>
            first
              | (refine Or.inl ⟨by rfl, ?_⟩; intro wq hSw; (try dsimp only at hSw); go_simp; (try with_reducible rfl); done)
              | (refine Or.inr ⟨by rfl, ?_⟩; with_reducible rfl)
          try simp only [Act.put, List.setIfInBounds_toArray, List.set_cons_zero, List.set_cons_succ]
          refine wpAnyH_take (i := 51) (oi := ?oc_51) (v := ?vc_51) ?hic_51 (by kernel_rfl) (by kernel_rfl) (by kernel_rfl) ?hqc_51 ?hyc_51 (by assumption) ?rc_51
          case hic_51 => (simp only [List.getElem?_toArray, List.getElem?_cons_succ, List.getElem?_cons_zero]; rfl)
          case hqc_51 => exact fun _ _ _ h => h
          case hyc_51 =>
            first
              | (refine Or.inl ⟨by rfl, ?_⟩; intro wq hSw; (try dsimp only at hSw); go_simp; (try with_reducible rfl); done)
              | (refine Or.inr ⟨by rfl, ?_⟩; with_reducible rfl)
          try simp only [Act.put, List.setIfInBounds_toArray, List.set_cons_zero, List.set_cons_succ]
          refine wpAnyH_take (i := 52) (oi := ?oc_52) (v := ?vc_52) ?hic_52 (by kernel_rfl) (by kernel_rfl) (by kernel_rfl) ?hqc_52 ?hyc_52 (by assumption) ?rc_52
          case hic_52 => (simp only [List.getElem?_toArray, List.getElem?_cons_succ, List.getElem?_cons_zero]; rfl)
          case hqc_52 => exact fun _ _ _ h => h
          case hyc_52 =>
            first
              | (refine Or.inl ⟨by rfl, ?_⟩; intro wq hSw; (try dsimp only at hSw); go_simp; (try with_reducible rfl); done)
              | (refine Or.inr ⟨by rfl, ?_⟩; with_reducible rfl)
          try simp only [Act.put, List.setIfInBounds_toArray, List.set_cons_zero, List.set_cons_succ]
          refine wpAnyH_take (i := 53) (oi := ?oc_53) (v := ?vc_53) ?hic_53 (by kernel_rfl) (by kernel_rfl) (by kernel_rfl) ?hqc_53 ?hyc_53 (by assumption) ?rc_53
          case hic_53 => (simp only [List.getElem?_toArray, List.getElem?_cons_succ, List.getElem?_cons_zero]; rfl)
          case hqc_53 => exact fun _ _ _ h => h
          case hyc_53 =>
            first
              | (refine Or.inl ⟨by rfl, ?_⟩; intro wq hSw; (try dsimp only at hSw); go_simp; (try with_reducible rfl); done)
              | (refine Or.inr ⟨by rfl, ?_⟩; with_reducible rfl)
          try simp only [Act.put, List.setIfInBounds_toArray, List.set_cons_zero, List.set_cons_succ]
          refine wpAnyH_take (i := 54) (oi := ?oc_54) (v := ?vc_54) ?hic_54 (by kernel_rfl) (by kernel_rfl) (by kernel_rfl) ?hqc_54 ?hyc_54 (by assumption) ?rc_54
          case hic_54 => (simp only [List.getElem?_toArray, List.getElem?_cons_succ, List.getElem?_cons_zero]; rfl)
          case hqc_54 => exact fun _ _ _ h => h
          case hyc_54 =>
            first
              | (refine Or.inl ⟨by rfl, ?_⟩; intro wq hSw; (try dsimp only at hSw); go_simp; (try with_reducible rfl); done)
              | (refine Or.inr ⟨by rfl, ?_⟩; with_reducible rfl)
          try simp only [Act.put, List.setIfInBounds_toArray, List.set_cons_zero, List.set_cons_succ]
          refine wpAnyH_take (i := 55) (oi := ?oc_55) (v := ?vc_55) ?hic_55 (by kernel_rfl) (by kernel_rfl) (by kernel_rfl) ?hqc_55 ?hyc_55 (by assumption) ?rc_55
          case hic_55 => (simp only [List.getElem?_toArray, List.getElem?_cons_succ, List.getElem?_cons_zero]; rfl)
          case hqc_55 => exact fun _ _ _ h => h
          case hyc_55 =>
            first
              | (refine Or.inl ⟨by rfl, ?_⟩; intro wq hSw; (try dsimp only at hSw); go_simp; (try with_reducible rfl); done)
              | (refine Or.inr ⟨by rfl, ?_⟩; with_reducible rfl)
          try simp only [Act.put, List.setIfInBounds_toArray, List.set_cons_zero, List.set_cons_succ]
          refine wpAnyH_take (i := 56) (oi := ?oc_56) (v := ?vc_56) ?hic_56 (by kernel_rfl) (by kernel_rfl) (by kernel_rfl) ?hqc_56 ?hyc_56 (by assumption) ?rc_56
          case hic_56 => (simp only [List.getElem?_toArray, List.getElem?_cons_succ, List.getElem?_cons_zero]; rfl)
          case hqc_56 => exact fun _ _ _ h => h
          case hyc_56 =>
            first
              | (refine Or.inl ⟨by rfl, ?_⟩; intro wq hSw; (try dsimp only at hSw); go_simp; (try with_reducible rfl); done)
              | (refine Or.inr ⟨by rfl, ?_⟩; with_reducible rfl)
          try simp only [Act.put, List.setIfInBounds_toArray, List.set_cons_zero, List.set_cons_succ]
          refine wpAnyH_take (i := 57) (oi := ?oc_57) (v := ?vc_57) ?hic_57 (by kernel_rfl) (by kernel_rfl) (by kernel_rfl) ?hqc_57 ?hyc_57 (by assumption) ?rc_57
          case hic_57 => (simp only [List.getElem?_toArray, List.getElem?_cons_succ, List.getElem?_cons_zero]; rfl)
          case hqc_57 => exact fun _ _ _ h => h
          case hyc_57 =>
            first
              | (refine Or.inl ⟨by rfl, ?_⟩; intro wq hSw; (try dsimp only at hSw); go_simp; (try with_reducible rfl); done)
              | (refine Or.inr ⟨by rfl, ?_⟩; with_reducible rfl)
          try simp only [Act.put, List.setIfInBounds_toArray, List.set_cons_zero, List.set_cons_succ]
          refine wpAnyH_take (i := 58) (oi := ?oc_58) (v := ?vc_58) ?hic_58 (by kernel_rfl) (by kernel_rfl) (by kernel_rfl) ?hqc_58 ?hyc_58 (by assumption) ?rc_58
          case hic_58 => (simp only [List.getElem?_toArray, List.getElem?_cons_succ, List.getElem?_cons_zero]; rfl)
          case hqc_58 => exact fun _ _ _ h => h
          case hyc_58 =>
            first
              | (refine Or.inl ⟨by rfl, ?_⟩; intro wq hSw; (try dsimp only at hSw); go_simp; (try with_reducible rfl); done)
              | (refine Or.inr ⟨by rfl, ?_⟩; with_reducible rfl)
          try simp only [Act.put, List.setIfInBounds_toArray, List.set_cons_zero, List.set_cons_succ]
          refine wpAnyH_done (by kernel_rfl) ?_ _
          have B6 := Lib.hid (below_seq HB.out HD.out)
          clear KS HD OP LV
          go_wp2
          go_roundg (g + 1 - (i + 1))
          case measure => omega
          case rel => exact ⟨i + 1, by omega, rfl, by go_num, B6⟩
    · have hkp : i = g + 1 := by omega
      subst hkp
      obtain ⟨b1, o1, rfl, q1⟩ := (RP.out.below HB.out).at (i := 0) (by rw [List.length_map, LP.out]; omega)
      rw [List.getElem?_map, List.getElem?_eq_getElem (by rw [LP.out]; omega), GP.out 0 (by rw [LP.out]; omega), N0.out] at q1
      replace q1 : wr.cell? ⟨b1, o1 + 0, none⟩ = some (.int .i64 1) := q1
      rw [Nat.add_zero] at q1
      have MB := Lib.hid (fun w' => I.meet g b a w' BX.out BZ.out BY.out)
      rw [MR.out] at MB
      go_wp2_with fail
      refine (MB.out _).mono ?_
      rintro e w6 ⟨rfl, hb⟩
      replace q1 := cell_keep q1 hb
      have B6 := Lib.hid (below_seq B5.out (below_seq HB.out hb))
      clear hb MB
      go_wp2
      go_ret
      exact ⟨ret_bool (by simp), B6.out⟩
end Go.Proofs.Ytabldmhjkggmjaa.fnMeet
