/- WRk in one. Written by tools/join.py. -/
import Derived.Test.YtaedamnhobcdlaaJBase
import Derived.Test.YtaedamnhobcdlaaJSeg
import Derived.Test.YtaedamnhobcdlaaJRkF
import Derived.Test.YtaedamnhobcdlaaJRkL
import Derived.Test.YtaedamnhobcdlaaJRkO
import Derived.Deep.RegionHeld3
import Derived.Deep.DeepCutAuto
import Derived.IntWalk
import Derived.Deep.LoopGhost
section
namespace Go.Proofs.Ytaedamnhobcdlaa.fnRanked
open Go.ChangeShapes Go.WideShapes Go.ChangeAt Go.RowKit
open Go.ChangeMaps (open_string shut_string)
set_option linter.unusedVariables false
set_option linter.unusedSimpArgs false

set_option maxRecDepth 100000 in
set_option maxHeartbeats 2000000 in
theorem walk (a0 : Option Addr) (len0 cap0 : Nat) (z0 : List Int) (w : World) (w0 : IsRow .u8 w a0 len0 cap0 z0) :
    Calls Try.prog 3 #[.slice a0 len0 cap0] w fun e w' => e = .returned (.bool true) ∧ Below w.heap.size w w' := by
  obtain ⟨l, hl, hcap, hmax, hr⟩ := row_of_isRow w0
  clear w0
  subst hl
  have R := Lib.hid hr
  clear hr
  have hm : l.length ≤ maxLen := Nat.le_trans hcap hmax
  by_cases hbig : 1048576 < l.length
  · have hB : decide (1048576 < l.length) = true := by simp [hbig]
    go_enter Try.func3, Try.ntmps3
    go_wp2_with fail
    refine (bigIs a0 l.length cap0 _ hm).mono ?_
    rintro e w1 ⟨rfl, rfl⟩
    rw [hB]
    go_wp2
    go_ret
    exact ⟨rfl, Below.refl _ _⟩
  have hB : decide (1048576 < l.length) = false := by simp; omega
  have hl2 : l.length ≤ 1048576 := by omega
  go_enter Try.func3, Try.ntmps3
  go_wp2_with fail
  refine (bigIs a0 l.length cap0 _ hm).mono ?_
  rintro e w1 ⟨rfl, rfl⟩
  rw [hB]
  clear hB
  go_wp2_with fail
  refine (drawRank a0 l cap0 w hl2 R.out).mono ?_
  rintro e w1 ⟨ad, c, L, rfl, hL65, hbd, ho, hb⟩
  have LI := Lib.hid (show RecSIn [.slice ad L.length c] L w1 from ⟨ad, c, rfl, own_cap ho, by unfold maxLen; omega, Row.of_own ho⟩)
  have BD := Lib.hid hbd
  have B1 := Lib.hid hb
  have RA := Lib.hid ((Row.of_own ho).below (below_box (Below.refl _ w1) (.cells #[] 30)))
  clear hbd ho hb R
  -- got := Rank(a copy)
  go_wp2_with (at_builtin; go_must (refine wp_app_rowS rfl _ _ 24 rfl 30 _ 4 40 Try.underlying24 Try.infoRec rfl (by omega) w1.heap.size 0 (.slice (some ⟨w1.heap.size, 0, none⟩) 0 0) [] (by rfl) (World.ownsRow_made w1 #[] 0 (Nat.le_refl _) (by unfold maxLen; omega) rfl) ad L.length c (flatG recL L) (by rfl) (flatG_len recL_len L) RA.out (flatG_one recL_one _) (by unfold maxLen; omega) (by omega) (by simp) ?_); intro v3 w3 ho3 hg3)
  rw [Nat.zero_add, List.nil_append] at ho3
  obtain ⟨a3, c3, rfl⟩ := own_shape ho3
  have hb3 := (below_box (Below.refl w1.heap.size w1) (.cells #[] 30)).grown hg3 (by simp) (fun g hg => (by cases hg; exact Nat.le_refl _))
  have CI := Lib.hid (show RecSIn [.slice a3 L.length c3] L w3 from ⟨a3, c3, rfl, own_cap ho3, by unfold maxLen; omega, Row.of_own ho3⟩)
  have B3 := Lib.hid (below_seq B1.out hb3)
  replace LI := Lib.hid (LI.out.below hb3)
  clear ho3 hg3 hb3 RA B1
  go_wp2_with fail
  refine (uImplRank _ L w3 CI.out BD.out).mono ?_
  rintro e w4 ⟨c4, rfl, ho4, hb⟩
  obtain ⟨a4, k4, rfl, h4c, h4m, _⟩ := recSIn_shape ho4.read
  have GI := Lib.hid ho4.read
  have GO := Lib.hid (ho4.lies (Nat.le_refl _))
  replace LI := Lib.hid (LI.out.below hb)
  have B4 := Lib.hid (below_seq B3.out hb)
  clear ho4 hb CI B3
  have ROK := Lib.hid (uSpecRecsOk _ L w4 LI.out BD.out)
  cases hok : recsOkB L
  · rw [hok] at ROK
    have E := Lib.hid (show (rankM L).length = 0 by unfold rankM; simp [hok])
    go_wp2_with fail
    refine ROK.out.mono ?_
    rintro e w5 ⟨rfl, hb⟩
    have B5 := Lib.hid (below_seq B4.out hb)
    clear hb ROK
    obtain ⟨g, hg⟩ : ∃ g, (rankM L).length = g := ⟨_, rfl⟩
    have hg0 : g = 0 := hg.symm.trans E.out
    rw [hg]
    subst hg0
    go_wp2
    go_ret
    exact ⟨rfl, B5.out⟩
  · rw [hok] at ROK
    have ER : rankM L = insAll L := by unfold rankM; rw [if_pos hok]
    rw [ER] at GI GO h4c h4m ⊢
    have hO := Lib.hid (recsOkB_all hok)
    have hL64 := recsOkB_len hok
    have EL := Lib.hid (insAll_length L)
    rw [EL.out] at h4c h4m ⊢
    have hnB : ((L.length : Int) != (L.length : Int)) = false := by simp
    clear ER hok
    go_wp2_with fail
    refine ROK.out.mono ?_
    rintro e w5 ⟨rfl, hb⟩
    have B5 := Lib.hid (below_seq B4.out hb)
    replace LI := Lib.hid (LI.out.below hb)
    replace GI := Lib.hid (GI.out.below hb)
    clear hb ROK B4 GO
    rw [EL.out] at GI
    go_wp2_with fail
    go_loopg [5] L.length (fun kk i wr => ∃ k : Nat, k ≤ L.length ∧ L.length - k = kk ∧ i = .int .i64 k ∧ Hid (Below w5.heap.size w5 wr))
    case atStart => exact ⟨0, Nat.zero_le _, rfl, rfl, Lib.hid (Below.refl _ _)⟩
    case round =>
      obtain ⟨k, hk, hkk, rfl, HB⟩ := hrel
      by_cases hlt : k < L.length
      · have GR := GI.out.below HB.out
        have LR := LI.out.below HB.out
        obtain ⟨a5, k5, e5, _, _, rr⟩ := recSIn_shape GR
        simp at e5
        obtain ⟨rfl, hle5, rfl⟩ := e5
        clear hle5
        have hkS : k < (insAll L).length := by rw [EL.out]; exact hlt
        obtain ⟨b1, o1, rfl, q0, q1, q2, q3⟩ := rr.rec hkS
        have XB := Lib.hid (insAll_bd BD.out _ (List.getElem_mem hkS))
        have ADJ := Lib.hid (rank_adj hO.out (i := k - 1))
        obtain ⟨x, hx⟩ : ∃ x, (insAll L)[k] = x := ⟨_, rfl⟩
        have TG := Lib.hid (fun w' (hb : Below wr.heap.size wr w') => lawsTimesIn _ (insAll L) x w' (GR.below hb))
        have TL := Lib.hid (fun w' (hb : Below wr.heap.size wr w') => lawsTimesIn _ L x w' (LR.below hb))
        rw [times_rank] at TG
        obtain ⟨n, hn⟩ : ∃ n, timesB L x = n := ⟨_, rfl⟩
        rw [hn] at TG TL
        have hnn : ((n : Int) != (n : Int)) = false := by simp
        have HD := Lib.hid (below_drew (Below.refl wr.heap.size wr))
        have hk1 : (k : Int) < (L.length : Int) := by omega
        have hk0 : (0 : Int) ≤ (k : Int) := by omega
        rcases Nat.eq_zero_or_pos k with h0 | h0
        · have hkz : ¬ (0 : Int) < (k : Int) := by omega
          have hkd : decide ((0 : Int) < (k : Int)) = false := by simp; omega
          have hkn : ¬ 0 < k := by omega
          have hkd2 : decide (0 < k) = false := by simp; omega
          rw [hx] at q0 q1 q2 q3 XB
          obtain ⟨x0, x1, x2, x3⟩ := x
          simp only at q0 q1 q2 q3 TG TL
          have KS := Lib.hid (fun w' (hb : Below wr.heap.size wr w') => (show w'.cell? ⟨b1, o1 + k * 4, none⟩ = some (.bool x0) ∧ w'.cell? ⟨b1, o1 + k * 4 + 1, none⟩ = some (.int .i64 x1) ∧ w'.cell? ⟨b1, o1 + k * 4 + 2, none⟩ = some (.int .i64 x2) ∧ w'.cell? ⟨b1, o1 + k * 4 + 3, none⟩ = some (.string x3) from ⟨cell_keep q0 hb, cell_keep q1 hb, cell_keep q2 hb, cell_keep q3 hb⟩))
          clear q0 q1 q2 q3 GR LR rr ADJ hx hn h0
          go_upto_region 12 with fail
          refine wp_region_held_drew (S := (fun w' => w'.cell? ⟨b1, o1 + k * 4, none⟩ = some (.bool x0) ∧ w'.cell? ⟨b1, o1 + k * 4 + 1, none⟩ = some (.int .i64 x1) ∧ w'.cell? ⟨b1, o1 + k * 4 + 2, none⟩ = some (.int .i64 x2) ∧ w'.cell? ⟨b1, o1 + k * 4 + 3, none⟩ = some (.string x3))) (by kernel_rfl) (KS.out _ HD.out) (fun hHeld => ?_)
          refine wpAnyH_take (i := 0) (oi := ?op_0) (v := ?vp_0) ?hip_0 (by kernel_rfl) (by kernel_rfl) (by kernel_rfl) ?hqp_0 ?hyp_0 (by assumption) ?rp_0
          case hip_0 => (simp only [List.getElem?_toArray, List.getElem?_cons_succ, List.getElem?_cons_zero]; rfl)
          case hqp_0 => exact fun _ _ _ h => h
          case hyp_0 =>
            first
              | (refine Or.inl ⟨by rfl, ?_⟩; intro wq hSw; (try dsimp only at hSw); go_simp; (try with_reducible rfl); done)
              | (refine Or.inr ⟨by rfl, ?_⟩; with_reducible rfl)
          try simp only [Act.put, List.setIfInBounds_toArray, List.set_cons_zero, List.set_cons_succ]
          refine wpAnyH_take (i := 1) (oi := ?op_1) (v := ?vp_1) ?hip_1 (by kernel_rfl) (by kernel_rfl) (by kernel_rfl) ?hqp_1 ?hyp_1 (by assumption) ?rp_1
          case hip_1 => (simp only [List.getElem?_toArray, List.getElem?_cons_succ, List.getElem?_cons_zero]; rfl)
          case hqp_1 => exact fun _ _ _ h => h
          case hyp_1 =>
            first
              | (refine Or.inl ⟨by rfl, ?_⟩; intro wq hSw; (try dsimp only at hSw); go_simp; (try with_reducible rfl); done)
              | (refine Or.inr ⟨by rfl, ?_⟩; with_reducible rfl)
          try simp only [Act.put, List.setIfInBounds_toArray, List.set_cons_zero, List.set_cons_succ]
          refine wpAnyH_take (i := 2) (oi := ?op_2) (v := ?vp_2) ?hip_2 (by kernel_rfl) (by kernel_rfl) (by kernel_rfl) ?hqp_2 ?hyp_2 (by assumption) ?rp_2
          case hip_2 => (simp only [List.getElem?_toArray, List.getElem?_cons_succ, List.getElem?_cons_zero]; rfl)
          case hqp_2 => exact fun _ _ _ h => h
          case hyp_2 =>
            first
              | (refine Or.inl ⟨by rfl, ?_⟩; intro wq hSw; (try dsimp only at hSw); go_simp; (try with_reducible rfl); done)
              | (refine Or.inr ⟨by rfl, ?_⟩; with_reducible rfl)
          try simp only [Act.put, List.setIfInBounds_toArray, List.set_cons_zero, List.set_cons_succ]
          refine wpAnyH_take (i := 3) (oi := ?op_3) (v := ?vp_3) ?hip_3 (by kernel_rfl) (by kernel_rfl) (by kernel_rfl) ?hqp_3 ?hyp_3 (by assumption) ?rp_3
          case hip_3 => (simp only [List.getElem?_toArray, List.getElem?_cons_succ, List.getElem?_cons_zero]; rfl)
          case hqp_3 => exact fun _ _ _ h => h
          case hyp_3 =>
            first
              | (refine Or.inl ⟨by rfl, ?_⟩; intro wq hSw; (try dsimp only at hSw); go_simp; (try with_reducible rfl); done)
              | (refine Or.inr ⟨by rfl, ?_⟩; with_reducible rfl)
          try simp only [Act.put, List.setIfInBounds_toArray, List.set_cons_zero, List.set_cons_succ]
          refine wpAnyH_take (i := 4) (oi := ?op_4) (v := ?vp_4) ?hip_4 (by kernel_rfl) (by kernel_rfl) (by kernel_rfl) ?hqp_4 ?hyp_4 (by assumption) ?rp_4
          case hip_4 => (simp only [List.getElem?_toArray, List.getElem?_cons_succ, List.getElem?_cons_zero]; rfl)
          case hqp_4 => exact fun _ _ _ h => h
          case hyp_4 =>
            first
              | (refine Or.inl ⟨by rfl, ?_⟩; intro wq hSw; (try dsimp only at hSw); go_simp; (try with_reducible rfl); done)
              | (refine Or.inr ⟨by rfl, ?_⟩; with_reducible rfl)
          try simp only [Act.put, List.setIfInBounds_toArray, List.set_cons_zero, List.set_cons_succ]
          refine wpAnyH_take (i := 6) (oi := ?op_6) (v := ?vp_6) ?hip_6 (by kernel_rfl) (by kernel_rfl) (by kernel_rfl) ?hqp_6 ?hyp_6 (by assumption) ?rp_6
          case hip_6 => (simp only [List.getElem?_toArray, List.getElem?_cons_succ, List.getElem?_cons_zero]; rfl)
          case hqp_6 => exact fun _ _ _ h => h
          case hyp_6 =>
            first
              | (refine Or.inl ⟨by rfl, ?_⟩; intro wq hSw; (try dsimp only at hSw); go_simp; (try with_reducible rfl); done)
              | (refine Or.inr ⟨by rfl, ?_⟩; with_reducible rfl)
          try simp only [Act.put, List.setIfInBounds_toArray, List.set_cons_zero, List.set_cons_succ]
          refine wpAnyH_take (i := 7) (oi := ?op_7) (v := ?vp_7) ?hip_7 (by kernel_rfl) (by kernel_rfl) (by kernel_rfl) ?hqp_7 ?hyp_7 (by assumption) ?rp_7
          case hip_7 => (simp only [List.getElem?_toArray, List.getElem?_cons_succ, List.getElem?_cons_zero]; rfl)
          case hqp_7 => exact fun _ _ _ h => h
          case hyp_7 =>
            first
              | (refine Or.inl ⟨by rfl, ?_⟩; intro wq hSw; (try dsimp only at hSw); go_simp; (try with_reducible rfl); done)
              | (refine Or.inr ⟨by rfl, ?_⟩; with_reducible rfl)
          try simp only [Act.put, List.setIfInBounds_toArray, List.set_cons_zero, List.set_cons_succ]
          refine wpAnyH_take (i := 8) (oi := ?op_8) (v := ?vp_8) ?hip_8 (by kernel_rfl) (by kernel_rfl) (by kernel_rfl) ?hqp_8 ?hyp_8 (by assumption) ?rp_8
          case hip_8 => (simp only [List.getElem?_toArray, List.getElem?_cons_succ, List.getElem?_cons_zero]; rfl)
          case hqp_8 => exact fun _ _ _ h => h
          case hyp_8 =>
            first
              | (refine Or.inl ⟨by rfl, ?_⟩; intro wq hSw; (try dsimp only at hSw); go_simp; (try with_reducible rfl); done)
              | (refine Or.inr ⟨by rfl, ?_⟩; with_reducible rfl)
          try simp only [Act.put, List.setIfInBounds_toArray, List.set_cons_zero, List.set_cons_succ]
          refine wpAnyH_take (i := 9) (oi := ?op_9) (v := ?vp_9) ?hip_9 (by kernel_rfl) (by kernel_rfl) (by kernel_rfl) ?hqp_9 ?hyp_9 (by assumption) ?rp_9
          case hip_9 => (simp only [List.getElem?_toArray, List.getElem?_cons_succ, List.getElem?_cons_zero]; rfl)
          case hqp_9 => exact fun _ _ _ h => h
          case hyp_9 =>
            first
              | (refine Or.inl ⟨by rfl, ?_⟩; intro wq hSw; (try dsimp only at hSw); go_simp; (try with_reducible rfl); done)
              | (refine Or.inr ⟨by rfl, ?_⟩; with_reducible rfl)
          try simp only [Act.put, List.setIfInBounds_toArray, List.set_cons_zero, List.set_cons_succ]
          refine wpAnyH_take (i := 10) (oi := ?op_10) (v := ?vp_10) ?hip_10 (by kernel_rfl) (by kernel_rfl) (by kernel_rfl) ?hqp_10 ?hyp_10 (by assumption) ?rp_10
          case hip_10 => (simp only [List.getElem?_toArray, List.getElem?_cons_succ, List.getElem?_cons_zero]; rfl)
          case hqp_10 => exact fun _ _ _ h => h
          case hyp_10 =>
            first
              | (refine Or.inl ⟨by rfl, ?_⟩; intro wq hSw; (try dsimp only at hSw); go_simp; (try with_reducible rfl); done)
              | (refine Or.inr ⟨by rfl, ?_⟩; with_reducible rfl)
          try simp only [Act.put, List.setIfInBounds_toArray, List.set_cons_zero, List.set_cons_succ]
          refine wpAnyH_ready (rs := [5]) (by kernel_rfl) (by simp) ?_
          refine AllReadyH.cons (by simp only [List.getElem?_toArray, List.getElem?_cons_succ, List.getElem?_cons_zero]; rfl) (fun K hK => ?_) AllReadyH.nil
          go_simp
          go_at_call 15
          refine (TG.out _ HD.out).mono ?_
          rintro e wn ⟨rfl, hb⟩
          replace HD := Lib.hid (below_seq HD.out hb)
          clear hb
          refine hK.out _ _ (KS.out _ HD.out) (fun hHeld5 => ?_)
          clear hK K hHeld
          try simp only [Act.put, List.setIfInBounds_toArray, List.set_cons_zero, List.set_cons_succ]
          refine wpAnyH_ready (rs := [11]) (by kernel_rfl) (by simp) ?_
          refine AllReadyH.cons (by simp only [List.getElem?_toArray, List.getElem?_cons_succ, List.getElem?_cons_zero]; rfl) (fun K hK => ?_) AllReadyH.nil
          go_simp
          go_at_call 15
          refine (TL.out _ HD.out).mono ?_
          rintro e wn ⟨rfl, hb⟩
          replace HD := Lib.hid (below_seq HD.out hb)
          clear hb
          refine hK.out _ _ (KS.out _ HD.out) (fun hHeld11 => ?_)
          clear hK K hHeld5
          try simp only [Act.put, List.setIfInBounds_toArray, List.set_cons_zero, List.set_cons_succ]
          refine wpAnyH_take (i := 12) (oi := ?op_12) (v := ?vp_12) ?hip_12 (by kernel_rfl) (by kernel_rfl) (by kernel_rfl) ?hqp_12 ?hyp_12 (by assumption) ?rp_12
          case hip_12 => (simp only [List.getElem?_toArray, List.getElem?_cons_succ, List.getElem?_cons_zero]; rfl)
          case hqp_12 => exact fun _ _ _ h => h
          case hyp_12 =>
            first
              | (refine Or.inl ⟨by rfl, ?_⟩; intro wq hSw; (try dsimp only at hSw); go_simp; (try with_reducible rfl); done)
              | (refine Or.inr ⟨by rfl, ?_⟩; with_reducible rfl)
          try simp only [Act.put, List.setIfInBounds_toArray, List.set_cons_zero, List.set_cons_succ]
          refine wpAnyH_take (i := 13) (oi := ?op_13) (v := ?vp_13) ?hip_13 (by kernel_rfl) (by kernel_rfl) (by kernel_rfl) ?hqp_13 ?hyp_13 (by assumption) ?rp_13
          case hip_13 => (simp only [List.getElem?_toArray, List.getElem?_cons_succ, List.getElem?_cons_zero]; rfl)
          case hqp_13 => exact fun _ _ _ h => h
          case hyp_13 =>
            first
              | (refine Or.inl ⟨by rfl, ?_⟩; intro wq hSw; (try dsimp only at hSw); go_simp; (try with_reducible rfl); done)
              | (refine Or.inr ⟨by rfl, ?_⟩; with_reducible rfl)
          try simp only [Act.put, List.setIfInBounds_toArray, List.set_cons_zero, List.set_cons_succ]
          refine wpAnyH_take (i := 14) (oi := ?op_14) (v := ?vp_14) ?hip_14 (by kernel_rfl) (by kernel_rfl) (by kernel_rfl) ?hqp_14 ?hyp_14 (by assumption) ?rp_14
          case hip_14 => (simp only [List.getElem?_toArray, List.getElem?_cons_succ, List.getElem?_cons_zero]; rfl)
          case hqp_14 => exact fun _ _ _ h => h
          case hyp_14 =>
            first
              | (refine Or.inl ⟨by rfl, ?_⟩; intro wq hSw; (try dsimp only at hSw); go_simp; (try with_reducible rfl); done)
              | (refine Or.inr ⟨by rfl, ?_⟩; with_reducible rfl)
          try simp only [Act.put, List.setIfInBounds_toArray, List.set_cons_zero, List.set_cons_succ]
          refine wpAnyH_take (i := 15) (oi := ?op_15) (v := ?vp_15) ?hip_15 (by kernel_rfl) (by kernel_rfl) (by kernel_rfl) ?hqp_15 ?hyp_15 (by assumption) ?rp_15
          case hip_15 => (simp only [List.getElem?_toArray, List.getElem?_cons_succ, List.getElem?_cons_zero]; rfl)
          case hqp_15 => exact fun _ _ _ h => h
          case hyp_15 =>
            first
              | (refine Or.inl ⟨by rfl, ?_⟩; intro wq hSw; (try dsimp only at hSw); go_simp; (try with_reducible rfl); done)
              | (refine Or.inr ⟨by rfl, ?_⟩; with_reducible rfl)
          try simp only [Act.put, List.setIfInBounds_toArray, List.set_cons_zero, List.set_cons_succ]
          refine wpAnyH_take (i := 16) (oi := ?op_16) (v := ?vp_16) ?hip_16 (by kernel_rfl) (by kernel_rfl) (by kernel_rfl) ?hqp_16 ?hyp_16 (by assumption) ?rp_16
          case hip_16 => (simp only [List.getElem?_toArray, List.getElem?_cons_succ, List.getElem?_cons_zero]; rfl)
          case hqp_16 => exact fun _ _ _ h => h
          case hyp_16 =>
            first
              | (refine Or.inl ⟨by rfl, ?_⟩; intro wq hSw; (try dsimp only at hSw); go_simp; (try with_reducible rfl); done)
              | (refine Or.inr ⟨by rfl, ?_⟩; with_reducible rfl)
          try simp only [Act.put, List.setIfInBounds_toArray, List.set_cons_zero, List.set_cons_succ]
          refine wpAnyH_take (i := 17) (oi := ?op_17) (v := ?vp_17) ?hip_17 (by kernel_rfl) (by kernel_rfl) (by kernel_rfl) ?hqp_17 ?hyp_17 (by assumption) ?rp_17
          case hip_17 => (simp only [List.getElem?_toArray, List.getElem?_cons_succ, List.getElem?_cons_zero]; rfl)
          case hqp_17 => exact fun _ _ _ h => h
          case hyp_17 =>
            first
              | (refine Or.inl ⟨by rfl, ?_⟩; intro wq hSw; (try dsimp only at hSw); go_simp; (try with_reducible rfl); done)
              | (refine Or.inr ⟨by rfl, ?_⟩; with_reducible rfl)
          try simp only [Act.put, List.setIfInBounds_toArray, List.set_cons_zero, List.set_cons_succ]
          refine wpAnyH_take (i := 18) (oi := ?op_18) (v := ?vp_18) ?hip_18 (by kernel_rfl) (by kernel_rfl) (by kernel_rfl) ?hqp_18 ?hyp_18 (by assumption) ?rp_18
          case hip_18 => (simp only [List.getElem?_toArray, List.getElem?_cons_succ, List.getElem?_cons_zero]; rfl)
          case hqp_18 => exact fun _ _ _ h => h
          case hyp_18 =>
            first
              | (refine Or.inl ⟨by rfl, ?_⟩; intro wq hSw; (try dsimp only at hSw); go_simp; (try with_reducible rfl); done)
              | (refine Or.inr ⟨by rfl, ?_⟩; with_reducible rfl)
          try simp only [Act.put, List.setIfInBounds_toArray, List.set_cons_zero, List.set_cons_succ]
          refine wpAnyH_take (i := 19) (oi := ?op_19) (v := ?vp_19) ?hip_19 (by kernel_rfl) (by kernel_rfl) (by kernel_rfl) ?hqp_19 ?hyp_19 (by assumption) ?rp_19
          case hip_19 => (simp only [List.getElem?_toArray, List.getElem?_cons_succ, List.getElem?_cons_zero]; rfl)
          case hqp_19 => exact fun _ _ _ h => h
          case hyp_19 =>
            first
              | (refine Or.inl ⟨by rfl, ?_⟩; intro wq hSw; (try dsimp only at hSw); go_simp; (try with_reducible rfl); done)
              | (refine Or.inr ⟨by rfl, ?_⟩; with_reducible rfl)
          try simp only [Act.put, List.setIfInBounds_toArray, List.set_cons_zero, List.set_cons_succ]
          refine wpAnyH_take (i := 20) (oi := ?op_20) (v := ?vp_20) ?hip_20 (by kernel_rfl) (by kernel_rfl) (by kernel_rfl) ?hqp_20 ?hyp_20 (by assumption) ?rp_20
          case hip_20 => (simp only [List.getElem?_toArray, List.getElem?_cons_succ, List.getElem?_cons_zero]; rfl)
          case hqp_20 => exact fun _ _ _ h => h
          case hyp_20 =>
            first
              | (refine Or.inl ⟨by rfl, ?_⟩; intro wq hSw; (try dsimp only at hSw); go_simp; (try with_reducible rfl); done)
              | (refine Or.inr ⟨by rfl, ?_⟩; with_reducible rfl)
          try simp only [Act.put, List.setIfInBounds_toArray, List.set_cons_zero, List.set_cons_succ]
          refine wpAnyH_take (i := 21) (oi := ?op_21) (v := ?vp_21) ?hip_21 (by kernel_rfl) (by kernel_rfl) (by kernel_rfl) ?hqp_21 ?hyp_21 (by assumption) ?rp_21
          case hip_21 => (simp only [List.getElem?_toArray, List.getElem?_cons_succ, List.getElem?_cons_zero]; rfl)
          case hqp_21 => exact fun _ _ _ h => h
          case hyp_21 =>
            first
              | (refine Or.inl ⟨by rfl, ?_⟩; intro wq hSw; (try dsimp only at hSw); go_simp; (try with_reducible rfl); done)
              | (refine Or.inr ⟨by rfl, ?_⟩; with_reducible rfl)
          try simp only [Act.put, List.setIfInBounds_toArray, List.set_cons_zero, List.set_cons_succ]
          refine wpAnyH_take (i := 22) (oi := ?op_22) (v := ?vp_22) ?hip_22 (by kernel_rfl) (by kernel_rfl) (by kernel_rfl) ?hqp_22 ?hyp_22 (by assumption) ?rp_22
          case hip_22 => (simp only [List.getElem?_toArray, List.getElem?_cons_succ, List.getElem?_cons_zero]; rfl)
          case hqp_22 => exact fun _ _ _ h => h
          case hyp_22 =>
            first
              | (refine Or.inl ⟨by rfl, ?_⟩; intro wq hSw; (try dsimp only at hSw); go_simp; (try with_reducible rfl); done)
              | (refine Or.inr ⟨by rfl, ?_⟩; with_reducible rfl)
          try simp only [Act.put, List.setIfInBounds_toArray, List.set_cons_zero, List.set_cons_succ]
          refine wpAnyH_take (i := 23) (oi := ?op_23) (v := ?vp_23) ?hip_23 (by kernel_rfl) (by kernel_rfl) (by kernel_rfl) ?hqp_23 ?hyp_23 (by assumption) ?rp_23
          case hip_23 => (simp only [List.getElem?_toArray, List.getElem?_cons_succ, List.getElem?_cons_zero]; rfl)
          case hqp_23 => exact fun _ _ _ h => h
          case hyp_23 =>
            first
              | (refine Or.inl ⟨by rfl, ?_⟩; intro wq hSw; (try dsimp only at hSw); go_simp; (try with_reducible rfl); done)
              | (refine Or.inr ⟨by rfl, ?_⟩; with_reducible rfl)
          try simp only [Act.put, List.setIfInBounds_toArray, List.set_cons_zero, List.set_cons_succ]
          refine wpAnyH_take (i := 24) (oi := ?op_24) (v := ?vp_24) ?hip_24 (by kernel_rfl) (by kernel_rfl) (by kernel_rfl) ?hqp_24 ?hyp_24 (by assumption) ?rp_24
          case hip_24 => (simp only [List.getElem?_toArray, List.getElem?_cons_succ, List.getElem?_cons_zero]; rfl)
          case hqp_24 => exact fun _ _ _ h => h
          case hyp_24 =>
            first
              | (refine Or.inl ⟨by rfl, ?_⟩; intro wq hSw; (try dsimp only at hSw); go_simp; (try with_reducible rfl); done)
              | (refine Or.inr ⟨by rfl, ?_⟩; with_reducible rfl)
          try simp only [Act.put, List.setIfInBounds_toArray, List.set_cons_zero, List.set_cons_succ]
          refine wpAnyH_take (i := 25) (oi := ?op_25) (v := ?vp_25) ?hip_25 (by kernel_rfl) (by kernel_rfl) (by kernel_rfl) ?hqp_25 ?hyp_25 (by assumption) ?rp_25
          case hip_25 => (simp only [List.getElem?_toArray, List.getElem?_cons_succ, List.getElem?_cons_zero]; rfl)
          case hqp_25 => exact fun _ _ _ h => h
          case hyp_25 =>
            first
              | (refine Or.inl ⟨by rfl, ?_⟩; intro wq hSw; (try dsimp only at hSw); go_simp; (try with_reducible rfl); done)
              | (refine Or.inr ⟨by rfl, ?_⟩; with_reducible rfl)
          try simp only [Act.put, List.setIfInBounds_toArray, List.set_cons_zero, List.set_cons_succ]
          refine wpAnyH_take (i := 26) (oi := ?op_26) (v := ?vp_26) ?hip_26 (by kernel_rfl) (by kernel_rfl) (by kernel_rfl) ?hqp_26 ?hyp_26 (by assumption) ?rp_26
          case hip_26 => (simp only [List.getElem?_toArray, List.getElem?_cons_succ, List.getElem?_cons_zero]; rfl)
          case hqp_26 => exact fun _ _ _ h => h
          case hyp_26 =>
            first
              | (refine Or.inl ⟨by rfl, ?_⟩; intro wq hSw; (try dsimp only at hSw); go_simp; (try with_reducible rfl); done)
              | (refine Or.inr ⟨by rfl, ?_⟩; with_reducible rfl)
          try simp only [Act.put, List.setIfInBounds_toArray, List.set_cons_zero, List.set_cons_succ]
          refine wpAnyH_take (i := 27) (oi := ?op_27) (v := ?vp_27) ?hip_27 (by kernel_rfl) (by kernel_rfl) (by kernel_rfl) ?hqp_27 ?hyp_27 (by assumption) ?rp_27
          case hip_27 => (simp only [List.getElem?_toArray, List.getElem?_cons_succ, List.getElem?_cons_zero]; rfl)
          case hqp_27 => exact fun _ _ _ h => h
          case hyp_27 =>
            first
              | (refine Or.inl ⟨by rfl, ?_⟩; intro wq hSw; (try dsimp only at hSw); go_simp; (try with_reducible rfl); done)
              | (refine Or.inr ⟨by rfl, ?_⟩; with_reducible rfl)
          try simp only [Act.put, List.setIfInBounds_toArray, List.set_cons_zero, List.set_cons_succ]
          refine wpAnyH_take (i := 28) (oi := ?op_28) (v := ?vp_28) ?hip_28 (by kernel_rfl) (by kernel_rfl) (by kernel_rfl) ?hqp_28 ?hyp_28 (by assumption) ?rp_28
          case hip_28 => (simp only [List.getElem?_toArray, List.getElem?_cons_succ, List.getElem?_cons_zero]; rfl)
          case hqp_28 => exact fun _ _ _ h => h
          case hyp_28 =>
            first
              | (refine Or.inl ⟨by rfl, ?_⟩; intro wq hSw; (try dsimp only at hSw); go_simp; (try with_reducible rfl); done)
              | (refine Or.inr ⟨by rfl, ?_⟩; with_reducible rfl)
          try simp only [Act.put, List.setIfInBounds_toArray, List.set_cons_zero, List.set_cons_succ]
          refine wpAnyH_done (by kernel_rfl) ?_ _
          have B6 := Lib.hid (below_seq HB.out HD.out)
          clear KS HD TG TL
          go_wp2
          go_roundg (L.length - (k + 1))
          case measure => omega
          case rel => exact ⟨k + 1, by omega, rfl, by go_num, B6⟩
        · obtain ⟨p, hp⟩ : ∃ p, k = p + 1 := ⟨k - 1, by omega⟩
          have hpS : p < (insAll L).length := by rw [EL.out]; omega
          obtain ⟨b2, o2, e2, y0, y1, y2, y3⟩ := rr.rec hpS
          simp at e2
          obtain ⟨rfl, rfl⟩ := e2
          have YB := Lib.hid (insAll_bd BD.out _ (List.getElem_mem hpS))
          have hkz : (0 : Int) < (k : Int) := by omega
          have hkd : decide ((0 : Int) < (k : Int)) = true := by simp; omega
          have hkd2 : decide (0 < k) = true := by simp; omega
          have hw1 : IntKind.i64.wrap ((k : Int) - 1) = (p : Int) := by
            have := IntWalk.i64_in ((k : Int) - 1) (by omega)
            rw [this]; omega
          have hp0 : (0 : Int) ≤ (p : Int) := by omega
          have hp1 : (p : Int) < (L.length : Int) := by omega
          have AD : aheadB ((insAll L)[k]'hkS) ((insAll L)[p]'hpS) = false := by
            have h := rank_adj hO.out (i := p) (by rw [EL.out]; omega)
            have e : p + 1 = k := hp.symm
            simp only [e] at h
            exact h
          rw [hx] at AD q0 q1 q2 q3 XB
          obtain ⟨y, hy⟩ : ∃ y, (insAll L)[p] = y := ⟨_, rfl⟩
          rw [hy] at AD y0 y1 y2 y3 YB
          have AH := Lib.hid (fun w' => specRecAheadR x y w' XB.out.2.2 YB.out.2.2)
          rw [AD] at AH
          unfold RecM.cells at AH
          obtain ⟨x0, x1, x2, x3⟩ := x
          obtain ⟨z0, z1, z2, z3⟩ := y
          simp only at q0 q1 q2 q3 y0 y1 y2 y3 TG TL AH
          have KS := Lib.hid (fun w' (hb : Below wr.heap.size wr w') => (show w'.cell? ⟨b1, o1 + k * 4, none⟩ = some (.bool x0) ∧ w'.cell? ⟨b1, o1 + k * 4 + 1, none⟩ = some (.int .i64 x1) ∧ w'.cell? ⟨b1, o1 + k * 4 + 2, none⟩ = some (.int .i64 x2) ∧ w'.cell? ⟨b1, o1 + k * 4 + 3, none⟩ = some (.string x3) ∧ w'.cell? ⟨b1, o1 + p * 4, none⟩ = some (.bool z0) ∧ w'.cell? ⟨b1, o1 + p * 4 + 1, none⟩ = some (.int .i64 z1) ∧ w'.cell? ⟨b1, o1 + p * 4 + 2, none⟩ = some (.int .i64 z2) ∧ w'.cell? ⟨b1, o1 + p * 4 + 3, none⟩ = some (.string z3) from ⟨cell_keep q0 hb, cell_keep q1 hb, cell_keep q2 hb, cell_keep q3 hb, cell_keep y0 hb, cell_keep y1 hb, cell_keep y2 hb, cell_keep y3 hb⟩))
          clear q0 q1 q2 q3 y0 y1 y2 y3 GR LR rr ADJ AD hx hy hn h0 hp hkS hpS XB YB
          go_upto_region 12 with fail
          refine wp_region_held_drew (S := (fun w' => w'.cell? ⟨b1, o1 + k * 4, none⟩ = some (.bool x0) ∧ w'.cell? ⟨b1, o1 + k * 4 + 1, none⟩ = some (.int .i64 x1) ∧ w'.cell? ⟨b1, o1 + k * 4 + 2, none⟩ = some (.int .i64 x2) ∧ w'.cell? ⟨b1, o1 + k * 4 + 3, none⟩ = some (.string x3) ∧ w'.cell? ⟨b1, o1 + p * 4, none⟩ = some (.bool z0) ∧ w'.cell? ⟨b1, o1 + p * 4 + 1, none⟩ = some (.int .i64 z1) ∧ w'.cell? ⟨b1, o1 + p * 4 + 2, none⟩ = some (.int .i64 z2) ∧ w'.cell? ⟨b1, o1 + p * 4 + 3, none⟩ = some (.string z3))) (by kernel_rfl) (KS.out _ HD.out) (fun hHeld => ?_)
          refine wpAnyH_take (i := 0) (oi := ?os_0) (v := ?vs_0) ?his_0 (by kernel_rfl) (by kernel_rfl) (by kernel_rfl) ?hqs_0 ?hys_0 (by assumption) ?rs_0
          case his_0 => (simp only [List.getElem?_toArray, List.getElem?_cons_succ, List.getElem?_cons_zero]; rfl)
          case hqs_0 => exact fun _ _ _ h => h
          case hys_0 =>
            first
              | (refine Or.inl ⟨by rfl, ?_⟩; intro wq hSw; (try dsimp only at hSw); go_simp; (try with_reducible rfl); done)
              | (refine Or.inr ⟨by rfl, ?_⟩; with_reducible rfl)
          try simp only [Act.put, List.setIfInBounds_toArray, List.set_cons_zero, List.set_cons_succ]
          refine wpAnyH_take (i := 1) (oi := ?os_1) (v := ?vs_1) ?his_1 (by kernel_rfl) (by kernel_rfl) (by kernel_rfl) ?hqs_1 ?hys_1 (by assumption) ?rs_1
          case his_1 => (simp only [List.getElem?_toArray, List.getElem?_cons_succ, List.getElem?_cons_zero]; rfl)
          case hqs_1 => exact fun _ _ _ h => h
          case hys_1 =>
            first
              | (refine Or.inl ⟨by rfl, ?_⟩; intro wq hSw; (try dsimp only at hSw); go_simp; (try with_reducible rfl); done)
              | (refine Or.inr ⟨by rfl, ?_⟩; with_reducible rfl)
          try simp only [Act.put, List.setIfInBounds_toArray, List.set_cons_zero, List.set_cons_succ]
          refine wpAnyH_take (i := 2) (oi := ?os_2) (v := ?vs_2) ?his_2 (by kernel_rfl) (by kernel_rfl) (by kernel_rfl) ?hqs_2 ?hys_2 (by assumption) ?rs_2
          case his_2 => (simp only [List.getElem?_toArray, List.getElem?_cons_succ, List.getElem?_cons_zero]; rfl)
          case hqs_2 => exact fun _ _ _ h => h
          case hys_2 =>
            first
              | (refine Or.inl ⟨by rfl, ?_⟩; intro wq hSw; (try dsimp only at hSw); go_simp; (try with_reducible rfl); done)
              | (refine Or.inr ⟨by rfl, ?_⟩; with_reducible rfl)
          try simp only [Act.put, List.setIfInBounds_toArray, List.set_cons_zero, List.set_cons_succ]
          refine wpAnyH_take (i := 3) (oi := ?os_3) (v := ?vs_3) ?his_3 (by kernel_rfl) (by kernel_rfl) (by kernel_rfl) ?hqs_3 ?hys_3 (by assumption) ?rs_3
          case his_3 => (simp only [List.getElem?_toArray, List.getElem?_cons_succ, List.getElem?_cons_zero]; rfl)
          case hqs_3 => exact fun _ _ _ h => h
          case hys_3 =>
            first
              | (refine Or.inl ⟨by rfl, ?_⟩; intro wq hSw; (try dsimp only at hSw); go_simp; (try with_reducible rfl); done)
              | (refine Or.inr ⟨by rfl, ?_⟩; with_reducible rfl)
          try simp only [Act.put, List.setIfInBounds_toArray, List.set_cons_zero, List.set_cons_succ]
          refine wpAnyH_take (i := 4) (oi := ?os_4) (v := ?vs_4) ?his_4 (by kernel_rfl) (by kernel_rfl) (by kernel_rfl) ?hqs_4 ?hys_4 (by assumption) ?rs_4
          case his_4 => (simp only [List.getElem?_toArray, List.getElem?_cons_succ, List.getElem?_cons_zero]; rfl)
          case hqs_4 => exact fun _ _ _ h => h
          case hys_4 =>
            first
              | (refine Or.inl ⟨by rfl, ?_⟩; intro wq hSw; (try dsimp only at hSw); go_simp; (try with_reducible rfl); done)
              | (refine Or.inr ⟨by rfl, ?_⟩; with_reducible rfl)
          try simp only [Act.put, List.setIfInBounds_toArray, List.set_cons_zero, List.set_cons_succ]
          refine wpAnyH_take (i := 6) (oi := ?os_6) (v := ?vs_6) ?his_6 (by kernel_rfl) (by kernel_rfl) (by kernel_rfl) ?hqs_6 ?hys_6 (by assumption) ?rs_6
          case his_6 => (simp only [List.getElem?_toArray, List.getElem?_cons_succ, List.getElem?_cons_zero]; rfl)
          case hqs_6 => exact fun _ _ _ h => h
          case hys_6 =>
            first
              | (refine Or.inl ⟨by rfl, ?_⟩; intro wq hSw; (try dsimp only at hSw); go_simp; (try with_reducible rfl); done)
              | (refine Or.inr ⟨by rfl, ?_⟩; with_reducible rfl)
          try simp only [Act.put, List.setIfInBounds_toArray, List.set_cons_zero, List.set_cons_succ]
          refine wpAnyH_take (i := 7) (oi := ?os_7) (v := ?vs_7) ?his_7 (by kernel_rfl) (by kernel_rfl) (by kernel_rfl) ?hqs_7 ?hys_7 (by assumption) ?rs_7
          case his_7 => (simp only [List.getElem?_toArray, List.getElem?_cons_succ, List.getElem?_cons_zero]; rfl)
          case hqs_7 => exact fun _ _ _ h => h
          case hys_7 =>
            first
              | (refine Or.inl ⟨by rfl, ?_⟩; intro wq hSw; (try dsimp only at hSw); go_simp; (try with_reducible rfl); done)
              | (refine Or.inr ⟨by rfl, ?_⟩; with_reducible rfl)
          try simp only [Act.put, List.setIfInBounds_toArray, List.set_cons_zero, List.set_cons_succ]
          refine wpAnyH_take (i := 8) (oi := ?os_8) (v := ?vs_8) ?his_8 (by kernel_rfl) (by kernel_rfl) (by kernel_rfl) ?hqs_8 ?hys_8 (by assumption) ?rs_8
          case his_8 => (simp only [List.getElem?_toArray, List.getElem?_cons_succ, List.getElem?_cons_zero]; rfl)
          case hqs_8 => exact fun _ _ _ h => h
          case hys_8 =>
            first
              | (refine Or.inl ⟨by rfl, ?_⟩; intro wq hSw; (try dsimp only at hSw); go_simp; (try with_reducible rfl); done)
              | (refine Or.inr ⟨by rfl, ?_⟩; with_reducible rfl)
          try simp only [Act.put, List.setIfInBounds_toArray, List.set_cons_zero, List.set_cons_succ]
          refine wpAnyH_take (i := 9) (oi := ?os_9) (v := ?vs_9) ?his_9 (by kernel_rfl) (by kernel_rfl) (by kernel_rfl) ?hqs_9 ?hys_9 (by assumption) ?rs_9
          case his_9 => (simp only [List.getElem?_toArray, List.getElem?_cons_succ, List.getElem?_cons_zero]; rfl)
          case hqs_9 => exact fun _ _ _ h => h
          case hys_9 =>
            first
              | (refine Or.inl ⟨by rfl, ?_⟩; intro wq hSw; (try dsimp only at hSw); go_simp; (try with_reducible rfl); done)
              | (refine Or.inr ⟨by rfl, ?_⟩; with_reducible rfl)
          try simp only [Act.put, List.setIfInBounds_toArray, List.set_cons_zero, List.set_cons_succ]
          refine wpAnyH_take (i := 10) (oi := ?os_10) (v := ?vs_10) ?his_10 (by kernel_rfl) (by kernel_rfl) (by kernel_rfl) ?hqs_10 ?hys_10 (by assumption) ?rs_10
          case his_10 => (simp only [List.getElem?_toArray, List.getElem?_cons_succ, List.getElem?_cons_zero]; rfl)
          case hqs_10 => exact fun _ _ _ h => h
          case hys_10 =>
            first
              | (refine Or.inl ⟨by rfl, ?_⟩; intro wq hSw; (try dsimp only at hSw); go_simp; (try with_reducible rfl); done)
              | (refine Or.inr ⟨by rfl, ?_⟩; with_reducible rfl)
          try simp only [Act.put, List.setIfInBounds_toArray, List.set_cons_zero, List.set_cons_succ]
          refine wpAnyH_ready (rs := [5]) (by kernel_rfl) (by simp) ?_
          refine AllReadyH.cons (by simp only [List.getElem?_toArray, List.getElem?_cons_succ, List.getElem?_cons_zero]; rfl) (fun K hK => ?_) AllReadyH.nil
          go_simp
          go_at_call 15
          refine (TG.out _ HD.out).mono ?_
          rintro e wn ⟨rfl, hb⟩
          replace HD := Lib.hid (below_seq HD.out hb)
          clear hb
          refine hK.out _ _ (KS.out _ HD.out) (fun hHeld5 => ?_)
          clear hK K hHeld
          try simp only [Act.put, List.setIfInBounds_toArray, List.set_cons_zero, List.set_cons_succ]
          refine wpAnyH_ready (rs := [11]) (by kernel_rfl) (by simp) ?_
          refine AllReadyH.cons (by simp only [List.getElem?_toArray, List.getElem?_cons_succ, List.getElem?_cons_zero]; rfl) (fun K hK => ?_) AllReadyH.nil
          go_simp
          go_at_call 15
          refine (TL.out _ HD.out).mono ?_
          rintro e wn ⟨rfl, hb⟩
          replace HD := Lib.hid (below_seq HD.out hb)
          clear hb
          refine hK.out _ _ (KS.out _ HD.out) (fun hHeld11 => ?_)
          clear hK K hHeld5
          try simp only [Act.put, List.setIfInBounds_toArray, List.set_cons_zero, List.set_cons_succ]
          refine wpAnyH_take (i := 12) (oi := ?os_12) (v := ?vs_12) ?his_12 (by kernel_rfl) (by kernel_rfl) (by kernel_rfl) ?hqs_12 ?hys_12 (by assumption) ?rs_12
          case his_12 => (simp only [List.getElem?_toArray, List.getElem?_cons_succ, List.getElem?_cons_zero]; rfl)
          case hqs_12 => exact fun _ _ _ h => h
          case hys_12 =>
            first
              | (refine Or.inl ⟨by rfl, ?_⟩; intro wq hSw; (try dsimp only at hSw); go_simp; (try with_reducible rfl); done)
              | (refine Or.inr ⟨by rfl, ?_⟩; with_reducible rfl)
          try simp only [Act.put, List.setIfInBounds_toArray, List.set_cons_zero, List.set_cons_succ]
          refine wpAnyH_take (i := 13) (oi := ?os_13) (v := ?vs_13) ?his_13 (by kernel_rfl) (by kernel_rfl) (by kernel_rfl) ?hqs_13 ?hys_13 (by assumption) ?rs_13
          case his_13 => (simp only [List.getElem?_toArray, List.getElem?_cons_succ, List.getElem?_cons_zero]; rfl)
          case hqs_13 => exact fun _ _ _ h => h
          case hys_13 =>
            first
              | (refine Or.inl ⟨by rfl, ?_⟩; intro wq hSw; (try dsimp only at hSw); go_simp; (try with_reducible rfl); done)
              | (refine Or.inr ⟨by rfl, ?_⟩; with_reducible rfl)
          try simp only [Act.put, List.setIfInBounds_toArray, List.set_cons_zero, List.set_cons_succ]
          refine wpAnyH_take (i := 14) (oi := ?os_14) (v := ?vs_14) ?his_14 (by kernel_rfl) (by kernel_rfl) (by kernel_rfl) ?hqs_14 ?hys_14 (by assumption) ?rs_14
          case his_14 => (simp only [List.getElem?_toArray, List.getElem?_cons_succ, List.getElem?_cons_zero]; rfl)
          case hqs_14 => exact fun _ _ _ h => h
          case hys_14 =>
            first
              | (refine Or.inl ⟨by rfl, ?_⟩; intro wq hSw; (try dsimp only at hSw); go_simp; (try with_reducible rfl); done)
              | (refine Or.inr ⟨by rfl, ?_⟩; with_reducible rfl)
          try simp only [Act.put, List.setIfInBounds_toArray, List.set_cons_zero, List.set_cons_succ]
          refine wpAnyH_take (i := 15) (oi := ?os_15) (v := ?vs_15) ?his_15 (by kernel_rfl) (by kernel_rfl) (by kernel_rfl) ?hqs_15 ?hys_15 (by assumption) ?rs_15
          case his_15 => (simp only [List.getElem?_toArray, List.getElem?_cons_succ, List.getElem?_cons_zero]; rfl)
          case hqs_15 => exact fun _ _ _ h => h
          case hys_15 =>
            first
              | (refine Or.inl ⟨by rfl, ?_⟩; intro wq hSw; (try dsimp only at hSw); go_simp; (try with_reducible rfl); done)
              | (refine Or.inr ⟨by rfl, ?_⟩; with_reducible rfl)
          try simp only [Act.put, List.setIfInBounds_toArray, List.set_cons_zero, List.set_cons_succ]
          refine wpAnyH_take (i := 16) (oi := ?os_16) (v := ?vs_16) ?his_16 (by kernel_rfl) (by kernel_rfl) (by kernel_rfl) ?hqs_16 ?hys_16 (by assumption) ?rs_16
          case his_16 => (simp only [List.getElem?_toArray, List.getElem?_cons_succ, List.getElem?_cons_zero]; rfl)
          case hqs_16 => exact fun _ _ _ h => h
          case hys_16 =>
            first
              | (refine Or.inl ⟨by rfl, ?_⟩; intro wq hSw; (try dsimp only at hSw); go_simp; (try with_reducible rfl); done)
              | (refine Or.inr ⟨by rfl, ?_⟩; with_reducible rfl)
          try simp only [Act.put, List.setIfInBounds_toArray, List.set_cons_zero, List.set_cons_succ]
          refine wpAnyH_take (i := 17) (oi := ?os_17) (v := ?vs_17) ?his_17 (by kernel_rfl) (by kernel_rfl) (by kernel_rfl) ?hqs_17 ?hys_17 (by assumption) ?rs_17
          case his_17 => (simp only [List.getElem?_toArray, List.getElem?_cons_succ, List.getElem?_cons_zero]; rfl)
          case hqs_17 => exact fun _ _ _ h => h
          case hys_17 =>
            first
              | (refine Or.inl ⟨by rfl, ?_⟩; intro wq hSw; (try dsimp only at hSw); go_simp; (try with_reducible rfl); done)
              | (refine Or.inr ⟨by rfl, ?_⟩; with_reducible rfl)
          try simp only [Act.put, List.setIfInBounds_toArray, List.set_cons_zero, List.set_cons_succ]
          refine wpAnyH_take (i := 18) (oi := ?os_18) (v := ?vs_18) ?his_18 (by kernel_rfl) (by kernel_rfl) (by kernel_rfl) ?hqs_18 ?hys_18 (by assumption) ?rs_18
          case his_18 => (simp only [List.getElem?_toArray, List.getElem?_cons_succ, List.getElem?_cons_zero]; rfl)
          case hqs_18 => exact fun _ _ _ h => h
          case hys_18 =>
            first
              | (refine Or.inl ⟨by rfl, ?_⟩; intro wq hSw; (try dsimp only at hSw); go_simp; (try with_reducible rfl); done)
              | (refine Or.inr ⟨by rfl, ?_⟩; with_reducible rfl)
          try simp only [Act.put, List.setIfInBounds_toArray, List.set_cons_zero, List.set_cons_succ]
          refine wpAnyH_take (i := 19) (oi := ?os_19) (v := ?vs_19) ?his_19 (by kernel_rfl) (by kernel_rfl) (by kernel_rfl) ?hqs_19 ?hys_19 (by assumption) ?rs_19
          case his_19 => (simp only [List.getElem?_toArray, List.getElem?_cons_succ, List.getElem?_cons_zero]; rfl)
          case hqs_19 => exact fun _ _ _ h => h
          case hys_19 =>
            first
              | (refine Or.inl ⟨by rfl, ?_⟩; intro wq hSw; (try dsimp only at hSw); go_simp; (try with_reducible rfl); done)
              | (refine Or.inr ⟨by rfl, ?_⟩; with_reducible rfl)
          try simp only [Act.put, List.setIfInBounds_toArray, List.set_cons_zero, List.set_cons_succ]
          refine wpAnyH_take (i := 20) (oi := ?os_20) (v := ?vs_20) ?his_20 (by kernel_rfl) (by kernel_rfl) (by kernel_rfl) ?hqs_20 ?hys_20 (by assumption) ?rs_20
          case his_20 => (simp only [List.getElem?_toArray, List.getElem?_cons_succ, List.getElem?_cons_zero]; rfl)
          case hqs_20 => exact fun _ _ _ h => h
          case hys_20 =>
            first
              | (refine Or.inl ⟨by rfl, ?_⟩; intro wq hSw; (try dsimp only at hSw); go_simp; (try with_reducible rfl); done)
              | (refine Or.inr ⟨by rfl, ?_⟩; with_reducible rfl)
          try simp only [Act.put, List.setIfInBounds_toArray, List.set_cons_zero, List.set_cons_succ]
          refine wpAnyH_take (i := 21) (oi := ?os_21) (v := ?vs_21) ?his_21 (by kernel_rfl) (by kernel_rfl) (by kernel_rfl) ?hqs_21 ?hys_21 (by assumption) ?rs_21
          case his_21 => (simp only [List.getElem?_toArray, List.getElem?_cons_succ, List.getElem?_cons_zero]; rfl)
          case hqs_21 => exact fun _ _ _ h => h
          case hys_21 =>
            first
              | (refine Or.inl ⟨by rfl, ?_⟩; intro wq hSw; (try dsimp only at hSw); go_simp; (try with_reducible rfl); done)
              | (refine Or.inr ⟨by rfl, ?_⟩; with_reducible rfl)
          try simp only [Act.put, List.setIfInBounds_toArray, List.set_cons_zero, List.set_cons_succ]
          refine wpAnyH_take (i := 22) (oi := ?os_22) (v := ?vs_22) ?his_22 (by kernel_rfl) (by kernel_rfl) (by kernel_rfl) ?hqs_22 ?hys_22 (by assumption) ?rs_22
          case his_22 => (simp only [List.getElem?_toArray, List.getElem?_cons_succ, List.getElem?_cons_zero]; rfl)
          case hqs_22 => exact fun _ _ _ h => h
          case hys_22 =>
            first
              | (refine Or.inl ⟨by rfl, ?_⟩; intro wq hSw; (try dsimp only at hSw); go_simp; (try with_reducible rfl); done)
              | (refine Or.inr ⟨by rfl, ?_⟩; with_reducible rfl)
          try simp only [Act.put, List.setIfInBounds_toArray, List.set_cons_zero, List.set_cons_succ]
          refine wpAnyH_take (i := 23) (oi := ?os_23) (v := ?vs_23) ?his_23 (by kernel_rfl) (by kernel_rfl) (by kernel_rfl) ?hqs_23 ?hys_23 (by assumption) ?rs_23
          case his_23 => (simp only [List.getElem?_toArray, List.getElem?_cons_succ, List.getElem?_cons_zero]; rfl)
          case hqs_23 => exact fun _ _ _ h => h
          case hys_23 =>
            first
              | (refine Or.inl ⟨by rfl, ?_⟩; intro wq hSw; (try dsimp only at hSw); go_simp; (try with_reducible rfl); done)
              | (refine Or.inr ⟨by rfl, ?_⟩; with_reducible rfl)
          try simp only [Act.put, List.setIfInBounds_toArray, List.set_cons_zero, List.set_cons_succ]
          refine wpAnyH_take (i := 24) (oi := ?os_24) (v := ?vs_24) ?his_24 (by kernel_rfl) (by kernel_rfl) (by kernel_rfl) ?hqs_24 ?hys_24 (by assumption) ?rs_24
          case his_24 => (simp only [List.getElem?_toArray, List.getElem?_cons_succ, List.getElem?_cons_zero]; rfl)
          case hqs_24 => exact fun _ _ _ h => h
          case hys_24 =>
            first
              | (refine Or.inl ⟨by rfl, ?_⟩; intro wq hSw; (try dsimp only at hSw); go_simp; (try with_reducible rfl); done)
              | (refine Or.inr ⟨by rfl, ?_⟩; with_reducible rfl)
          try simp only [Act.put, List.setIfInBounds_toArray, List.set_cons_zero, List.set_cons_succ]
          refine wpAnyH_take (i := 25) (oi := ?os_25) (v := ?vs_25) ?his_25 (by kernel_rfl) (by kernel_rfl) (by kernel_rfl) ?hqs_25 ?hys_25 (by assumption) ?rs_25
          case his_25 => (simp only [List.getElem?_toArray, List.getElem?_cons_succ, List.getElem?_cons_zero]; rfl)
          case hqs_25 => exact fun _ _ _ h => h
          case hys_25 =>
            first
              | (refine Or.inl ⟨by rfl, ?_⟩; intro wq hSw; (try dsimp only at hSw); go_simp; (try with_reducible rfl); done)
              | (refine Or.inr ⟨by rfl, ?_⟩; with_reducible rfl)
          try simp only [Act.put, List.setIfInBounds_toArray, List.set_cons_zero, List.set_cons_succ]
          refine wpAnyH_ready (rs := [26]) (by kernel_rfl) (by simp) ?_
          refine AllReadyH.cons (by simp only [List.getElem?_toArray, List.getElem?_cons_succ, List.getElem?_cons_zero]; rfl) (fun K hK => ?_) AllReadyH.nil
          go_simp
          go_at_call 16
          refine (AH.out _).mono ?_
          rintro e wn ⟨rfl, hb⟩
          replace HD := Lib.hid (below_seq HD.out hb)
          clear hb
          refine hK.out _ _ (KS.out _ HD.out) (fun hHeld26 => ?_)
          clear hK K hHeld11
          try simp only [Act.put, List.setIfInBounds_toArray, List.set_cons_zero, List.set_cons_succ]
          refine wpAnyH_take (i := 27) (oi := ?os_27) (v := ?vs_27) ?his_27 (by kernel_rfl) (by kernel_rfl) (by kernel_rfl) ?hqs_27 ?hys_27 (by assumption) ?rs_27
          case his_27 => (simp only [List.getElem?_toArray, List.getElem?_cons_succ, List.getElem?_cons_zero]; rfl)
          case hqs_27 => exact fun _ _ _ h => h
          case hys_27 =>
            first
              | (refine Or.inl ⟨by rfl, ?_⟩; intro wq hSw; (try dsimp only at hSw); go_simp; (try with_reducible rfl); done)
              | (refine Or.inr ⟨by rfl, ?_⟩; with_reducible rfl)
          try simp only [Act.put, List.setIfInBounds_toArray, List.set_cons_zero, List.set_cons_succ]
          refine wpAnyH_take (i := 28) (oi := ?os_28) (v := ?vs_28) ?his_28 (by kernel_rfl) (by kernel_rfl) (by kernel_rfl) ?hqs_28 ?hys_28 (by assumption) ?rs_28
          case his_28 => (simp only [List.getElem?_toArray, List.getElem?_cons_succ, List.getElem?_cons_zero]; rfl)
          case hqs_28 => exact fun _ _ _ h => h
          case hys_28 =>
            first
              | (refine Or.inl ⟨by rfl, ?_⟩; intro wq hSw; (try dsimp only at hSw); go_simp; (try with_reducible rfl); done)
              | (refine Or.inr ⟨by rfl, ?_⟩; with_reducible rfl)
          try simp only [Act.put, List.setIfInBounds_toArray, List.set_cons_zero, List.set_cons_succ]
          refine wpAnyH_done (by kernel_rfl) ?_ _
          have B6 := Lib.hid (below_seq HB.out HD.out)
          clear KS HD TG TL AH hw1
          go_wp2
          go_roundg (L.length - (k + 1))
          case measure => omega
          case rel => exact ⟨k + 1, by omega, rfl, by go_num, B6⟩
      · have ek : k = L.length := by omega
        subst ek
        have LW := Lib.hid (LI.out.below HB.out)
        have GW := Lib.hid (GI.out.below HB.out)
        have B6 := Lib.hid (below_seq B5.out HB.out)
        obtain ⟨WR, hWR⟩ : ∃ WR, WR = wr := ⟨_, rfl⟩
        rw [← hWR] at LW GW B6 ⊢
        clear hWR HB LI GI B5 hnB
        have RS := Lib.hid (fun w' => uImplRankSize (L.length : Int) w' (by omega))
        have RT := Lib.hid (fun w' => uImplRankSteps (L.length : Int) w' (by omega))
        have RTE := Lib.hid (show rankStepsZ (L.length : Int) = ((bitonicM (rankSizeZ (L.length : Int))).ws.length : Int) by unfold rankStepsZ; rw [if_neg (by omega)])
        rw [RTE.out] at RT
        rw [rankSizeZ_at hL64] at RS RT
        have htwo := Lib.hid (size_two hL64)
        have hzs := sizeUp_le hL64
        obtain ⟨z, hz⟩ : ∃ z, sizeUp L.length = z := ⟨_, rfl⟩
        rw [hz] at RS RT htwo hzs
        clear hz RTE
        have hz1 : L.length ≤ z := hzs.1
        have hz64 : z ≤ 64 := hzs.2.1
        clear hzs
        go_wp2_with fail
        refine (RS.out _).mono ?_
        rintro e w7 ⟨rfl, hb⟩
        replace LW := Lib.hid (LW.out.below hb)
        replace GW := Lib.hid (GW.out.below hb)
        have B7 := Lib.hid (below_seq B6.out hb)
        clear hb B6 RS
        obtain ⟨a7, c7, e7, _, _, rL⟩ := recSIn_shape LW.out
        simp at e7
        obtain ⟨rfl, rfl⟩ := e7
        have RA := Lib.hid (rL.below (below_box (Below.refl _ w7) (.cells #[] 30)))
        clear rL
        go_wp2_with (at_builtin; go_must (refine wp_app_rowS rfl _ _ 24 rfl 30 _ 4 40 Try.underlying24 Try.infoRec rfl (by omega) w7.heap.size 0 (.slice (some ⟨w7.heap.size, 0, none⟩) 0 0) [] (by rfl) (World.ownsRow_made w7 #[] 0 (Nat.le_refl _) (by unfold maxLen; omega) rfl) _ L.length _ (flatG recL L) (by rfl) (flatG_len recL_len L) RA.out (flatG_one recL_one _) (by unfold maxLen; omega) (by omega) (by simp) ?_); intro v8 w8 ho8 hg8)
        rw [Nat.zero_add, List.nil_append] at ho8
        obtain ⟨a8, c8, rfl⟩ := own_shape ho8
        have hb8 := (below_box (Below.refl w7.heap.size w7) (.cells #[] 30)).grown hg8 (by simp) (fun g hg => (by cases hg; exact Nat.le_refl _))
        have S1 := Lib.hid (show w8.ownsRow w7.heap.size 30 4 (.slice a8 L.length c8) L.length (flatG recL (L ++ List.replicate (L.length - L.length) zeroR)) ∧ Below w7.heap.size w7 w8 from ⟨by rw [Nat.sub_self, List.replicate_zero, List.append_nil]; exact ho8, hb8⟩)
        clear ho8 hg8 hb8 RA
        go_wp2_with fail
        go_loopg [7] (z - L.length) (fun kk o wq => ∃ (j cq : Nat) (aq : Option Addr), L.length ≤ j ∧ j ≤ z ∧ z - j = kk ∧ o = .slice aq j cq ∧ Hid (wq.ownsRow w7.heap.size 30 4 (.slice aq j cq) j (flatG recL (L ++ List.replicate (j - L.length) zeroR)) ∧ Below w7.heap.size w7 wq))
        case atStart => exact ⟨L.length, c8, a8, Nat.le_refl _, hz1, rfl, rfl, S1⟩
        case round =>
          clear S1
          obtain ⟨j, cq, aq, hjL, hjz, hjk, rfl, HO⟩ := hrel
          by_cases hjl : j < z
          · have hsz := HO.out.2.size
            have hjI : (j : Int) < (z : Int) := by omega
            go_wp2_with (at_builtin; go_must (refine wp_app_rowS rfl _ _ 24 rfl 30 _ 4 40 Try.underlying24 Try.infoRec rfl (by omega) w7.heap.size j (.slice aq j cq) _ (by rfl) (HO.out.1.alloc _) (some ⟨_, 0, none⟩) 1 1 (recL zeroR) (by rfl) rfl (lit_rec _ zeroR) (recL_one _) (by unfold maxLen; omega) (by omega) (by simp; omega) ?_); intro v' w9 hown hgr)
            obtain ⟨a', c', rfl⟩ := own_shape hown
            have e1 : j + 1 - L.length = (j - L.length) + 1 := by omega
            have Z := Lib.hid (And.intro (show w9.ownsRow w7.heap.size 30 4 (.slice a' (j + 1) c') (j + 1) (flatG recL (L ++ List.replicate (j + 1 - L.length) zeroR)) by rw [e1, List.replicate_succ', ← List.append_assoc, flatG_app, flatG_one1]; exact hown) (HO.out.2.trans (app_low4 hsz HO.out.1 _ hgr)))
            clear hown hgr HO e1 hjI
            go_wp2
            go_roundg (z - (j + 1))
            case measure => omega
            case rel => exact ⟨j + 1, c', a', by omega, by omega, rfl, rfl, Z⟩
          · have ej : j = z := by omega
            subst ej
            have LL : (L ++ List.replicate (j - L.length) zeroR).length = j := by simp; omega
            have LN := Lib.hid (show RecSIn [.slice aq j cq] (L ++ List.replicate (j - L.length) zeroR) wr from ⟨aq, cq, by rw [LL], by rw [LL]; exact own_cap HO.out.1, by rw [LL]; unfold maxLen; omega, Row.of_own HO.out.1⟩)
            have BD2 := Lib.hid (show ∀ t ∈ L ++ List.replicate (j - L.length) zeroR, recBd t from fun t ht => by
              rcases List.mem_append.1 ht with h | h
              · exact BD.out t h
              · rw [(List.mem_replicate.1 h).2]; exact recBd_zero)
            have OK2 : recsOkB (L ++ List.replicate (j - L.length) zeroR) = true := by
              rw [recsOkB_at (by rw [LL]; exact hz64), List.all_eq_true]
              intro t ht
              rcases List.mem_append.1 ht with h | h
              · exact hO.out t h
              · rw [(List.mem_replicate.1 h).2]; rfl
            have LW2 := Lib.hid (LW.out.below HO.out.2)
            have GW2 := Lib.hid (GW.out.below HO.out.2)
            have B8 := Lib.hid (below_seq B7.out HO.out.2)
            have GA := bitonic_good htwo.out
            have GB := oddEven_good htwo.out
            have TA := Lib.hid (net_take GA hz1 hO.out)
            have TB := Lib.hid (net_take GB hz1 hO.out)
            have MA := Lib.hid (show rankByM (bitonicM j) (L ++ List.replicate (j - L.length) zeroR) = runRm (bitonicM j).ws (L ++ List.replicate (j - L.length) zeroR) by unfold rankByM rankByB; rw [if_pos (by rw [GA.ok, OK2, GA.size, LL]; simp)])
            have MB := Lib.hid (show rankByM (oddEvenM j) (L ++ List.replicate (j - L.length) zeroR) = runRm (oddEvenM j).ws (L ++ List.replicate (j - L.length) zeroR) by unfold rankByM rankByB; rw [if_pos (by rw [GB.ok, OK2, GB.size, LL]; simp)])
            have CA := Lib.hid (fun w' => uImplBitonic (j : Int) w' (by omega))
            have CB := Lib.hid (fun w' => uImplOddEven (j : Int) w' (by omega))
            have DA := Lib.hid (show (runRm (bitonicM j).ws (L ++ List.replicate (j - L.length) zeroR)).length = j by rw [runRm_length, LL])
            have DB := Lib.hid (show (runRm (oddEvenM j).ws (L ++ List.replicate (j - L.length) zeroR)).length = j by rw [runRm_length, LL])
            clear HO LW GW B7 GA GB htwo OK2 LL
            obtain ⟨LG, hLG⟩ : ∃ LG, L ++ List.replicate (j - L.length) zeroR = LG := ⟨_, rfl⟩
            rw [hLG] at LN BD2 TA TB MA MB DA DB
            clear hLG
            obtain ⟨NA, hNA⟩ : ∃ NA, bitonicM (j : Int) = NA := ⟨_, rfl⟩
            rw [hNA] at TA MA CA DA RT
            obtain ⟨NO, hNO⟩ : ∃ NO, oddEvenM (j : Int) = NO := ⟨_, rfl⟩
            rw [hNO] at TB MB CB DB
            clear hNA hNO
            obtain ⟨QA, hQA⟩ : ∃ QA, runRm NA.ws LG = QA := ⟨_, rfl⟩
            rw [hQA] at TA MA DA
            obtain ⟨QB, hQB⟩ : ∃ QB, runRm NO.ws LG = QB := ⟨_, rfl⟩
            rw [hQB] at TB MB DB
            clear hQA hQB
            -- a := RankBy(Bitonic(size), long)
            go_wp2_with fail
            refine (CA.out _).mono ?_
            rintro e w10 ⟨c0, c1, rfl, ho, hb⟩
            have N10 := Lib.hid ho.read
            replace LN := Lib.hid (LN.out.below hb)
            replace LW2 := Lib.hid (LW2.out.below hb)
            replace GW2 := Lib.hid (GW2.out.below hb)
            replace B8 := Lib.hid (below_seq B8.out hb)
            clear ho hb
            go_wp2_with fail
            refine (uImplRankBy c0 c1 NA _ LG w10 N10.out LN.out BD2.out).mono ?_
            rintro e w11 ⟨c11, rfl, ho, hb⟩
            rw [MA.out] at ho
            have A11 := Lib.hid ho.read
            replace LN := Lib.hid (LN.out.below hb)
            replace LW2 := Lib.hid (LW2.out.below hb)
            replace GW2 := Lib.hid (GW2.out.below hb)
            replace B8 := Lib.hid (below_seq B8.out hb)
            clear ho hb N10 MA
            go_wp2_with fail
            refine (CB.out _).mono ?_
            rintro e w12 ⟨d0, d1, rfl, ho, hb⟩
            have N12 := Lib.hid ho.read
            replace LN := Lib.hid (LN.out.below hb)
            replace LW2 := Lib.hid (LW2.out.below hb)
            replace GW2 := Lib.hid (GW2.out.below hb)
            replace A11 := Lib.hid (A11.out.below hb)
            replace B8 := Lib.hid (below_seq B8.out hb)
            clear ho hb CB
            go_wp2_with fail
            refine (uImplRankBy d0 d1 NO _ LG w12 N12.out LN.out BD2.out).mono ?_
            rintro e w13 ⟨c13, rfl, ho, hb⟩
            rw [MB.out] at ho
            have A13 := Lib.hid ho.read
            replace LW2 := Lib.hid (LW2.out.below hb)
            replace GW2 := Lib.hid (GW2.out.below hb)
            replace A11 := Lib.hid (A11.out.below hb)
            replace B8 := Lib.hid (below_seq B8.out hb)
            clear ho hb N12 MB LN BD2
            obtain ⟨aA, kA, rfl, hkA, _, rA⟩ := recSIn_shape A11.out
            obtain ⟨aB, kB, rfl, hkB, _, rB⟩ := recSIn_shape A13.out
            rw [DA.out] at hkA ⊢
            rw [DB.out] at hkB ⊢
            have SA := Lib.hid (show RecSIn [.slice aA L.length kA] (insAll L) w13 from ⟨aA, kA, by rw [EL.out], by rw [EL.out]; omega, by rw [EL.out]; unfold maxLen; omega, by rw [← TA.out]; exact row_head rA L.length (by rw [DA.out]; omega)⟩)
            have SB := Lib.hid (show RecSIn [.slice aB L.length kB] (insAll L) w13 from ⟨aB, kB, by rw [EL.out], by rw [EL.out]; omega, by rw [EL.out]; unfold maxLen; omega, by rw [← TB.out]; exact row_head rB L.length (by rw [DB.out]; omega)⟩)
            have hLkA : L.length ≤ kA := by omega
            have hLkB : L.length ≤ kB := by omega
            have hjj : ((j : Int) != (j : Int)) = false := by simp
            have hlt0 : decide ((j : Int) < (L.length : Int)) = false := by simp; omega
            have hlt1 : ¬ (j : Int) < (L.length : Int) := by omega
            clear rA rB A11 A13 TA TB DA DB
            go_wp2_with fail
            refine (lawsSameRecs _ _ (insAll L) _ SA.out GW2.out).mono ?_
            rintro e w14 ⟨rfl, hb⟩
            replace SB := Lib.hid (SB.out.below hb)
            replace GW2 := Lib.hid (GW2.out.below hb)
            replace B8 := Lib.hid (below_seq B8.out hb)
            clear hb SA
            go_wp2_with fail
            refine (lawsSameRecs _ _ (insAll L) _ SB.out GW2.out).mono ?_
            rintro e w15 ⟨rfl, hb⟩
            replace B8 := Lib.hid (below_seq B8.out hb)
            clear hb SB GW2
            go_wp2_with fail
            refine (RT.out _).mono ?_
            rintro e w16 ⟨rfl, hb⟩
            replace B8 := Lib.hid (below_seq B8.out hb)
            clear hb RT
            go_wp2_with fail
            refine (CA.out _).mono ?_
            rintro e w17 ⟨e0, e1, rfl, ho, hb⟩
            obtain ⟨aE, kE, rfl, rfl, _⟩ := netIn_cells ho.read
            replace B8 := Lib.hid (below_seq B8.out hb)
            clear hb ho CA
            go_wp2_with fail
            rw [net_field]
            simp only [Result.andThen]
            rw [Oper.upon_value]
            go_wp2
            go_ret
            exact ⟨ret_bool (by simp), B8.out⟩
end Go.Proofs.Ytaedamnhobcdlaa.fnRanked
end
