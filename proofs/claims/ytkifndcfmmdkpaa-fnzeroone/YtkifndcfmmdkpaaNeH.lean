/- NetFault, NetSorts in the model. -/
import Derived.Test.YtkifndcfmmdkpaaNeF
namespace Go.Proofs.Ytkifndcfmmdkpaa
open Go.RowKit
set_option linter.unusedVariables false
set_option maxRecDepth 100000

/-- The digits from place j on, zeros ahead of them. -/
def digB (k n j : Nat) : Nat → Int := fun i => if j ≤ i then ((digN k n i : Nat) : Int) else 0
theorem digB_top (k n : Nat) : ∀ i, i < n → digB k n n i = 0 := fun i hi => by unfold digB; rw [if_neg (by omega)]
theorem digB_pred (k n j : Nat) : upd (digB k n (j + 1)) j ((digN k n j : Nat) : Int) = digB k n j := by
  funext i
  unfold upd digB
  by_cases e : i = j
  · subst e; simp
  · rw [if_neg e]
    by_cases h : j + 1 ≤ i
    · rw [if_pos h, if_pos (by omega)]
    · rw [if_neg h, if_neg (by omega)]
theorem digB_list (k n : Nat) : (List.range n).map (fun j => Value.int .i64 (digB k n 0 j)) = (digitsM k n).map ival := by
  unfold digitsM
  rw [List.map_map]
  apply List.map_congr_left
  intro j hj
  simp [digB, ival]
theorem dig_rest (k n j : Nat) (h : j < n) : k / 2 ^ (n - 1 - j) % 2 = digN k n j ∧ k / 2 ^ (n - 1 - j) / 2 = k / 2 ^ (n - j) := by
  refine ⟨rfl, ?_⟩
  rw [Nat.div_div_eq_div_mul, ← Nat.pow_succ]
  congr 2
  omega
set_option maxHeartbeats 4000000 in
theorem uSpecNetFault (c0 c1 : Value) (m : NetM) (w : World) (h : NetIn [c0, c1] m w) : Calls Try.prog 46 #[.agg #[c0, c1]] w (IntSRet (faultM m) w) := by
  have A := Lib.hid h.lies
  obtain ⟨a1, cap1, rfl, rfl, _⟩ := netIn_cells h
  have B0 := Lib.hid (below_box (Below.refl w.heap.size w) (.cells #[.int .i64 m.n, .slice a1 m.ws.length cap1] 26))
  have K0 := Lib.hid (alloc_at w (.cells #[.int .i64 m.n, .slice a1 m.ws.length cap1] 26) _ rfl)
  have V := Lib.hid (uSpecNetOk _ _ m (w.alloc (.cells #[.int .i64 m.n, .slice a1 m.ws.length cap1] 26)) ((A.out.below B0.out).now))
  clear h
  cases hv : netOkB m with
  | false =>
    rw [hv] at V
    have E : Hid (faultM m = []) := Lib.hid (faultM_no (by unfold provB; simp [hv]))
    clear hv
    go_enter Try.func46, Try.ntmps46
    go_wp2_with fail
    refine V.out.mono ?_
    rintro e w1 ⟨rfl, hb⟩
    have B1 := Lib.hid (below_seq B0.out hb)
    clear hb V
    go_wp2
    go_ret
    exact ⟨_, rfl, by rw [E.out]; exact IntSOwn.nil _ _ _, B1.out⟩
  | true =>
    rw [hv] at V
    by_cases hn : m.n ≤ 12
    · have hp : provB m = true := by unfold provB; simp [hv, hn]
      obtain ⟨n, hn0, h1, h2, h3, h4, _⟩ := provB_ok hp
      have RN := Lib.hid (fun l cl w' (hb : Below w.heap.size w w') (hl : IntSIn [cl] l w') (hle : l.length = n) => specRun _ _ cl m l w' ((A.out.below hb).now) hl (by omega) (by omega) (by rw [hle]; exact h3))
      have eN : m.n.toNat = n := by omega
      have FS := Lib.hid (fun k => @faultK_some m k)
      have FN := Lib.hid (@faultK_none m)
      have FA : Hid (∀ k, faultAt m k = !sortedB (runW m.ws (digitsM k n))) := Lib.hid (fun k => by unfold faultAt; rw [eN])
      rw [eN] at FS FN
      have EN := Lib.hid eN
      have HP := Lib.hid hp
      have PV : Hid (m.n = (n : Int)) := Lib.hid hn0
      have P12 := two_shl n h2
      have PW := Lib.hid (specPow16 n)
      obtain ⟨N, hN⟩ : ∃ N, N = 2 ^ n := ⟨_, rfl⟩
      rw [← hN] at FS FN P12 PW
      have HN := Lib.hid hN
      obtain ⟨i0, hi, hz0, hz1, hz2⟩ := info_parts Try.info3
      clear h3 h4 hp eN hN hv hn0
      go_enter Try.func46, Try.ntmps46
      go_wp2_with fail
      refine V.out.mono ?_
      rintro e w1 ⟨rfl, hb⟩
      have K1 := Lib.hid (kept_block K0.out hb)
      have B1 := Lib.hid (below_seq B0.out hb)
      have q0 : w1.cell? ⟨w.heap.size, 0, none⟩ = some (.int .i64 m.n) := cur_cell K1.out 0
      clear hb V K0
      go_wp2
      clear hn q0
      go_loopw [3, 4, 5, 6, 7, 8] (fun i _ _ _ _ _ wr => ∃ k : Nat, k ≤ N ∧ i = .int .i64 k ∧ Hid (Below w.heap.size w wr ∧ wr.heap[w.heap.size]? = some (.cells #[.int .i64 m.n, .slice a1 m.ws.length cap1] 26 (0, 0)) ∧ ∀ j, j < k → faultAt m j = false)) (fun i _ _ _ _ _ _ => N - (intOf i).toNat)
      case atStart => exact ⟨0, Nat.zero_le _, rfl, Lib.hid ⟨B1.out, K1.out, fun j hj => absurd hj (by omega)⟩⟩
      case round =>
        clear B1 K1
        obtain ⟨k, hk, rfl, H⟩ := hrel
        have q0 : wr.cell? ⟨w.heap.size, 0, none⟩ = some (.int .i64 n) := by rw [← PV.out]; exact cur_cell H.out.2.1 0
        go_wp2_with fail
        refine (PW.out _ (by omega)).mono ?_
        rintro e w2 ⟨rfl, rfl⟩
        by_cases hlt : k < N
        · go_wp2_with (at_make; refine wpList_make_full _ rfl _ _ 28 rfl wr.heap.size 3 i0 (.int .i64 0) 1 Try.underlying28 hi hz0 hz1 .i64 .i64 _ _ n rfl rfl rfl rfl (by rw [hz2]; omega) (by unfold maxLen; omega) (Nat.le_refl _) ?_)
          intro w2 hown hgr
          rw [toList_madeCells_one] at hown
          have S0 : Hid (ArrAt w2 wr.heap.size 3 n (digB k n n) ∧ Below w.heap.size w w2 ∧ w2.heap[w.heap.size]? = some (.cells #[.int .i64 m.n, .slice a1 m.ws.length cap1] 26 (0, 0))) := Lib.hid ⟨(own_arrD hown).ext (fun i hi => (digB_top k n i hi).symm), below_seq H.out.1 (grown_below hgr), kept_block H.out.2.1 (grown_below hgr)⟩
          have NFK : Hid (∀ j, j < k → faultAt m j = false) := Lib.hid H.out.2.2
          have HG : Hid (w.heap.size < wr.heap.size) := Lib.hid (cur_lt H.out.2.1)
          have hk2 : k < 4096 := by omega
          clear hown hgr H q0
          generalize wr.heap.size = g at *
          have q0 : w2.cell? ⟨w.heap.size, 0, none⟩ = some (.int .i64 n) := by rw [← PV.out]; exact cur_cell S0.out.2.2 0
          go_wp2
          go_loopw [6, 5] (fun i x wq => ∃ j y : Nat, j ≤ n ∧ i = .int .i64 ((j : Int) - 1) ∧ x = .int .i64 (y : Int) ∧ y < 4096 ∧ Hid (y = k / 2 ^ (n - j)) ∧ Hid (ArrAt wq g 3 n (digB k n j) ∧ Below w.heap.size w wq ∧ wq.heap[w.heap.size]? = some (.cells #[.int .i64 m.n, .slice a1 m.ws.length cap1] 26 (0, 0)))) (fun i _ _ => ((intOf i) + 1).toNat)
          case atStart => exact ⟨n, k, Nat.le_refl _, rfl, rfl, hk2, Lib.hid (by simp), S0⟩
          case round =>
            clear S0 q0
            obtain ⟨j, y, hj, rfl, rfl, hy, HY, HS⟩ := hrel
            cases j with
            | succ j =>
              obtain ⟨d1, d2⟩ := dig_rest k n j hj
              have HY2 : Hid (y / 2 = k / 2 ^ (n - j) ∧ y % 2 = digN k n j) := Lib.hid (by
                have := HY.out
                rw [show n - (j + 1) = n - 1 - j from by omega] at this
                rw [this]; exact ⟨d2, d1⟩)
              have c0 := HS.out.1.cell (k := j) (by omega)
              have f0 := HS.out.1.free j
              have NS : Hid (ArrAt (wr.setCell ⟨g, j, none⟩ (.int .i64 ((y : Int) % 2))) g 3 n (digB k n j) ∧ Below w.heap.size w (wr.setCell ⟨g, j, none⟩ (.int .i64 ((y : Int) % 2))) ∧ (wr.setCell ⟨g, j, none⟩ (.int .i64 ((y : Int) % 2))).heap[w.heap.size]? = some (.cells #[.int .i64 m.n, .slice a1 m.ws.length cap1] 26 (0, 0))) := Lib.hid (by
                have hg := HG.out
                refine ⟨?_, HS.out.2.1.setCell (p := ⟨g, j, none⟩) (by simp; omega) _, (Below.heap_setCell _ _ _ _ (by simp; omega)).trans HS.out.2.2⟩
                rw [← digB_pred, show (y : Int) % 2 = ((digN k n j : Nat) : Int) from by rw [← HY2.out.2]; simp]
                exact HS.out.1.set j _)
              generalize digB k n (j + 1) j = z at c0
              clear HS d1 d2
              have e1 : ((j + 1 : Nat) : Int) - 1 = (j : Int) := by omega
              rw [e1]
              go_wp2
              go_roundw
              case rel => exact ⟨j, y / 2, by omega, by go_num, by go_num, by omega, Lib.hid HY2.out.1, NS⟩
              case measure => simp [intOf]
            | zero =>
              have ho := arrD_own HS.out.1 (base := g) (Nat.le_refl _) (by unfold maxLen; omega)
              rw [digB_list] at ho
              have R1 := Lib.hid (RN.out _ _ wr HS.out.2.1 (IntSOwn.mk ho).read (digitsM_length k n))
              have O1 := Lib.hid ((IntSOwn.mk ho).lies (Nat.le_refl _))
              have q0 : wr.cell? ⟨w.heap.size, 0, none⟩ = some (.int .i64 m.n) := cur_cell HS.out.2.2 0
              have q1 : wr.cell? ⟨w.heap.size, 1, none⟩ = some (.slice a1 m.ws.length cap1) := cur_cell HS.out.2.2 1
              clear ho HY
              go_wp2_with fail
              refine R1.out.mono ?_
              rintro e w3 ⟨d, rfl, ho, hb3⟩
              obtain ⟨ga, gcap, hd, hown3, _⟩ := ho
              simp at hd
              subst hd
              have len := runW_length m.ws (digitsM k n)
              rw [digitsM_length] at len
              obtain ⟨gg, rfl, _⟩ := intSOwn_mid hown3 (by omega)
              have O3 := Lib.hid hown3
              have B3 := Lib.hid (below_seq HS.out.2.1 hb3)
              have K3 := Lib.hid (kept_block HS.out.2.2 hb3)
              have O2 := Lib.hid (O1.out.below hb3)
              clear hb3 hown3 R1 O1 HS q0 q1
              have FA1 := Lib.hid (FA.out k)
              generalize runW m.ws (digitsM k n) = got at *
              have LE := Lib.hid len
              rw [len] at O3 ⊢
              clear len
              have q0 : w3.cell? ⟨w.heap.size, 0, none⟩ = some (.int .i64 n) := by rw [← PV.out]; exact cur_cell K3.out 0
              have NN : Hid (faultM m = digitsM k n → True) := Lib.hid (fun _ => trivial)
              go_wp2
              generalize wr = wz at *
              clear q0
              go_loopw [8] (fun i wq => ∃ j : Nat, 1 ≤ j ∧ j ≤ n ∧ i = .int .i64 j ∧ Hid (Below w3.heap.size w3 wq ∧ ∀ t, t + 1 < j → got.getD t 0 ≤ got.getD (t + 1) 0)) (fun i _ => n - (intOf i).toNat)
              case atStart => exact ⟨1, by omega, by omega, rfl, Lib.hid ⟨Below.refl _ _, fun t ht => absurd ht (by omega)⟩⟩
              case round =>
                obtain ⟨j, hj1, hj, rfl, HJ⟩ := hrel
                have K4 := Lib.hid (kept_block K3.out HJ.out.1)
                have q0 : wr.cell? ⟨w.heap.size, 0, none⟩ = some (.int .i64 n) := by rw [← PV.out]; exact cur_cell K4.out 0
                have B4 := Lib.hid (below_seq B3.out HJ.out.1)
                by_cases hjn : j < n
                · obtain ⟨t, rfl⟩ : ∃ t, j = t + 1 := ⟨j - 1, by omega⟩
                  have own4 := own_below O3.out HJ.out.1
                  have c0 : wr.cell? ⟨gg, t, none⟩ = some (.int .i64 (got.getD t 0)) := (own4.cellAt t (by simp; have := LE.out; omega)).trans (by have := LE.out; simp [List.getD, show t < got.length from by omega, ival])
                  have c1 : wr.cell? ⟨gg, t + 1, none⟩ = some (.int .i64 (got.getD (t + 1) 0)) := (own4.cellAt (t + 1) (by simp; have := LE.out; omega)).trans (by have := LE.out; simp [List.getD, show t + 1 < got.length from by omega, ival])
                  have SF : Hid (got.getD (t + 1) 0 < got.getD t 0 → sortedB got = false) := Lib.hid (fun h => sortedB_false (by have := LE.out; omega) h)
                  have NX : Hid (¬ got.getD (t + 1) 0 < got.getD t 0 → ∀ u, u + 1 < t + 1 + 1 → got.getD u 0 ≤ got.getD (u + 1) 0) := Lib.hid (fun h u hu => by
                    by_cases e : u = t
                    · subst e; omega
                    · exact HJ.out.2 u (by omega))
                  have i1 : (0 : Int) ≤ (t : Int) + 1 := by omega
                  have i2 : (t : Int) + 1 < (n : Int) := by omega
                  have i3 : (0 : Int) ≤ (t : Int) := by omega
                  have i4 : (t : Int) < (n : Int) := by omega
                  have i6 : IntKind.i64.wrap (t : Int) = t := wrap_small _ (by omega) (by omega)
                  have i7 : t < n := by omega
                  have BJ := Lib.hid HJ.out.1
                  clear own4 HJ
                  generalize got.getD (t + 1) 0 = x at *
                  generalize got.getD t 0 = y at *
                  by_cases hxy : x < y
                  · have dx : decide (x < y) = true := decide_eq_true hxy
                    have HF : Hid (faultK m = some k) := Lib.hid (FS.out k hlt (by rw [FA1.out, SF.out hxy]; rfl) NFK.out)
                    go_wp2_with fail
                    go_quiet (fail)
                    go_wp2
                    go_ret
                    refine ⟨_, rfl, ?_, below_seq B4.out (belowN _)⟩
                    rw [faultM_some HP.out HF.out, EN.out]
                    have L := O2.out.below BJ.out
                    exact (L.below (belowN _)).now.wide (by have := HG.out; omega) L.top
                  · have dx : decide (x < y) = false := decide_eq_false hxy
                    go_wp2_with fail
                    go_quiet (fail)
                    go_wp2
                    go_roundw
                    case rel => exact ⟨t + 1 + 1, by omega, by omega, by go_num, Lib.hid ⟨below_seq BJ.out (belowN _), NX.out hxy⟩⟩
                    case measure => simp [intOf]; omega
                · have ST : Hid (sortedB got = true) := Lib.hid (sortedB_true.2 (fun i hi => HJ.out.2 i (by have := LE.out; omega)))
                  have NF : Hid (∀ j, j < k + 1 → faultAt m j = false) := Lib.hid (fun j hj => by
                    by_cases e : j = k
                    · subst e; rw [FA1.out, ST.out]; rfl
                    · exact NFK.out j (by omega))
                  go_wp2
                  go_roundw
                  case rel => exact ⟨k + 1, by omega, by go_num, Lib.hid ⟨B4.out, K4.out, NF.out⟩⟩
                  case measure => simp [intOf]; omega
        · have NF : Hid (faultK m = none) := Lib.hid (FN.out (fun j hj => H.out.2.2 j (by omega)))
          go_wp2
          go_ret
          exact ⟨_, rfl, by rw [faultM_none NF.out]; exact IntSOwn.nil _ _ _, H.out.1⟩
    · have E : Hid (faultM m = []) := Lib.hid (faultM_no (by unfold provB; simp; omega))
      clear hv
      go_enter Try.func46, Try.ntmps46
      go_wp2_with fail
      refine V.out.mono ?_
      rintro e w1 ⟨rfl, hb⟩
      have B1 := Lib.hid (below_seq B0.out hb)
      have q0 : w1.cell? ⟨w.heap.size, 0, none⟩ = some (.int .i64 m.n) := cur_cell (kept_block K0.out hb) 0
      clear hb V
      go_wp2
      go_ret
      exact ⟨_, rfl, by rw [E.out]; exact IntSOwn.nil _ _ _, B1.out⟩
set_option maxHeartbeats 1000000 in
theorem uSpecNetSorts (c0 c1 : Value) (m : NetM) (w : World) (h : NetIn [c0, c1] m w) : Calls Try.prog 22 #[.agg #[c0, c1]] w fun e w' => e = .returned (.bool (sortsB m)) ∧ Below w.heap.size w w' := by
  have A := Lib.hid h.lies
  obtain ⟨a1, cap1, rfl, rfl, _⟩ := netIn_cells h
  have B0 := Lib.hid (below_box (Below.refl w.heap.size w) (.cells #[.int .i64 m.n, .slice a1 m.ws.length cap1] 26))
  have K0 := Lib.hid (alloc_at w (.cells #[.int .i64 m.n, .slice a1 m.ws.length cap1] 26) _ rfl)
  have V := Lib.hid (uSpecNetOk _ _ m (w.alloc (.cells #[.int .i64 m.n, .slice a1 m.ws.length cap1] 26)) ((A.out.below B0.out).now))
  have FT := Lib.hid (fun w' (hb : Below w.heap.size w w') => uSpecNetFault _ _ m w' ((A.out.below hb).now))
  clear h
  cases hv : netOkB m with
  | false =>
    rw [hv] at V
    have E : Hid (sortsB m = false) := Lib.hid (by unfold sortsB provB; simp [hv])
    clear hv
    go_enter Try.func22, Try.ntmps22
    go_wp2_with fail
    refine V.out.mono ?_
    rintro e w1 ⟨rfl, hb⟩
    have B1 := Lib.hid (below_seq B0.out hb)
    clear hb V
    go_wp2
    go_ret
    exact ⟨by rw [E.out]; rfl, B1.out⟩
  | true =>
    rw [hv] at V
    by_cases hn : m.n ≤ 12
    · have hp : provB m = true := by unfold provB; simp [hv, hn]
      obtain ⟨n, hn0, h1, h2, h3, h4, _⟩ := provB_ok hp
      have ES : Hid ((faultM m).length = 0 ∧ sortsB m = true ∨ (faultM m).length = n ∧ sortsB m = false) := Lib.hid (by
        cases hk : faultK m with
        | none => exact .inl ⟨by rw [faultM_none hk]; rfl, by unfold sortsB; simp [hp, hk]⟩
        | some k => exact .inr ⟨by rw [faultM_some hp hk, digitsM_length]; omega, by unfold sortsB; simp [hk]⟩)
      clear hv hp hn0 h3 h4
      go_enter Try.func22, Try.ntmps22
      go_wp2_with fail
      refine V.out.mono ?_
      rintro e w1 ⟨rfl, hb⟩
      have B1 := Lib.hid (below_seq B0.out hb)
      have q0 : w1.cell? ⟨w.heap.size, 0, none⟩ = some (.int .i64 m.n) := cur_cell (kept_block K0.out hb) 0
      have q1 : w1.cell? ⟨w.heap.size, 1, none⟩ = some (.slice a1 m.ws.length cap1) := cur_cell (kept_block K0.out hb) 1
      clear hb V
      go_wp2_with fail
      refine (FT.out _ B1.out).mono ?_
      rintro e w2 ⟨d, rfl, ho, hb2⟩
      obtain ⟨a, cap, hd, _⟩ := ho
      simp at hd
      subst hd
      have B2 := Lib.hid (below_seq B1.out hb2)
      clear hb2
      rcases ES.out with ⟨e1, e2⟩ | ⟨e1, e2⟩
      · rw [e1]
        have E := Lib.hid e2
        clear e1 e2
        go_wp2
        go_ret
        exact ⟨by rw [E.out]; rfl, B2.out⟩
      · rw [e1]
        have E := Lib.hid e2
        have dn : ((n : Int) == 0) = false := by simp; omega
        clear e1 e2
        go_wp2
        go_ret
        exact ⟨by rw [E.out]; rfl, B2.out⟩
    · have E : Hid (sortsB m = false) := Lib.hid (by unfold sortsB provB; simp [show ¬ m.n ≤ 12 from hn])
      clear hv
      go_enter Try.func22, Try.ntmps22
      go_wp2_with fail
      refine V.out.mono ?_
      rintro e w1 ⟨rfl, hb⟩
      have B1 := Lib.hid (below_seq B0.out hb)
      have q0 : w1.cell? ⟨w.heap.size, 0, none⟩ = some (.int .i64 m.n) := cur_cell (kept_block K0.out hb) 0
      clear hb V
      go_wp2
      go_ret
      exact ⟨by rw [E.out]; rfl, B1.out⟩
end Go.Proofs.Ytkifndcfmmdkpaa
