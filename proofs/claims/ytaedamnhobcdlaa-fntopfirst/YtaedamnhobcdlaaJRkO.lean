/- RkO in one. Written by tools/join.py. -/
import Derived.Test.YtaedamnhobcdlaaJRkJ
import Derived.Test.YtaedamnhobcdlaaJApp
import Derived.Test.YtaedamnhobcdlaaJRkL
import Derived.Deep.RegionHeld3
import Derived.Deep.DeepCutAuto
import Derived.Deep.LoopGhost
section
namespace Go.Proofs.Ytaedamnhobcdlaa
open Go.RowKit
set_option linter.unusedVariables false
set_option linter.unusedSimpArgs false
set_option maxRecDepth 100000

theorem size_two {n : Nat} (h : n ≤ 64) : isTwo (sizeUp n) := by
  unfold sizeUp isTwo; repeat' split
  all_goals omega
theorem recBd_zero : recBd zeroR := ⟨⟨by decide, by decide⟩, ⟨by decide, by decide⟩, Nat.zero_le _⟩
set_option maxHeartbeats 4000000 in
theorem sortR (a : Option Addr) (cap : Nat) (l : List RecM) (w : World) (hl : l.length ≤ 64) (hok : okAll l) (hbd : ∀ t ∈ l, recBd t) (r : Row w a (flatG recL l)) : Calls Try.prog 45 #[.agg #[.func (.func 74) #[] #[]], .slice a l.length cap] w fun e w' => ∃ G cp, e = .returned (.slice (some ⟨G, 0, none⟩) l.length cp) ∧ w'.ownsRow w.heap.size 30 4 (.slice (some ⟨G, 0, none⟩) l.length cp) l.length (flatG recL ((runRm (bitonicM (sizeUp l.length)).ws (l ++ List.replicate (sizeUp l.length - l.length) zeroR)).take l.length)) ∧ Below w.heap.size w w' := by
  have R := Lib.hid r
  have hsz := sizeUp_le hl
  have htwo := size_two hl
  have RS := Lib.hid (fun w' => uImplRankSize (l.length : Int) w' (by omega))
  rw [rankSizeZ_at hl] at RS
  obtain ⟨z, hz⟩ : ∃ z, sizeUp l.length = z := ⟨_, rfl⟩
  rw [hz] at hsz htwo RS ⊢
  clear hz
  have BT := Lib.hid (fun w' => uImplBitonic (z : Int) w' (by omega))
  have GN := bitonic_good htwo
  obtain ⟨NB, hNB⟩ : ∃ NB, bitonicM (z : Int) = NB := ⟨_, rfl⟩
  rw [hNB] at BT GN ⊢
  clear hNB htwo
  obtain ⟨n', e1, _, hn64, hws, hwk⟩ := netOkB_ok GN.ok
  obtain ⟨nz, ws⟩ := NB
  have e2 : nz = (z : Int) := GN.size
  subst e2
  simp only at e1 hws hwk BT ⊢
  have e3 : z = n' := by omega
  subst e3
  have hfl : (l ++ List.replicate (z - l.length) zeroR).length = z := by simp; omega
  have RN := Lib.hid (fun (c0 c1 : Value) (a' : Option Addr) (w' : World) (h : NetIn [c0, c1] ⟨(z : Int), ws⟩ w') (r' : Row w' a' (flatG recL (l ++ List.replicate (z - l.length) zeroR))) => runR c0 c1 z ws a' z (l ++ List.replicate (z - l.length) zeroR) w' h hfl (by omega) (by omega) (by omega) hwk (fun t ht => by
      rcases List.mem_append.1 ht with h | h
      · exact hok t h
      · rw [(List.mem_replicate.1 h).2]; rfl) (fun t ht => by
      rcases List.mem_append.1 ht with h | h
      · exact hbd t h
      · rw [(List.mem_replicate.1 h).2]; exact recBd_zero) r')
  rw [hfl] at RN
  have hl2 : l.length ≤ z := hsz.1
  have hs64 : z ≤ 64 := hsz.2.1
  have FC := Lib.hid (show flatG recL l ++ (flatG recL (List.replicate z zeroR)).drop (l.length * 4) = flatG recL (l ++ List.replicate (z - l.length) zeroR) by rw [flatG_app, ← flatG_drop recL_len, List.drop_replicate])
  have RL := Lib.hid (show (runRm ws (l ++ List.replicate (z - l.length) zeroR)).length = z by rw [runRm_length, hfl])
  have FL := Lib.hid (flatG_len recL_len l)
  have FO := Lib.hid (flatG_one recL_one l)
  clear r GN e1 hws hwk hn64 hsz hfl hok hbd
  obtain ⟨i0, hi, hz0, hz1, hz2⟩ := info_parts Try.infoRec
  obtain ⟨W0, hW0⟩ : ∃ W0, W0 = w.alloc (.cells #[.func (.func 74) #[] #[]] 61) := ⟨_, rfl⟩
  have K0 := Lib.hid (show W0.heap[w.heap.size]? = some (.cells #[.func (.func 74) #[] #[]] 61 (0, 0)) by rw [hW0]; exact alloc_at _ _ _ rfl)
  have B0 := Lib.hid (show Below w.heap.size w W0 by rw [hW0]; exact below_box (Below.refl _ w) _)
  go_enter Try.func45, Try.ntmps45
  go_wp2_with fail
  rw [← hW0]
  clear hW0
  refine (RS.out _).mono ?_
  rintro e w1 ⟨rfl, hb⟩
  have B1 := Lib.hid (below_seq B0.out hb)
  replace K0 := Lib.hid (kept_block K0.out hb)
  clear hb RS B0
  go_wp2_with fail
  refine (BT.out _).mono ?_
  rintro e w2 h2
  obtain ⟨c0, c1, rfl, ho, hb⟩ := h2
  have NI := Lib.hid ho.read
  obtain ⟨ad, kd, rfl, rfl, _⟩ := netIn_cells ho.read
  have B2 := Lib.hid (below_seq B1.out hb)
  replace K0 := Lib.hid (kept_block K0.out hb)
  clear hb ho B1 BT
  simp only at NI RN ⊢
  obtain ⟨W3, hW3⟩ : ∃ W3, W3 = w2.alloc (.cells #[.int .i64 z, .slice ad ws.length kd] 36) := ⟨_, rfl⟩
  have B23 := Lib.hid (show Below w2.heap.size w2 W3 by rw [hW3]; exact below_box (Below.refl _ w2) _)
  have K3 := Lib.hid (show W3.heap[w2.heap.size]? = some (.cells #[.int .i64 z, .slice ad ws.length kd] 36 (0, 0)) by rw [hW3]; exact alloc_at _ _ _ rfl)
  replace NI := Lib.hid (NI.out.below B23.out)
  replace K0 := Lib.hid (kept_block K0.out B23.out)
  replace B2 := Lib.hid (below_seq B2.out B23.out)
  have q0 := cur_cell K3.out 0
  simp at q0
  have hX : w2.heap.size < W3.heap.size := cur_lt K3.out
  clear B23
  go_wp2_with (at_make; refine wpList_make_full _ rfl _ _ 24 rfl w.heap.size 30 i0 _ 4 Try.underlying24 hi hz0 hz1 .i64 .i64 _ _ z rfl rfl rfl rfl (by rw [hz2]; omega) (by unfold maxLen; omega) (by have := B2.out.size; rw [hW3] at this; exact this) ?_)
  clear hi hz0 hz1 hz2
  intro w4 hown hgr
  rw [← hW3] at hgr
  have hsW : W3.heap.size = w2.heap.size + 1 := by rw [hW3]; simp
  clear hW3
  have hb4 : Below W3.heap.size W3 w4 := grown_below hgr
  have hown' : w4.ownsRow w.heap.size 30 4 (.slice (some ⟨w2.heap.size + 1, 0, none⟩) z z) z (flatG recL (List.replicate z zeroR)) := by
    rw [← made_flat recL_len (by decide) zeroR _ rfl]; exact hown
  have B4 := Lib.hid (below_seq B2.out hb4)
  have hmin : Nat.min l.length z = l.length := Nat.min_eq_left hl2
  obtain ⟨w5, hcp, hown5, hg5⟩ := copy_minS (P := Try.prog) (dT := 24) (sT := 24) Try.underlying24 (by kernel_rfl) hown' a l.length cap (flatG recL l) FL.out (R.out.below B4.out) FO.out (by decide)
  rw [hmin] at hcp hown5
  rw [List.take_of_length_le (by rw [FL.out]; exact Nat.le_refl _), FC.out] at hown5
  have hb5 := below_write hb4 hg5 (by omega)
  have K5 := Lib.hid (kept_block K0.out hb5)
  have N5 := Lib.hid (kept_block K3.out hb5)
  have NI5 := Lib.hid (NI.out.below hb5)
  have B5 := Lib.hid (below_seq B2.out hb5)
  have R5 := Lib.hid (Row.of_own hown5)
  clear hown hown' hown5 hgr hg5 hb4 hb5 B2 B4 K0 K3 NI hmin R FL FO FC q0
  have u0 := cur_cell K5.out 0
  have n0 := cur_cell N5.out 0
  have n1 := cur_cell N5.out 1
  simp at u0 n0 n1
  go_wp2_with fail
  refine (RN.out _ _ _ _ NI5.out R5.out).mono ?_
  rintro e w6 ⟨G, cp, rfl, ho, hb⟩
  have hcp6 := own_cap ho
  have hlc : l.length ≤ cp := by omega
  have Z := Lib.hid (own_prefix (k := l.length) ho hl2)
  have B6 := Lib.hid (below_seq B5.out hb)
  have hBB := B5.out.size
  clear ho hb NI5 R5 RN u0 n0 n1 hcp B5
  go_wp2
  all_goals
    go_ret
    exact ⟨G, cp, rfl, by rw [flatG_take recL_len]; exact own_base Z.out hBB, B6.out⟩
theorem net_rank_take {l : List RecM} (h : recsOkB l = true) : (runRm (bitonicM (sizeUp l.length)).ws (l ++ List.replicate (sizeUp l.length - l.length) zeroR)).take l.length = insAll l :=
  net_take (bitonic_good (size_two (recsOkB_len h))) (sizeUp_le (recsOkB_len h)).1 (recsOkB_all h)
set_option maxHeartbeats 2000000 in
theorem uImplRank (c : Value) (l : List RecM) (w : World) (h : RecSIn [c] l w) (hb : ∀ t ∈ l, recBd t) : Calls Try.prog 13 #[c] w (RecSRet (rankM l) w) := by
  have RO := Lib.hid (uImplRecsOk c l w h hb)
  obtain ⟨a, cap, rfl, hcap, hm, r⟩ := recSIn_shape h
  cases ho : recsOkB l
  · have E := Lib.hid (show rankM l = [] by unfold rankM; simp [ho])
    rw [ho] at RO
    clear h r hb
    go_enter Try.func13, Try.ntmps13
    go_wp2_with fail
    refine RO.out.mono ?_
    rintro e w1 ⟨rfl, hb⟩
    have B1 := Lib.hid hb
    clear hb RO
    go_wp2
    go_ret
    exact ⟨_, rfl, by rw [E.out]; exact RecSOwn.nil _ _ _, B1.out⟩
  · have E := Lib.hid (show rankM l = insAll l by unfold rankM; rw [if_pos ho])
    have ST := Lib.hid (fun w' (hb' : Below w.heap.size w w') => sortR a cap l w' (recsOkB_len ho) (recsOkB_all ho) hb (r.below hb'))
    rw [net_rank_take ho] at ST
    have EL := Lib.hid (insAll_length l)
    rw [ho] at RO
    clear h r hb ho
    go_enter Try.func13, Try.ntmps13
    go_wp2_with fail
    refine RO.out.mono ?_
    rintro e w1 ⟨rfl, hb⟩
    have B1 := Lib.hid hb
    clear hb RO
    go_wp2_with fail
    refine (byRankC _).mono ?_
    rintro e w2 ⟨rfl, hb⟩
    have B2 := Lib.hid (below_seq B1.out hb)
    clear hb B1
    go_wp2_with fail
    refine (ST.out _ B2.out).mono ?_
    rintro e w3 ⟨G, cp, rfl, ho, hb⟩
    have Z := Lib.hid (own_base ho B2.out.size)
    have B3 := Lib.hid (below_seq B2.out hb)
    clear ho hb B2 ST
    go_wp2
    go_ret
    refine ⟨_, rfl, ?_, B3.out⟩
    rw [E.out]
    have z := Z.out
    rw [← EL.out] at z ⊢
    exact RecSOwn.mk z
set_option maxHeartbeats 4000000 in
theorem uImplRankBy (c0 c1 : Value) (m : NetM) (c : Value) (l : List RecM) (w : World) (h : NetIn [c0, c1] m w) (k : RecSIn [c] l w) (hb : ∀ t ∈ l, recBd t) : Calls Try.prog 18 #[.agg #[c0, c1], c] w (RecSRet (rankByM m l) w) := by
  have RO := Lib.hid (fun w' (hb' : Below w.heap.size w w') => uImplRecsOk c l w' (k.below hb') hb)
  have NV := Lib.hid (implValid w.heap.size c1 m _ (NetAt.box h))
  have NI := Lib.hid h
  obtain ⟨aw, kw, rfl, rfl, hkw, hmw, rw_⟩ := netIn_cells h
  obtain ⟨a, cap, rfl, hcap, hm, r⟩ := recSIn_shape k
  have R := Lib.hid r
  have HB := Lib.hid hb
  unfold maxLen at hmw hm
  clear h k r rw_ hb
  obtain ⟨NB, hNB⟩ : ∃ NB, NB = w.alloc (.cells #[.int .i64 m.n, .slice aw m.ws.length kw] 36) := ⟨_, rfl⟩
  rw [← hNB] at NV
  have K0 := Lib.hid (show NB.heap[w.heap.size]? = some (.cells #[.int .i64 m.n, .slice aw m.ws.length kw] 36 (0, 0)) by rw [hNB]; exact alloc_at _ _ _ rfl)
  have B0 := Lib.hid (show Below w.heap.size w NB by rw [hNB]; exact below_box (Below.refl _ w) _)
  by_cases hbad : netOkB m = false ∨ recsOkB l = false ∨ ¬ (l.length : Int) = m.n
  · have E := Lib.hid (rankByM_no hbad)
    cases hno : netOkB m
    · rw [hno] at NV
      clear hbad
      go_enter Try.func18, Try.ntmps18
      go_wp2_with fail
      rw [← hNB]
      clear hNB
      refine NV.out.mono ?_
      rintro e w1 ⟨rfl, hb⟩
      have B1 := Lib.hid (below_seq B0.out hb)
      clear hb NV
      go_wp2
      go_ret
      exact ⟨_, rfl, by rw [E.out]; exact RecSOwn.nil _ _ _, B1.out⟩
    · rw [hno] at NV hbad
      cases hro : recsOkB l
      · rw [hro] at RO
        clear hbad
        go_enter Try.func18, Try.ntmps18
        go_wp2_with fail
        rw [← hNB]
        clear hNB
        refine NV.out.mono ?_
        rintro e w1 ⟨rfl, hb⟩
        have B1 := Lib.hid (below_seq B0.out hb)
        clear hb NV
        go_wp2_with fail
        refine (RO.out _ B1.out).mono ?_
        rintro e w2 ⟨rfl, hb⟩
        have B2 := Lib.hid (below_seq B1.out hb)
        clear hb RO
        go_wp2
        go_ret
        exact ⟨_, rfl, by rw [E.out]; exact RecSOwn.nil _ _ _, B2.out⟩
      · rw [hro] at RO hbad
        have hne : ¬ (l.length : Int) = m.n := by simpa using hbad
        have hnB : ((l.length : Int) != m.n) = true := by simpa using hne
        clear hbad
        go_enter Try.func18, Try.ntmps18
        go_wp2_with fail
        rw [← hNB]
        clear hNB
        refine NV.out.mono ?_
        rintro e w1 ⟨rfl, hb⟩
        have B1 := Lib.hid (below_seq B0.out hb)
        have K1 := Lib.hid (kept_block K0.out hb)
        clear hb NV
        go_wp2_with fail
        refine (RO.out _ B1.out).mono ?_
        rintro e w2 ⟨rfl, hb⟩
        have B2 := Lib.hid (below_seq B1.out hb)
        have c0 := cur_cell (kept_block K1.out hb) 0
        simp at c0
        clear hb RO
        go_wp2
        go_ret
        exact ⟨_, rfl, by rw [E.out]; exact RecSOwn.nil _ _ _, B2.out⟩
  · have hno : netOkB m = true := by
      cases e : netOkB m
      · exact absurd (.inl e) hbad
      · rfl
    have hro : recsOkB l = true := by
      cases e : recsOkB l
      · exact absurd (.inr (.inl e)) hbad
      · rfl
    have hne : (l.length : Int) = m.n := Decidable.byContradiction fun h => hbad (.inr (.inr h))
    have E := Lib.hid (show rankByM m l = runRm m.ws l by unfold rankByM rankByB; rw [if_pos (by rw [hno, hro]; simpa using hne)])
    obtain ⟨n, hn, hn1, hn64, hws, hwk⟩ := netOkB_ok hno
    obtain ⟨mn, ws⟩ := m
    simp only at hn hne hno E NV K0 hNB hws hwk hkw hmw hbad NI ⊢
    subst hn
    have hln : l.length = n := by omega
    have RU := Lib.hid (fun w' (hb' : Below w.heap.size w w') => runR (.int .i64 n) (.slice aw ws.length kw) n ws a cap l w' (NI.out.below hb') hln hn1 hn64 (by omega) hwk (recsOkB_all hro) HB.out (R.out.below hb'))
    have RL := Lib.hid (runRm_length ws l)
    rw [hno] at NV
    rw [hro] at RO
    have hnB : ((l.length : Int) != (n : Int)) = false := by simp; omega
    clear hbad hno hro hwk hne hln R NI HB
    go_enter Try.func18, Try.ntmps18
    go_wp2_with fail
    rw [← hNB]
    clear hNB
    refine NV.out.mono ?_
    rintro e w1 ⟨rfl, hb⟩
    have B1 := Lib.hid (below_seq B0.out hb)
    have K1 := Lib.hid (kept_block K0.out hb)
    clear hb NV
    go_wp2_with fail
    refine (RO.out _ B1.out).mono ?_
    rintro e w2 ⟨rfl, hb⟩
    have B2 := Lib.hid (below_seq B1.out hb)
    have K2 := Lib.hid (kept_block K1.out hb)
    have c0 := cur_cell K2.out 0
    simp at c0
    clear hb RO K1 B1 K0 B0
    go_upto_region 3 with fail
    have KS := Lib.hid (fun w' (hb : Below w2.heap.size w2 w') => (show w'.cell? ⟨w.heap.size, 0, none⟩ = some (.int .i64 n) ∧ w'.cell? ⟨w.heap.size, 1, none⟩ = some (.slice aw ws.length kw) from ⟨cur_cell (kept_block K2.out hb) 0, cur_cell (kept_block K2.out hb) 1⟩))
    have HD := Lib.hid (below_drew (Below.refl w2.heap.size w2))
    have BR := Lib.hid (fun w' => byRankC w')
    clear c0
    go_region_held3 (fun w' => w'.cell? ⟨w.heap.size, 0, none⟩ = some (.int .i64 n) ∧ w'.cell? ⟨w.heap.size, 1, none⟩ = some (.slice aw ws.length kw))
      ((refine KS.out _ ?_; first | with_reducible exact HD.out | with_reducible exact Below.refl _ _))
      (first
        | (go_at_call 44; refine (BR.out _).mono ?_; rintro e wn ⟨rfl, hb⟩; replace HD := Lib.hid (below_seq HD.out hb); clear hb BR)
        | (go_at_call 49; refine (RU.out _ (below_seq B2.out HD.out)).mono ?_; rintro e wn ⟨G, cp, rfl, hz, hb⟩; have Z := Lib.hid (own_base hz (below_seq B2.out HD.out).size); replace HD := Lib.hid (below_seq HD.out hb); clear hz hb RU))
    have B3 := Lib.hid (below_seq B2.out HD.out)
    clear HD KS K2 B2
    go_wp2
    go_ret
    refine ⟨_, rfl, ?_, B3.out⟩
    rw [E.out]
    have z := Z.out
    rw [← RL.out] at z ⊢
    exact RecSOwn.mk z
set_option maxHeartbeats 4000000 in
theorem uImplTopK (c : Value) (l : List RecM) (k : Int) (w : World) (h : RecSIn [c] l w) (hb : ∀ t ∈ l, recBd t) (bk : -9223372036854775808 ≤ k ∧ k ≤ 9223372036854775807) : Calls Try.prog 24 #[c, .int .i64 k] w (RecSRet (topM l k) w) := by
  have RO := Lib.hid (uImplRecsOk c l w h hb)
  have RK := Lib.hid (fun w' (hb' : Below w.heap.size w w') => uImplRank c l w' (h.below hb') hb)
  obtain ⟨a, cap, rfl, hcap, hm, r⟩ := recSIn_shape h
  clear h r hb
  by_cases hbad : recsOkB l = false ∨ k < 0 ∨ 8 < k
  · have E := Lib.hid (topB_no hbad)
    cases ho : recsOkB l
    · rw [ho] at RO
      go_enter Try.func24, Try.ntmps24
      go_wp2_with fail
      refine RO.out.mono ?_
      rintro e w1 ⟨rfl, hb⟩
      have B1 := Lib.hid hb
      clear hb RO hbad
      go_wp2
      go_ret
      exact ⟨_, rfl, by rw [E.out]; exact RecSOwn.nil _ _ _, B1.out⟩
    · rw [ho] at RO hbad
      have hbad : k < 0 ∨ 8 < k := by simpa using hbad
      by_cases h0 : k < 0
      · go_enter Try.func24, Try.ntmps24
        go_wp2_with fail
        refine RO.out.mono ?_
        rintro e w1 ⟨rfl, hb⟩
        have B1 := Lib.hid hb
        clear hb RO hbad
        go_wp2
        go_ret
        exact ⟨_, rfl, by rw [E.out]; exact RecSOwn.nil _ _ _, B1.out⟩
      · have h8 : 8 < k := by omega
        go_enter Try.func24, Try.ntmps24
        go_wp2_with fail
        refine RO.out.mono ?_
        rintro e w1 ⟨rfl, hb⟩
        have B1 := Lib.hid hb
        clear hb RO hbad
        go_wp2
        go_ret
        exact ⟨_, rfl, by rw [E.out]; exact RecSOwn.nil _ _ _, B1.out⟩
  · have ho : recsOkB l = true := by
      cases e : recsOkB l
      · exact absurd (.inl e) hbad
      · rfl
    obtain ⟨n, rfl⟩ : ∃ n : Nat, k = n := ⟨k.toNat, by omega⟩
    have hn8 : n ≤ 8 := by omega
    have hl := recsOkB_len ho
    have E := Lib.hid (show topM l n = (insAll l ++ List.replicate (n - l.length) zeroR).take n by
      unfold topM topB; rw [if_pos (by rw [ho]; simp; omega)]; simp)
    have ER := Lib.hid (show rankM l = insAll l by unfold rankM; rw [if_pos ho])
    have EL := Lib.hid (insAll_length l)
    have TL := Lib.hid (top_length (l := l) (k := n) (by unfold topB; rw [ho]; simp; omega))
    rw [ho] at RO
    rw [ER.out] at RK
    clear hbad bk ho
    obtain ⟨i0, hi, hz0, hz1, hz2⟩ := info_parts Try.infoRec
    go_enter Try.func24, Try.ntmps24
    go_wp2_with fail
    refine RO.out.mono ?_
    rintro e w1 ⟨rfl, hb⟩
    have B1 := Lib.hid hb
    clear hb RO
    go_wp2_with (at_make; refine wpList_make_full _ rfl _ _ 24 rfl w.heap.size 30 i0 _ 4 Try.underlying24 hi hz0 hz1 .i64 .i64 _ _ n rfl rfl rfl rfl (by rw [hz2]; omega) (by unfold maxLen; omega) B1.out.size ?_)
    clear hi hz0 hz1 hz2
    intro w2 hown hgr
    have hb2 : Below w1.heap.size w1 w2 := grown_below hgr
    have O2 := Lib.hid (show w2.ownsRow w.heap.size 30 4 (.slice (some ⟨w1.heap.size, 0, none⟩) n n) n (flatG recL (List.replicate n zeroR)) by
      rw [← made_flat recL_len (by decide) zeroR _ rfl]; exact hown)
    have B2 := Lib.hid (below_seq B1.out hb2)
    have hlt : w1.heap.size < w2.heap.size := (O2.out.lt _ rfl).2
    clear hown hgr hb2
    go_wp2_with fail
    refine (RK.out _ B2.out).mono ?_
    rintro e w3 ⟨c3, rfl, ho3, hb⟩
    obtain ⟨a3, k3, rfl, _, _, r3⟩ := recSIn_shape ho3.read
    have O3 := own_below O2.out hb
    have B3 := Lib.hid (below_seq B2.out hb)
    obtain ⟨w4, hcp, hown4, hg4⟩ := copy_minS (P := Try.prog) (dT := 24) (sT := 24) Try.underlying24 (by kernel_rfl) O3 a3 (insAll l).length k3 (flatG recL (insAll l)) (flatG_len recL_len _) r3 (flatG_one recL_one _) (by decide)
    have X : flatG recL (topM l n) = (flatG recL (insAll l)).take (Nat.min (insAll l).length n * 4) ++ (flatG recL (List.replicate n zeroR)).drop (Nat.min (insAll l).length n * 4) := by
      rw [← flatG_take recL_len, ← flatG_drop recL_len, ← flatG_app, E.out]
      congr 1
      rw [List.take_append, EL.out, List.take_replicate, List.drop_replicate]
      rcases Nat.le_total l.length n with h | h
      · rw [show Nat.min l.length n = l.length from Nat.min_eq_left h, List.take_of_length_le (by rw [EL.out]; exact h), List.take_of_length_le (by rw [EL.out]; exact Nat.le_refl _), Nat.min_self]
      · rw [show Nat.min l.length n = n from Nat.min_eq_right h, show n - l.length = 0 from by omega, Nat.sub_self, Nat.zero_min]
    rw [← X] at hown4
    have Z := Lib.hid hown4
    have B4 := Lib.hid (B3.out.grown hg4 B3.out.size (fun g hg => by cases hg; exact B1.out.size))
    clear hown4 hg4 X O3 r3 ho3 hb O2 B2 B3 RK
    go_wp2
    go_ret
    refine ⟨_, rfl, ?_, B4.out⟩
    have z := Z.out
    rw [← TL.out] at z ⊢
    exact RecSOwn.mk z
end Go.Proofs.Ytaedamnhobcdlaa
end
