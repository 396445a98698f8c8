/- WTop in one. Written by tools/join.py. -/
import Derived.Test.YtaedamnhobcdlaaJBase
import Derived.Test.YtaedamnhobcdlaaJSeg
import Derived.Test.YtaedamnhobcdlaaJRkF
import Derived.Test.YtaedamnhobcdlaaJRkL
import Derived.Test.YtaedamnhobcdlaaJRkV
import Derived.Deep.RegionHeld3
import Derived.Deep.DeepCutAuto
import Derived.IntWalk
import Derived.Deep.LoopGhost
section
namespace Go.Proofs.Ytaedamnhobcdlaa.fnTopFirst
open Go.ChangeShapes Go.WideShapes Go.ChangeAt Go.RowKit
open Go.ChangeMaps (open_string shut_string)
set_option linter.unusedVariables false
set_option linter.unusedSimpArgs false

/-- How many Live records stand ahead of place i. -/
def cntR (L : List RecM) (i : Nat) : Nat := ((L.take i).filter (·.live)).length
theorem cntR_le (L : List RecM) (i : Nat) : cntR L i ≤ i := by
  unfold cntR
  have h1 := List.length_filter_le (·.live) (L.take i)
  have h2 : (L.take i).length ≤ i := by rw [List.length_take]; exact Nat.min_le_left _ _
  omega
theorem cntR_no {L : List RecM} {i : Nat} (h : i < L.length) (hl : L[i].live = false) : cntR L (i + 1) = cntR L i := by
  unfold cntR
  rw [List.take_succ_eq_append_getElem h, List.filter_append]; simp [hl]
theorem cntR_yes {L : List RecM} {i : Nat} (h : i < L.length) (hl : L[i].live = true) : cntR L (i + 1) = cntR L i + 1 := by
  unfold cntR
  rw [List.take_succ_eq_append_getElem h, List.filter_append]; simp [hl]
theorem packed_get {L : List RecM} {i : Nat} (hi : i < L.length) (hl : L[i].live = true) : ∃ hp : cntR L i < (compactL L).length, (compactL L)[cntR L i] = L[i] := by
  obtain ⟨h1, h2⟩ := packed_at hi hl
  refine ⟨h1, ?_⟩
  rw [← h2, List.getD_eq_getElem?_getD, List.getElem?_eq_getElem h1]; rfl
theorem top_times {L : List RecM} {k i j : Nat} (h : topB L k = true) (hi : i < L.length) (hj : j < (topM L k).length) (ha : aheadB L[i] (topM L k)[j] = true) : 0 < timesB (topM L k) L[i] :=
  times_pos (top_has h (List.getElem_mem hi) (by rw [top_length h] at hj; exact hj) (by rw [List.getD_eq_getElem?_getD, List.getElem?_eq_getElem hj]; exact ha))
theorem compactL_bd {L : List RecM} (h : ∀ t ∈ L, recBd t) : ∀ t ∈ compactL L, recBd t := fun t ht => by
  unfold compactL at ht
  rcases List.mem_append.1 ht with h1 | h1
  · exact h t (List.mem_filter.1 h1).1
  · rw [(List.mem_replicate.1 h1).2]; exact recBd_zero
theorem topM_bd' {L : List RecM} {k : Int} (h : ∀ t ∈ L, recBd t) : ∀ t ∈ topM L k, recBd t := fun t ht => by
  unfold topM at ht
  split at ht
  · rcases List.mem_append.1 (List.mem_of_mem_take ht) with h1 | h1
    · exact insAll_bd h t h1
    · rw [(List.mem_replicate.1 h1).2]; exact recBd_zero
  · simp at ht
set_option maxRecDepth 100000 in
set_option maxHeartbeats 4000000 in
theorem walk (a0 : Option Addr) (len0 cap0 : Nat) (z0 : List Int) (w : World) (w0 : IsRow .u8 w a0 len0 cap0 z0) :
    Calls Try.prog 4 #[.slice a0 len0 cap0] w fun e w' => e = .returned (.bool true) ∧ Below w.heap.size w w' := by
  obtain ⟨l, hl, hcap, hmax, hr⟩ := row_of_isRow w0
  clear w0
  subst hl
  have R := Lib.hid hr
  clear hr
  have hm : l.length ≤ maxLen := Nat.le_trans hcap hmax
  by_cases hbig : 1048576 < l.length
  · have hB : decide (1048576 < l.length) = true := by simp [hbig]
    go_enter Try.func4, Try.ntmps4
    go_wp2_with fail
    refine (bigIs a0 l.length cap0 _ hm).mono ?_
    rintro e w1 ⟨rfl, rfl⟩
    rw [hB]
    go_wp2
    go_ret
    exact ⟨rfl, Below.refl _ _⟩
  have hB : decide (1048576 < l.length) = false := by simp; omega
  have hl2 : l.length ≤ 1048576 := by omega
  go_enter Try.func4, Try.ntmps4
  go_wp2_with fail
  refine (bigIs a0 l.length cap0 _ hm).mono ?_
  rintro e w1 ⟨rfl, rfl⟩
  rw [hB]
  clear hB
  go_wp2_with fail
  refine (drawTopK a0 l cap0 w hl2 R.out).mono ?_
  rintro e w1 ⟨ad, c, L, k, rfl, hkb, hL65, hbd, ho, hb⟩
  have LI := Lib.hid (show RecSIn [.slice ad L.length c] L w1 from ⟨ad, c, rfl, own_cap ho, by unfold maxLen; omega, Row.of_own ho⟩)
  have BD := Lib.hid hbd
  have B1 := Lib.hid hb
  clear hbd ho hb R
  go_wp2_with fail
  refine (uImplTopK _ L k w1 LI.out BD.out hkb).mono ?_
  rintro e w4 ⟨c4, rfl, ho4, hb⟩
  obtain ⟨a4, k4, rfl, h4c, h4m, _⟩ := recSIn_shape ho4.read
  have GI := Lib.hid ho4.read
  replace LI := Lib.hid (LI.out.below hb)
  have B4 := Lib.hid (below_seq B1.out hb)
  clear ho4 hb B1
  have ROK := Lib.hid (uSpecRecsOk _ L w4 LI.out BD.out)
  cases hok : recsOkB L
  · rw [hok] at ROK
    have E := Lib.hid (show (topM L k).length = 0 by rw [topB_no (.inl hok)]; rfl)
    obtain ⟨g, hg⟩ : ∃ g, (topM L k).length = g := ⟨_, rfl⟩
    have hg0 : g = 0 := hg.symm.trans E.out
    rw [hg]
    subst hg0
    go_wp2_with fail
    refine ROK.out.mono ?_
    rintro e w5 ⟨rfl, hb⟩
    have B5 := Lib.hid (below_seq B4.out hb)
    clear hb ROK hok
    go_wp2
    go_ret
    exact ⟨rfl, B5.out⟩
  rw [hok] at ROK
  by_cases hk0 : k < 0
  · skip
    have E := Lib.hid (show (topM L k).length = 0 by rw [topB_no (.inr (.inl hk0))]; rfl)
    obtain ⟨g, hg⟩ : ∃ g, (topM L k).length = g := ⟨_, rfl⟩
    have hg0 : g = 0 := hg.symm.trans E.out
    rw [hg]
    subst hg0
    go_wp2_with fail
    refine ROK.out.mono ?_
    rintro e w5 ⟨rfl, hb⟩
    have B5 := Lib.hid (below_seq B4.out hb)
    clear hb ROK hok
    go_wp2
    go_ret
    exact ⟨rfl, B5.out⟩
  by_cases hk8 : 8 < k
  · skip
    have E := Lib.hid (show (topM L k).length = 0 by rw [topB_no (.inr (.inr hk8))]; rfl)
    obtain ⟨g, hg⟩ : ∃ g, (topM L k).length = g := ⟨_, rfl⟩
    have hg0 : g = 0 := hg.symm.trans E.out
    rw [hg]
    subst hg0
    go_wp2_with fail
    refine ROK.out.mono ?_
    rintro e w5 ⟨rfl, hb⟩
    have B5 := Lib.hid (below_seq B4.out hb)
    clear hb ROK hok
    go_wp2
    go_ret
    exact ⟨rfl, B5.out⟩
  obtain ⟨n, rfl⟩ : ∃ n : Nat, k = n := ⟨k.toNat, by omega⟩
  have hn8 : n ≤ 8 := by omega
  have TB := Lib.hid (show topB L n = true by unfold topB; rw [hok]; simp; omega)
  have TL := Lib.hid (top_length TB.out)
  have TC := Lib.hid (top_compact hok (n : Int))
  have hL64 := recsOkB_len hok
  have CE := Lib.hid (show compactM L = compactL L by unfold compactM; rw [if_pos hok])
  have CL := Lib.hid (compactL_length L)
  have OK := Lib.hid hok
  rw [TL.out] at h4c h4m ⊢
  have hn0 : (0 : Int) ≤ (n : Int) := by omega
  have hn9 : (n : Int) ≤ 8 := by omega
  clear hok hk0 hk8 hkb
  go_wp2_with fail
  refine ROK.out.mono ?_
  rintro e w5 ⟨rfl, hb⟩
  have B5 := Lib.hid (below_seq B4.out hb)
  replace LI := Lib.hid (LI.out.below hb)
  replace GI := Lib.hid (GI.out.below hb)
  clear hb ROK B4
  go_wp2_with fail
  refine (uImplCompact _ L w5 LI.out BD.out).mono ?_
  rintro e w6 ⟨c6, rfl, ho, hb⟩
  rw [CE.out] at ho
  have PI := Lib.hid ho.read
  obtain ⟨a6, k6, rfl, h6c, h6m, _⟩ := recSIn_shape PI.out
  have B6 := Lib.hid (below_seq B5.out hb)
  replace LI := Lib.hid (LI.out.below hb)
  replace GI := Lib.hid (GI.out.below hb)
  rw [CL.out] at h6c h6m PI ⊢
  have hLL : ((L.length : Int) != (L.length : Int)) = false := by simp
  have hnn : ((n : Int) != (n : Int)) = false := by simp
  clear ho hb B5
  go_wp2_with fail
  refine (uImplTopK _ (compactL L) n w6 PI.out (compactL_bd BD.out) (by omega)).mono ?_
  rintro e w7 ⟨c7, rfl, ho, hb⟩
  rw [TC.out] at ho
  have QI := Lib.hid ho.read
  have B7 := Lib.hid (below_seq B6.out hb)
  replace LI := Lib.hid (LI.out.below hb)
  replace GI := Lib.hid (GI.out.below hb)
  replace PI := Lib.hid (PI.out.below hb)
  obtain ⟨a7, k7, rfl, _, _, _⟩ := recSIn_shape QI.out
  rw [TL.out] at GI QI ⊢
  clear ho hb B6
  go_wp2_with fail
  refine (lawsSameRecs _ _ (topM L n) _ QI.out GI.out).mono ?_
  rintro e w8 ⟨rfl, hb⟩
  have B8 := Lib.hid (below_seq B7.out hb)
  replace LI := Lib.hid (LI.out.below hb)
  replace GI := Lib.hid (GI.out.below hb)
  replace PI := Lib.hid (PI.out.below hb)
  clear hb B7 QI hLL hnn
  go_wp2_with fail
  go_loopg [7, 8] L.length (fun kk c i wr => ∃ i' : Nat, i' ≤ L.length ∧ L.length - i' = kk ∧ c = .int .i64 (cntR L i') ∧ i = .int .i64 i' ∧ Hid (Below w8.heap.size w8 wr))
  case atStart => exact ⟨0, Nat.zero_le _, rfl, by simp [cntR], rfl, Lib.hid (Below.refl _ _)⟩
  case round =>
    obtain ⟨i, hi, hik, rfl, rfl, HB⟩ := hrel
    by_cases hlt : i < L.length
    · have LR := LI.out.below HB.out
      have GR := GI.out.below HB.out
      have PR := PI.out.below HB.out
      obtain ⟨a9, c9, e9, _, _, rr⟩ := recSIn_shape LR
      simp at e9
      obtain ⟨rfl, rfl⟩ := e9
      obtain ⟨b1, o1, rfl, q0, q1, q2, q3⟩ := rr.rec hlt
      have CN := Lib.hid (cntR_no hlt)
      have CY := Lib.hid (cntR_yes hlt)
      have PG := Lib.hid (packed_get hlt)
      have TT := Lib.hid (fun (j : Nat) (hj : j < (topM L n).length) (ha : aheadB L[i] (topM L n)[j] = true) => top_times TB.out hlt hj ha)
      have XB := Lib.hid (BD.out _ (List.getElem_mem hlt))
      obtain ⟨x, hx⟩ : ∃ x, L[i] = x := ⟨_, rfl⟩
      rw [hx] at q0 q1 q2 q3 CN CY PG TT XB
      clear hx
      obtain ⟨x0, x1, x2, x3⟩ := x
      simp only at q0 q1 q2 q3 CN CY PG TT XB
      have hi0 : (0 : Int) ≤ (i : Int) := by omega
      have hi1 : (i : Int) < (L.length : Int) := by omega
      have hc := cntR_le L i
      cases x0
      · have CN1 := Lib.hid (CN.out rfl)
        clear CY PG TT XB PR GR rr CN
        go_wp2
        go_roundg (L.length - (i + 1))
        case measure => omega
        case rel => exact ⟨i + 1, by omega, rfl, by rw [CN1.out], by go_num, HB⟩
      · have CY1 := Lib.hid (CY.out rfl)
        obtain ⟨p, hp, hpe, hpc⟩ : ∃ (p : Nat) (hp : p < (compactL L).length), (compactL L)[p] = (⟨true, x1, x2, x3⟩ : RecM) ∧ cntR L i = p := by
          obtain ⟨h1, h2⟩ := PG.out rfl
          exact ⟨_, h1, h2, rfl⟩
        rw [hpc] at CY1 hc ⊢
        clear CN CY PG hpc
        obtain ⟨a10, c10, e10, _, _, rp⟩ := recSIn_shape PR
        have e10' := e10
        rw [CL.out] at e10'
        simp at e10'
        obtain ⟨rfl, rfl⟩ := e10'
        obtain ⟨b2, o2, rfl, y0, y1, y2, y3⟩ := rp.rec hp
        rw [hpe] at y0 y1 y2 y3
        simp only at y0 y1 y2 y3
        have hpL : p < L.length := by rw [CL.out] at hp; exact hp
        have hp0 : (0 : Int) ≤ (p : Int) := by omega
        have hp1 : (p : Int) < (L.length : Int) := by omega
        have KS := Lib.hid (fun w' (hb : Below wr.heap.size wr w') => (show w'.cell? ⟨b1, o1 + i * 4, none⟩ = some (.bool true) ∧ w'.cell? ⟨b1, o1 + i * 4 + 1, none⟩ = some (.int .i64 x1) ∧ w'.cell? ⟨b1, o1 + i * 4 + 2, none⟩ = some (.int .i64 x2) ∧ w'.cell? ⟨b1, o1 + i * 4 + 3, none⟩ = some (.string x3) ∧ w'.cell? ⟨b2, o2 + p * 4, none⟩ = some (.bool true) ∧ w'.cell? ⟨b2, o2 + p * 4 + 1, none⟩ = some (.int .i64 x1) ∧ w'.cell? ⟨b2, o2 + p * 4 + 2, none⟩ = some (.int .i64 x2) ∧ w'.cell? ⟨b2, o2 + p * 4 + 3, none⟩ = some (.string x3) from ⟨cell_keep q0 hb, cell_keep q1 hb, cell_keep q2 hb, cell_keep q3 hb, cell_keep y0 hb, cell_keep y1 hb, cell_keep y2 hb, cell_keep y3 hb⟩))
        have HD := Lib.hid (below_drew (Below.refl wr.heap.size wr))
        clear y0 y1 y2 y3 e10 rp hp hpe
        go_upto_region 15 with fail
        clear q0 q1 q2 q3
        refine wp_region_held_drew (S := (fun w' => w'.cell? ⟨b1, o1 + i * 4, none⟩ = some (.bool true) ∧ w'.cell? ⟨b1, o1 + i * 4 + 1, none⟩ = some (.int .i64 x1) ∧ w'.cell? ⟨b1, o1 + i * 4 + 2, none⟩ = some (.int .i64 x2) ∧ w'.cell? ⟨b1, o1 + i * 4 + 3, none⟩ = some (.string x3) ∧ w'.cell? ⟨b2, o2 + p * 4, none⟩ = some (.bool true) ∧ w'.cell? ⟨b2, o2 + p * 4 + 1, none⟩ = some (.int .i64 x1) ∧ w'.cell? ⟨b2, o2 + p * 4 + 2, none⟩ = some (.int .i64 x2) ∧ w'.cell? ⟨b2, o2 + p * 4 + 3, none⟩ = some (.string x3))) (by kernel_rfl) (KS.out _ HD.out) (fun hHeld => ?_)
        refine wpAnyH_take (i := 0) (oi := ?ou_0) (v := ?vu_0) ?hiu_0 (by kernel_rfl) (by kernel_rfl) (by kernel_rfl) ?hqu_0 ?hyu_0 (by assumption) ?ru_0
        case hiu_0 => (simp only [List.getElem?_toArray, List.getElem?_cons_succ, List.getElem?_cons_zero]; rfl)
        case hqu_0 => exact fun _ _ _ h => h
        case hyu_0 =>
          first
            | (refine Or.inl ⟨by rfl, ?_⟩; intro wq hSw; (try dsimp only at hSw); go_simp; (try with_reducible rfl); done)
            | (refine Or.inr ⟨by rfl, ?_⟩; with_reducible rfl)
        try simp only [Act.put, List.setIfInBounds_toArray, List.set_cons_zero, List.set_cons_succ]
        refine wpAnyH_take (i := 1) (oi := ?ou_1) (v := ?vu_1) ?hiu_1 (by kernel_rfl) (by kernel_rfl) (by kernel_rfl) ?hqu_1 ?hyu_1 (by assumption) ?ru_1
        case hiu_1 => (simp only [List.getElem?_toArray, List.getElem?_cons_succ, List.getElem?_cons_zero]; rfl)
        case hqu_1 => exact fun _ _ _ h => h
        case hyu_1 =>
          first
            | (refine Or.inl ⟨by rfl, ?_⟩; intro wq hSw; (try dsimp only at hSw); go_simp; (try with_reducible rfl); done)
            | (refine Or.inr ⟨by rfl, ?_⟩; with_reducible rfl)
        try simp only [Act.put, List.setIfInBounds_toArray, List.set_cons_zero, List.set_cons_succ]
        refine wpAnyH_take (i := 2) (oi := ?ou_2) (v := ?vu_2) ?hiu_2 (by kernel_rfl) (by kernel_rfl) (by kernel_rfl) ?hqu_2 ?hyu_2 (by assumption) ?ru_2
        case hiu_2 => (simp only [List.getElem?_toArray, List.getElem?_cons_succ, List.getElem?_cons_zero]; rfl)
        case hqu_2 => exact fun _ _ _ h => h
        case hyu_2 =>
          first
            | (refine Or.inl ⟨by rfl, ?_⟩; intro wq hSw; (try dsimp only at hSw); go_simp; (try with_reducible rfl); done)
            | (refine Or.inr ⟨by rfl, ?_⟩; with_reducible rfl)
        try simp only [Act.put, List.setIfInBounds_toArray, List.set_cons_zero, List.set_cons_succ]
        refine wpAnyH_take (i := 3) (oi := ?ou_3) (v := ?vu_3) ?hiu_3 (by kernel_rfl) (by kernel_rfl) (by kernel_rfl) ?hqu_3 ?hyu_3 (by assumption) ?ru_3
        case hiu_3 => (simp only [List.getElem?_toArray, List.getElem?_cons_succ, List.getElem?_cons_zero]; rfl)
        case hqu_3 => exact fun _ _ _ h => h
        case hyu_3 =>
          first
            | (refine Or.inl ⟨by rfl, ?_⟩; intro wq hSw; (try dsimp only at hSw); go_simp; (try with_reducible rfl); done)
            | (refine Or.inr ⟨by rfl, ?_⟩; with_reducible rfl)
        try simp only [Act.put, List.setIfInBounds_toArray, List.set_cons_zero, List.set_cons_succ]
        refine wpAnyH_take (i := 4) (oi := ?ou_4) (v := ?vu_4) ?hiu_4 (by kernel_rfl) (by kernel_rfl) (by kernel_rfl) ?hqu_4 ?hyu_4 (by assumption) ?ru_4
        case hiu_4 => (simp only [List.getElem?_toArray, List.getElem?_cons_succ, List.getElem?_cons_zero]; rfl)
        case hqu_4 => exact fun _ _ _ h => h
        case hyu_4 =>
          first
            | (refine Or.inl ⟨by rfl, ?_⟩; intro wq hSw; (try dsimp only at hSw); go_simp; (try with_reducible rfl); done)
            | (refine Or.inr ⟨by rfl, ?_⟩; with_reducible rfl)
        try simp only [Act.put, List.setIfInBounds_toArray, List.set_cons_zero, List.set_cons_succ]
        refine wpAnyH_take (i := 5) (oi := ?ou_5) (v := ?vu_5) ?hiu_5 (by kernel_rfl) (by kernel_rfl) (by kernel_rfl) ?hqu_5 ?hyu_5 (by assumption) ?ru_5
        case hiu_5 => (simp only [List.getElem?_toArray, List.getElem?_cons_succ, List.getElem?_cons_zero]; rfl)
        case hqu_5 => exact fun _ _ _ h => h
        case hyu_5 =>
          first
            | (refine Or.inl ⟨by rfl, ?_⟩; intro wq hSw; (try dsimp only at hSw); go_simp; (try with_reducible rfl); done)
            | (refine Or.inr ⟨by rfl, ?_⟩; with_reducible rfl)
        try simp only [Act.put, List.setIfInBounds_toArray, List.set_cons_zero, List.set_cons_succ]
        refine wpAnyH_take (i := 6) (oi := ?ou_6) (v := ?vu_6) ?hiu_6 (by kernel_rfl) (by kernel_rfl) (by kernel_rfl) ?hqu_6 ?hyu_6 (by assumption) ?ru_6
        case hiu_6 => (simp only [List.getElem?_toArray, List.getElem?_cons_succ, List.getElem?_cons_zero]; rfl)
        case hqu_6 => exact fun _ _ _ h => h
        case hyu_6 =>
          first
            | (refine Or.inl ⟨by rfl, ?_⟩; intro wq hSw; (try dsimp only at hSw); go_simp; (try with_reducible rfl); done)
            | (refine Or.inr ⟨by rfl, ?_⟩; with_reducible rfl)
        try simp only [Act.put, List.setIfInBounds_toArray, List.set_cons_zero, List.set_cons_succ]
        refine wpAnyH_take (i := 7) (oi := ?ou_7) (v := ?vu_7) ?hiu_7 (by kernel_rfl) (by kernel_rfl) (by kernel_rfl) ?hqu_7 ?hyu_7 (by assumption) ?ru_7
        case hiu_7 => (simp only [List.getElem?_toArray, List.getElem?_cons_succ, List.getElem?_cons_zero]; rfl)
        case hqu_7 => exact fun _ _ _ h => h
        case hyu_7 =>
          first
            | (refine Or.inl ⟨by rfl, ?_⟩; intro wq hSw; (try dsimp only at hSw); go_simp; (try with_reducible rfl); done)
            | (refine Or.inr ⟨by rfl, ?_⟩; with_reducible rfl)
        try simp only [Act.put, List.setIfInBounds_toArray, List.set_cons_zero, List.set_cons_succ]
        refine wpAnyH_take (i := 8) (oi := ?ou_8) (v := ?vu_8) ?hiu_8 (by kernel_rfl) (by kernel_rfl) (by kernel_rfl) ?hqu_8 ?hyu_8 (by assumption) ?ru_8
        case hiu_8 => (simp only [List.getElem?_toArray, List.getElem?_cons_succ, List.getElem?_cons_zero]; rfl)
        case hqu_8 => exact fun _ _ _ h => h
        case hyu_8 =>
          first
            | (refine Or.inl ⟨by rfl, ?_⟩; intro wq hSw; (try dsimp only at hSw); go_simp; (try with_reducible rfl); done)
            | (refine Or.inr ⟨by rfl, ?_⟩; with_reducible rfl)
        try simp only [Act.put, List.setIfInBounds_toArray, List.set_cons_zero, List.set_cons_succ]
        refine wpAnyH_done (by kernel_rfl) ?_ _
        obtain ⟨WR, hWR⟩ : ∃ WR, WR = wr.drew := ⟨_, rfl⟩
        have HB2 := Lib.hid (show Below w8.heap.size w8 WR by rw [hWR]; exact below_seq HB.out HD.out)
        have KX := Lib.hid (fun w' (hb : Below WR.heap.size WR w') => KS.out w' (by rw [hWR] at hb; exact below_seq HD.out hb))
        have GD := Lib.hid (show RecSIn [.slice a4 n k4] (topM L n) WR by rw [hWR]; exact GR.below HD.out)
        rw [← hWR]
        clear hWR HD KS GR LR rr PR hHeld
        go_wp2_with fail
        go_loopg [9] n (fun kk jv wq => ∃ j : Nat, j ≤ n ∧ n - j = kk ∧ jv = .int .i64 j ∧ Hid (Below WR.heap.size WR wq))
        case atStart => exact ⟨0, Nat.zero_le _, rfl, rfl, Lib.hid (Below.refl _ _)⟩
        case round =>
          obtain ⟨j, hj, hjk, rfl, HJ⟩ := hrel
          by_cases hjn : j < n
          · have GJ := GD.out.below HJ.out
            obtain ⟨a11, c11, e11, _, _, rg⟩ := recSIn_shape GJ
            have e11' := e11
            rw [TL.out] at e11'
            simp at e11'
            obtain ⟨rfl, rfl⟩ := e11'
            have hjT : j < (topM L n).length := by rw [TL.out]; exact hjn
            obtain ⟨b3, o3, rfl, y0, y1, y2, y3⟩ := rg.rec hjT
            have YB := Lib.hid (topM_bd' BD.out _ (List.getElem_mem hjT))
            have TJ := Lib.hid (TT.out j hjT)
            obtain ⟨y, hy⟩ : ∃ y, (topM L n)[j] = y := ⟨_, rfl⟩
            rw [hy] at y0 y1 y2 y3 YB TJ
            clear hy
            have AH := Lib.hid (fun w' => specRecAheadR ⟨true, x1, x2, x3⟩ y w' XB.out.2.2 YB.out.2.2)
            have TM := Lib.hid (fun w' (hb : Below wr.heap.size wr w') => lawsTimesIn _ (topM L n) ⟨true, x1, x2, x3⟩ w' (GJ.below hb))
            obtain ⟨t, ht⟩ : ∃ t, timesB (topM L n) ⟨true, x1, x2, x3⟩ = t := ⟨_, rfl⟩
            rw [ht] at TM TJ
            unfold RecM.cells at AH
            obtain ⟨z0, z1, z2, z3⟩ := y
            simp only at y0 y1 y2 y3 AH TM
            have KJ := Lib.hid (fun w' (hb : Below wr.heap.size wr w') => (show w'.cell? ⟨b1, o1 + i * 4, none⟩ = some (.bool true) ∧ w'.cell? ⟨b1, o1 + i * 4 + 1, none⟩ = some (.int .i64 x1) ∧ w'.cell? ⟨b1, o1 + i * 4 + 2, none⟩ = some (.int .i64 x2) ∧ w'.cell? ⟨b1, o1 + i * 4 + 3, none⟩ = some (.string x3) ∧ w'.cell? ⟨b3, o3 + j * 4, none⟩ = some (.bool z0) ∧ w'.cell? ⟨b3, o3 + j * 4 + 1, none⟩ = some (.int .i64 z1) ∧ w'.cell? ⟨b3, o3 + j * 4 + 2, none⟩ = some (.int .i64 z2) ∧ w'.cell? ⟨b3, o3 + j * 4 + 3, none⟩ = some (.string z3) from by
              obtain ⟨s0, s1, s2, s3, _⟩ := KX.out wr HJ.out
              exact ⟨cell_keep s0 hb, cell_keep s1 hb, cell_keep s2 hb, cell_keep s3 hb, cell_keep y0 hb, cell_keep y1 hb, cell_keep y2 hb, cell_keep y3 hb⟩))
            have HD := Lib.hid (below_drew (Below.refl wr.heap.size wr))
            have hj0 : (0 : Int) ≤ (j : Int) := by omega
            have hj1 : (j : Int) < (n : Int) := by omega
            clear y0 y1 y2 y3 ht GJ e11 rg hjT YB
            obtain ⟨q, hq⟩ : ∃ q, aheadB ⟨true, x1, x2, x3⟩ ⟨z0, z1, z2, z3⟩ = q := ⟨_, rfl⟩
            rw [hq] at AH TJ
            clear hq
            cases q
            · clear TJ TM
              go_upto_region 21 with fail
              refine wp_region_held_drew (S := (fun w' => w'.cell? ⟨b1, o1 + i * 4, none⟩ = some (.bool true) ∧ w'.cell? ⟨b1, o1 + i * 4 + 1, none⟩ = some (.int .i64 x1) ∧ w'.cell? ⟨b1, o1 + i * 4 + 2, none⟩ = some (.int .i64 x2) ∧ w'.cell? ⟨b1, o1 + i * 4 + 3, none⟩ = some (.string x3) ∧ w'.cell? ⟨b3, o3 + j * 4, none⟩ = some (.bool z0) ∧ w'.cell? ⟨b3, o3 + j * 4 + 1, none⟩ = some (.int .i64 z1) ∧ w'.cell? ⟨b3, o3 + j * 4 + 2, none⟩ = some (.int .i64 z2) ∧ w'.cell? ⟨b3, o3 + j * 4 + 3, none⟩ = some (.string z3))) (by kernel_rfl) (KJ.out _ HD.out) (fun hHeld => ?_)
              refine wpAnyH_take (i := 0) (oi := ?oc_0) (v := ?vc_0) ?hic_0 (by kernel_rfl) (by kernel_rfl) (by kernel_rfl) ?hqc_0 ?hyc_0 (by assumption) ?rc_0
              case hic_0 => (simp only [List.getElem?_toArray, List.getElem?_cons_succ, List.getElem?_cons_zero]; rfl)
              case hqc_0 => exact fun _ _ _ h => h
              case hyc_0 =>
                first
                  | (refine Or.inl ⟨by rfl, ?_⟩; intro wq hSw; (try dsimp only at hSw); go_simp; (try with_reducible rfl); done)
                  | (refine Or.inr ⟨by rfl, ?_⟩; with_reducible rfl)
              try simp only [Act.put, List.setIfInBounds_toArray, List.set_cons_zero, List.set_cons_succ]
              refine wpAnyH_take (i := 1) (oi := ?oc_1) (v := ?vc_1) ?hic_1 (by kernel_rfl) (by kernel_rfl) (by kernel_rfl) ?hqc_1 ?hyc_1 (by assumption) ?rc_1
              case hic_1 => (simp only [List.getElem?_toArray, List.getElem?_cons_succ, List.getElem?_cons_zero]; rfl)
              case hqc_1 => exact fun _ _ _ h => h
              case hyc_1 =>
                first
                  | (refine Or.inl ⟨by rfl, ?_⟩; intro wq hSw; (try dsimp only at hSw); go_simp; (try with_reducible rfl); done)
                  | (refine Or.inr ⟨by rfl, ?_⟩; with_reducible rfl)
              try simp only [Act.put, List.setIfInBounds_toArray, List.set_cons_zero, List.set_cons_succ]
              refine wpAnyH_take (i := 2) (oi := ?oc_2) (v := ?vc_2) ?hic_2 (by kernel_rfl) (by kernel_rfl) (by kernel_rfl) ?hqc_2 ?hyc_2 (by assumption) ?rc_2
              case hic_2 => (simp only [List.getElem?_toArray, List.getElem?_cons_succ, List.getElem?_cons_zero]; rfl)
              case hqc_2 => exact fun _ _ _ h => h
              case hyc_2 =>
                first
                  | (refine Or.inl ⟨by rfl, ?_⟩; intro wq hSw; (try dsimp only at hSw); go_simp; (try with_reducible rfl); done)
                  | (refine Or.inr ⟨by rfl, ?_⟩; with_reducible rfl)
              try simp only [Act.put, List.setIfInBounds_toArray, List.set_cons_zero, List.set_cons_succ]
              refine wpAnyH_take (i := 3) (oi := ?oc_3) (v := ?vc_3) ?hic_3 (by kernel_rfl) (by kernel_rfl) (by kernel_rfl) ?hqc_3 ?hyc_3 (by assumption) ?rc_3
              case hic_3 => (simp only [List.getElem?_toArray, List.getElem?_cons_succ, List.getElem?_cons_zero]; rfl)
              case hqc_3 => exact fun _ _ _ h => h
              case hyc_3 =>
                first
                  | (refine Or.inl ⟨by rfl, ?_⟩; intro wq hSw; (try dsimp only at hSw); go_simp; (try with_reducible rfl); done)
                  | (refine Or.inr ⟨by rfl, ?_⟩; with_reducible rfl)
              try simp only [Act.put, List.setIfInBounds_toArray, List.set_cons_zero, List.set_cons_succ]
              refine wpAnyH_take (i := 4) (oi := ?oc_4) (v := ?vc_4) ?hic_4 (by kernel_rfl) (by kernel_rfl) (by kernel_rfl) ?hqc_4 ?hyc_4 (by assumption) ?rc_4
              case hic_4 => (simp only [List.getElem?_toArray, List.getElem?_cons_succ, List.getElem?_cons_zero]; rfl)
              case hqc_4 => exact fun _ _ _ h => h
              case hyc_4 =>
                first
                  | (refine Or.inl ⟨by rfl, ?_⟩; intro wq hSw; (try dsimp only at hSw); go_simp; (try with_reducible rfl); done)
                  | (refine Or.inr ⟨by rfl, ?_⟩; with_reducible rfl)
              try simp only [Act.put, List.setIfInBounds_toArray, List.set_cons_zero, List.set_cons_succ]
              refine wpAnyH_take (i := 5) (oi := ?oc_5) (v := ?vc_5) ?hic_5 (by kernel_rfl) (by kernel_rfl) (by kernel_rfl) ?hqc_5 ?hyc_5 (by assumption) ?rc_5
              case hic_5 => (simp only [List.getElem?_toArray, List.getElem?_cons_succ, List.getElem?_cons_zero]; rfl)
              case hqc_5 => exact fun _ _ _ h => h
              case hyc_5 =>
                first
                  | (refine Or.inl ⟨by rfl, ?_⟩; intro wq hSw; (try dsimp only at hSw); go_simp; (try with_reducible rfl); done)
                  | (refine Or.inr ⟨by rfl, ?_⟩; with_reducible rfl)
              try simp only [Act.put, List.setIfInBounds_toArray, List.set_cons_zero, List.set_cons_succ]
              refine wpAnyH_take (i := 6) (oi := ?oc_6) (v := ?vc_6) ?hic_6 (by kernel_rfl) (by kernel_rfl) (by kernel_rfl) ?hqc_6 ?hyc_6 (by assumption) ?rc_6
              case hic_6 => (simp only [List.getElem?_toArray, List.getElem?_cons_succ, List.getElem?_cons_zero]; rfl)
              case hqc_6 => exact fun _ _ _ h => h
              case hyc_6 =>
                first
                  | (refine Or.inl ⟨by rfl, ?_⟩; intro wq hSw; (try dsimp only at hSw); go_simp; (try with_reducible rfl); done)
                  | (refine Or.inr ⟨by rfl, ?_⟩; with_reducible rfl)
              try simp only [Act.put, List.setIfInBounds_toArray, List.set_cons_zero, List.set_cons_succ]
              refine wpAnyH_take (i := 7) (oi := ?oc_7) (v := ?vc_7) ?hic_7 (by kernel_rfl) (by kernel_rfl) (by kernel_rfl) ?hqc_7 ?hyc_7 (by assumption) ?rc_7
              case hic_7 => (simp only [List.getElem?_toArray, List.getElem?_cons_succ, List.getElem?_cons_zero]; rfl)
              case hqc_7 => exact fun _ _ _ h => h
              case hyc_7 =>
                first
                  | (refine Or.inl ⟨by rfl, ?_⟩; intro wq hSw; (try dsimp only at hSw); go_simp; (try with_reducible rfl); done)
                  | (refine Or.inr ⟨by rfl, ?_⟩; with_reducible rfl)
              try simp only [Act.put, List.setIfInBounds_toArray, List.set_cons_zero, List.set_cons_succ]
              refine wpAnyH_ready (rs := [8]) (by kernel_rfl) (by simp) ?_
              refine AllReadyH.cons (by simp only [List.getElem?_toArray, List.getElem?_cons_succ, List.getElem?_cons_zero]; rfl) (fun K hK => ?_) AllReadyH.nil
              go_simp
              go_at_call 16
              refine (AH.out _).mono ?_
              rintro e wn ⟨rfl, hb⟩
              replace HD := Lib.hid (below_seq HD.out hb)
              clear hb
              refine hK.out _ _ (KJ.out _ HD.out) (fun hHeld8 => ?_)
              clear hK K hHeld
              try simp only [Act.put, List.setIfInBounds_toArray, List.set_cons_zero, List.set_cons_succ]
              refine wpAnyH_take (i := 9) (oi := ?oc_9) (v := ?vc_9) ?hic_9 (by kernel_rfl) (by kernel_rfl) (by kernel_rfl) ?hqc_9 ?hyc_9 (by assumption) ?rc_9
              case hic_9 => (simp only [List.getElem?_toArray, List.getElem?_cons_succ, List.getElem?_cons_zero]; rfl)
              case hqc_9 => exact fun _ _ _ h => h
              case hyc_9 =>
                first
                  | (refine Or.inl ⟨by rfl, ?_⟩; intro wq hSw; (try dsimp only at hSw); go_simp; (try with_reducible rfl); done)
                  | (refine Or.inr ⟨by rfl, ?_⟩; with_reducible rfl)
              try simp only [Act.put, List.setIfInBounds_toArray, List.set_cons_zero, List.set_cons_succ]
              refine wpAnyH_take (i := 10) (oi := ?oc_10) (v := ?vc_10) ?hic_10 (by kernel_rfl) (by kernel_rfl) (by kernel_rfl) ?hqc_10 ?hyc_10 (by assumption) ?rc_10
              case hic_10 => (simp only [List.getElem?_toArray, List.getElem?_cons_succ, List.getElem?_cons_zero]; rfl)
              case hqc_10 => exact fun _ _ _ h => h
              case hyc_10 =>
                first
                  | (refine Or.inl ⟨by rfl, ?_⟩; intro wq hSw; (try dsimp only at hSw); go_simp; (try with_reducible rfl); done)
                  | (refine Or.inr ⟨by rfl, ?_⟩; with_reducible rfl)
              try simp only [Act.put, List.setIfInBounds_toArray, List.set_cons_zero, List.set_cons_succ]
              refine wpAnyH_take (i := 11) (oi := ?oc_11) (v := ?vc_11) ?hic_11 (by kernel_rfl) (by kernel_rfl) (by kernel_rfl) ?hqc_11 ?hyc_11 (by assumption) ?rc_11
              case hic_11 => (simp only [List.getElem?_toArray, List.getElem?_cons_succ, List.getElem?_cons_zero]; rfl)
              case hqc_11 => exact fun _ _ _ h => h
              case hyc_11 =>
                first
                  | (refine Or.inl ⟨by rfl, ?_⟩; intro wq hSw; (try dsimp only at hSw); go_simp; (try with_reducible rfl); done)
                  | (refine Or.inr ⟨by rfl, ?_⟩; with_reducible rfl)
              try simp only [Act.put, List.setIfInBounds_toArray, List.set_cons_zero, List.set_cons_succ]
              refine wpAnyH_take (i := 12) (oi := ?oc_12) (v := ?vc_12) ?hic_12 (by kernel_rfl) (by kernel_rfl) (by kernel_rfl) ?hqc_12 ?hyc_12 (by assumption) ?rc_12
              case hic_12 => (simp only [List.getElem?_toArray, List.getElem?_cons_succ, List.getElem?_cons_zero]; rfl)
              case hqc_12 => exact fun _ _ _ h => h
              case hyc_12 =>
                first
                  | (refine Or.inl ⟨by rfl, ?_⟩; intro wq hSw; (try dsimp only at hSw); go_simp; (try with_reducible rfl); done)
                  | (refine Or.inr ⟨by rfl, ?_⟩; with_reducible rfl)
              try simp only [Act.put, List.setIfInBounds_toArray, List.set_cons_zero, List.set_cons_succ]
              refine wpAnyH_take (i := 13) (oi := ?oc_13) (v := ?vc_13) ?hic_13 (by kernel_rfl) (by kernel_rfl) (by kernel_rfl) ?hqc_13 ?hyc_13 (by assumption) ?rc_13
              case hic_13 => (simp only [List.getElem?_toArray, List.getElem?_cons_succ, List.getElem?_cons_zero]; rfl)
              case hqc_13 => exact fun _ _ _ h => h
              case hyc_13 =>
                first
                  | (refine Or.inl ⟨by rfl, ?_⟩; intro wq hSw; (try dsimp only at hSw); go_simp; (try with_reducible rfl); done)
                  | (refine Or.inr ⟨by rfl, ?_⟩; with_reducible rfl)
              try simp only [Act.put, List.setIfInBounds_toArray, List.set_cons_zero, List.set_cons_succ]
              refine wpAnyH_take (i := 14) (oi := ?oc_14) (v := ?vc_14) ?hic_14 (by kernel_rfl) (by kernel_rfl) (by kernel_rfl) ?hqc_14 ?hyc_14 (by assumption) ?rc_14
              case hic_14 => (simp only [List.getElem?_toArray, List.getElem?_cons_succ, List.getElem?_cons_zero]; rfl)
              case hqc_14 => exact fun _ _ _ h => h
              case hyc_14 =>
                first
                  | (refine Or.inl ⟨by rfl, ?_⟩; intro wq hSw; (try dsimp only at hSw); go_simp; (try with_reducible rfl); done)
                  | (refine Or.inr ⟨by rfl, ?_⟩; with_reducible rfl)
              try simp only [Act.put, List.setIfInBounds_toArray, List.set_cons_zero, List.set_cons_succ]
              refine wpAnyH_take (i := 15) (oi := ?oc_15) (v := ?vc_15) ?hic_15 (by kernel_rfl) (by kernel_rfl) (by kernel_rfl) ?hqc_15 ?hyc_15 (by assumption) ?rc_15
              case hic_15 => (simp only [List.getElem?_toArray, List.getElem?_cons_succ, List.getElem?_cons_zero]; rfl)
              case hqc_15 => exact fun _ _ _ h => h
              case hyc_15 =>
                first
                  | (refine Or.inl ⟨by rfl, ?_⟩; intro wq hSw; (try dsimp only at hSw); go_simp; (try with_reducible rfl); done)
                  | (refine Or.inr ⟨by rfl, ?_⟩; with_reducible rfl)
              try simp only [Act.put, List.setIfInBounds_toArray, List.set_cons_zero, List.set_cons_succ]
              refine wpAnyH_take (i := 16) (oi := ?oc_16) (v := ?vc_16) ?hic_16 (by kernel_rfl) (by kernel_rfl) (by kernel_rfl) ?hqc_16 ?hyc_16 (by assumption) ?rc_16
              case hic_16 => (simp only [List.getElem?_toArray, List.getElem?_cons_succ, List.getElem?_cons_zero]; rfl)
              case hqc_16 => exact fun _ _ _ h => h
              case hyc_16 =>
                first
                  | (refine Or.inl ⟨by rfl, ?_⟩; intro wq hSw; (try dsimp only at hSw); go_simp; (try with_reducible rfl); done)
                  | (refine Or.inr ⟨by rfl, ?_⟩; with_reducible rfl)
              try simp only [Act.put, List.setIfInBounds_toArray, List.set_cons_zero, List.set_cons_succ]
              refine wpAnyH_take (i := 17) (oi := ?oc_17) (v := ?vc_17) ?hic_17 (by kernel_rfl) (by kernel_rfl) (by kernel_rfl) ?hqc_17 ?hyc_17 (by assumption) ?rc_17
              case hic_17 => (simp only [List.getElem?_toArray, List.getElem?_cons_succ, List.getElem?_cons_zero]; rfl)
              case hqc_17 => exact fun _ _ _ h => h
              case hyc_17 =>
                first
                  | (refine Or.inl ⟨by rfl, ?_⟩; intro wq hSw; (try dsimp only at hSw); go_simp; (try with_reducible rfl); done)
                  | (refine Or.inr ⟨by rfl, ?_⟩; with_reducible rfl)
              try simp only [Act.put, List.setIfInBounds_toArray, List.set_cons_zero, List.set_cons_succ]
              refine wpAnyH_done (by kernel_rfl) ?_ _
              have B9 := Lib.hid (below_seq HJ.out HD.out)
              clear HD KJ AH
              go_wp2
              go_roundg (n - (j + 1))
              case measure => omega
              case rel => exact ⟨j + 1, by omega, rfl, by go_num, B9⟩
            · have ht0 := TJ.out rfl
              have ht1 : ((t : Int) == 0) = false := by simp; omega
              have ht2 : ¬ t = 0 := by omega
              have ht3 : (t == 0) = false := by simp; omega
              have ht4 : decide (t = 0) = false := by simp; omega
              clear TJ
              go_upto_region 21 with fail
              refine wp_region_held_drew (S := (fun w' => w'.cell? ⟨b1, o1 + i * 4, none⟩ = some (.bool true) ∧ w'.cell? ⟨b1, o1 + i * 4 + 1, none⟩ = some (.int .i64 x1) ∧ w'.cell? ⟨b1, o1 + i * 4 + 2, none⟩ = some (.int .i64 x2) ∧ w'.cell? ⟨b1, o1 + i * 4 + 3, none⟩ = some (.string x3) ∧ w'.cell? ⟨b3, o3 + j * 4, none⟩ = some (.bool z0) ∧ w'.cell? ⟨b3, o3 + j * 4 + 1, none⟩ = some (.int .i64 z1) ∧ w'.cell? ⟨b3, o3 + j * 4 + 2, none⟩ = some (.int .i64 z2) ∧ w'.cell? ⟨b3, o3 + j * 4 + 3, none⟩ = some (.string z3))) (by kernel_rfl) (KJ.out _ HD.out) (fun hHeld => ?_)
              refine wpAnyH_take (i := 0) (oi := ?oo_0) (v := ?vo_0) ?hio_0 (by kernel_rfl) (by kernel_rfl) (by kernel_rfl) ?hqo_0 ?hyo_0 (by assumption) ?ro_0
              case hio_0 => (simp only [List.getElem?_toArray, List.getElem?_cons_succ, List.getElem?_cons_zero]; rfl)
              case hqo_0 => exact fun _ _ _ h => h
              case hyo_0 =>
                first
                  | (refine Or.inl ⟨by rfl, ?_⟩; intro wq hSw; (try dsimp only at hSw); go_simp; (try with_reducible rfl); done)
                  | (refine Or.inr ⟨by rfl, ?_⟩; with_reducible rfl)
              try simp only [Act.put, List.setIfInBounds_toArray, List.set_cons_zero, List.set_cons_succ]
              refine wpAnyH_take (i := 1) (oi := ?oo_1) (v := ?vo_1) ?hio_1 (by kernel_rfl) (by kernel_rfl) (by kernel_rfl) ?hqo_1 ?hyo_1 (by assumption) ?ro_1
              case hio_1 => (simp only [List.getElem?_toArray, List.getElem?_cons_succ, List.getElem?_cons_zero]; rfl)
              case hqo_1 => exact fun _ _ _ h => h
              case hyo_1 =>
                first
                  | (refine Or.inl ⟨by rfl, ?_⟩; intro wq hSw; (try dsimp only at hSw); go_simp; (try with_reducible rfl); done)
                  | (refine Or.inr ⟨by rfl, ?_⟩; with_reducible rfl)
              try simp only [Act.put, List.setIfInBounds_toArray, List.set_cons_zero, List.set_cons_succ]
              refine wpAnyH_take (i := 2) (oi := ?oo_2) (v := ?vo_2) ?hio_2 (by kernel_rfl) (by kernel_rfl) (by kernel_rfl) ?hqo_2 ?hyo_2 (by assumption) ?ro_2
              case hio_2 => (simp only [List.getElem?_toArray, List.getElem?_cons_succ, List.getElem?_cons_zero]; rfl)
              case hqo_2 => exact fun _ _ _ h => h
              case hyo_2 =>
                first
                  | (refine Or.inl ⟨by rfl, ?_⟩; intro wq hSw; (try dsimp only at hSw); go_simp; (try with_reducible rfl); done)
                  | (refine Or.inr ⟨by rfl, ?_⟩; with_reducible rfl)
              try simp only [Act.put, List.setIfInBounds_toArray, List.set_cons_zero, List.set_cons_succ]
              refine wpAnyH_take (i := 3) (oi := ?oo_3) (v := ?vo_3) ?hio_3 (by kernel_rfl) (by kernel_rfl) (by kernel_rfl) ?hqo_3 ?hyo_3 (by assumption) ?ro_3
              case hio_3 => (simp only [List.getElem?_toArray, List.getElem?_cons_succ, List.getElem?_cons_zero]; rfl)
              case hqo_3 => exact fun _ _ _ h => h
              case hyo_3 =>
                first
                  | (refine Or.inl ⟨by rfl, ?_⟩; intro wq hSw; (try dsimp only at hSw); go_simp; (try with_reducible rfl); done)
                  | (refine Or.inr ⟨by rfl, ?_⟩; with_reducible rfl)
              try simp only [Act.put, List.setIfInBounds_toArray, List.set_cons_zero, List.set_cons_succ]
              refine wpAnyH_take (i := 4) (oi := ?oo_4) (v := ?vo_4) ?hio_4 (by kernel_rfl) (by kernel_rfl) (by kernel_rfl) ?hqo_4 ?hyo_4 (by assumption) ?ro_4
              case hio_4 => (simp only [List.getElem?_toArray, List.getElem?_cons_succ, List.getElem?_cons_zero]; rfl)
              case hqo_4 => exact fun _ _ _ h => h
              case hyo_4 =>
                first
                  | (refine Or.inl ⟨by rfl, ?_⟩; intro wq hSw; (try dsimp only at hSw); go_simp; (try with_reducible rfl); done)
                  | (refine Or.inr ⟨by rfl, ?_⟩; with_reducible rfl)
              try simp only [Act.put, List.setIfInBounds_toArray, List.set_cons_zero, List.set_cons_succ]
              refine wpAnyH_take (i := 5) (oi := ?oo_5) (v := ?vo_5) ?hio_5 (by kernel_rfl) (by kernel_rfl) (by kernel_rfl) ?hqo_5 ?hyo_5 (by assumption) ?ro_5
              case hio_5 => (simp only [List.getElem?_toArray, List.getElem?_cons_succ, List.getElem?_cons_zero]; rfl)
              case hqo_5 => exact fun _ _ _ h => h
              case hyo_5 =>
                first
                  | (refine Or.inl ⟨by rfl, ?_⟩; intro wq hSw; (try dsimp only at hSw); go_simp; (try with_reducible rfl); done)
                  | (refine Or.inr ⟨by rfl, ?_⟩; with_reducible rfl)
              try simp only [Act.put, List.setIfInBounds_toArray, List.set_cons_zero, List.set_cons_succ]
              refine wpAnyH_take (i := 6) (oi := ?oo_6) (v := ?vo_6) ?hio_6 (by kernel_rfl) (by kernel_rfl) (by kernel_rfl) ?hqo_6 ?hyo_6 (by assumption) ?ro_6
              case hio_6 => (simp only [List.getElem?_toArray, List.getElem?_cons_succ, List.getElem?_cons_zero]; rfl)
              case hqo_6 => exact fun _ _ _ h => h
              case hyo_6 =>
                first
                  | (refine Or.inl ⟨by rfl, ?_⟩; intro wq hSw; (try dsimp only at hSw); go_simp; (try with_reducible rfl); done)
                  | (refine Or.inr ⟨by rfl, ?_⟩; with_reducible rfl)
              try simp only [Act.put, List.setIfInBounds_toArray, List.set_cons_zero, List.set_cons_succ]
              refine wpAnyH_take (i := 7) (oi := ?oo_7) (v := ?vo_7) ?hio_7 (by kernel_rfl) (by kernel_rfl) (by kernel_rfl) ?hqo_7 ?hyo_7 (by assumption) ?ro_7
              case hio_7 => (simp only [List.getElem?_toArray, List.getElem?_cons_succ, List.getElem?_cons_zero]; rfl)
              case hqo_7 => exact fun _ _ _ h => h
              case hyo_7 =>
                first
                  | (refine Or.inl ⟨by rfl, ?_⟩; intro wq hSw; (try dsimp only at hSw); go_simp; (try with_reducible rfl); done)
                  | (refine Or.inr ⟨by rfl, ?_⟩; with_reducible rfl)
              try simp only [Act.put, List.setIfInBounds_toArray, List.set_cons_zero, List.set_cons_succ]
              refine wpAnyH_ready (rs := [8]) (by kernel_rfl) (by simp) ?_
              refine AllReadyH.cons (by simp only [List.getElem?_toArray, List.getElem?_cons_succ, List.getElem?_cons_zero]; rfl) (fun K hK => ?_) AllReadyH.nil
              go_simp
              go_at_call 16
              refine (AH.out _).mono ?_
              rintro e wn ⟨rfl, hb⟩
              replace HD := Lib.hid (below_seq HD.out hb)
              clear hb
              refine hK.out _ _ (KJ.out _ HD.out) (fun hHeld8 => ?_)
              clear hK K hHeld
              try simp only [Act.put, List.setIfInBounds_toArray, List.set_cons_zero, List.set_cons_succ]
              refine wpAnyH_take (i := 9) (oi := ?oo_9) (v := ?vo_9) ?hio_9 (by kernel_rfl) (by kernel_rfl) (by kernel_rfl) ?hqo_9 ?hyo_9 (by assumption) ?ro_9
              case hio_9 => (simp only [List.getElem?_toArray, List.getElem?_cons_succ, List.getElem?_cons_zero]; rfl)
              case hqo_9 => exact fun _ _ _ h => h
              case hyo_9 =>
                first
                  | (refine Or.inl ⟨by rfl, ?_⟩; intro wq hSw; (try dsimp only at hSw); go_simp; (try with_reducible rfl); done)
                  | (refine Or.inr ⟨by rfl, ?_⟩; with_reducible rfl)
              try simp only [Act.put, List.setIfInBounds_toArray, List.set_cons_zero, List.set_cons_succ]
              refine wpAnyH_take (i := 10) (oi := ?oo_10) (v := ?vo_10) ?hio_10 (by kernel_rfl) (by kernel_rfl) (by kernel_rfl) ?hqo_10 ?hyo_10 (by assumption) ?ro_10
              case hio_10 => (simp only [List.getElem?_toArray, List.getElem?_cons_succ, List.getElem?_cons_zero]; rfl)
              case hqo_10 => exact fun _ _ _ h => h
              case hyo_10 =>
                first
                  | (refine Or.inl ⟨by rfl, ?_⟩; intro wq hSw; (try dsimp only at hSw); go_simp; (try with_reducible rfl); done)
                  | (refine Or.inr ⟨by rfl, ?_⟩; with_reducible rfl)
              try simp only [Act.put, List.setIfInBounds_toArray, List.set_cons_zero, List.set_cons_succ]
              refine wpAnyH_take (i := 11) (oi := ?oo_11) (v := ?vo_11) ?hio_11 (by kernel_rfl) (by kernel_rfl) (by kernel_rfl) ?hqo_11 ?hyo_11 (by assumption) ?ro_11
              case hio_11 => (simp only [List.getElem?_toArray, List.getElem?_cons_succ, List.getElem?_cons_zero]; rfl)
              case hqo_11 => exact fun _ _ _ h => h
              case hyo_11 =>
                first
                  | (refine Or.inl ⟨by rfl, ?_⟩; intro wq hSw; (try dsimp only at hSw); go_simp; (try with_reducible rfl); done)
                  | (refine Or.inr ⟨by rfl, ?_⟩; with_reducible rfl)
              try simp only [Act.put, List.setIfInBounds_toArray, List.set_cons_zero, List.set_cons_succ]
              refine wpAnyH_take (i := 12) (oi := ?oo_12) (v := ?vo_12) ?hio_12 (by kernel_rfl) (by kernel_rfl) (by kernel_rfl) ?hqo_12 ?hyo_12 (by assumption) ?ro_12
              case hio_12 => (simp only [List.getElem?_toArray, List.getElem?_cons_succ, List.getElem?_cons_zero]; rfl)
              case hqo_12 => exact fun _ _ _ h => h
              case hyo_12 =>
                first
                  | (refine Or.inl ⟨by rfl, ?_⟩; intro wq hSw; (try dsimp only at hSw); go_simp; (try with_reducible rfl); done)
                  | (refine Or.inr ⟨by rfl, ?_⟩; with_reducible rfl)
              try simp only [Act.put, List.setIfInBounds_toArray, List.set_cons_zero, List.set_cons_succ]
              refine wpAnyH_take (i := 13) (oi := ?oo_13) (v := ?vo_13) ?hio_13 (by kernel_rfl) (by kernel_rfl) (by kernel_rfl) ?hqo_13 ?hyo_13 (by assumption) ?ro_13
              case hio_13 => (simp only [List.getElem?_toArray, List.getElem?_cons_succ, List.getElem?_cons_zero]; rfl)
              case hqo_13 => exact fun _ _ _ h => h
              case hyo_13 =>
                first
                  | (refine Or.inl ⟨by rfl, ?_⟩; intro wq hSw; (try dsimp only at hSw); go_simp; (try with_reducible rfl); done)
                  | (refine Or.inr ⟨by rfl, ?_⟩; with_reducible rfl)
              try simp only [Act.put, List.setIfInBounds_toArray, List.set_cons_zero, List.set_cons_succ]
              refine wpAnyH_take (i := 14) (oi := ?oo_14) (v := ?vo_14) ?hio_14 (by kernel_rfl) (by kernel_rfl) (by kernel_rfl) ?hqo_14 ?hyo_14 (by assumption) ?ro_14
              case hio_14 => (simp only [List.getElem?_toArray, List.getElem?_cons_succ, List.getElem?_cons_zero]; rfl)
              case hqo_14 => exact fun _ _ _ h => h
              case hyo_14 =>
                first
                  | (refine Or.inl ⟨by rfl, ?_⟩; intro wq hSw; (try dsimp only at hSw); go_simp; (try with_reducible rfl); done)
                  | (refine Or.inr ⟨by rfl, ?_⟩; with_reducible rfl)
              try simp only [Act.put, List.setIfInBounds_toArray, List.set_cons_zero, List.set_cons_succ]
              refine wpAnyH_ready (rs := [15]) (by kernel_rfl) (by simp) ?_
              refine AllReadyH.cons (by simp only [List.getElem?_toArray, List.getElem?_cons_succ, List.getElem?_cons_zero]; rfl) (fun K hK => ?_) AllReadyH.nil
              go_simp
              go_at_call 15
              refine (TM.out _ HD.out).mono ?_
              rintro e wn ⟨rfl, hb⟩
              replace HD := Lib.hid (below_seq HD.out hb)
              clear hb
              refine hK.out _ _ (KJ.out _ HD.out) (fun hHeld15 => ?_)
              clear hK K hHeld8
              try simp only [Act.put, List.setIfInBounds_toArray, List.set_cons_zero, List.set_cons_succ]
              refine wpAnyH_take (i := 16) (oi := ?oo_16) (v := ?vo_16) ?hio_16 (by kernel_rfl) (by kernel_rfl) (by kernel_rfl) ?hqo_16 ?hyo_16 (by assumption) ?ro_16
              case hio_16 => (simp only [List.getElem?_toArray, List.getElem?_cons_succ, List.getElem?_cons_zero]; rfl)
              case hqo_16 => exact fun _ _ _ h => h
              case hyo_16 =>
                first
                  | (refine Or.inl ⟨by rfl, ?_⟩; intro wq hSw; (try dsimp only at hSw); go_simp; (try with_reducible rfl); done)
                  | (refine Or.inr ⟨by rfl, ?_⟩; with_reducible rfl)
              try simp only [Act.put, List.setIfInBounds_toArray, List.set_cons_zero, List.set_cons_succ]
              refine wpAnyH_take (i := 17) (oi := ?oo_17) (v := ?vo_17) ?hio_17 (by kernel_rfl) (by kernel_rfl) (by kernel_rfl) ?hqo_17 ?hyo_17 (by assumption) ?ro_17
              case hio_17 => (simp only [List.getElem?_toArray, List.getElem?_cons_succ, List.getElem?_cons_zero]; rfl)
              case hqo_17 => exact fun _ _ _ h => h
              case hyo_17 =>
                first
                  | (refine Or.inl ⟨by rfl, ?_⟩; intro wq hSw; (try dsimp only at hSw); go_simp; (try with_reducible rfl); done)
                  | (refine Or.inr ⟨by rfl, ?_⟩; with_reducible rfl)
              try simp only [Act.put, List.setIfInBounds_toArray, List.set_cons_zero, List.set_cons_succ]
              refine wpAnyH_done (by kernel_rfl) ?_ _
              have B9 := Lib.hid (below_seq HJ.out HD.out)
              clear HD KJ AH TM
              go_wp2
              go_roundg (n - (j + 1))
              case measure => omega
              case rel => exact ⟨j + 1, by omega, rfl, by go_num, B9⟩
          · have B9 := Lib.hid (below_seq HB2.out HJ.out)
            go_wp2
            go_roundg (L.length - (i + 1))
            case measure => omega
            case rel => exact ⟨i + 1, by omega, rfl, by rw [CY1.out]; go_num, by go_num, B9⟩
    · have B9 := Lib.hid (below_seq B8.out HB.out)
      go_wp2
      go_ret
      exact ⟨rfl, B9.out⟩
end Go.Proofs.Ytaedamnhobcdlaa.fnTopFirst
end
