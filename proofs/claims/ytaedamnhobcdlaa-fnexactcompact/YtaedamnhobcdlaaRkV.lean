/- The generic sorter over placed records: sort; Compact. Written by tools/mksort.py. -/
import Derived.Test.YtaedamnhobcdlaaRkM
import Derived.Test.YtaedamnhobcdlaaRkO
import Derived.Deep.RegionHeld3
import Derived.Deep.DeepCutAuto
import Derived.Deep.LoopGhost
namespace Go.Proofs.Ytaedamnhobcdlaa
open Go.RowKit
set_option linter.unusedVariables false
set_option linter.unusedSimpArgs false
set_option maxRecDepth 100000

set_option maxHeartbeats 4000000 in
theorem sortP (a : Option Addr) (cap : Nat) (l : List PlM) (w : World) (hl : l.length ≤ 64) (r : Row w a (flatG placL l)) : Calls Try.prog 58 #[.agg #[.func (.func 85) #[] #[]], .slice a l.length cap] w fun e w' => ∃ G cp, e = .returned (.slice (some ⟨G, 0, none⟩) l.length cp) ∧ w'.ownsRow w.heap.size 74 5 (.slice (some ⟨G, 0, none⟩) l.length cp) l.length (flatG placL ((runQ (bitonicM (sizeUp l.length)).ws (l ++ List.replicate (sizeUp l.length - l.length) zeroP)).take l.length)) ∧ Below w.heap.size w w' := by
  have R := Lib.hid r
  have hsz := sizeUp_le hl
  have htwo := size_two hl
  have RS := Lib.hid (fun w' => uImplRankSize (l.length : Int) w' (by omega))
  rw [rankSizeZ_at hl] at RS
  obtain ⟨z, hz⟩ : ∃ z, sizeUp l.length = z := ⟨_, rfl⟩
  rw [hz] at hsz htwo RS ⊢
  clear hz
  have BT := Lib.hid (fun w' => uImplBitonic (z : Int) w' (by omega))
  have GN := bitonic_good htwo
  obtain ⟨NB, hNB⟩ : ∃ NB, bitonicM (z : Int) = NB := ⟨_, rfl⟩
  rw [hNB] at BT GN ⊢
  clear hNB htwo
  obtain ⟨n', e1, _, hn64, hws, hwk⟩ := netOkB_ok GN.ok
  obtain ⟨nz, ws⟩ := NB
  have e2 : nz = (z : Int) := GN.size
  subst e2
  simp only at e1 hws hwk BT ⊢
  have e3 : z = n' := by omega
  subst e3
  have hfl : (l ++ List.replicate (z - l.length) zeroP).length = z := by simp; omega
  have RN := Lib.hid (fun (c0 c1 : Value) (a' : Option Addr) (w' : World) (h : NetIn [c0, c1] ⟨(z : Int), ws⟩ w') (r' : Row w' a' (flatG placL (l ++ List.replicate (z - l.length) zeroP))) => runP c0 c1 z ws a' z (l ++ List.replicate (z - l.length) zeroP) w' h hfl (by omega) (by omega) (by omega) hwk r')
  rw [hfl] at RN
  have hl2 : l.length ≤ z := hsz.1
  have hs64 : z ≤ 64 := hsz.2.1
  have FC := Lib.hid (show flatG placL l ++ (flatG placL (List.replicate z zeroP)).drop (l.length * 5) = flatG placL (l ++ List.replicate (z - l.length) zeroP) by rw [flatG_app, ← flatG_drop placL_len, List.drop_replicate])
  have RL := Lib.hid (show (runQ ws (l ++ List.replicate (z - l.length) zeroP)).length = z by rw [runQ_length, hfl])
  have FL := Lib.hid (flatG_len placL_len l)
  have FO := Lib.hid (flatG_one placL_one l)
  clear r GN e1 hws hwk hn64 hsz hfl 
  obtain ⟨i0, hi, hz0, hz1, hz2⟩ := info_parts Try.infoPl
  obtain ⟨W0, hW0⟩ : ∃ W0, W0 = w.alloc (.cells #[.func (.func 85) #[] #[]] 77) := ⟨_, rfl⟩
  have K0 := Lib.hid (show W0.heap[w.heap.size]? = some (.cells #[.func (.func 85) #[] #[]] 77 (0, 0)) by rw [hW0]; exact alloc_at _ _ _ rfl)
  have B0 := Lib.hid (show Below w.heap.size w W0 by rw [hW0]; exact below_box (Below.refl _ w) _)
  go_enter Try.func58, Try.ntmps58
  go_wp2_with fail
  rw [← hW0]
  clear hW0
  refine (RS.out _).mono ?_
  rintro e w1 ⟨rfl, hb⟩
  have B1 := Lib.hid (below_seq B0.out hb)
  replace K0 := Lib.hid (kept_block K0.out hb)
  clear hb RS B0
  go_wp2_with fail
  refine (BT.out _).mono ?_
  rintro e w2 h2
  obtain ⟨c0, c1, rfl, ho, hb⟩ := h2
  have NI := Lib.hid ho.read
  obtain ⟨ad, kd, rfl, rfl, _⟩ := netIn_cells ho.read
  have B2 := Lib.hid (below_seq B1.out hb)
  replace K0 := Lib.hid (kept_block K0.out hb)
  clear hb ho B1 BT
  simp only at NI RN ⊢
  obtain ⟨W3, hW3⟩ : ∃ W3, W3 = w2.alloc (.cells #[.int .i64 z, .slice ad ws.length kd] 36) := ⟨_, rfl⟩
  have B23 := Lib.hid (show Below w2.heap.size w2 W3 by rw [hW3]; exact below_box (Below.refl _ w2) _)
  have K3 := Lib.hid (show W3.heap[w2.heap.size]? = some (.cells #[.int .i64 z, .slice ad ws.length kd] 36 (0, 0)) by rw [hW3]; exact alloc_at _ _ _ rfl)
  replace NI := Lib.hid (NI.out.below B23.out)
  replace K0 := Lib.hid (kept_block K0.out B23.out)
  replace B2 := Lib.hid (below_seq B2.out B23.out)
  have q0 := cur_cell K3.out 0
  simp at q0
  have hX : w2.heap.size < W3.heap.size := cur_lt K3.out
  clear B23
  go_wp2_with (at_make; refine wpList_make_full _ rfl _ _ 72 rfl w.heap.size 74 i0 _ 5 Try.underlying72 hi hz0 hz1 .i64 .i64 _ _ z rfl rfl rfl rfl (by rw [hz2]; omega) (by unfold maxLen; omega) (by have := B2.out.size; rw [hW3] at this; exact this) ?_)
  clear hi hz0 hz1 hz2
  intro w4 hown hgr
  rw [← hW3] at hgr
  have hsW : W3.heap.size = w2.heap.size + 1 := by rw [hW3]; simp
  clear hW3
  have hb4 : Below W3.heap.size W3 w4 := grown_below hgr
  have hown' : w4.ownsRow w.heap.size 74 5 (.slice (some ⟨w2.heap.size + 1, 0, none⟩) z z) z (flatG placL (List.replicate z zeroP)) := by
    rw [← made_flat placL_len (by decide) zeroP _ rfl]; exact hown
  have B4 := Lib.hid (below_seq B2.out hb4)
  have hmin : Nat.min l.length z = l.length := Nat.min_eq_left hl2
  obtain ⟨w5, hcp, hown5, hg5⟩ := copy_minS (P := Try.prog) (dT := 72) (sT := 72) Try.underlying72 (by kernel_rfl) hown' a l.length cap (flatG placL l) FL.out (R.out.below B4.out) FO.out (by decide)
  rw [hmin] at hcp hown5
  rw [List.take_of_length_le (by rw [FL.out]; exact Nat.le_refl _), FC.out] at hown5
  have hb5 := below_write hb4 hg5 (by omega)
  have K5 := Lib.hid (kept_block K0.out hb5)
  have N5 := Lib.hid (kept_block K3.out hb5)
  have NI5 := Lib.hid (NI.out.below hb5)
  have B5 := Lib.hid (below_seq B2.out hb5)
  have R5 := Lib.hid (Row.of_own hown5)
  clear hown hown' hown5 hgr hg5 hb4 hb5 B2 B4 K0 K3 NI hmin R FL FO FC q0
  have u0 := cur_cell K5.out 0
  have n0 := cur_cell N5.out 0
  have n1 := cur_cell N5.out 1
  simp at u0 n0 n1
  go_wp2_with fail
  refine (RN.out _ _ _ _ NI5.out R5.out).mono ?_
  rintro e w6 ⟨G, cp, rfl, ho, hb⟩
  have hcp6 := own_cap ho
  have hlc : l.length ≤ cp := by omega
  have Z := Lib.hid (own_prefix (k := l.length) ho hl2)
  have B6 := Lib.hid (below_seq B5.out hb)
  have hBB := B5.out.size
  clear ho hb NI5 R5 RN u0 n0 n1 hcp B5
  go_wp2
  all_goals
    go_ret
    exact ⟨G, cp, rfl, by rw [flatG_take placL_len]; exact own_base Z.out hBB, B6.out⟩
theorem own_low {s base n cap g : Nat} {e : TypeId} {xs : List Value} {w : World} (h : w.ownsRow base e s (.slice (some ⟨g, 0, none⟩) n cap) n xs) : base ≤ g := by
  rcases h.2 with ⟨h2, _⟩ | ⟨g', cap', cur, hv, hg, _⟩
  · simp at h2
  · simp at hv
    obtain ⟨rfl, _⟩ := hv
    exact hg
theorem own_keptB {s base n : Nat} {e : TypeId} {v : Value} {xs : List Value} {w w' : World} (h : w.ownsRow base e s v n xs) (hk : ∀ b, v.ownBlock = some b → w'.heap[b]? = w.heap[b]?) : w'.ownsRow base e s v n xs := by
  refine ⟨h.1, ?_⟩
  rcases h.2 with h2 | ⟨g, cap, cur, rfl, hg, hb, r⟩
  · exact .inl h2
  · exact .inr ⟨g, cap, cur, rfl, hg, (hk g rfl).trans hb, r⟩
theorem plFrom_snoc : ∀ (l : List RecM) (i : Nat) (r : RecM), plFrom i (l ++ [r]) = plFrom i l ++ [⟨r, (i + l.length : Nat)⟩]
  | [], i, r => by simp [plFrom]
  | x :: l, i, r => by
    simp only [plFrom, List.cons_append]
    rw [plFrom_snoc l (i + 1) r]
    simp; omega
/-- The places, filled up to k. -/
def plsM (l : List RecM) (k : Nat) : List PlM := plFrom 0 (l.take k) ++ List.replicate (l.length - k) zeroP
theorem plsM_length (l : List RecM) (k : Nat) (h : k ≤ l.length) : (plsM l k).length = l.length := by unfold plsM; simp [plFrom_length]; omega
theorem plsM_zero (l : List RecM) : plsM l 0 = List.replicate l.length zeroP := by simp [plsM, plFrom]
theorem plsM_set (l : List RecM) (k : Nat) (h : k < l.length) : (plsM l k).set k ⟨l[k], k⟩ = plsM l (k + 1) := by
  unfold plsM
  have hl : (plFrom 0 (l.take k)).length = k := by rw [plFrom_length]; simp; omega
  rw [List.set_append_right _ _ (by omega), show k - (plFrom 0 (l.take k)).length = 0 from by omega, List.take_succ_eq_append_getElem h, plFrom_snoc, show l.length - k = (l.length - (k + 1)) + 1 from by omega, List.replicate_succ, List.set_cons_zero, List.append_assoc]
  simp; omega
theorem plsM_done (l : List RecM) : plsM l l.length = plFrom 0 l := by unfold plsM; simp
/-- The records of places, taken over up to k. -/
def recsM (Q : List PlM) (k : Nat) : List RecM := (Q.take k).map (·.rc) ++ List.replicate (Q.length - k) zeroR
theorem recsM_length (l : List PlM) (k : Nat) (h : k ≤ l.length) : (recsM l k).length = l.length := by unfold recsM; simp; omega
theorem recsM_zero (l : List PlM) : recsM l 0 = List.replicate l.length zeroR := by simp [recsM]
theorem recsM_set (l : List PlM) (k : Nat) (h : k < l.length) : (recsM l k).set k l[k].rc = recsM l (k + 1) := by
  unfold recsM
  rw [List.set_append_right _ _ (by simp; omega), show k - ((l.take k).map (·.rc)).length = 0 from by simp; omega, List.take_succ_eq_append_getElem h, show l.length - k = (l.length - (k + 1)) + 1 from by omega, List.replicate_succ, List.set_cons_zero, List.map_append, List.append_assoc]
  rfl
theorem recsM_done (l : List PlM) : recsM l l.length = l.map (·.rc) := by unfold recsM; simp
/-- A record of a row of placed ones. -/
theorem own_pl {w : World} {base g n cap k : Nat} {e : TypeId} {l : List PlM} (h : w.ownsRow base e 5 (.slice (some ⟨g, 0, none⟩) n cap) n (flatG placL l)) (hk : k < l.length) : w.cell? ⟨g, k * 5, none⟩ = some (.bool l[k].rc.live) ∧ w.cell? ⟨g, k * 5 + 1, none⟩ = some (.int .i64 l[k].rc.dist) ∧ w.cell? ⟨g, k * 5 + 2, none⟩ = some (.int .i64 l[k].rc.weight) ∧ w.cell? ⟨g, k * 5 + 3, none⟩ = some (.string l[k].rc.word) ∧ w.cell? ⟨g, k * 5 + 4, none⟩ = some (.int .i64 l[k].pos) := by
  have cc := own_elem placL_len h hk
  exact ⟨cc 0 (by decide), cc 1 (by decide), cc 2 (by decide), cc 3 (by decide), cc 4 (by decide)⟩
set_option maxHeartbeats 8000000 in
theorem uImplCompact (c : Value) (l : List RecM) (w : World) (h : RecSIn [c] l w) (hb : ∀ t ∈ l, recBd t) : Calls Try.prog 25 #[c] w (RecSRet (compactM l) w) := by
  have RO := Lib.hid (uImplRecsOk c l w h hb)
  obtain ⟨a, cap, rfl, hcap, hm, r⟩ := recSIn_shape h
  have R := Lib.hid r
  clear h r hb
  cases ho : recsOkB l
  · have E := Lib.hid (show compactM l = [] by unfold compactM; simp [ho])
    rw [ho] at RO
    go_enter Try.func25, Try.ntmps25
    go_wp2_with fail
    refine RO.out.mono ?_
    rintro e w1 ⟨rfl, hb⟩
    have B1 := Lib.hid hb
    clear hb RO
    go_wp2
    go_ret
    exact ⟨_, rfl, by rw [E.out]; exact RecSOwn.nil _ _ _, B1.out⟩
  · have hl := recsOkB_len ho
    have E := Lib.hid (show compactM l = compactL l by unfold compactM; rw [if_pos ho])
    have hPL := plFrom_length l 0
    have ST := Lib.hid (fun (a' : Option Addr) (c' : Nat) (w' : World) (r' : Row w' a' (flatG placL (plFrom 0 l))) => sortP a' c' (plFrom 0 l) w' (by omega) r')
    have NC := Lib.hid (net_compact (bitonic_good (size_two hl)) (sizeUp_le hl).1 hl (recsOkB_all ho))
    unfold placesM at NC
    rw [hPL] at ST
    obtain ⟨Q, hQ⟩ : ∃ Q, (runQ (bitonicM (sizeUp l.length)).ws (plFrom 0 l ++ List.replicate (sizeUp l.length - l.length) zeroP)).take l.length = Q := ⟨_, rfl⟩
    have QL : Q.length = l.length := by
      rw [← hQ, List.length_take, runQ_length]
      have := (sizeUp_le hl).1
      simp [hPL]
    have EQ := Lib.hid QL
    rw [hQ] at ST NC
    clear hQ hPL QL
    rw [ho] at RO
    clear ho
    have QL := EQ.out
    obtain ⟨i0, hi, hz0, hz1, hz2⟩ := info_parts Try.infoPl
    obtain ⟨j0, gi, gz0, gz1, gz2⟩ := info_parts Try.infoRec
    clear QL
    go_enter Try.func25, Try.ntmps25
    go_wp2_with fail
    refine RO.out.mono ?_
    rintro e w1 ⟨rfl, hb⟩
    have B1 := Lib.hid hb
    clear hb RO
    go_wp2_with (at_make; refine wpList_make_full _ rfl _ _ 72 rfl w.heap.size 74 i0 _ 5 Try.underlying72 hi hz0 hz1 .i64 .i64 _ _ l.length rfl rfl rfl rfl (by rw [hz2]; omega) (by unfold maxLen; omega) B1.out.size ?_)
    clear hi hz0 hz1 hz2
    intro w2 hown hgr
    have hb2 : Below w1.heap.size w1 w2 := grown_below hgr
    have S0 := Lib.hid (show w2.ownsRow w.heap.size 74 5 (.slice (some ⟨w1.heap.size, 0, none⟩) l.length l.length) l.length (flatG placL (plsM l 0)) ∧ Below w.heap.size w w2 from ⟨by rw [plsM_zero, ← made_flat placL_len (by decide) zeroP _ rfl]; exact hown, below_seq B1.out hb2⟩)
    have hg1 : w.heap.size ≤ w1.heap.size := B1.out.size
    clear hown hgr hb2 B1
    generalize w1.heap.size = g1 at *
    go_wp2_with fail
    go_loopg [17] l.length (fun kk i wr => ∃ k : Nat, k ≤ l.length ∧ l.length - k = kk ∧ i = .int .i64 k ∧ Hid (wr.ownsRow w.heap.size 74 5 (.slice (some ⟨g1, 0, none⟩) l.length l.length) l.length (flatG placL (plsM l k)) ∧ Below w.heap.size w wr))
    case atStart => exact ⟨0, Nat.zero_le _, rfl, rfl, S0⟩
    case round =>
      clear S0
      obtain ⟨k, hk, hkk, rfl, H⟩ := hrel
      by_cases hlt : k < l.length
      · obtain ⟨b1, o1, rfl, q0, q1, q2, q3⟩ := (R.out.below H.out.2).rec hlt
        have hcl := plsM_length l k hk
        have G := Lib.hid (plsM_set l k hlt)
        obtain ⟨r, hr⟩ : ∃ r, l[k] = r := ⟨_, rfl⟩
        rw [hr] at G q0 q1 q2 q3
        clear hr
        obtain ⟨x0, x1, x2, x3⟩ := r
        simp only at q0 q1 q2 q3
        have hGX : g1 < wr.heap.size := (H.out.1.lt g1 rfl).2
        obtain ⟨W3, hW3⟩ : ∃ W3, W3 = wr.alloc (.cells #[.bool x0, .int .i64 x1, .int .i64 x2, .string x3] 30) := ⟨_, rfl⟩
        have HB := Lib.hid (show Below wr.heap.size wr W3 by rw [hW3]; exact below_box (Below.refl _ wr) _)
        have K3 := Lib.hid (show W3.heap[wr.heap.size]? = some (.cells #[.bool x0, .int .i64 x1, .int .i64 x2, .string x3] 30 (0, 0)) by rw [hW3]; exact alloc_at _ _ _ rfl)
        have O3 := Lib.hid (own_below H.out.1 HB.out)
        have B3 := Lib.hid (below_seq H.out.2 HB.out)
        have hkl : k < (plsM l k).length := by rw [hcl]; exact hlt
        have cc := own_elem placL_len O3.out hkl
        obtain ⟨p, hp⟩ : ∃ p, (plsM l k)[k] = p := ⟨_, rfl⟩
        rw [hp] at cc
        obtain ⟨⟨p0, p1, p2, p3⟩, p4⟩ := p
        have e0 := cur_cell K3.out 0
        have e1 := cur_cell K3.out 1
        have e2 := cur_cell K3.out 2
        have e3 := cur_cell K3.out 3
        simp at e0 e1 e2 e3
        have f0 := O3.out.frozenAt (k * 5)
        have f1 := O3.out.frozenAt (k * 5 + 1)
        have f2 := O3.out.frozenAt (k * 5 + 2)
        have f3 := O3.out.frozenAt (k * 5 + 3)
        have f4 := O3.out.frozenAt (k * 5 + 4)
        have c0 : W3.cell? ⟨g1, k * 5, none⟩ = some (.bool p0) := cc 0 (by decide)
        have c1 : W3.cell? ⟨g1, k * 5 + 1, none⟩ = some (.int .i64 p1) := cc 1 (by decide)
        have c2 : W3.cell? ⟨g1, k * 5 + 2, none⟩ = some (.int .i64 p2) := cc 2 (by decide)
        have c3 : W3.cell? ⟨g1, k * 5 + 3, none⟩ = some (.string p3) := cc 3 (by decide)
        have c4 : W3.cell? ⟨g1, k * 5 + 4, none⟩ = some (.int .i64 p4) := cc 4 (by decide)
        have X := Lib.hid (own_elem_set placL_len O3.out hkl ⟨⟨x0, x1, x2, x3⟩, k⟩)
        rw [G.out] at X
        have hk0 : (0 : Int) ≤ (k : Int) := by omega
        have hk1 : (k : Int) < (l.length : Int) := by omega
        clear cc hp G H K3 O3 hkl hcl HB
        have KB := Lib.hid (B3.out.grown X.out.2 B3.out.size (fun i hi => by cases hi; exact hg1))
        go_upto_region 7 with fail
        rw [← hW3]
        clear hW3 q0 q1 q2 q3
        go_wp2
        go_roundg (l.length - (k + 1))
        case measure => omega
        case rel => exact ⟨k + 1, by omega, rfl, by go_num, Lib.hid ⟨X.out.1, KB.out⟩⟩
      · have ek : k = l.length := by omega
        subst ek
        have P1 := Lib.hid (show wr.ownsRow w.heap.size 74 5 (.slice (some ⟨g1, 0, none⟩) l.length l.length) l.length (flatG placL (plFrom 0 l)) by have := H.out.1; rw [plsM_done] at this; exact this)
        have B2 := Lib.hid H.out.2
        obtain ⟨WR, hWR⟩ : ∃ WR, WR = wr := ⟨_, rfl⟩
        rw [← hWR] at P1 B2 ⊢
        clear hWR H
        go_wp2_with (at_make; refine wpList_make_full _ rfl _ _ 24 rfl w.heap.size 30 j0 _ 4 Try.underlying24 gi gz0 gz1 .i64 .i64 _ _ l.length rfl rfl rfl rfl (by rw [gz2]; omega) (by unfold maxLen; omega) B2.out.size ?_)
        clear gi gz0 gz1 gz2
        intro w3 hown hgr
        have hb3 : Below WR.heap.size WR w3 := grown_below hgr
        have C3 := Lib.hid (show w3.ownsRow w.heap.size 30 4 (.slice (some ⟨WR.heap.size, 0, none⟩) l.length l.length) l.length (flatG recL (recsM Q 0)) by rw [recsM_zero, EQ.out, ← made_flat recL_len (by decide) zeroR _ rfl]; exact hown)
        have P3 := Lib.hid (Row.of_own (own_below P1.out hb3))
        have B3 := Lib.hid (below_seq B2.out hb3)
        have hg2 : w.heap.size ≤ WR.heap.size := B2.out.size
        clear hown hgr hb3 B2 P1
        generalize WR.heap.size = g2 at *
        go_wp2_with fail
        refine (byPlaceF _).mono ?_
        rintro e w4 ⟨rfl, hb⟩
        have P4 := P3.out.below hb
        have C4 := Lib.hid (own_below C3.out hb)
        have B4 := Lib.hid (below_seq B3.out hb)
        clear hb P3 C3 B3
        have ST4 := Lib.hid (ST.out _ l.length w4 P4)
        clear P4 ST
        go_wp2_with fail
        refine ST4.out.mono ?_
        rintro e w5 ⟨GS, cp, rfl, hos, hb⟩
        have hs1 := B4.out.size
        have hgs : w4.heap.size ≤ GS := own_low hos
        have S1 := Lib.hid (show Hid (w5.ownsRow w.heap.size 74 5 (.slice (some ⟨GS, 0, none⟩) l.length cp) l.length (flatG placL Q)) ∧ w5.ownsRow w.heap.size 30 4 (.slice (some ⟨g2, 0, none⟩) l.length l.length) l.length (flatG recL (recsM Q 0)) ∧ Below w.heap.size w w5 from ⟨Lib.hid (own_base hos hs1), own_below C4.out hb, below_seq B4.out hb⟩)
        have hg24 : g2 < w4.heap.size := (C4.out.lt g2 rfl).2
        have hne : ¬ GS = g2 := by omega
        clear hos hb ST4 C4 B4 hs1 hgs hg24
        go_wp2_with fail
        go_loopg [36] l.length (fun kk i wr => ∃ k : Nat, k ≤ l.length ∧ l.length - k = kk ∧ i = .int .i64 k ∧ Hid (Hid (wr.ownsRow w.heap.size 74 5 (.slice (some ⟨GS, 0, none⟩) l.length cp) l.length (flatG placL Q)) ∧ wr.ownsRow w.heap.size 30 4 (.slice (some ⟨g2, 0, none⟩) l.length l.length) l.length (flatG recL (recsM Q k)) ∧ Below w.heap.size w wr))
        case atStart => exact ⟨0, Nat.zero_le _, rfl, rfl, S1⟩
        case round =>
          clear S1
          obtain ⟨k, hk, hkk, rfl, H⟩ := hrel
          by_cases hlt : k < l.length
          · have hkQ : k < Q.length := by rw [EQ.out]; exact hlt
            obtain ⟨q0, q1, q2, q3, q4⟩ := own_pl H.out.1.out hkQ
            have hcl : (recsM Q k).length = l.length := by rw [recsM_length Q k (by omega), EQ.out]
            have G := Lib.hid (recsM_set Q k hkQ)
            obtain ⟨r, hr⟩ : ∃ r, Q[k] = r := ⟨_, rfl⟩
            rw [hr] at G q0 q1 q2 q3 q4
            clear hr
            obtain ⟨⟨x0, x1, x2, x3⟩, x4⟩ := r
            simp only at q0 q1 q2 q3 q4 G
            have hGX : g2 < wr.heap.size := (H.out.2.1.lt g2 rfl).2
            obtain ⟨W3, hW3⟩ : ∃ W3, W3 = wr.alloc (.cells #[.bool x0, .int .i64 x1, .int .i64 x2, .string x3, .int .i64 x4] 74) := ⟨_, rfl⟩
            have HB := Lib.hid (show Below wr.heap.size wr W3 by rw [hW3]; exact below_box (Below.refl _ wr) _)
            have K3 := Lib.hid (show W3.heap[wr.heap.size]? = some (.cells #[.bool x0, .int .i64 x1, .int .i64 x2, .string x3, .int .i64 x4] 74 (0, 0)) by rw [hW3]; exact alloc_at _ _ _ rfl)
            have Q3 := Lib.hid (own_below H.out.1.out HB.out)
            have O3 := Lib.hid (own_below H.out.2.1 HB.out)
            have B3 := Lib.hid (below_seq H.out.2.2 HB.out)
            have hkl : k < (recsM Q k).length := by rw [hcl]; exact hlt
            have cc := own_elem recL_len O3.out hkl
            obtain ⟨p, hp⟩ : ∃ p, (recsM Q k)[k] = p := ⟨_, rfl⟩
            rw [hp] at cc
            obtain ⟨p0, p1, p2, p3⟩ := p
            have e0 := cur_cell K3.out 0
            have e1 := cur_cell K3.out 1
            have e2 := cur_cell K3.out 2
            have e3 := cur_cell K3.out 3
            simp at e0 e1 e2 e3
            have f0 := O3.out.frozenAt (k * 4)
            have f1 := O3.out.frozenAt (k * 4 + 1)
            have f2 := O3.out.frozenAt (k * 4 + 2)
            have f3 := O3.out.frozenAt (k * 4 + 3)
            have c0 : W3.cell? ⟨g2, k * 4, none⟩ = some (.bool p0) := cc 0 (by decide)
            have c1 : W3.cell? ⟨g2, k * 4 + 1, none⟩ = some (.int .i64 p1) := cc 1 (by decide)
            have c2 : W3.cell? ⟨g2, k * 4 + 2, none⟩ = some (.int .i64 p2) := cc 2 (by decide)
            have c3 : W3.cell? ⟨g2, k * 4 + 3, none⟩ = some (.string p3) := cc 3 (by decide)
            have X := Lib.hid (own_elem_set recL_len O3.out hkl ⟨x0, x1, x2, x3⟩)
            rw [G.out] at X
            obtain ⟨W4, hW4⟩ : ∃ W4, W4 = setCellsL W3 g2 (k * 4) (recL ⟨x0, x1, x2, x3⟩) := ⟨_, rfl⟩
            rw [← hW4] at X
            have Q4 := Lib.hid (show W4.ownsRow w.heap.size 74 5 (.slice (some ⟨GS, 0, none⟩) l.length cp) l.length (flatG placL Q) from own_keptB Q3.out (fun b hb => by rw [hW4]; exact setCellsL_other (by intro e; subst e; simp [Value.ownBlock] at hb; exact hne hb) _ _ _))
            have KB := Lib.hid (B3.out.grown X.out.2 B3.out.size (fun i hi => by cases hi; exact hg2))
            replace hW4 : W4 = (((W3.setCell ⟨g2, k * 4, none⟩ (.bool x0)).setCell ⟨g2, k * 4 + 1, none⟩ (.int .i64 x1)).setCell ⟨g2, k * 4 + 2, none⟩ (.int .i64 x2)).setCell ⟨g2, k * 4 + 3, none⟩ (.string x3) := hW4
            have hk0 : (0 : Int) ≤ (k : Int) := by omega
            have hk1 : (k : Int) < (l.length : Int) := by omega
            clear cc hp G H K3 O3 hkl hcl HB Q3 hkQ
            go_upto_region 13 with fail
            rw [← hW3]
            clear hW3 q0 q1 q2 q3 q4
            go_upto_region 14 with fail
            rw [← hW4]
            clear hW4 c0 c1 c2 c3 f0 f1 f2 f3 e0 e1 e2 e3
            go_wp2
            go_roundg (l.length - (k + 1))
            case measure => omega
            case rel => exact ⟨k + 1, by omega, rfl, by go_num, Lib.hid ⟨Lib.hid Q4.out, X.out.1, KB.out⟩⟩
          · have ek : k = l.length := by omega
            subst ek
            have hz : recsM Q l.length = compactL l := by rw [← EQ.out, recsM_done, NC.out]
            have Z := Lib.hid H.out.2.1
            rw [hz] at Z
            have B9 := Lib.hid H.out.2.2
            have CL := Lib.hid (compactL_length l)
            clear hz H
            go_wp2
            go_ret
            refine ⟨_, rfl, ?_, B9.out⟩
            rw [E.out]
            have z := Z.out
            rw [← CL.out] at z ⊢
            exact RecSOwn.mk z
end Go.Proofs.Ytaedamnhobcdlaa
