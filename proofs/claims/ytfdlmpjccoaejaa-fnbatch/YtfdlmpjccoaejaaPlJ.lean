/- Chapter 7 in the program: the strings of planes. -/
import Derived.Test.YtfdlmpjccoaejaaPlS
namespace Go.Proofs.Ytfdlmpjccoaejaa
open Go.RowKit
set_option linter.unusedVariables false
set_option maxRecDepth 100000

theorem min_case (x : Nat) : ∃ n : Nat, n = min x 32 ∧ ∀ w ts t, (Builtin.min_ ts t #[.int .i64 x, .int .i64 32]).run Try.prog w = .ok (.int .i64 n) w := by
  refine ⟨min x 32, rfl, fun w ts t => ?_⟩
  simp [Builtin.min_, Builtin.min2]
  split <;> omega
theorem numZ_in {l : List Nat} {k : Nat} (hl : l.length ≤ 16) (hk : k < 64) : numZ l k = ((getN l k : Nat) : Int) := by
  unfold numZ; rw [if_pos (by omega)]; simp
def letV (m : PlanesM) (ln : Nat) : Nat → Value := fun p => .int .u8 (((96 + laneN m ln p : Nat)) : Int)
theorem letV_bval (m : PlanesM) (ln p : Nat) : letV m ln p = bval (UInt8.ofNat (96 + laneN m ln p)) := by
  have := laneN_lt m ln p
  unfold letV bval
  congr 2
  have e : (UInt8.ofNat (96 + laneN m ln p)).toNat = 96 + laneN m ln p := by
    rw [UInt8.toNat_ofNat']
    exact Nat.mod_eq_of_lt (by omega)
  rw [e]
set_option maxHeartbeats 2000000 in
theorem implWord (c0 c1 c2 : Value) (m : PlanesM) (ln : Nat) (w : World) (h : PlanesIn [c0, c1, c2] m w) (hb : planesBd m) (h6 : m.len.length = 6) (h160 : m.lts.length = 160) (hln : ln < 64) :
    Calls Try.prog 90 #[.agg #[c0, c1, c2], .int .i64 ln] w fun e w' => e = .returned (.string (strL (wordI m ln))) ∧ Below w.heap.size w w' := by
  obtain ⟨a1, x1, a2, x2, rfl, rfl, rfl, _, _⟩ := planesIn_cells h
  obtain ⟨_, h1, h2⟩ := planesIn_shape h
  obtain ⟨n, hn, hmn⟩ := min_case (getN m.len ln)
  have hn32 : n ≤ 32 := by omega
  have HN := Lib.hid hn
  have NA := Lib.hid (fun w' (hb' : Below w.heap.size w w') => implNumAt _ m.len ln w' (h1.below hb') hb.2.1)
  have PA := Lib.hid (fun (p : Nat) w' (hp : p < 32) (hb' : Below w.heap.size w w') => implPlanesAt _ m.lts p w' (h2.below hb') h160 hp)
  rw [numZ_in (by omega) hln] at NA
  have NB : Hid (∀ (p : Nat) d w', Uint64SIn [d] ((m.lts.drop (5 * p)).take 5) w' → Calls Try.prog 31 #[d, .int .i64 ln] w' fun e w'' => e = .returned (.int .i64 ((laneN m ln p : Nat) : Int)) ∧ w' = w'') := Lib.hid (fun p d w' hd => by
    have := implNumAt d _ ln w' hd (fun x hx => hb.2.2 x (List.mem_of_mem_drop (List.mem_of_mem_take hx)))
    rw [numZ_in (by rw [List.length_take]; omega) hln] at this
    exact this)
  have B1 := Lib.hid (below_box (Below.refl w.heap.size w) (.cells #[.int .i64 m.n, .slice a1 m.len.length x1, .slice a2 m.lts.length x2] 28))
  obtain ⟨i0, hi, hz0, hz1, hz2⟩ := info_parts Try.info5
  clear h h1 h2 hb hn h6 h160
  generalize getN m.len ln = gx at NA hmn
  go_enter Try.func90, Try.ntmps90
  go_wp2_with fail
  refine (NA.out _ B1.out).mono ?_
  rintro e w1 ⟨rfl, rfl⟩
  go_wp2_with (at_make; refine wpList_make_full _ rfl _ _ 22 rfl (w.heap.size + 1) 5 i0 (.int .u8 0) 1 Try.underlying22 hi hz0 hz1 .i64 .i64 _ _ n rfl rfl rfl rfl (by rw [hz2]; omega) (by unfold maxLen; omega) (by simp) ?_)
  clear hi hz0 hz1 hz2
  intro w2 hown hgr
  rw [toList_madeCells_one] at hown
  have A0 : Hid (ArrG w2 (w.heap.size + 1) 5 n (progG (letV m ln) (fun _ => .int .u8 0) 0) ∧ w2.heap[w.heap.size]? = some (.cells #[.int .i64 m.n, .slice a1 m.len.length x1, .slice a2 m.lts.length x2] 28 (0, 0)) ∧ Below w.heap.size w w2) := Lib.hid ⟨by rw [progG_zero]; simpa using own_arrG hown, kept_grown (alloc_at w _ _ rfl) hgr (by simp), below_seq B1.out (grown_below hgr)⟩
  clear hown hgr B1 NA
  go_wp2
  have hL : w.heap.size < w.heap.size + 1 := by omega
  generalize w.heap.size + 1 = L at *
  go_loopw [15, 6] (fun i _ wr => ∃ k : Nat, k ≤ n ∧ i = .int .i64 k ∧ Hid (ArrG wr L 5 n (progG (letV m ln) (fun _ => .int .u8 0) k) ∧ wr.heap[w.heap.size]? = some (.cells #[.int .i64 m.n, .slice a1 m.len.length x1, .slice a2 m.lts.length x2] 28 (0, 0)) ∧ Below w.heap.size w wr)) (fun i _ _ => n - (intOf i).toNat)
  case atStart => exact ⟨0, Nat.zero_le _, rfl, A0⟩
  case round =>
    clear A0
    obtain ⟨k, hk, rfl, H⟩ := hrel
    by_cases hlt : k < n
    · have q2 := cur_cell H.out.2.1 2
      simp at q2
      have hc := H.out.1.cell hlt
      rw [progG_at] at hc
      have hf := H.out.1.free k
      have RS := Lib.hid (progG_set (letV m ln) (fun _ => .int .u8 0) k)
      have R := Lib.hid (And.intro (H.out.1.set k (letV m ln k)) (And.intro (kept_grown H.out.2.1 (set_grown wr L k (letV m ln k)) (by simp; omega)) (H.out.2.2.setCell (p := ⟨L, k, none⟩) (by simp; omega) (letV m ln k))))
      rw [RS.out] at R
      have P1 := Lib.hid (PA.out k wr (by omega) H.out.2.2)
      have P2 := Lib.hid (NB.out k)
      have hx := laneN_lt m ln k
      have ev : letV m ln k = .int .u8 (((96 + laneN m ln k : Nat)) : Int) := rfl
      rw [ev] at R
      clear ev
      clear RS H
      generalize laneN m ln k = x at *
      have hq : IntKind.u8.wrap (96 + (x : Int)) = ((96 + x : Nat) : Int) := by rw [IntKind.wrap_u8']; omega
      go_wp2_with fail
      refine P1.out.mono ?_
      rintro e w3 ⟨⟨d, rfl, hd⟩, rfl⟩
      have D := Lib.hid (P2.out d _ hd)
      clear hd
      go_wp2_with fail
      refine D.out.mono ?_
      rintro e w3 ⟨rfl, rfl⟩
      go_wp2
      go_roundw
      case rel => exact ⟨k + 1, by omega, by go_num, by first | exact R | simpa using R⟩
      case measure => simp [intOf]; omega
    · have hk' : k = n := by omega
      subst hk'
      have ow : wr.ownsRow L 5 1 (.slice (some ⟨L, 0, none⟩) k k) k ((wordI m ln).map bval) := by
        have := ArrG.own H.out.1 (Nat.le_refl L) (by unfold maxLen; omega)
        have e : (List.range k).map (progG (letV m ln) (fun _ => .int .u8 0) k) = (wordI m ln).map bval := by
          unfold wordI
          rw [← HN.out, List.map_map]
          refine List.map_congr_left fun i hi => ?_
          have hik : i < k := by simpa using hi
          unfold progG
          rw [if_pos hik, letV_bval]; rfl
        rw [e] at this
        exact this
      have hcv := conv_any ow
      clear ow
      obtain ⟨S, hS⟩ : ∃ S, S = strL (wordI m ln) := ⟨_, rfl⟩
      rw [← hS] at hcv
      have HS := Lib.hid hS
      clear hS
      go_wp2
      go_ret
      exact ⟨ret_str HS.out, H.out.2.2⟩
/-- What the strings of planes are asked for. -/
def WordsRet (m : PlanesM) (w : World) (e : Ending) (w' : World) : Prop := ∃ c, e = .returned (.tuple #[c, .bool (planesOkB m)]) ∧ StringSOwn w.heap.size w'.heap.size [c] (wordsM m) w' ∧ Below w.heap.size w w'
theorem fits_no {m : PlanesM} (h : m.n < 0 ∨ 64 < m.n ∨ m.len.length ≠ 6 ∨ m.lts.length ≠ 160) : planesOkB m = false := by
  unfold planesOkB okOf fitsB
  rw [Bool.eq_false_iff]
  intro c
  simp only [Bool.and_eq_true, decide_eq_true_eq] at c
  omega
theorem fits_yes {m : PlanesM} {ws : List (List UInt8)} (h1 : 0 ≤ m.n) (h2 : m.n ≤ 64) (h3 : m.len.length = 6) (h4 : m.lts.length = 160) : okOf m ws = (planesB ws && (lensN ws == m.len) && (lettersN ws 32 == m.lts)) := by
  unfold okOf fitsB
  simp [h1, h2, h3, h4]
theorem nil_words {m : PlanesM} (h : planesOkB m = false) (lo hi : Nat) (w : World) : StringSOwn lo hi [.slice none 0 0] (wordsM m) w := by
  unfold wordsM
  rw [h]
  exact nil_strs _ _ _
theorem words_small (m : PlanesM) : ∀ s ∈ wordsI m, s.length ≤ maxLen := by
  intro s hs
  unfold wordsI at hs
  obtain ⟨l, _, rfl⟩ := List.mem_map.1 hs
  unfold wordI
  simp
  unfold maxLen
  omega
set_option maxHeartbeats 4000000 in
theorem implWords (c0 c1 c2 : Value) (m : PlanesM) (w : World) (h : PlanesIn [c0, c1, c2] m w) (hb : planesBd m) :
    Calls Try.prog 67 #[.agg #[c0, c1, c2]] w (WordsRet m w) := by
  obtain ⟨a1, x1, a2, x2, rfl, rfl, rfl, l1, l2⟩ := planesIn_cells h
  unfold maxLen at l1 l2
  have B1 := Lib.hid (below_box (Below.refl w.heap.size w) (.cells #[.int .i64 m.n, .slice a1 m.len.length x1, .slice a2 m.lts.length x2] 28))
  by_cases g1 : m.n < 0
  · have E := Lib.hid (fits_no (.inl g1))
    go_enter Try.func67, Try.ntmps67
    go_wp2
    go_ret2
    exact ⟨.slice none 0 0, by rw [E.out]; rfl, nil_words E.out _ _ _, B1.out⟩
  by_cases g2 : 64 < m.n
  · have E := Lib.hid (fits_no (m := m) (.inr (.inl g2)))
    go_enter Try.func67, Try.ntmps67
    go_wp2
    go_ret2
    exact ⟨.slice none 0 0, by rw [E.out]; rfl, nil_words E.out _ _ _, B1.out⟩
  by_cases g3 : ¬ m.len.length = 6
  · have E := Lib.hid (fits_no (m := m) (.inr (.inr (.inl g3))))
    have hB : ((m.len.length : Int) != 6) = true := by simp; omega
    go_enter Try.func67, Try.ntmps67
    go_wp2
    go_ret2
    exact ⟨.slice none 0 0, by rw [E.out]; rfl, nil_words E.out _ _ _, B1.out⟩
  rw [Decidable.not_not] at g3
  have hB6 : ((m.len.length : Int) != 6) = false := by simp [g3]
  by_cases g4 : ¬ m.lts.length = 160
  · have E := Lib.hid (fits_no (m := m) (.inr (.inr (.inr g4))))
    have hB : ((m.lts.length : Int) != 160) = true := by simp; omega
    clear g3
    go_enter Try.func67, Try.ntmps67
    go_wp2
    go_ret2
    exact ⟨.slice none 0 0, by rw [E.out]; rfl, nil_words E.out _ _ _, B1.out⟩
  rw [Decidable.not_not] at g4
  have hB160 : ((m.lts.length : Int) != 160) = false := by simp [g4]
  have OK := Lib.hid (okI_is m)
  rw [fits_yes (by omega) (by omega) g3 g4] at OK
  have WD := Lib.hid (fun (ln : Nat) w' (hb' : Below w.heap.size w w') (hl : ln < 64) => implWord _ _ _ m ln w' ((h.lies.below hb').now) hb g3 g4 hl)
  have HM := Lib.hid h
  have WL := Lib.hid (wordsI_length m)
  have WS := Lib.hid (words_small m)
  have WI : Hid (∀ i (hi : i < (wordsI m).length), (wordsI m)[i] = wordI m i) := Lib.hid (fun i hi => by simp [wordsI])
  obtain ⟨n, hn⟩ : ∃ n : Nat, m.n = n := ⟨m.n.toNat, by omega⟩
  rw [hn] at WL
  rw [Int.toNat_natCast] at WL
  have hn64 : n ≤ 64 := by omega
  have HN := Lib.hid hn
  clear g1 g2 g3 g4 h hb
  obtain ⟨i0, hi, hz0, hz1, hz2⟩ := info_parts Try.infoStr
  rw [hn] at B1 ⊢
  clear hn
  go_enter Try.func67, Try.ntmps67
  go_wp2_with (at_make; refine wpList_make_full _ rfl _ _ 24 rfl (w.heap.size + 1) 9 i0 (.string ⟨#[]⟩) 1 Try.underlying24 hi hz0 hz1 .i64 .i64 _ _ n rfl rfl rfl rfl (by rw [hz2]; omega) (by unfold maxLen; omega) (by simp) ?_)
  clear hi hz0 hz1 hz2
  intro w2 hown hgr
  rw [toList_madeCells_one] at hown
  have A0 : Hid (ArrG w2 (w.heap.size + 1) 9 n (progG (fun i => sval (wordI m i)) (fun _ => .string ⟨#[]⟩) 0) ∧ w2.heap[w.heap.size]? = some (.cells #[.int .i64 n, .slice a1 m.len.length x1, .slice a2 m.lts.length x2] 28 (0, 0)) ∧ Below w.heap.size w w2) := Lib.hid ⟨by rw [progG_zero]; simpa using own_arrG hown, kept_grown (alloc_at w _ _ rfl) hgr (by simp), below_seq B1.out (grown_below hgr)⟩
  clear hown hgr B1
  go_wp2
  have hL : w.heap.size < w.heap.size + 1 := by omega
  generalize w.heap.size + 1 = L at *
  go_loopw [33, 5] (fun i _ wr => ∃ k : Nat, k ≤ n ∧ i = .int .i64 k ∧ Hid (ArrG wr L 9 n (progG (fun i => sval (wordI m i)) (fun _ => .string ⟨#[]⟩) k) ∧ wr.heap[w.heap.size]? = some (.cells #[.int .i64 n, .slice a1 m.len.length x1, .slice a2 m.lts.length x2] 28 (0, 0)) ∧ Below w.heap.size w wr)) (fun i _ _ => n - (intOf i).toNat)
  case atStart => exact ⟨0, Nat.zero_le _, rfl, A0⟩
  case round =>
    clear A0
    obtain ⟨k, hk, rfl, H⟩ := hrel
    have q0 := cur_cell H.out.2.1 0
    have q1 := cur_cell H.out.2.1 1
    have q2 := cur_cell H.out.2.1 2
    simp at q0 q1 q2
    by_cases hlt : k < n
    · have C := Lib.hid (WD.out k wr H.out.2.2 (by omega))
      rw [HN.out] at C
      go_wp2_with fail
      refine C.out.mono ?_
      rintro e w3 ⟨rfl, hb3⟩
      have A3 := Lib.hid (H.out.1.below hb3)
      have K3 := Lib.hid (And.intro (kept_block H.out.2.1 hb3) (below_seq H.out.2.2 hb3))
      have hc := A3.out.cell hlt
      rw [progG_at] at hc
      have hf := A3.out.free k
      have RS := Lib.hid (progG_set (fun i => sval (wordI m i)) (fun _ => .string ⟨#[]⟩) k)
      have R := Lib.hid (And.intro (A3.out.set k (sval (wordI m k))) (And.intro (kept_grown K3.out.1 (set_grown w3 L k (sval (wordI m k))) (by simp; omega)) (K3.out.2.setCell (p := ⟨L, k, none⟩) (by simp; omega) (sval (wordI m k)))))
      rw [RS.out] at R
      have ev : sval (wordI m k) = .string (strL (wordI m k)) := rfl
      rw [ev] at R
      clear RS H A3 K3 hb3 C ev q0 q1 q2
      generalize strL (wordI m k) = y at *
      go_wp2
      go_roundw
      case rel => exact ⟨k + 1, by omega, by go_num, R⟩
      case measure => simp [intOf]; omega
    · have hk' : k = n := by omega
      subst hk'
      have OW : Hid (StringSOwn L wr.heap.size [.slice (some ⟨L, 0, none⟩) k k] (wordsI m) wr) := Lib.hid (strs_own H.out.1 (Nat.le_refl _) (by unfold maxLen; omega) WL.out (fun i hi => by unfold progG; rw [if_pos (by have := WL.out; omega), WI.out i hi]))
      have PO := Lib.hid (implPlanesOf _ (wordsI m) wr OW.out.read WS.out)
      have K := Lib.hid H.out.2
      clear H
      go_wp2_with fail
      refine PO.out.mono ?_
      rintro e w4 ⟨d0, d1, d2, rfl, ho4, hb4⟩
      obtain ⟨z, b1, n1, k1, b2, n2, k2, rfl, rfl, rfl⟩ := ho4.shape
      have K4 := Lib.hid (And.intro (kept_block K.out.1 hb4) (below_seq K.out.2 hb4))
      have OW4 := Lib.hid ((OW.out.lies (Nat.le_refl _)).below hb4)
      obtain ⟨w5, hw5⟩ : ∃ w5, w5 = w4.alloc (.cells #[.int .i64 z, .slice b1 n1 k1, .slice b2 n2 k2] 28) := ⟨_, rfl⟩
      have hb5 : Below w4.heap.size w4 w5 := by rw [hw5]; exact below_box (Below.refl _ _) _
      have blk5 : w5.heap[w4.heap.size]? = some (.cells #[.int .i64 z, .slice b1 n1 k1, .slice b2 n2 k2] 28 (0, 0)) := by rw [hw5]; exact alloc_at _ _ _ rfl
      have K5 := Lib.hid (And.intro (kept_block K4.out.1 hb5) (below_seq K4.out.2 hb5))
      have OW5 := Lib.hid (OW4.out.below hb5)
      have RD := Lib.hid ((ho4.read.lies.below hb5).now)
      have BL := Lib.hid blk5
      have HW5 := Lib.hid hw5
      have q1 : (w4.alloc (.cells #[.int .i64 z, .slice b1 n1 k1, .slice b2 n2 k2] 28)).cell? ⟨w.heap.size, 1, none⟩ = some (.slice a1 m.len.length x1) := by rw [← hw5]; exact cur_cell K5.out.1 1
      clear ho4 hb4 K K4 OW4 PO hb5 blk5 OW WD hw5
      cases hP : planesB (wordsI m)
      · rw [hP] at OK
        have E : Hid (planesOkB m = false) := Lib.hid (by rw [← OK.out]; rfl)
        clear OK hP
        go_wp2
        go_ret2
        rw [← HW5.out]
        exact ⟨.slice none 0 0, by rw [E.out]; rfl, nil_words E.out _ _ _, K5.out.2⟩
      · rw [hP] at OK
        have eM : planesOfM (wordsI m) = planesOf (wordsI m) := by unfold planesOfM; rw [hP]; rfl
        rw [eM] at RD
        obtain ⟨ez, r1, r2⟩ := planesIn_shape RD.out
        obtain ⟨_, s1, s2⟩ := planesIn_shape ((HM.out.lies.below K5.out.2).now)
        have Q1 := Lib.hid (implEqual _ _ _ _ w5 r1 s1)
        have Q2 := Lib.hid (fun w' (hb' : Below w5.heap.size w5 w') => implEqual _ _ _ _ w' (r2.below hb') (s2.below hb'))
        have p1 : (planesOf (wordsI m)).len = lensN (wordsI m) := rfl
        have p2 : (planesOf (wordsI m)).lts = lettersN (wordsI m) 32 := rfl
        rw [p1] at Q1
        rw [p2] at Q2
        clear ez r1 r2 s1 s2 p1 p2 eM hP RD HM
        cases h1 : (lensN (wordsI m) == m.len)
        · rw [h1] at Q1 OK
          have E : Hid (planesOkB m = false) := Lib.hid (by rw [← OK.out]; rfl)
          clear OK h1 Q2
          go_wp2_with fail
          rw [← HW5.out]
          clear q1
          refine Q1.out.mono ?_
          rintro e w6 ⟨rfl, hb6⟩
          go_wp2
          go_ret2
          exact ⟨.slice none 0 0, by rw [E.out]; rfl, nil_words E.out _ _ _, below_seq K5.out.2 hb6⟩
        · rw [h1] at Q1 OK
          go_wp2_with fail
          rw [← HW5.out]
          clear q1
          refine Q1.out.mono ?_
          rintro e w6 ⟨rfl, hb6⟩
          have q6 : w6.cell? ⟨w.heap.size, 2, none⟩ = some (.slice a2 m.lts.length x2) := cur_cell (kept_block K5.out.1 hb6) 2
          have j6 : w6.cell? ⟨w4.heap.size, 2, none⟩ = some (.slice b2 n2 k2) := cur_cell (kept_block BL.out hb6) 2
          have C6 := Lib.hid (Q2.out w6 hb6)
          have B6 := Lib.hid (below_seq K5.out.2 hb6)
          have O6 := Lib.hid ((OW5.out.below hb6))
          clear Q1 Q2 hb6 h1
          cases h2 : (lettersN (wordsI m) 32 == m.lts)
          · rw [h2] at C6 OK
            have E : Hid (planesOkB m = false) := Lib.hid (by rw [← OK.out]; rfl)
            clear OK h2
            go_wp2_with fail
            refine C6.out.mono ?_
            rintro e w7 ⟨rfl, hb7⟩
            go_wp2
            go_ret2
            exact ⟨.slice none 0 0, by rw [E.out]; rfl, nil_words E.out _ _ _, below_seq B6.out hb7⟩
          · rw [h2] at C6 OK
            have E : Hid (planesOkB m = true) := Lib.hid (by rw [← OK.out]; rfl)
            have EW : Hid (wordsM m = wordsI m) := Lib.hid (by unfold wordsM; rw [E.out, if_pos rfl, (ok_words E.out).1])
            clear OK h2
            go_wp2_with fail
            refine C6.out.mono ?_
            rintro e w7 ⟨rfl, hb7⟩
            go_wp2
            go_ret2
            exact ⟨.slice (some ⟨L, 0, none⟩) k k, by rw [E.out]; rfl, by rw [EW.out]; exact ((O6.out.below hb7).now).wide (by omega) (O6.out.below hb7).top, below_seq B6.out hb7⟩
set_option maxHeartbeats 400000 in
theorem implPlanesOk (c0 c1 c2 : Value) (m : PlanesM) (w : World) (h : PlanesIn [c0, c1, c2] m w) (hb : planesBd m) :
    Calls Try.prog 21 #[.agg #[c0, c1, c2]] w fun e w' => e = .returned (.bool (planesOkB m)) ∧ Below w.heap.size w w' := by
  obtain ⟨a1, x1, a2, x2, rfl, rfl, rfl, l1, l2⟩ := planesIn_cells h
  have B1 := Lib.hid (below_box (Below.refl w.heap.size w) (.cells #[.int .i64 m.n, .slice a1 m.len.length x1, .slice a2 m.lts.length x2] 28))
  have C := Lib.hid (implWords _ _ _ m _ ((h.lies.below B1.out).now) hb)
  clear h hb l1 l2
  go_enter Try.func21, Try.ntmps21
  go_wp2_with fail
  refine C.out.mono ?_
  rintro e w2 ⟨c, rfl, ho, hb2⟩
  go_wp2
  go_ret
  exact ⟨rfl, below_seq B1.out hb2⟩
set_option maxHeartbeats 400000 in
theorem implPlanesWords (c0 c1 c2 : Value) (m : PlanesM) (w : World) (h : PlanesIn [c0, c1, c2] m w) (hb : planesBd m) :
    Calls Try.prog 20 #[.agg #[c0, c1, c2]] w (StringSRet (wordsM m) w) := by
  obtain ⟨a1, x1, a2, x2, rfl, rfl, rfl, l1, l2⟩ := planesIn_cells h
  have B1 := Lib.hid (below_box (Below.refl w.heap.size w) (.cells #[.int .i64 m.n, .slice a1 m.len.length x1, .slice a2 m.lts.length x2] 28))
  have C := Lib.hid (implWords _ _ _ m _ ((h.lies.below B1.out).now) hb)
  clear h hb l1 l2
  go_enter Try.func20, Try.ntmps20
  go_wp2_with fail
  refine C.out.mono ?_
  rintro e w2 ⟨c, rfl, ho, hb2⟩
  obtain ⟨a, n, k, rfl⟩ := ho.shape
  go_wp2
  go_ret
  exact ⟨_, rfl, ho.wide B1.out.size (Nat.le_refl _), below_seq B1.out hb2⟩
end Go.Proofs.Ytfdlmpjccoaejaa
