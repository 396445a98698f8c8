/- RkT, RkB, RkBd in one. Written by tools/join.py. -/
import Derived.Test.YtaedamnhobcdlaaJRkR
import Derived.Test.YtaedamnhobcdlaaJNtB
import Derived.Test.YtaedamnhobcdlaaJRecK
import Derived.Test.YtaedamnhobcdlaaJNeG
import Derived.Deep.LoopGhost
import Derived.Test.YtaedamnhobcdlaaJRecU
section
namespace Go.Proofs.Ytaedamnhobcdlaa
open Go.RowKit
set_option linter.unusedVariables false
set_option linter.unusedSimpArgs false
set_option maxRecDepth 100000

/-- The beginning of a row that the call owns. -/
theorem own_prefix {s base n cap k : Nat} {w : World} {e : TypeId} {a : Option Addr} {xs : List Value} (h : w.ownsRow base e s (.slice a n cap) n xs) (hk : k ≤ n) : w.ownsRow base e s (.slice a k cap) k (xs.take (k * s)) := by
  obtain ⟨hx, hr⟩ := h
  have hle : k * s ≤ n * s := Nat.mul_le_mul_right s hk
  refine ⟨by simp; omega, ?_⟩
  rcases hr with ⟨hv, hn⟩ | ⟨g, cap', cur, hv, hbg, hg, h1, h2, h3, h4⟩
  · simp at hv
    obtain ⟨rfl, rfl, rfl⟩ := hv
    left
    have : k = 0 := by omega
    subst this
    exact ⟨rfl, rfl⟩
  · simp at hv
    obtain ⟨rfl, rfl⟩ := hv
    exact .inr ⟨g, cap, cur, rfl, hbg, hg, Nat.le_trans hk h1, h2, h3, by rw [← h4, List.take_take, Nat.min_eq_left hle]⟩
theorem topB_no {l : List RecM} {k : Int} (h : recsOkB l = false ∨ k < 0 ∨ 8 < k) : topM l k = [] := by
  unfold topM topB
  rw [if_neg]
  intro h2
  simp only [Bool.and_eq_true, decide_eq_true_eq] at h2
  rcases h with h | h | h
  · rw [h] at h2; exact absurd h2.1 (by decide)
  · omega
  · omega
set_option maxHeartbeats 4000000 in
theorem uSpecTopK (c : Value) (l : List RecM) (k : Int) (w : World) (h : RecSIn [c] l w) (hb : ∀ t ∈ l, recBd t) (bk : -9223372036854775808 ≤ k ∧ k ≤ 9223372036854775807) : Calls Try.prog 40 #[c, .int .i64 k] w (RecSRet (topM l k) w) := by
  have RO := Lib.hid (uSpecRecsOk c l w h hb)
  have RK := Lib.hid (fun w' (hb' : Below w.heap.size w w') => uSpecRank c l w' (h.below hb') hb)
  obtain ⟨a, cap, rfl, hcap, hm, r⟩ := recSIn_shape h
  clear h r hb
  by_cases hbad : recsOkB l = false ∨ k < 0 ∨ 8 < k
  · have E := Lib.hid (topB_no hbad)
    cases ho : recsOkB l
    · rw [ho] at RO
      go_enter Try.func40, Try.ntmps40
      go_wp2_with fail
      refine RO.out.mono ?_
      rintro e w1 ⟨rfl, hb⟩
      have B1 := Lib.hid hb
      clear hb RO hbad
      go_wp2
      go_ret
      exact ⟨_, rfl, by rw [E.out]; exact RecSOwn.nil _ _ _, B1.out⟩
    · rw [ho] at RO hbad
      have hbad : k < 0 ∨ 8 < k := by simpa using hbad
      by_cases h0 : k < 0
      · go_enter Try.func40, Try.ntmps40
        go_wp2_with fail
        refine RO.out.mono ?_
        rintro e w1 ⟨rfl, hb⟩
        have B1 := Lib.hid hb
        clear hb RO hbad
        go_wp2
        go_ret
        exact ⟨_, rfl, by rw [E.out]; exact RecSOwn.nil _ _ _, B1.out⟩
      · have h8 : 8 < k := by omega
        go_enter Try.func40, Try.ntmps40
        go_wp2_with fail
        refine RO.out.mono ?_
        rintro e w1 ⟨rfl, hb⟩
        have B1 := Lib.hid hb
        clear hb RO hbad
        go_wp2
        go_ret
        exact ⟨_, rfl, by rw [E.out]; exact RecSOwn.nil _ _ _, B1.out⟩
  · have ho : recsOkB l = true := by
      cases e : recsOkB l
      · exact absurd (.inl e) hbad
      · rfl
    obtain ⟨n, rfl⟩ : ∃ n : Nat, k = n := ⟨k.toNat, by omega⟩
    have hn8 : n ≤ 8 := by omega
    have hl := recsOkB_len ho
    have E := Lib.hid (show topM l n = (insAll l ++ List.replicate (n - l.length) zeroR).take n by
      unfold topM topB; rw [if_pos (by rw [ho]; simp; omega)]; simp)
    have ER := Lib.hid (show rankM l = insAll l by unfold rankM; rw [if_pos ho])
    have EL := Lib.hid (insAll_length l)
    rw [ho] at RO
    rw [ER.out] at RK
    clear hbad bk ho
    go_enter Try.func40, Try.ntmps40
    go_wp2_with fail
    refine RO.out.mono ?_
    rintro e w1 ⟨rfl, hb⟩
    have B1 := Lib.hid hb
    clear hb RO
    go_wp2_with fail
    refine (RK.out _ B1.out).mono ?_
    rintro e w2 ⟨c2, rfl, ⟨a2, k2, hc2, ho2, _⟩, hb⟩
    simp at hc2
    subst hc2
    rw [EL.out] at ho2 ⊢
    have hs1 := B1.out.size
    have S0 := Lib.hid (show w2.ownsRow w.heap.size 30 4 (.slice a2 l.length k2) l.length (flatG recL (insAll l ++ List.replicate (l.length - l.length) zeroR)) ∧ Below w.heap.size w w2 from ⟨by rw [Nat.sub_self, List.replicate_zero, List.append_nil]; exact own_base ho2 hs1, below_seq B1.out hb⟩)
    clear ho2 hb RK B1
    obtain ⟨L, hL⟩ : ∃ L, l.length = L := ⟨_, rfl⟩
    rw [hL] at S0 E hl hcap ⊢
    clear hL hm EL hs1
    go_wp2
    go_loopw [5] (fun o wr => ∃ (j cp : Nat) (ad : Option Addr), j ≤ 64 ∧ o = .slice ad j cp ∧ j ≤ cp ∧ Hid (L ≤ j ∧ (L < j → j ≤ n)) ∧ Hid (wr.ownsRow w.heap.size 30 4 (.slice ad j cp) j (flatG recL (insAll l ++ List.replicate (j - L) zeroR)) ∧ Below w.heap.size w wr)) (fun o _ => 64 - lenOf o)
    case atStart => exact ⟨L, k2, a2, hl, rfl, own_cap S0.out.1, Lib.hid ⟨Nat.le_refl _, fun h => absurd h (Nat.lt_irrefl _)⟩, S0⟩
    case round =>
      clear S0
      obtain ⟨j, cp, ad, hj, rfl, hcp, HJ, HO⟩ := hrel
      have hsz := HO.out.2.size
      by_cases hjn : j < n
      · go_wp2_with (at_builtin; go_must (refine wp_app_rowS rfl _ _ 24 rfl 30 _ 4 40 Try.underlying24 Try.infoRec rfl (by omega) w.heap.size j (.slice ad j cp) _ (by rfl) (HO.out.1.alloc _) (some ⟨_, 0, none⟩) 1 1 (recL zeroR) (by rfl) rfl (lit_rec _ zeroR) (recL_one _) (by unfold maxLen; omega) (by omega) (by simp; omega) ?_); intro v' w3 hown hgr)
        obtain ⟨a', c', rfl⟩ := own_shape hown
        have e1 : j + 1 - L = (j - L) + 1 := by have := HJ.out.1; omega
        have hc' := own_cap hown
        have Z := Lib.hid (And.intro (show w3.ownsRow w.heap.size 30 4 (.slice a' (j + 1) c') (j + 1) (flatG recL (insAll l ++ List.replicate (j + 1 - L) zeroR)) by rw [e1, List.replicate_succ', ← List.append_assoc, flatG_app, flatG_one1]; exact hown) (HO.out.2.trans (app_low4 hsz HO.out.1 _ hgr)))
        clear hown hgr HO e1
        go_wp2
        go_roundw
        case rel => exact ⟨j + 1, c', a', by omega, rfl, hc', Lib.hid ⟨by have := HJ.out.1; omega, fun _ => hjn⟩, Z⟩
        case measure => simp [lenOf]; omega
      · have hnj : n ≤ j := by omega
        have hnc : n ≤ cp := by omega
        have Z := Lib.hid (own_prefix HO.out.1 hnj)
        have B := Lib.hid HO.out.2
        have e2 : (flatG recL (insAll l ++ List.replicate (j - L) zeroR)).take (n * 4) = flatG recL (topM l n) := by
          rw [← flatG_take recL_len, E.out]
          congr 1
          have hJ := HJ.out
          have el : (insAll l).length = L ∨ True := .inr trivial
          by_cases hLj : L < j
          · have : j = n := by have := hJ.2 hLj; omega
            subst this; rfl
          · have : j = L := by omega
            subst this
            rw [Nat.sub_self, show n - j = 0 from by omega]
        rw [e2] at Z
        clear HO e2
        go_wp2
        all_goals
          go_ret
          exact ⟨_, rfl, RecSOwn.mk Z.out, B.out⟩
theorem net_field (w : World) (z : Int) (a : Option Addr) (n c : Nat) : (Instr.field 36 (.agg #[.int .i64 z, .slice a n c]) 1).run Try.prog w = .ok (.slice a n c) w := by kernel_rfl
def rankStepsZ (n : Int) : Int := if n < 0 ∨ 64 < n then -1 else ((bitonicM (rankSizeZ n)).ws.length : Int)
set_option maxHeartbeats 2000000 in
theorem uSpecRankSteps (n : Int) (w : World) (hb : -9223372036854775808 ≤ n ∧ n ≤ 9223372036854775807) : Calls Try.prog 27 #[.int .i64 n] w fun e w' => e = .returned (.int .i64 (rankStepsZ n)) ∧ Below w.heap.size w w' := by
  have RS := Lib.hid (fun w' => uSpecRankSize n w' hb)
  by_cases hbad : n < 0 ∨ 64 < n
  · have E := Lib.hid (show rankStepsZ n = -1 by unfold rankStepsZ; rw [if_pos hbad])
    rw [rankSizeZ_no hbad] at RS
    clear hbad
    go_enter Try.func27, Try.ntmps27
    go_wp2_with fail
    refine (RS.out _).mono ?_
    rintro e w1 ⟨rfl, hb⟩
    have B := Lib.hid hb
    clear hb
    go_wp2
    go_ret
    exact ⟨ret_int E.out.symm, B.out⟩
  · have E := Lib.hid (show rankStepsZ n = ((bitonicM (rankSizeZ n)).ws.length : Int) by unfold rankStepsZ; rw [if_neg hbad])
    obtain ⟨m, rfl⟩ : ∃ m : Nat, n = m := ⟨n.toNat, by omega⟩
    have hs := sizeUp_le (n := m) (by omega)
    rw [rankSizeZ_at (by omega)] at RS E
    have BT := Lib.hid (fun w' => uSpecBitonic (sizeUp m : Int) w' (by omega))
    have hsp : (0 : Int) ≤ (sizeUp m : Int) := by omega
    generalize sizeUp m = s at *
    clear hbad
    go_enter Try.func27, Try.ntmps27
    go_wp2_with fail
    refine (RS.out _).mono ?_
    rintro e w1 ⟨rfl, hb⟩
    have B := Lib.hid hb
    clear hb
    go_wp2_with fail
    refine (RS.out _).mono ?_
    rintro e w2 ⟨rfl, hb⟩
    replace B := Lib.hid (below_seq B.out hb)
    clear hb
    go_wp2_with fail
    refine (BT.out _).mono ?_
    rintro e w3 h3
    obtain ⟨c0, c1, rfl, ho, hb⟩ := h3
    obtain ⟨ad, kd, rfl, rfl, _⟩ := netIn_cells ho.read
    replace B := Lib.hid (below_seq B.out hb)
    clear hb ho
    go_wp2_with fail
    rw [net_field]
    simp only [Result.andThen]
    rw [Oper.upon_value]
    go_wp2
    go_ret
    exact ⟨ret_int E.out.symm, B.out⟩
end Go.Proofs.Ytaedamnhobcdlaa
end

section
namespace Go.Proofs.Ytaedamnhobcdlaa
open Go.RowKit
set_option linter.unusedVariables false
set_option linter.unusedSimpArgs false
set_option maxRecDepth 100000

def wireRec (l : List RecM) (t : WireM) : List RecM := stepR l t.a.toNat t.b.toNat
def runRm (ws : List WireM) (l : List RecM) : List RecM := ws.foldl wireRec l
theorem runRm_length : ∀ (ws : List WireM) (l : List RecM), (runRm ws l).length = l.length
  | [], l => rfl
  | t :: ws, l => by show (runRm ws (wireRec l t)).length = _; rw [runRm_length ws, wireRec, stepR_length]
theorem runRm_next {ws : List WireM} {k : Nat} (h : k < ws.length) (l : List RecM) : runRm (ws.take (k + 1)) l = wireRec (runRm (ws.take k) l) ws[k] := by
  unfold runRm; rw [List.take_succ_eq_append_getElem h, List.foldl_append]; rfl
theorem stepR_mem {l : List RecM} {a b : Nat} (ha : a < l.length) (hb : b < l.length) : ∀ t ∈ stepR l a b, t ∈ l := by
  have ga : l.getD a zeroR ∈ l := by rw [List.getD_eq_getElem?_getD]; simp [ha]
  have gb : l.getD b zeroR ∈ l := by rw [List.getD_eq_getElem?_getD]; simp [hb]
  have pa : pairA (l.getD a zeroR) (l.getD b zeroR) ∈ l := by unfold pairA; split <;> assumption
  have pb : pairB (l.getD a zeroR) (l.getD b zeroR) ∈ l := by unfold pairB; split <;> assumption
  intro t ht
  unfold stepR at ht
  rcases List.mem_or_eq_of_mem_set ht with ht | rfl
  · rcases List.mem_or_eq_of_mem_set ht with ht | rfl
    · exact ht
    · exact pa
  · exact pb
theorem runRm_mem {n : Nat} : ∀ (ws : List WireM) (l : List RecM), l.length = n → (∀ t ∈ ws, WireOk n t) → ∀ t ∈ runRm ws l, t ∈ l
  | [], l, _, _, t, ht => ht
  | x :: ws, l, hl, hw, t, ht => by
    have hx := hw x (by simp)
    have := runRm_mem ws (wireRec l x) (by rw [wireRec, stepR_length, hl]) (fun y hy => hw y (List.mem_cons_of_mem _ hy)) t ht
    unfold WireOk at hx
    exact stepR_mem (by omega) (by omega) t this
def rankByB (m : NetM) (l : List RecM) : Bool := netOkB m && (recsOkB l && decide ((l.length : Int) = m.n))
def rankByM (m : NetM) (l : List RecM) : List RecM := if rankByB m l = true then runRm m.ws l else []
theorem rankByM_no {m : NetM} {l : List RecM} (h : netOkB m = false ∨ recsOkB l = false ∨ ¬ (l.length : Int) = m.n) : rankByM m l = [] := by
  unfold rankByM rankByB
  rw [if_neg]
  intro h2
  simp only [Bool.and_eq_true, decide_eq_true_eq] at h2
  rcases h with h | h | h
  · rw [h] at h2; exact absurd h2.1 (by decide)
  · rw [h] at h2; exact absurd h2.2.1 (by decide)
  · exact h h2.2.2
/-- The state behind a store of a record into a row: cells elsewhere stand. -/
theorem setCellsL_other {g b : Nat} (h : ¬ b = g) : ∀ (vs : List Value) (w : World) (o : Nat), (setCellsL w g o vs).heap[b]? = w.heap[b]?
  | [], w, o => rfl
  | v :: vs, w, o => by rw [setCellsL, setCellsL_other h vs]; exact Below.heap_setCell _ _ _ b h
set_option maxHeartbeats 1600000 in
theorem uSpecRankBy (c0 c1 : Value) (m : NetM) (c : Value) (l : List RecM) (w : World) (h : NetIn [c0, c1] m w) (k : RecSIn [c] l w) (hb : ∀ t ∈ l, recBd t) : Calls Try.prog 35 #[.agg #[c0, c1], c] w (RecSRet (rankByM m l) w) := by
  have NO := Lib.hid (fun w' (hb : Below w.heap.size w w') => uSpecNetOk c0 c1 m w' ((netIn_shape h).1 ▸ ⟨_, rfl, (netIn_shape h).2.below hb⟩))
  have RO := Lib.hid (fun w' (hb' : Below w.heap.size w w') => uSpecRecsOk c l w' (k.below hb') hb)
  obtain ⟨aw, kw, rfl, rfl, hkw, hmw, rw_⟩ := netIn_cells h
  obtain ⟨a, cap, rfl, hcap, hm, r⟩ := recSIn_shape k
  have R := Lib.hid r
  have RW := Lib.hid rw_
  have HB := Lib.hid hb
  unfold maxLen at hmw hm
  clear h k r rw_ hb
  obtain ⟨NB, hNB⟩ : ∃ NB, NB = w.alloc (.cells #[.int .i64 m.n, .slice aw m.ws.length kw] 36) := ⟨_, rfl⟩
  have K0 := Lib.hid (show NB.heap[w.heap.size]? = some (.cells #[.int .i64 m.n, .slice aw m.ws.length kw] 36 (0, 0)) by rw [hNB]; exact alloc_at _ _ _ rfl)
  have B0 := Lib.hid (show Below w.heap.size w NB by rw [hNB]; exact below_box (Below.refl _ w) _)
  by_cases hbad : netOkB m = false ∨ recsOkB l = false ∨ ¬ (l.length : Int) = m.n
  · have E := Lib.hid (rankByM_no hbad)
    cases hno : netOkB m
    · rw [hno] at NO
      clear hbad
      go_enter Try.func35, Try.ntmps35
      go_wp2_with fail
      rw [← hNB]
      clear hNB
      refine (NO.out _ B0.out).mono ?_
      rintro e w1 ⟨rfl, hb⟩
      have B1 := Lib.hid (below_seq B0.out hb)
      clear hb NO
      go_wp2
      go_ret
      exact ⟨_, rfl, by rw [E.out]; exact RecSOwn.nil _ _ _, B1.out⟩
    · rw [hno] at NO hbad
      cases hro : recsOkB l
      · rw [hro] at RO
        clear hbad
        go_enter Try.func35, Try.ntmps35
        go_wp2_with fail
        rw [← hNB]
        clear hNB
        refine (NO.out _ B0.out).mono ?_
        rintro e w1 ⟨rfl, hb⟩
        have B1 := Lib.hid (below_seq B0.out hb)
        clear hb NO
        go_wp2_with fail
        refine (RO.out _ B1.out).mono ?_
        rintro e w2 ⟨rfl, hb⟩
        have B2 := Lib.hid (below_seq B1.out hb)
        clear hb RO
        go_wp2
        go_ret
        exact ⟨_, rfl, by rw [E.out]; exact RecSOwn.nil _ _ _, B2.out⟩
      · rw [hro] at RO hbad
        have hne : ¬ (l.length : Int) = m.n := by simpa using hbad
        have hnB : ((l.length : Int) != m.n) = true := by simpa using hne
        clear hbad
        go_enter Try.func35, Try.ntmps35
        go_wp2_with fail
        rw [← hNB]
        clear hNB
        refine (NO.out _ B0.out).mono ?_
        rintro e w1 ⟨rfl, hb⟩
        have B1 := Lib.hid (below_seq B0.out hb)
        have K1 := Lib.hid (kept_block K0.out hb)
        clear hb NO
        go_wp2_with fail
        refine (RO.out _ B1.out).mono ?_
        rintro e w2 ⟨rfl, hb⟩
        have B2 := Lib.hid (below_seq B1.out hb)
        have c0 := cur_cell (kept_block K1.out hb) 0
        simp at c0
        clear hb RO
        go_wp2
        go_ret
        exact ⟨_, rfl, by rw [E.out]; exact RecSOwn.nil _ _ _, B2.out⟩
  · have hno : netOkB m = true := by
      cases e : netOkB m
      · exact absurd (.inl e) hbad
      · rfl
    have hro : recsOkB l = true := by
      cases e : recsOkB l
      · exact absurd (.inr (.inl e)) hbad
      · rfl
    have hne : (l.length : Int) = m.n := Decidable.byContradiction fun h => hbad (.inr (.inr h))
    have E := Lib.hid (show rankByM m l = runRm m.ws l by unfold rankByM rankByB; rw [if_pos (by rw [hno, hro]; simpa using hne)])
    obtain ⟨n, hn, hn1, hn64, hws, hwk⟩ := netOkB_ok hno
    obtain ⟨mn, ws⟩ := m
    simp only at hn hne hno E NO K0 hNB hws hwk RW hkw hmw hbad ⊢
    subst hn
    have hln : l.length = n := by omega
    have HL := Lib.hid hln
    have hl1 : 1 ≤ l.length := by omega
    have hl64 : l.length ≤ 64 := by omega
    have WK := Lib.hid hwk
    have MB := Lib.hid (fun q => fun t ht => HB.out t (runRm_mem (ws.take q) l hln (fun x hx => hwk x (List.mem_of_mem_take hx)) t ht))
    have ML := Lib.hid (fun q => runRm_length (ws.take q) l)
    rw [hno] at NO
    rw [hro] at RO
    have hnB : ((l.length : Int) != (n : Int)) = false := by simp; omega
    clear hbad hno hro hwk hne hln
    go_enter Try.func35, Try.ntmps35
    go_wp2_with fail
    rw [← hNB]
    clear hNB
    refine (NO.out _ B0.out).mono ?_
    rintro e w1 ⟨rfl, hb⟩
    have B1 := Lib.hid (below_seq B0.out hb)
    have K1 := Lib.hid (kept_block K0.out hb)
    clear hb NO
    go_wp2_with fail
    refine (RO.out _ B1.out).mono ?_
    rintro e w2 ⟨rfl, hb⟩
    have B2 := Lib.hid (below_seq B1.out hb)
    have K2 := Lib.hid (kept_block K1.out hb)
    have c0 := cur_cell K2.out 0
    simp at c0
    clear hb RO K1 B1 K0 B0
    have hT := cur_lt K2.out
    have RA := Lib.hid ((R.out.below B2.out).below (below_box (Below.refl _ w2) (.cells #[] 30)))
    go_wp2_with (at_builtin; go_must (refine wp_app_rowS rfl _ _ 24 rfl 30 _ 4 40 Try.underlying24 Try.infoRec rfl (by omega) w2.heap.size 0 (.slice (some ⟨w2.heap.size, 0, none⟩) 0 0) [] (by rfl) (World.ownsRow_made w2 #[] 0 (Nat.le_refl _) (by unfold maxLen; omega) rfl) a l.length cap (flatG recL l) (by rfl) (flatG_len recL_len l) RA.out (flatG_one recL_one _) (by unfold maxLen; omega) (by omega) (by simp) ?_); intro v3 w3 ho3 hg3)
    rw [Nat.zero_add, List.nil_append] at ho3
    obtain ⟨a5, cp, rfl⟩ := own_shape ho3
    obtain ⟨G, rfl, hG⟩ := own_some ho3 (by omega)
    have BN := (below_box (Below.refl w2.heap.size w2) (.cells #[] 30)).grown hg3 (by simp) (fun g hg => by cases hg; exact Nat.le_refl _)
    have S0 := Lib.hid (And.intro ho3 (And.intro (kept_block K2.out BN) (below_seq B2.out BN)))
    clear ho3 hg3 BN K2 c0 RA
    have hTG : w.heap.size < G := by omega
    have hb2 : w.heap.size ≤ w2.heap.size := by omega
    generalize w2.heap.size = b2 at *
    go_wp2_with fail
    go_loopg [6] ws.length (fun k i wr => ∃ q : Nat, q ≤ ws.length ∧ ws.length - q = k ∧ i = .int .i64 q ∧ Hid (wr.ownsRow b2 30 4 (.slice (some ⟨G, 0, none⟩) l.length cp) l.length (flatG recL (runRm (ws.take q) l)) ∧ wr.heap[w.heap.size]? = some (.cells #[.int .i64 n, .slice aw ws.length kw] 36 (0, 0)) ∧ Below w.heap.size w wr))
    case atStart => exact ⟨0, Nat.zero_le _, rfl, rfl, S0⟩
    case round =>
      clear S0
      obtain ⟨q, hq, hk, rfl, H⟩ := hrel
      have t1 := cur_cell H.out.2.1 1
      simp at t1
      by_cases hlt : q < ws.length
      · obtain ⟨bw, ow, rfl, e0, e1⟩ := (RW.out.below H.out.2.2).wire hlt
        obtain ⟨A, B, hA, hB, hAB, hBn⟩ := WK.out _ (List.getElem_mem hlt)
        have NX := Lib.hid (runRm_next hlt l)
        unfold wireRec at NX
        rw [hA, hB, Int.toNat_natCast, Int.toNat_natCast] at NX
        rw [hA] at e0
        rw [hB] at e1
        have OB := Lib.hid (MB.out q)
        have OL := Lib.hid (ML.out q)
        obtain ⟨O, hO⟩ : ∃ O, runRm (ws.take q) l = O := ⟨_, rfl⟩
        rw [hO] at H OB OL NX
        clear hO hA hB
        have hln := HL.out
        have hAO : A < O.length := by rw [OL.out]; omega
        have hBO : B < O.length := by rw [OL.out]; omega
        obtain ⟨x, hx⟩ : ∃ x, O[A] = x := ⟨_, rfl⟩
        obtain ⟨y, hy⟩ : ∃ y, O[B] = y := ⟨_, rfl⟩
        have XB := Lib.hid (hx ▸ OB.out _ (List.getElem_mem hAO))
        have YB := Lib.hid (hy ▸ OB.out _ (List.getElem_mem hBO))
        have EX : O.getD A zeroR = x := by rw [← hx, List.getD_eq_getElem?_getD]; simp [hAO]
        have EY : O.getD B zeroR = y := by rw [← hy, List.getD_eq_getElem?_getD]; simp [hBO]
        unfold stepR at NX
        rw [EX, EY] at NX
        obtain ⟨p, hp⟩ : ∃ p, pairA x y = p := ⟨_, rfl⟩
        obtain ⟨p2, hp2⟩ : ∃ p2, pairB x y = p2 := ⟨_, rfl⟩
        have UP := Lib.hid (fun w' => specPairP x y w' XB.out YB.out)
        rw [hp, hp2] at NX UP
        clear EX EY hp hp2 OB XB YB
        have ccA := own_elem recL_len H.out.1 (k := A) hAO
        have ccB := own_elem recL_len H.out.1 (k := B) hBO
        rw [hx] at ccA
        rw [hy] at ccB
        have hA0 : (0 : Int) ≤ (A : Int) := by omega
        have hA1 : (A : Int) < (l.length : Int) := by omega
        have hB0 : (0 : Int) ≤ (B : Int) := by omega
        have hB1 : (B : Int) < (l.length : Int) := by omega
        clear hln
        obtain ⟨W7, hW7⟩ : ∃ W7, W7 = wr.alloc (.cells #[.int .i64 A, .int .i64 B] 87) := ⟨_, rfl⟩
        have BW := Lib.hid (show Below wr.heap.size wr W7 by rw [hW7]; exact below_box (Below.refl _ wr) _)
        have K7 := Lib.hid (show W7.heap[wr.heap.size]? = some (.cells #[.int .i64 A, .int .i64 B] 87 (0, 0)) by rw [hW7]; exact alloc_at _ _ _ rfl)
        have O7 := Lib.hid (own_below H.out.1 BW.out)
        have KT := Lib.hid (kept_block H.out.2.1 BW.out)
        have BB := Lib.hid (below_seq H.out.2.2 BW.out)
        have hGX : G < wr.heap.size := (H.out.1.lt G rfl).2
        have KS := Lib.hid (fun w' (hb : Below W7.heap.size W7 w') => (show w'.cell? ⟨wr.heap.size, 0, none⟩ = some (.int .i64 A) ∧ w'.cell? ⟨wr.heap.size, 1, none⟩ = some (.int .i64 B) ∧ w'.cell? ⟨G, A * 4, none⟩ = some (.bool x.live) ∧ w'.cell? ⟨G, A * 4 + 1, none⟩ = some (.int .i64 x.dist) ∧ w'.cell? ⟨G, A * 4 + 2, none⟩ = some (.int .i64 x.weight) ∧ w'.cell? ⟨G, A * 4 + 3, none⟩ = some (.string x.word) ∧ w'.cell? ⟨G, B * 4, none⟩ = some (.bool y.live) ∧ w'.cell? ⟨G, B * 4 + 1, none⟩ = some (.int .i64 y.dist) ∧ w'.cell? ⟨G, B * 4 + 2, none⟩ = some (.int .i64 y.weight) ∧ w'.cell? ⟨G, B * 4 + 3, none⟩ = some (.string y.word) from ⟨cur_cell (kept_block K7.out hb) 0, cur_cell (kept_block K7.out hb) 1, own_elem recL_len (own_below O7.out hb) (k := A) hAO 0 (by decide) |>.trans (by rw [hx]; rfl), own_elem recL_len (own_below O7.out hb) (k := A) hAO 1 (by decide) |>.trans (by rw [hx]; rfl), own_elem recL_len (own_below O7.out hb) (k := A) hAO 2 (by decide) |>.trans (by rw [hx]; rfl), own_elem recL_len (own_below O7.out hb) (k := A) hAO 3 (by decide) |>.trans (by rw [hx]; rfl), own_elem recL_len (own_below O7.out hb) (k := B) hBO 0 (by decide) |>.trans (by rw [hy]; rfl), own_elem recL_len (own_below O7.out hb) (k := B) hBO 1 (by decide) |>.trans (by rw [hy]; rfl), own_elem recL_len (own_below O7.out hb) (k := B) hBO 2 (by decide) |>.trans (by rw [hy]; rfl), own_elem recL_len (own_below O7.out hb) (k := B) hBO 3 (by decide) |>.trans (by rw [hy]; rfl)⟩))
        clear ccA ccB
        go_upto_region 8 with fail
        rw [← hW7]
        clear hW7 e0 e1 t1
        have hX7 : wr.heap.size + 1 ≤ W7.heap.size := cur_lt K7.out
        generalize wr.heap.size = X at *
        clear H BW
        have ZZ := Lib.hid (RZ.start W7)
        go_cut [8, 9] (fun pa pb wx => ∃ (b8 b9 : Nat), pa = .pointer (some ⟨b8, 0, none⟩) ∧ pb = .pointer (some ⟨b9, 0, none⟩) ∧ Hid (PairCut b8 b9 W7 wx p p2))
        case first =>
          go_region_held3 (fun w' => w'.cell? ⟨X, 0, none⟩ = some (.int .i64 A) ∧ w'.cell? ⟨X, 1, none⟩ = some (.int .i64 B) ∧ w'.cell? ⟨G, A * 4, none⟩ = some (.bool x.live) ∧ w'.cell? ⟨G, A * 4 + 1, none⟩ = some (.int .i64 x.dist) ∧ w'.cell? ⟨G, A * 4 + 2, none⟩ = some (.int .i64 x.weight) ∧ w'.cell? ⟨G, A * 4 + 3, none⟩ = some (.string x.word) ∧ w'.cell? ⟨G, B * 4, none⟩ = some (.bool y.live) ∧ w'.cell? ⟨G, B * 4 + 1, none⟩ = some (.int .i64 y.dist) ∧ w'.cell? ⟨G, B * 4 + 2, none⟩ = some (.int .i64 y.weight) ∧ w'.cell? ⟨G, B * 4 + 3, none⟩ = some (.string y.word))
            ((refine KS.out _ ?_; repeat (first | with_reducible exact ZZ.out.B | with_reducible exact Below.refl _ _ | with_reducible refine below_drew ?_ | with_reducible refine below_box ?_ _ | (with_reducible refine Below.setCell ?_ ?_ _; rotate_left; exact (ZZ.out.Z _ (by simp)).2))))
            (first
              | (go_at_call 66; refine (UP.out _).mono ?_; rintro e wn ⟨rfl, hb⟩; (first | (have ZZ := Lib.hid (ZZ.out.call hb)) | (have ZZ := Lib.hid (ZZ.out.box.call hb)) | (have ZZ := Lib.hid (ZZ.out.box.box.call hb))); (try simp only [size_box, size_drew] at ZZ); (try (obtain ⟨⟨z0, z1, z2, z3⟩, ⟨f0, f1, f2, f3⟩, ⟨z4, z5⟩, z6, z7⟩ := ZZ.out.at0)); (try (obtain ⟨⟨⟨v0, v1, v2, v3⟩, ⟨g0, g1, g2, g3⟩, ⟨y4, y5⟩, y8, y9⟩, y6, y7⟩ := ZZ.out.at1)); (try simp only [size_box, size_drew] at z0 z1 z2 z3 f0 f1 f2 f3 z4 z5 z6 z7); (try simp only [size_box, size_drew] at v0 v1 v2 v3 g0 g1 g2 g3 y4 y5 y6 y7 y8 y9); clear hb UP))
          all_goals (go_wp2_with fail; go_meet)
          all_goals refine ⟨_, _, rfl, rfl, Lib.hid ?_⟩
          all_goals first
            | (have _g : Hid (RZ _ _ []) := ZZ; first | with_reducible exact PairCut.new ZZ.out | with_reducible exact PairCut.wen ZZ.out)
            | (have _g : Hid (RZ _ _ [_]) := ZZ; first | with_reducible exact PairCut.one ZZ.out | with_reducible exact PairCut.two ZZ.out)
            | (have _g : Hid (RZ _ _ [_, _]) := ZZ; first | with_reducible exact PairCut.old01 ZZ.out | with_reducible exact PairCut.old10 ZZ.out)
        case rest =>
          obtain ⟨b8, b9, rfl, rfl, HC⟩ := hcut
          have OC := Lib.hid (own_below O7.out HC.out.B)
          have KX := Lib.hid (kept_block K7.out HC.out.B)
          have KT2 := Lib.hid (kept_block KT.out HC.out.B)
          have BC := Lib.hid (below_seq BB.out HC.out.B)
          have K8 := Lib.hid HC.out.k6
          have K9 := Lib.hid HC.out.k7
          have l8 := HC.out.l6
          have l9 := HC.out.l7
          have n8 : ¬ b8 = G := by omega
          have n9 : ¬ b9 = G := by omega
          have nX : ¬ X = G := by omega
          have m8 : ¬ G = b8 := by omega
          have m9 : ¬ G = b9 := by omega
          have mX : ¬ G = X := by omega
          have nT : ¬ w.heap.size = G := by omega
          have O9 := Lib.hid (own_elem_set recL_len OC.out (k := A) hAO p)
          have hAO9 : (O.set A p).length = O.length := by simp
          have O10 := Lib.hid (own_elem_set recL_len O9.out.1 (k := B) (by rw [hAO9]; exact hBO) p2)
          have EF := Lib.hid (show (O.set A p).set B p2 = runRm (ws.take (q + 1)) l from NX.out.symm)
          have ccA := own_elem recL_len OC.out (k := A) hAO
          obtain ⟨oA, hoA⟩ : ∃ r, O[A] = r := ⟨_, rfl⟩
          rw [hoA] at ccA
          have ccB := own_elem recL_len O9.out.1 (k := B) (by rw [hAO9]; exact hBO)
          obtain ⟨oB, hoB⟩ : ∃ r, (O.set A p)[B]'(by rw [hAO9]; exact hBO) = r := ⟨_, rfl⟩
          rw [hoB] at ccB
          have fA0 := OC.out.frozenAt (A * 4)
          have fA1 := OC.out.frozenAt (A * 4 + 1)
          have fA2 := OC.out.frozenAt (A * 4 + 2)
          have fA3 := OC.out.frozenAt (A * 4 + 3)
          have cA0 : wc.cell? ⟨G, A * 4, none⟩ = some (.bool oA.live) := ccA 0 (by decide)
          have cA1 : wc.cell? ⟨G, A * 4 + 1, none⟩ = some (.int .i64 oA.dist) := ccA 1 (by decide)
          have cA2 : wc.cell? ⟨G, A * 4 + 2, none⟩ = some (.int .i64 oA.weight) := ccA 2 (by decide)
          have cA3 : wc.cell? ⟨G, A * 4 + 3, none⟩ = some (.string oA.word) := ccA 3 (by decide)
          obtain ⟨W9, hW9⟩ : ∃ W9, W9 = setCellsL wc G (A * 4) (recL p) := ⟨_, rfl⟩
          rw [← hW9] at O9 O10 ccB
          have hb9 : ∀ b, ¬ b = G → W9.heap[b]? = wc.heap[b]? := fun b hb => by rw [hW9]; exact setCellsL_other hb _ _ _
          have K99 := Lib.hid ((hb9 b9 n9).trans K9.out)
          have KX9 := Lib.hid ((hb9 X nX).trans KX.out)
          have KT9 := Lib.hid ((hb9 _ nT).trans KT2.out)
          have x0 := cur_cell KX.out 0
          have u0 := cur_cell K8.out 0
          have u1 := cur_cell K8.out 1
          have u2 := cur_cell K8.out 2
          have u3 := cur_cell K8.out 3
          simp at x0 u0 u1 u2 u3
          replace hW9 : W9 = (((wc.setCell ⟨G, A * 4, none⟩ (.bool p.live)).setCell ⟨G, A * 4 + 1, none⟩ (.int .i64 p.dist)).setCell ⟨G, A * 4 + 2, none⟩ (.int .i64 p.weight)).setCell ⟨G, A * 4 + 3, none⟩ (.string p.word) := hW9
          clear HC OC KX K8 K9 hoA ccA hb9 NX KS ZZ UP O7 K7 KT hx hy
          go_upto_region 10 with fail
          rw [← hW9]
          clear hW9 x0 u0 u1 u2 u3 cA0 cA1 cA2 cA3 fA0 fA1 fA2 fA3
          have fB0 := O9.out.1.frozenAt (B * 4)
          have fB1 := O9.out.1.frozenAt (B * 4 + 1)
          have fB2 := O9.out.1.frozenAt (B * 4 + 2)
          have fB3 := O9.out.1.frozenAt (B * 4 + 3)
          have cB0 : W9.cell? ⟨G, B * 4, none⟩ = some (.bool oB.live) := ccB 0 (by decide)
          have cB1 : W9.cell? ⟨G, B * 4 + 1, none⟩ = some (.int .i64 oB.dist) := ccB 1 (by decide)
          have cB2 : W9.cell? ⟨G, B * 4 + 2, none⟩ = some (.int .i64 oB.weight) := ccB 2 (by decide)
          have cB3 : W9.cell? ⟨G, B * 4 + 3, none⟩ = some (.string oB.word) := ccB 3 (by decide)
          obtain ⟨W10, hW10⟩ : ∃ W10, W10 = setCellsL W9 G (B * 4) (recL p2) := ⟨_, rfl⟩
          rw [← hW10] at O10
          have hb10 : ∀ b, ¬ b = G → W10.heap[b]? = W9.heap[b]? := fun b hb => by rw [hW10]; exact setCellsL_other hb _ _ _
          have KT10 := Lib.hid ((hb10 _ nT).trans KT9.out)
          have x1 := cur_cell KX9.out 1
          have u0 := cur_cell K99.out 0
          have u1 := cur_cell K99.out 1
          have u2 := cur_cell K99.out 2
          have u3 := cur_cell K99.out 3
          simp at x1 u0 u1 u2 u3
          replace hW10 : W10 = (((W9.setCell ⟨G, B * 4, none⟩ (.bool p2.live)).setCell ⟨G, B * 4 + 1, none⟩ (.int .i64 p2.dist)).setCell ⟨G, B * 4 + 2, none⟩ (.int .i64 p2.weight)).setCell ⟨G, B * 4 + 3, none⟩ (.string p2.word) := hW10
          have FZ := Lib.hid (show W10.ownsRow b2 30 4 (.slice (some ⟨G, 0, none⟩) l.length cp) l.length (flatG recL (runRm (ws.take (q + 1)) l)) ∧ W10.heap[w.heap.size]? = some (.cells #[.int .i64 n, .slice (some ⟨bw, ow, none⟩) ws.length kw] 36 (0, 0)) ∧ Below w.heap.size w W10 from ⟨by rw [← EF.out]; exact O10.out.1, KT10.out, (BC.out.grown O9.out.2 BC.out.size (fun g hg => by cases hg; omega)).grown O10.out.2 (Nat.le_trans BC.out.size O9.out.2.size) (fun g hg => by cases hg; omega)⟩)
          clear O9 O10 K99 KX9 KT9 KT10 hoB ccB hb10 EF BC KT2 BB
          go_upto_region 6 with fail
          rw [← hW10]
          clear hW10 x1 u0 u1 u2 u3 cB0 cB1 cB2 cB3 fB0 fB1 fB2 fB3
          go_wp2
          go_roundg (ws.length - (q + 1))
          case measure => omega
          case rel => exact ⟨q + 1, by omega, rfl, by go_num, FZ⟩
      · have eq : q = ws.length := by omega
        subst eq
        have e2 : ws.take ws.length = ws := List.take_length
        rw [e2] at H
        have Z := Lib.hid (RecSOwn.mk (l := runRm ws l) (own_base H.out.1 hb2))
        have B3 := Lib.hid H.out.2.2
        have RL := Lib.hid (runRm_length ws l)
        clear H e2
        go_wp2
        go_ret
        exact ⟨_, rfl, by rw [E.out]; have z := Z.out; exact z, B3.out⟩
end Go.Proofs.Ytaedamnhobcdlaa
end

section
namespace Go.Proofs.Ytaedamnhobcdlaa
open Go.RowKit
set_option linter.unusedVariables false
theorem rankM_bd (l : List RecM) : mcRecS (rankM l) ≤ 1000000000000 := by
  unfold rankM mcRecS
  split
  · rename_i h
    have := recsOkB_len h
    rw [insAll_length]; omega
  · simp
theorem compactM_bd (l : List RecM) : mcRecS (compactM l) ≤ 1000000000000 := by
  unfold compactM mcRecS
  split
  · rename_i h
    have := recsOkB_len h
    rw [compactL_length]; omega
  · simp
theorem topM_bd (l : List RecM) (k : Int) : mcRecS (topM l k) ≤ 1000000000000 := by
  unfold topM mcRecS
  split
  · rename_i h
    unfold topB at h
    simp only [Bool.and_eq_true, decide_eq_true_eq] at h
    simp; omega
  · simp
theorem rankByM_bd (m : NetM) (l : List RecM) : mcRecS (rankByM m l) ≤ 1000000000000 := by
  unfold rankByM mcRecS
  split
  · rename_i h
    unfold rankByB at h
    simp only [Bool.and_eq_true] at h
    have := recsOkB_len h.2.1
    rw [runRm_length]; omega
  · simp
end Go.Proofs.Ytaedamnhobcdlaa
end
