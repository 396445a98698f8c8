/- Chapter 10 in the model: TopK, RankSteps. -/
import Derived.Test.YtaedamnhobcdlaaRkR
import Derived.Test.YtaedamnhobcdlaaNtB
namespace Go.Proofs.Ytaedamnhobcdlaa
open Go.RowKit
set_option linter.unusedVariables false
set_option linter.unusedSimpArgs false
set_option maxRecDepth 100000

/-- The beginning of a row that the call owns. -/
theorem own_prefix {s base n cap k : Nat} {w : World} {e : TypeId} {a : Option Addr} {xs : List Value} (h : w.ownsRow base e s (.slice a n cap) n xs) (hk : k ≤ n) : w.ownsRow base e s (.slice a k cap) k (xs.take (k * s)) := by
  obtain ⟨hx, hr⟩ := h
  have hle : k * s ≤ n * s := Nat.mul_le_mul_right s hk
  refine ⟨by simp; omega, ?_⟩
  rcases hr with ⟨hv, hn⟩ | ⟨g, cap', cur, hv, hbg, hg, h1, h2, h3, h4⟩
  · simp at hv
    obtain ⟨rfl, rfl, rfl⟩ := hv
    left
    have : k = 0 := by omega
    subst this
    exact ⟨rfl, rfl⟩
  · simp at hv
    obtain ⟨rfl, rfl⟩ := hv
    exact .inr ⟨g, cap, cur, rfl, hbg, hg, Nat.le_trans hk h1, h2, h3, by rw [← h4, List.take_take, Nat.min_eq_left hle]⟩
theorem topB_no {l : List RecM} {k : Int} (h : recsOkB l = false ∨ k < 0 ∨ 8 < k) : topM l k = [] := by
  unfold topM topB
  rw [if_neg]
  intro h2
  simp only [Bool.and_eq_true, decide_eq_true_eq] at h2
  rcases h with h | h | h
  · rw [h] at h2; exact absurd h2.1 (by decide)
  · omega
  · omega
set_option maxHeartbeats 4000000 in
theorem uSpecTopK (c : Value) (l : List RecM) (k : Int) (w : World) (h : RecSIn [c] l w) (hb : ∀ t ∈ l, recBd t) (bk : -9223372036854775808 ≤ k ∧ k ≤ 9223372036854775807) : Calls Try.prog 40 #[c, .int .i64 k] w (RecSRet (topM l k) w) := by
  have RO := Lib.hid (uSpecRecsOk c l w h hb)
  have RK := Lib.hid (fun w' (hb' : Below w.heap.size w w') => uSpecRank c l w' (h.below hb') hb)
  obtain ⟨a, cap, rfl, hcap, hm, r⟩ := recSIn_shape h
  clear h r hb
  by_cases hbad : recsOkB l = false ∨ k < 0 ∨ 8 < k
  · have E := Lib.hid (topB_no hbad)
    cases ho : recsOkB l
    · rw [ho] at RO
      go_enter Try.func40, Try.ntmps40
      go_wp2_with fail
      refine RO.out.mono ?_
      rintro e w1 ⟨rfl, hb⟩
      have B1 := Lib.hid hb
      clear hb RO hbad
      go_wp2
      go_ret
      exact ⟨_, rfl, by rw [E.out]; exact RecSOwn.nil _ _ _, B1.out⟩
    · rw [ho] at RO hbad
      have hbad : k < 0 ∨ 8 < k := by simpa using hbad
      by_cases h0 : k < 0
      · go_enter Try.func40, Try.ntmps40
        go_wp2_with fail
        refine RO.out.mono ?_
        rintro e w1 ⟨rfl, hb⟩
        have B1 := Lib.hid hb
        clear hb RO hbad
        go_wp2
        go_ret
        exact ⟨_, rfl, by rw [E.out]; exact RecSOwn.nil _ _ _, B1.out⟩
      · have h8 : 8 < k := by omega
        go_enter Try.func40, Try.ntmps40
        go_wp2_with fail
        refine RO.out.mono ?_
        rintro e w1 ⟨rfl, hb⟩
        have B1 := Lib.hid hb
        clear hb RO hbad
        go_wp2
        go_ret
        exact ⟨_, rfl, by rw [E.out]; exact RecSOwn.nil _ _ _, B1.out⟩
  · have ho : recsOkB l = true := by
      cases e : recsOkB l
      · exact absurd (.inl e) hbad
      · rfl
    obtain ⟨n, rfl⟩ : ∃ n : Nat, k = n := ⟨k.toNat, by omega⟩
    have hn8 : n ≤ 8 := by omega
    have hl := recsOkB_len ho
    have E := Lib.hid (show topM l n = (insAll l ++ List.replicate (n - l.length) zeroR).take n by
      unfold topM topB; rw [if_pos (by rw [ho]; simp; omega)]; simp)
    have ER := Lib.hid (show rankM l = insAll l by unfold rankM; rw [if_pos ho])
    have EL := Lib.hid (insAll_length l)
    rw [ho] at RO
    rw [ER.out] at RK
    clear hbad bk ho
    go_enter Try.func40, Try.ntmps40
    go_wp2_with fail
    refine RO.out.mono ?_
    rintro e w1 ⟨rfl, hb⟩
    have B1 := Lib.hid hb
    clear hb RO
    go_wp2_with fail
    refine (RK.out _ B1.out).mono ?_
    rintro e w2 ⟨c2, rfl, ⟨a2, k2, hc2, ho2, _⟩, hb⟩
    simp at hc2
    subst hc2
    rw [EL.out] at ho2 ⊢
    have hs1 := B1.out.size
    have S0 := Lib.hid (show w2.ownsRow w.heap.size 30 4 (.slice a2 l.length k2) l.length (flatG recL (insAll l ++ List.replicate (l.length - l.length) zeroR)) ∧ Below w.heap.size w w2 from ⟨by rw [Nat.sub_self, List.replicate_zero, List.append_nil]; exact own_base ho2 hs1, below_seq B1.out hb⟩)
    clear ho2 hb RK B1
    obtain ⟨L, hL⟩ : ∃ L, l.length = L := ⟨_, rfl⟩
    rw [hL] at S0 E hl hcap ⊢
    clear hL hm EL hs1
    go_wp2
    go_loopw [5] (fun o wr => ∃ (j cp : Nat) (ad : Option Addr), j ≤ 64 ∧ o = .slice ad j cp ∧ j ≤ cp ∧ Hid (L ≤ j ∧ (L < j → j ≤ n)) ∧ Hid (wr.ownsRow w.heap.size 30 4 (.slice ad j cp) j (flatG recL (insAll l ++ List.replicate (j - L) zeroR)) ∧ Below w.heap.size w wr)) (fun o _ => 64 - lenOf o)
    case atStart => exact ⟨L, k2, a2, hl, rfl, own_cap S0.out.1, Lib.hid ⟨Nat.le_refl _, fun h => absurd h (Nat.lt_irrefl _)⟩, S0⟩
    case round =>
      clear S0
      obtain ⟨j, cp, ad, hj, rfl, hcp, HJ, HO⟩ := hrel
      have hsz := HO.out.2.size
      by_cases hjn : j < n
      · go_wp2_with (at_builtin; go_must (refine wp_app_rowS rfl _ _ 24 rfl 30 _ 4 40 Try.underlying24 Try.infoRec rfl (by omega) w.heap.size j (.slice ad j cp) _ (by rfl) (HO.out.1.alloc _) (some ⟨_, 0, none⟩) 1 1 (recL zeroR) (by rfl) rfl (lit_rec _ zeroR) (recL_one _) (by unfold maxLen; omega) (by omega) (by simp; omega) ?_); intro v' w3 hown hgr)
        obtain ⟨a', c', rfl⟩ := own_shape hown
        have e1 : j + 1 - L = (j - L) + 1 := by have := HJ.out.1; omega
        have hc' := own_cap hown
        have Z := Lib.hid (And.intro (show w3.ownsRow w.heap.size 30 4 (.slice a' (j + 1) c') (j + 1) (flatG recL (insAll l ++ List.replicate (j + 1 - L) zeroR)) by rw [e1, List.replicate_succ', ← List.append_assoc, flatG_app, flatG_one1]; exact hown) (HO.out.2.trans (app_low4 hsz HO.out.1 _ hgr)))
        clear hown hgr HO e1
        go_wp2
        go_roundw
        case rel => exact ⟨j + 1, c', a', by omega, rfl, hc', Lib.hid ⟨by have := HJ.out.1; omega, fun _ => hjn⟩, Z⟩
        case measure => simp [lenOf]; omega
      · have hnj : n ≤ j := by omega
        have hnc : n ≤ cp := by omega
        have Z := Lib.hid (own_prefix HO.out.1 hnj)
        have B := Lib.hid HO.out.2
        have e2 : (flatG recL (insAll l ++ List.replicate (j - L) zeroR)).take (n * 4) = flatG recL (topM l n) := by
          rw [← flatG_take recL_len, E.out]
          congr 1
          have hJ := HJ.out
          have el : (insAll l).length = L ∨ True := .inr trivial
          by_cases hLj : L < j
          · have : j = n := by have := hJ.2 hLj; omega
            subst this; rfl
          · have : j = L := by omega
            subst this
            rw [Nat.sub_self, show n - j = 0 from by omega]
        rw [e2] at Z
        clear HO e2
        go_wp2
        all_goals
          go_ret
          exact ⟨_, rfl, RecSOwn.mk Z.out, B.out⟩
theorem net_field (w : World) (z : Int) (a : Option Addr) (n c : Nat) : (Instr.field 36 (.agg #[.int .i64 z, .slice a n c]) 1).run Try.prog w = .ok (.slice a n c) w := by kernel_rfl
def rankStepsZ (n : Int) : Int := if n < 0 ∨ 64 < n then -1 else ((bitonicM (rankSizeZ n)).ws.length : Int)
set_option maxHeartbeats 2000000 in
theorem uSpecRankSteps (n : Int) (w : World) (hb : -9223372036854775808 ≤ n ∧ n ≤ 9223372036854775807) : Calls Try.prog 27 #[.int .i64 n] w fun e w' => e = .returned (.int .i64 (rankStepsZ n)) ∧ Below w.heap.size w w' := by
  have RS := Lib.hid (fun w' => uSpecRankSize n w' hb)
  by_cases hbad : n < 0 ∨ 64 < n
  · have E := Lib.hid (show rankStepsZ n = -1 by unfold rankStepsZ; rw [if_pos hbad])
    rw [rankSizeZ_no hbad] at RS
    clear hbad
    go_enter Try.func27, Try.ntmps27
    go_wp2_with fail
    refine (RS.out _).mono ?_
    rintro e w1 ⟨rfl, hb⟩
    have B := Lib.hid hb
    clear hb
    go_wp2
    go_ret
    exact ⟨ret_int E.out.symm, B.out⟩
  · have E := Lib.hid (show rankStepsZ n = ((bitonicM (rankSizeZ n)).ws.length : Int) by unfold rankStepsZ; rw [if_neg hbad])
    obtain ⟨m, rfl⟩ : ∃ m : Nat, n = m := ⟨n.toNat, by omega⟩
    have hs := sizeUp_le (n := m) (by omega)
    rw [rankSizeZ_at (by omega)] at RS E
    have BT := Lib.hid (fun w' => uSpecBitonic (sizeUp m : Int) w' (by omega))
    have hsp : (0 : Int) ≤ (sizeUp m : Int) := by omega
    generalize sizeUp m = s at *
    clear hbad
    go_enter Try.func27, Try.ntmps27
    go_wp2_with fail
    refine (RS.out _).mono ?_
    rintro e w1 ⟨rfl, hb⟩
    have B := Lib.hid hb
    clear hb
    go_wp2_with fail
    refine (RS.out _).mono ?_
    rintro e w2 ⟨rfl, hb⟩
    replace B := Lib.hid (below_seq B.out hb)
    clear hb
    go_wp2_with fail
    refine (BT.out _).mono ?_
    rintro e w3 h3
    obtain ⟨c0, c1, rfl, ho, hb⟩ := h3
    obtain ⟨ad, kd, rfl, rfl, _⟩ := netIn_cells ho.read
    replace B := Lib.hid (below_seq B.out hb)
    clear hb ho
    go_wp2_with fail
    rw [net_field]
    simp only [Result.andThen]
    rw [Oper.upon_value]
    go_wp2
    go_ret
    exact ⟨ret_int E.out.symm, B.out⟩
end Go.Proofs.Ytaedamnhobcdlaa
