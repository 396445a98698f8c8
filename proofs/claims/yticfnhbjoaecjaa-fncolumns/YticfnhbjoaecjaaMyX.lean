/- Chapter 6: the run in the model; padded words in both; the laws' helpers over columns. -/
import Derived.Test.YticfnhbjoaecjaaMyW
import Derived.Test.YticfnhbjoaecjaaUnpad
import Derived.Test.YticfnhbjoaecjaaReads
import Derived.Test.YticfnhbjoaecjaaPad
import Derived.Test.YticfnhbjoaecjaaByteSU
namespace Go.Proofs.Yticfnhbjoaecjaa
open Go.RowKit
set_option linter.unusedVariables false
set_option maxRecDepth 100000 in
set_option maxHeartbeats 2000000 in
theorem specRun (p t : ByteArray) (w : World) (hp : p.size ≤ maxLen) (ht : t.size ≤ maxLen) :
    Calls Try.prog 34 #[.string p, .string t] w fun e w' => e = .returned (.int .i64 (distZ p.data.toList t.data.toList)) ∧ Below w.heap.size w w' := by
  have LG := Lib.hid (fun w => specLong p t w hp ht)
  by_cases hg : 32 < p.size ∨ 32 < t.size
  · have D := Lib.hid (show distZ p.data.toList t.data.toList = -1 by unfold distZ; rw [if_pos (by simp only [len_data]; omega)])
    have e : (!(decide (p.size ≤ 32) && decide (t.size ≤ 32))) = true := by simp; omega
    rw [e] at LG
    clear e hg
    go_enter Try.func34, Try.ntmps34
    go_wp2_with fail
    refine (LG.out _).mono ?_
    rintro e w1 ⟨rfl, rfl⟩
    go_wp2
    go_ret
    exact ⟨ret_int D.out.symm, Below.refl _ _⟩
  have h1 : p.size ≤ 32 := by omega
  have h2 : t.size ≤ 32 := by omega
  clear hg
  have e : (!(decide (p.size ≤ 32) && decide (t.size ≤ 32))) = false := by simp; omega
  rw [e] at LG
  clear e
  have D := Lib.hid (show distZ p.data.toList t.data.toList = dZ p.data.toList t.data.toList t.size p.size by
    unfold distZ; rw [if_neg (by simp only [len_data]; omega)]
    have := dZ_last p.data.toList t.data.toList
    rw [len_data, len_data] at this
    exact this.symm)
  have ST := Lib.hid (fun w => specStart p w hp)
  rw [startZ_yes (by simpa using h1), len_data] at ST
  have F := col_first p.data.toList t.data.toList
  rw [len_data] at F
  have hF : Hid (bV (2 ^ p.size - 1, 0, (p.size : Int), (p.size : Int)) = .agg (bitsV (colP p.data.toList t.data.toList 0) (colM p.data.toList t.data.toList 0) (dZ p.data.toList t.data.toList 0 p.size) p.size)) := Lib.hid (by rw [F.1, F.2.1, F.2.2]; rfl)
  rw [hF.out] at ST
  clear F hF
  have STEP : Hid (∀ k (hk : k < t.size) w, Calls Try.prog 33 #[.agg (bitsV (colP p.data.toList t.data.toList k) (colM p.data.toList t.data.toList k) (dZ p.data.toList t.data.toList k p.size) p.size), .int .u64 ((peqZ p.data.toList t[k] : Nat) : Int)] w fun e w' => e = .returned (.agg (bitsV (colP p.data.toList t.data.toList (k + 1)) (colM p.data.toList t.data.toList (k + 1)) (dZ p.data.toList t.data.toList (k + 1) p.size) p.size)) ∧ Below w.heap.size w w') := Lib.hid fun k hk w => by
    have hl := peqN_lt (p := p.data.toList) (b := t[k]) (by simp only [len_data]; omega)
    obtain ⟨b1, b2, b3, b4⟩ := col_small p.data.toList t.data.toList k (by simp only [len_data]; omega) (by simp only [len_data]; omega) (by simp only [len_data]; omega)
    rw [peqZ_yes (by simp only [len_data]; omega)]
    have := specMyersStep (colP p.data.toList t.data.toList k) (colM p.data.toList t.data.toList k) (peqN p.data.toList t[k]) (dZ p.data.toList t.data.toList k p.data.toList.length) p.data.toList.length w (by omega) (by omega) (by omega) (by simp only [len_data]; omega) (by omega)
    have e : t.data.toList[k]'(by simp only [len_data]; omega) = t[k] := rfl
    have nx := bstep_col p.data.toList t.data.toList k (by simp only [len_data]; omega) (by simp only [len_data]; omega) (by simp only [len_data]; omega)
    rw [e] at nx
    rw [nx] at this
    rw [len_data] at this
    exact this
  have PQ := Lib.hid (fun (b : UInt8) (w : World) => specPeq p b w hp)
  unfold bitsV at *
  go_enter Try.func34, Try.ntmps34
  go_wp2_with fail
  refine (LG.out _).mono ?_
  rintro e w0 ⟨rfl, rfl⟩
  go_wp2_with fail
  refine (ST.out _).mono ?_
  rintro e w1 ⟨rfl, hb1⟩
  have B1 := Lib.hid (below_box hb1 (.cells #[.int .u64 (colP p.data.toList t.data.toList 0), .int .u64 (colM p.data.toList t.data.toList 0), .int .i64 (dZ p.data.toList t.data.toList 0 p.size), .int .i64 p.size] 32))
  have K1 := Lib.hid (alloc_at w1 (.cells #[.int .u64 (colP p.data.toList t.data.toList 0), .int .u64 (colM p.data.toList t.data.toList 0), .int .i64 (dZ p.data.toList t.data.toList 0 p.size), .int .i64 p.size] 32) w1.heap.size rfl)
  have hb1s := hb1.size
  obtain ⟨g, hg⟩ : ∃ g, g = w1.heap.size := ⟨_, rfl⟩
  rw [← hg] at K1 hb1s
  clear hb1 ST
  go_wp2
  rw [← hg]
  clear hg
  go_loopw [6] (fun i wr => ∃ k : Nat, k ≤ t.size ∧ i = .int .i64 k ∧ Hid (wr.heap[g]? = some (.cells #[.int .u64 (colP p.data.toList t.data.toList k), .int .u64 (colM p.data.toList t.data.toList k), .int .i64 (dZ p.data.toList t.data.toList k p.size), .int .i64 p.size] 32 (0, 0)) ∧ Below w.heap.size w wr)) (fun i _ => t.size - (intOf i).toNat)
  case atStart => exact ⟨0, Nat.zero_le _, rfl, Lib.hid ⟨K1.out, B1.out⟩⟩
  case round =>
    clear K1 B1
    obtain ⟨k, hk, rfl, H⟩ := hrel
    by_cases hlt : k < t.size
    · have STk := Lib.hid (STEP.out k hlt)
      generalize colP p.data.toList t.data.toList k = P at *
      generalize colM p.data.toList t.data.toList k = M at *
      generalize dZ p.data.toList t.data.toList k p.size = Z at *
      have c0 := cur_cell H.out.1 0
      have c1 := cur_cell H.out.1 1
      have c2 := cur_cell H.out.1 2
      have c3 := cur_cell H.out.1 3
      simp at c0 c1 c2 c3
      have hi : (0 : Int) ≤ (k : Int) := by omega
      have hi2 : (k : Int) < (t.size : Int) := by omega
      go_wp2
      go_region_law (first
        | (refine step_callW wr.drew rfl (by rfl) 30 _ _ rfl _ (by kernel_rfl) Try.call30 _ (PQ.out t[k] wr.drew) ?_; rintro e w2 ⟨rfl, rfl⟩; refine ⟨_, rfl, ?_⟩)
        | (refine step_callW wr.drew rfl (by rfl) 33 _ _ rfl _ (by kernel_rfl) Try.call33 _ (STk.out wr.drew) ?_; rintro e w3 ⟨rfl, hb3⟩; refine ⟨_, rfl, ?_⟩; have H3 := Lib.hid (And.intro (kept_block (w := wr.drew) H.out.1 hb3) (below_seq (below_drew H.out.2) hb3)); have e0 := cur_cell H3.out.1 0; have e1 := cur_cell H3.out.1 1; have e2 := cur_cell H3.out.1 2; have e3 := cur_cell H3.out.1 3; simp at e0 e1 e2 e3; have f0 := cur_free H3.out.1 0; have f1 := cur_free H3.out.1 1; have f2 := cur_free H3.out.1 2; have f3 := cur_free H3.out.1 3))
      all_goals
        go_wp2
        go_roundw
        case rel => exact ⟨k + 1, by omega, by go_num, Lib.hid ⟨set4 H3.out.1 _ _ _ _, below_set4 H3.out.2 hb1s _ _ _ _⟩⟩
        case measure => simp [intOf]; omega
    · have hk' : k = t.size := by omega
      subst hk'
      have c2 := cur_cell H.out.1 2
      simp at c2
      go_wp2
      go_ret
      exact ⟨ret_int D.out.symm, H.out.2⟩
/-- What MyersPadded answers. -/
def padZ (d0 d1 : List UInt8) : Int := if unpB d0 && unpB d1 then distZ (unpL d0) (unpL d1) else -1
theorem unp_size (d : List UInt8) : (unpL d).length ≤ 32 := by
  cases h : unpB d
  · rw [unp_no h]; simp
  · rw [unp_yes h]
    unfold unpB at h
    simp only [Bool.and_eq_true, decide_eq_true_eq] at h
    rw [inner_length h.1.1.1 h.1.1.2]
    exact h.1.1.2

set_option maxHeartbeats 1000000 in
theorem implPadded (a0 a1 : Option Addr) (cap0 cap1 : Nat) (d0 d1 : List UInt8) (w : World) (hl0 : d0.length ≤ maxLen) (hl1 : d1.length ≤ maxLen) (hc0 : d0.length ≤ cap0) (hc1 : d1.length ≤ cap1) (r0 : Row w a0 (d0.map bval)) (r1 : Row w a1 (d1.map bval)) :
    Calls Try.prog 17 #[.slice a0 d0.length cap0, .slice a1 d1.length cap1] w fun e w' => e = .returned (.int .i64 (padZ d0 d1)) ∧ Below w.heap.size w w' := by
  have U0 := Lib.hid (implUnpad cap0 a0 d0 w hl0 hc0 r0)
  have U1 := Lib.hid (fun w' (hb : Below w.heap.size w w') => implUnpad cap1 a1 d1 w' hl1 hc1 (r1.below hb))
  have z0 := unp_size d0
  have z1 := unp_size d1
  have RN := Lib.hid (fun w => implRun (strL (unpL d0)) (strL (unpL d1)) w (by rw [strL_size]; unfold maxLen; omega) (by rw [strL_size]; unfold maxLen; omega))
  rw [strL_data, strL_data] at RN
  have PZ : Hid (padZ d0 d1 = if unpB d0 && unpB d1 then distZ (unpL d0) (unpL d1) else -1) := Lib.hid rfl
  generalize padZ d0 d1 = Z at *
  clear r0 r1 hl0 hl1 hc0 hc1 z0 z1
  generalize strL (unpL d0) = s0 at *
  generalize strL (unpL d1) = s1 at *
  generalize distZ (unpL d0) (unpL d1) = D at *
  cases h0 : unpB d0
  · rw [h0] at U0 PZ
    have PZ' : Hid (Z = -1) := Lib.hid PZ.out
    clear h0
    generalize unpB d1 = t1 at *
    go_enter Try.func17, Try.ntmps17
    go_wp2_with fail
    refine U0.out.mono ?_
    rintro e w1 ⟨rfl, hb1⟩
    go_wp2_with fail
    refine (U1.out w1 hb1).mono ?_
    rintro e w2 ⟨rfl, hb2⟩
    have B := Lib.hid (below_seq hb1 hb2)
    clear hb1 hb2
    go_wp2
    go_ret
    exact ⟨ret_int PZ'.out.symm, B.out⟩
  · cases h1 : unpB d1
    · rw [h1] at U1
      rw [h0] at U0
      rw [h0, h1] at PZ
      have PZ' : Hid (Z = -1) := Lib.hid PZ.out
      clear h0 h1
      go_enter Try.func17, Try.ntmps17
      go_wp2_with fail
      refine U0.out.mono ?_
      rintro e w1 ⟨rfl, hb1⟩
      go_wp2_with fail
      refine (U1.out w1 hb1).mono ?_
      rintro e w2 ⟨rfl, hb2⟩
      have B := Lib.hid (below_seq hb1 hb2)
      clear hb1 hb2
      go_wp2
      go_ret
      exact ⟨ret_int PZ'.out.symm, B.out⟩
    · rw [h1] at U1
      rw [h0] at U0
      rw [h0, h1] at PZ
      have PZ' : Hid (Z = D) := Lib.hid PZ.out
      clear h0 h1
      go_enter Try.func17, Try.ntmps17
      go_wp2_with fail
      refine U0.out.mono ?_
      rintro e w1 ⟨rfl, hb1⟩
      go_wp2_with fail
      refine (U1.out w1 hb1).mono ?_
      rintro e w2 ⟨rfl, hb2⟩
      have B := Lib.hid (below_seq hb1 hb2)
      clear hb1 hb2
      go_wp2_with fail
      refine (RN.out _).mono ?_
      rintro e w3 ⟨rfl, hb3⟩
      have B3 := Lib.hid (below_seq B.out hb3)
      clear hb3
      go_wp2
      go_ret
      exact ⟨ret_int PZ'.out.symm, B3.out⟩

set_option maxHeartbeats 1000000 in
theorem specPadded (a0 a1 : Option Addr) (cap0 cap1 : Nat) (d0 d1 : List UInt8) (w : World) (hl0 : d0.length ≤ maxLen) (hl1 : d1.length ≤ maxLen) (hc0 : d0.length ≤ cap0) (hc1 : d1.length ≤ cap1) (r0 : Row w a0 (d0.map bval)) (r1 : Row w a1 (d1.map bval)) :
    Calls Try.prog 35 #[.slice a0 d0.length cap0, .slice a1 d1.length cap1] w fun e w' => e = .returned (.int .i64 (padZ d0 d1)) ∧ Below w.heap.size w w' := by
  have U0 := Lib.hid (specUnpad cap0 a0 d0 w hl0 hc0 r0)
  have U1 := Lib.hid (fun w' (hb : Below w.heap.size w w') => specUnpad cap1 a1 d1 w' hl1 hc1 (r1.below hb))
  have z0 := unp_size d0
  have z1 := unp_size d1
  have RN := Lib.hid (fun w => specRun (strL (unpL d0)) (strL (unpL d1)) w (by rw [strL_size]; unfold maxLen; omega) (by rw [strL_size]; unfold maxLen; omega))
  rw [strL_data, strL_data] at RN
  have PZ : Hid (padZ d0 d1 = if unpB d0 && unpB d1 then distZ (unpL d0) (unpL d1) else -1) := Lib.hid rfl
  generalize padZ d0 d1 = Z at *
  clear r0 r1 hl0 hl1 hc0 hc1 z0 z1
  generalize strL (unpL d0) = s0 at *
  generalize strL (unpL d1) = s1 at *
  generalize distZ (unpL d0) (unpL d1) = D at *
  cases h0 : unpB d0
  · rw [h0] at U0 PZ
    have PZ' : Hid (Z = -1) := Lib.hid PZ.out
    clear h0
    generalize unpB d1 = t1 at *
    go_enter Try.func35, Try.ntmps35
    go_wp2_with fail
    refine U0.out.mono ?_
    rintro e w1 ⟨rfl, hb1⟩
    go_wp2_with fail
    refine (U1.out w1 hb1).mono ?_
    rintro e w2 ⟨rfl, hb2⟩
    have B := Lib.hid (below_seq hb1 hb2)
    clear hb1 hb2
    go_wp2
    go_ret
    exact ⟨ret_int PZ'.out.symm, B.out⟩
  · cases h1 : unpB d1
    · rw [h1] at U1
      rw [h0] at U0
      rw [h0, h1] at PZ
      have PZ' : Hid (Z = -1) := Lib.hid PZ.out
      clear h0 h1
      go_enter Try.func35, Try.ntmps35
      go_wp2_with fail
      refine U0.out.mono ?_
      rintro e w1 ⟨rfl, hb1⟩
      go_wp2_with fail
      refine (U1.out w1 hb1).mono ?_
      rintro e w2 ⟨rfl, hb2⟩
      have B := Lib.hid (below_seq hb1 hb2)
      clear hb1 hb2
      go_wp2
      go_ret
      exact ⟨ret_int PZ'.out.symm, B.out⟩
    · rw [h1] at U1
      rw [h0] at U0
      rw [h0, h1] at PZ
      have PZ' : Hid (Z = D) := Lib.hid PZ.out
      clear h0 h1
      go_enter Try.func35, Try.ntmps35
      go_wp2_with fail
      refine U0.out.mono ?_
      rintro e w1 ⟨rfl, hb1⟩
      go_wp2_with fail
      refine (U1.out w1 hb1).mono ?_
      rintro e w2 ⟨rfl, hb2⟩
      have B := Lib.hid (below_seq hb1 hb2)
      clear hb1 hb2
      go_wp2_with fail
      refine (RN.out _).mono ?_
      rintro e w3 ⟨rfl, hb3⟩
      have B3 := Lib.hid (below_seq B.out hb3)
      clear hb3
      go_wp2
      go_ret
      exact ⟨ret_int PZ'.out.symm, B3.out⟩

set_option maxHeartbeats 1000000 in
theorem lawsToBits (pv mv : Nat) (sc ln : Int) (w : World) : Calls Try.prog 25 #[.agg (bitsV pv mv sc ln)] w fun e w' => e = .returned (.agg (bitsV pv mv sc ln)) ∧ Below w.heap.size w w' := by
  unfold bitsV
  go_enter Try.func25, Try.ntmps25
  go_wp2
  exact bodyPost_ret (v := .agg #[.int .u64 pv, .int .u64 mv, .int .i64 sc, .int .i64 ln]) (by simp [results, Try.results25, go_sem]) rfl ⟨rfl, below_box (below_box (below_box (Below.refl _ _) _) _) _⟩
theorem argBits {w : World} {v : Value} (h : Arg w 39 v) : ∃ (pv mv : Nat) (sc ln : Int), v = .agg (bitsV pv mv sc ln) ∧ pv < 18446744073709551616 ∧ mv < 18446744073709551616 ∧ (-9223372036854775808 ≤ sc ∧ sc ≤ 9223372036854775807) ∧ (-9223372036854775808 ≤ ln ∧ ln ≤ 9223372036854775807) := by
  obtain ⟨cs, rfl, hl, hr⟩ := h.agg Try.underlying39
  have hC : Try.prog.cellsOf 39 = 4 := by kernel_rfl
  have hC0 : Try.prog.cellsOf 30 = 1 := by kernel_rfl
  have hC1 : Try.prog.cellsOf 3 = 1 := by kernel_rfl
  rw [hC] at hl
  match cs, hl with
  | [c0, c1, c2, c3], _ =>
    have f0 := hr.field Try.underlying39 0 _ 30 1 [c0] rfl rfl hC0 rfl
    have f1 := hr.field Try.underlying39 1 _ 30 1 [c1] rfl rfl hC0 rfl
    have f2 := hr.field Try.underlying39 2 _ 3 1 [c2] rfl rfl hC1 rfl
    have f3 := hr.field Try.underlying39 3 _ 3 1 [c3] rfl rfl hC1 rfl
    obtain ⟨z0, e0, h0⟩ := f0.int Try.underlying30
    obtain ⟨z1, e1, h1⟩ := f1.int Try.underlying30
    obtain ⟨z2, e2, h2⟩ := f2.int Try.underlying3
    obtain ⟨z3, e3, h3⟩ := f3.int Try.underlying3
    simp at e0 e1 e2 e3
    subst e0 e1 e2 e3
    have g0 := wf_u64 h0
    have g1 := wf_u64 h1
    exact ⟨z0.toNat, z1.toNat, z2, z3, by unfold bitsV; rw [Int.toNat_of_nonneg g0.1, Int.toNat_of_nonneg g1.1], by omega, by omega, wf_i64 h2, wf_i64 h3⟩
set_option maxHeartbeats 1000000 in
theorem lawsEqBits (pv mv : Nat) (sc ln : Int) (w : World) : Calls Try.prog 32 #[.agg (bitsV pv mv sc ln), .agg (bitsV pv mv sc ln)] w fun e w' => e = .returned (.bool true) ∧ Below w.heap.size w w' := by
  unfold bitsV
  go_enter Try.func32, Try.ntmps32
  go_wp2
  go_ret
  exact ⟨rfl, below_box (below_box (Below.refl _ _) _) _⟩
theorem uSpecMyersPadded (c0 : Value) (l0 : List UInt8) (c1 : Value) (l1 : List UInt8) (w : World) (h0 : ByteSIn [c0] l0 w) (h1 : ByteSIn [c1] l1 w) : Calls Try.prog 35 #[c0, c1] w fun e w' => e = .returned (.int .i64 (padZ l0 l1)) ∧ Below w.heap.size w w' := by
  obtain ⟨a, cap, rfl, h2, h3, r⟩ := byteSIn_shape h0
  obtain ⟨a', cap', rfl, k2, k3, r'⟩ := byteSIn_shape h1
  exact specPadded a a' cap cap' l0 l1 w h3 k3 h2 k2 r r'
theorem uImplMyersPadded (c0 : Value) (l0 : List UInt8) (c1 : Value) (l1 : List UInt8) (w : World) (h0 : ByteSIn [c0] l0 w) (h1 : ByteSIn [c1] l1 w) : Calls Try.prog 17 #[c0, c1] w fun e w' => e = .returned (.int .i64 (padZ l0 l1)) ∧ Below w.heap.size w w' := by
  obtain ⟨a, cap, rfl, h2, h3, r⟩ := byteSIn_shape h0
  obtain ⟨a', cap', rfl, k2, k3, r'⟩ := byteSIn_shape h1
  exact implPadded a a' cap cap' l0 l1 w h3 k3 h2 k2 r r'
end Go.Proofs.Yticfnhbjoaecjaa
