/- Chapter 6 in the program: the places of a byte, the first column, the run. -/
import Derived.Test.YticfnhbjoaecjaaMyJ
import Derived.Test.YticfnhbjoaecjaaMyQ
import Derived.Test.YticfnhbjoaecjaaApp
namespace Go.Proofs.Yticfnhbjoaecjaa
open Go.RowKit
set_option linter.unusedVariables false

/-- What MyersPeq answers. -/
def peqZ (p : List UInt8) (b : UInt8) : Nat := if p.length ≤ 32 then peqN p b else 0
theorem peqZ_no {p : List UInt8} {b : UInt8} (h : 32 < p.length) : peqZ p b = 0 := by unfold peqZ; rw [if_neg (by omega)]
theorem peqZ_yes {p : List UInt8} {b : UInt8} (h : p.length ≤ 32) : peqZ p b = peqN p b := by unfold peqZ; rw [if_pos h]
theorem peqN_lt {p : List UInt8} {b : UInt8} (h : p.length ≤ 32) : peqN p b < 4294967296 :=
  Nat.lt_of_lt_of_le (bitsUp_lt _ _) (Nat.pow_le_pow_right (n := 2) (by omega) h)
theorem peqC_at (p : ByteArray) (b : UInt8) (k : Nat) (h : k < p.size) : peqC p.data.toList b k = decide (p[k].toNat = b.toNat) := by
  unfold peqC
  rw [List.getElem?_eq_getElem (by simpa using h), Bool.eq_iff_iff]
  simp only [beq_iff_eq, Option.some.injEq, decide_eq_true_eq]
  rw [← UInt8.toNat_inj]
  rfl
theorem peq_step (p : ByteArray) (b : UInt8) (k : Nat) (h : k < p.size) (hk : k < 32) : bitsUp (peqC p.data.toList b) k ||| (maskN (decide (p[k].toNat = b.toNat)) &&& 2 ^ k) = bitsUp (peqC p.data.toList b) (k + 1) := by
  rw [bitsUp_or, peqC_at p b k h]
  congr 1
  have h2 : 2 ^ k < 18446744073709551616 := Nat.lt_of_lt_of_le (Nat.pow_lt_pow_right (by omega) hk) (by decide)
  cases decide (p[k].toNat = b.toNat)
  · simp [maskN]
  · simp only [maskN, ↓reduceIte]
    rw [Nat.and_comm, show (18446744073709551615 : Nat) = 2 ^ 64 - 1 from by decide, Nat.and_two_pow_sub_one_eq_mod]
    exact Nat.mod_eq_of_lt h2
theorem bitsUp_small (c : Nat → Bool) {k : Nat} (h : k ≤ 32) : bitsUp c k < 18446744073709551616 := Nat.lt_of_lt_of_le (bitsUp_lt _ _) (Nat.pow_le_pow_right (n := 2) (by omega) (show k ≤ 64 by omega))
set_option maxRecDepth 100000 in
set_option maxHeartbeats 2000000 in
theorem implPeq (p : ByteArray) (b : UInt8) (w : World) (hp : p.size ≤ maxLen) :
    Calls Try.prog 23 #[.string p, .int .u8 b.toNat] w fun e w' => e = .returned (.int .u64 ((peqZ p.data.toList b : Nat) : Int)) ∧ ∃ n, w' = w.drewN n := by
  by_cases hg : 32 < p.size
  · rw [peqZ_no (by simpa using hg)]
    go_enter Try.func23, Try.ntmps23
    go_wp2
    go_ret
    exact ⟨rfl, 0, rfl⟩
  rw [peqZ_yes (by simpa using hg)]
  clear hp
  go_enter Try.func23, Try.ntmps23
  go_wp2
  go_loopw [12, 6, 5] (fun i _ x wr => ∃ k : Nat, k ≤ p.size ∧ i = .int .i64 k ∧ x = .int .u64 ((bitsUp (peqC p.data.toList b) k : Nat) : Int) ∧ Hid (∃ n, wr = w.drewN n)) (fun i _ _ _ => p.size - (intOf i).toNat)
  case atStart => exact ⟨0, Nat.zero_le _, rfl, rfl, Lib.hid ⟨0, rfl⟩⟩
  case round =>
    obtain ⟨k, hk, rfl, rfl, HW⟩ := hrel
    by_cases hlt : k < p.size
    · have S := Lib.hid (peq_step p b k hlt (by omega))
      have hx := bitsUp_small (peqC p.data.toList b) (k := k) (by omega)
      have h2 : 2 ^ k ≤ 4294967296 := Nat.pow_le_pow_right (n := 2) (by omega) (show k ≤ 32 by omega)
      have MQ : Hid (∀ w, Calls Try.prog 48 #[.int .u64 p[k].toNat, .int .u64 b.toNat] w fun e w' => e = .returned (.int .u64 ((maskN (decide (p[k].toNat = b.toNat)) : Nat) : Int)) ∧ w' = w) := Lib.hid (fun w => (implMaskEq p[k].toNat b.toNat w (by have := p[k].toNat_lt; omega) (by have := b.toNat_lt; omega)).mono fun _ _ h => ⟨h.1, h.2.symm⟩)
      have hm := maskN_lt (decide (p[k].toNat = b.toNat))
      have hb : b.toNat < 256 := b.toNat_lt
      have hc : p[k].toNat < 256 := p[k].toNat_lt
      have hi : (0 : Int) ≤ (k : Int) := by omega
      have hi2 : (k : Int) < (p.size : Int) := by omega
      generalize maskN (decide (p[k].toNat = b.toNat)) = m at *
      generalize hX : bitsUp (peqC p.data.toList b) k = x at *
      generalize hY : bitsUp (peqC p.data.toList b) (k + 1) = y at *
      have q0 : IntKind.u64.wrap ((2 : Int) ^ k) = ((2 ^ k : Nat) : Int) := by rw [IntKind.wrap_u64, show (2 : Int) ^ k = ((2 ^ k : Nat) : Int) from by simp]; generalize 2 ^ k = K at *; omega
      generalize 2 ^ k = K at *
      have q1 := u64_and_nat m K hm (by omega)
      have l1 : m &&& K < 18446744073709551616 := Nat.lt_of_le_of_lt Nat.and_le_left hm
      generalize m &&& K = t at *
      have q2 := u64_or_nat x t hx l1
      rw [S.out] at q2
      clear hX S
      go_wp2
      go_quiet ((go_at_call 48; exact Calls.quiet_of_same (MQ.out _)))
      go_wp2
      go_roundw
      case rel => exact ⟨k + 1, by omega, by go_num, by rw [hY], Lib.hid (by obtain ⟨n, hn⟩ := HW.out; exact ⟨n + nq, by rw [hn]; exact World.drewN_drewN _ _ _⟩)⟩
      case measure => simp [intOf]; omega
    · have hk' : k = p.size := by omega
      subst hk'
      go_wp2
      go_ret
      exact ⟨ret_int (by unfold peqN; rw [len_data]), HW.out⟩
/-- What MyersStart answers. -/
def startZ (p : List UInt8) : Nat × Nat × Int × Int := if p.length ≤ 32 then (2 ^ p.length - 1, 0, (p.length : Int), (p.length : Int)) else (0, 0, 0, 0)
theorem startZ_no {p : List UInt8} (h : 32 < p.length) : startZ p = (0, 0, 0, 0) := by unfold startZ; rw [if_neg (by omega)]
theorem startZ_yes {p : List UInt8} (h : p.length ≤ 32) : startZ p = (2 ^ p.length - 1, 0, (p.length : Int), (p.length : Int)) := by unfold startZ; rw [if_pos h]
set_option maxRecDepth 100000 in
set_option maxHeartbeats 1000000 in
theorem implStart (p : ByteArray) (w : World) (hp : p.size ≤ maxLen) :
    Calls Try.prog 19 #[.string p] w fun e w' => e = .returned (bV (startZ p.data.toList)) ∧ Below w.heap.size w w' := by
  by_cases hg : 32 < p.size
  · rw [startZ_no (by simpa using hg)]
    unfold bV bitsV
    go_enter Try.func19, Try.ntmps19
    go_wp2
    exact bodyPost_ret (v := .agg #[.int .u64 0, .int .u64 0, .int .i64 0, .int .i64 0]) (by simp [results, Try.results19, go_sem]) rfl ⟨rfl, below_box (Below.refl _ _) _⟩
  rw [startZ_yes (by simpa using hg), len_data]
  have LN : Hid (∀ w, Calls Try.prog 45 #[.int .i64 p.size] w fun e w' => e = .returned (.int .u64 ((2 ^ p.size - 1 : Nat) : Int)) ∧ w' = w) := Lib.hid (fun w => (implMaskLow (p.size : Int) w (by omega)).mono fun _ _ h => ⟨by rw [h.1]; congr 3; unfold lowN; congr 2; omega, h.2.symm⟩)
  generalize 2 ^ p.size - 1 = low at *
  unfold bV bitsV
  clear hp
  go_enter Try.func19, Try.ntmps19
  go_wp2_with fail
  refine (LN.out _).mono ?_
  rintro e w1 ⟨rfl, rfl⟩
  go_wp2
  exact bodyPost_ret (v := .agg #[.int .u64 low, .int .u64 0, .int .i64 p.size, .int .i64 p.size]) (by simp [results, Try.results19, go_sem]) rfl ⟨rfl, below_box (Below.refl _ _) _⟩
theorem set4 {w : World} {b : Nat} {x0 x1 x2 x3 : Value} {t : TypeId} (h : w.heap[b]? = some (.cells #[x0, x1, x2, x3] t (0, 0))) (y0 y1 y2 y3 : Value) :
    ((((w.setCell ⟨b, 0, none⟩ y0).setCell ⟨b, 1, none⟩ y1).setCell ⟨b, 2, none⟩ y2).setCell ⟨b, 3, none⟩ y3).heap[b]? = some (.cells #[y0, y1, y2, y3] t (0, 0)) :=
  cur_set (cur_set (cur_set (cur_set h 0 y0) 1 y1) 2 y2) 3 y3
theorem below_set4 {W w : World} {b : Nat} (h : Below W.heap.size W w) (hb : W.heap.size ≤ b) (y0 y1 y2 y3 : Value) :
    Below W.heap.size W ((((w.setCell ⟨b, 0, none⟩ y0).setCell ⟨b, 1, none⟩ y1).setCell ⟨b, 2, none⟩ y2).setCell ⟨b, 3, none⟩ y3) :=
  (((h.setCell (p := ⟨b, 0, none⟩) hb y0).setCell (p := ⟨b, 1, none⟩) hb y1).setCell (p := ⟨b, 2, none⟩) hb y2).setCell (p := ⟨b, 3, none⟩) hb y3
set_option maxRecDepth 100000 in
set_option maxHeartbeats 2000000 in
theorem implRun (p t : ByteArray) (w : World) (hp : p.size ≤ maxLen) (ht : t.size ≤ maxLen) :
    Calls Try.prog 15 #[.string p, .string t] w fun e w' => e = .returned (.int .i64 (distZ p.data.toList t.data.toList)) ∧ Below w.heap.size w w' := by
  by_cases hg : 32 < p.size ∨ 32 < t.size
  · have D := Lib.hid (show distZ p.data.toList t.data.toList = -1 by unfold distZ; rw [if_pos (by simp only [len_data]; omega)])
    rcases hg with hg | hg
    · go_enter Try.func15, Try.ntmps15
      go_wp2
      go_ret
      exact ⟨ret_int D.out.symm, Below.refl _ _⟩
    · by_cases h2 : 32 < p.size
      · go_enter Try.func15, Try.ntmps15
        go_wp2
        go_ret
        exact ⟨ret_int D.out.symm, Below.refl _ _⟩
      · go_enter Try.func15, Try.ntmps15
        go_wp2
        go_ret
        exact ⟨ret_int D.out.symm, Below.refl _ _⟩
  have h1 : p.size ≤ 32 := by omega
  have h2 : t.size ≤ 32 := by omega
  clear hg
  have D := Lib.hid (show distZ p.data.toList t.data.toList = dZ p.data.toList t.data.toList t.size p.size by
    unfold distZ; rw [if_neg (by simp only [len_data]; omega)]
    have := dZ_last p.data.toList t.data.toList
    rw [len_data, len_data] at this
    exact this.symm)
  have ST := Lib.hid (fun w => implStart p w hp)
  rw [startZ_yes (by simpa using h1), len_data] at ST
  have F := col_first p.data.toList t.data.toList
  rw [len_data] at F
  have hF : Hid (bV (2 ^ p.size - 1, 0, (p.size : Int), (p.size : Int)) = .agg (bitsV (colP p.data.toList t.data.toList 0) (colM p.data.toList t.data.toList 0) (dZ p.data.toList t.data.toList 0 p.size) p.size)) := Lib.hid (by rw [F.1, F.2.1, F.2.2]; rfl)
  rw [hF.out] at ST
  clear F hF
  have STEP : Hid (∀ k (hk : k < t.size) w, Calls Try.prog 42 #[.agg (bitsV (colP p.data.toList t.data.toList k) (colM p.data.toList t.data.toList k) (dZ p.data.toList t.data.toList k p.size) p.size), .int .u64 ((peqZ p.data.toList t[k] : Nat) : Int)] w fun e w' => e = .returned (.agg (bitsV (colP p.data.toList t.data.toList (k + 1)) (colM p.data.toList t.data.toList (k + 1)) (dZ p.data.toList t.data.toList (k + 1) p.size) p.size)) ∧ Below w.heap.size w w') := Lib.hid fun k hk w => by
    have ok := col_ok p.data.toList t.data.toList k (by simp only [len_data]; omega) (by simp only [len_data]; omega) (by simp only [len_data]; omega)
    have nx := col_next p.data.toList t.data.toList k (by simp only [len_data]; omega) (by simp only [len_data]; omega) (by simp only [len_data]; omega)
    have hl := peqN_lt (p := p.data.toList) (b := t[k]) (by simp only [len_data]; omega)
    rw [peqZ_yes (by simp only [len_data]; omega)]
    have := implStep (colP p.data.toList t.data.toList k) (colM p.data.toList t.data.toList k) p.data.toList.length (peqN p.data.toList t[k]) (dZ p.data.toList t.data.toList k p.data.toList.length) w (by omega) ok
    have e : t.data.toList[k]'(by simp only [len_data]; omega) = t[k] := rfl
    rw [e] at nx
    rw [nx.1, nx.2.1, nx.2.2, len_data] at this
    exact this
  have PQ := Lib.hid (fun (b : UInt8) (w : World) => implPeq p b w hp)
  unfold bitsV at *
  go_enter Try.func15, Try.ntmps15
  go_wp2_with fail
  refine (ST.out _).mono ?_
  rintro e w1 ⟨rfl, hb1⟩
  have B1 := Lib.hid (below_box hb1 (.cells #[.int .u64 (colP p.data.toList t.data.toList 0), .int .u64 (colM p.data.toList t.data.toList 0), .int .i64 (dZ p.data.toList t.data.toList 0 p.size), .int .i64 p.size] 32))
  have K1 := Lib.hid (alloc_at w1 (.cells #[.int .u64 (colP p.data.toList t.data.toList 0), .int .u64 (colM p.data.toList t.data.toList 0), .int .i64 (dZ p.data.toList t.data.toList 0 p.size), .int .i64 p.size] 32) w1.heap.size rfl)
  have hb1s := hb1.size
  obtain ⟨g, hg⟩ : ∃ g, g = w1.heap.size := ⟨_, rfl⟩
  rw [← hg] at K1 hb1s
  clear hb1 ST
  go_wp2
  rw [← hg]
  clear hg
  go_loopw [20, 7] (fun i _ wr => ∃ k : Nat, k ≤ t.size ∧ i = .int .i64 k ∧ Hid (wr.heap[g]? = some (.cells #[.int .u64 (colP p.data.toList t.data.toList k), .int .u64 (colM p.data.toList t.data.toList k), .int .i64 (dZ p.data.toList t.data.toList k p.size), .int .i64 p.size] 32 (0, 0)) ∧ Below w.heap.size w wr)) (fun i _ _ => t.size - (intOf i).toNat)
  case atStart => exact ⟨0, Nat.zero_le _, rfl, Lib.hid ⟨K1.out, B1.out⟩⟩
  case round =>
    clear K1 B1
    obtain ⟨k, hk, rfl, H⟩ := hrel
    by_cases hlt : k < t.size
    · have STk := Lib.hid (STEP.out k hlt)
      generalize colP p.data.toList t.data.toList k = P at *
      generalize colM p.data.toList t.data.toList k = M at *
      generalize dZ p.data.toList t.data.toList k p.size = Z at *
      have c0 := cur_cell H.out.1 0
      have c1 := cur_cell H.out.1 1
      have c2 := cur_cell H.out.1 2
      have c3 := cur_cell H.out.1 3
      simp at c0 c1 c2 c3
      have hi : (0 : Int) ≤ (k : Int) := by omega
      have hi2 : (k : Int) < (t.size : Int) := by omega
      go_wp2
      go_region_law (first
        | (refine step_callW wr.drew rfl (by rfl) 23 _ _ rfl _ (by kernel_rfl) Try.call23 _ (PQ.out t[k] wr.drew) ?_; rintro e w2 ⟨rfl, hw2⟩; refine ⟨_, rfl, ?_⟩; have H2 := Lib.hid (show w2.heap[g]? = some (.cells #[.int .u64 P, .int .u64 M, .int .i64 Z, .int .i64 p.size] 32 (0, 0)) ∧ Below w.heap.size w w2 from (by obtain ⟨n, rfl⟩ := hw2; exact ⟨H.out.1, below_seq (below_drew H.out.2) (belowN n)⟩)); clear hw2; have d0 := cur_cell H2.out.1 0; have d1 := cur_cell H2.out.1 1; have d2 := cur_cell H2.out.1 2; have d3 := cur_cell H2.out.1 3; simp at d0 d1 d2 d3)
        | (refine step_callV w2 rfl (by rfl) 42 _ _ _ rfl rfl _ (by kernel_rfl) Try.call42 _ (STk.out w2) ?_; rintro e w3 ⟨rfl, hb3⟩; refine ⟨_, rfl, ?_⟩; have H3 := Lib.hid (And.intro (kept_block H2.out.1 hb3) (below_seq H2.out.2 hb3)); have e0 := cur_cell H3.out.1 0; have e1 := cur_cell H3.out.1 1; have e2 := cur_cell H3.out.1 2; have e3 := cur_cell H3.out.1 3; simp at e0 e1 e2 e3; have f0 := cur_free H3.out.1 0; have f1 := cur_free H3.out.1 1; have f2 := cur_free H3.out.1 2; have f3 := cur_free H3.out.1 3))
      all_goals
        go_wp2
        go_roundw
        case rel => exact ⟨k + 1, by omega, by go_num, Lib.hid ⟨set4 H3.out.1 _ _ _ _, below_set4 H3.out.2 hb1s _ _ _ _⟩⟩
        case measure => simp [intOf]; omega
    · have hk' : k = t.size := by omega
      subst hk'
      have c2 := cur_cell H.out.1 2
      simp at c2
      go_wp2
      go_ret
      exact ⟨ret_int D.out.symm, H.out.2⟩
end Go.Proofs.Yticfnhbjoaecjaa
