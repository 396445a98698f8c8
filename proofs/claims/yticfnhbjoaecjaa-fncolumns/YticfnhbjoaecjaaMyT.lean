/- Chapter 6 in the model: whether a column is valid, its elements, the places of a byte. -/
import Derived.Test.YticfnhbjoaecjaaMyS
namespace Go.Proofs.Yticfnhbjoaecjaa
open Go.RowKit
set_option linter.unusedVariables false

theorem place_bad {pv mv n i : Nat} {sc : Int} (hi : i < 64) (h : placeB pv mv n i = false) : ¬ BOk pv mv sc n := by
  intro k
  have := okB_is k
  unfold okB at this
  simp only [Bool.and_eq_true, List.all_eq_true, List.mem_range] at this
  rw [this.1.2 i hi] at h
  cases h
theorem place_all {pv mv n : Nat} (hpv : pv < 18446744073709551616) (hmv : mv < 18446744073709551616) (h : ∀ i, i < 64 → placeB pv mv n i = true) : (∀ j, pv.testBit j = true → mv.testBit j = true → False) ∧ pv < 2 ^ n ∧ mv < 2 ^ n := by
  have P : ∀ j, j < 64 → (pv.testBit j && mv.testBit j) = false ∧ (n ≤ j → pv.testBit j = false ∧ mv.testBit j = false) := by
    intro j hj
    have := h j hj
    unfold placeB at this
    simp only [Bool.and_eq_true, Bool.not_eq_true', Bool.or_eq_true, decide_eq_true_eq] at this
    refine ⟨this.1, fun hl => ?_⟩
    rcases this.2 with h | h
    · omega
    · simpa using h
  refine ⟨?_, lt_of_bits hpv fun j h1 h2 => ((P j h1).2 h2).1, lt_of_bits hmv fun j h1 h2 => ((P j h1).2 h2).2⟩
  intro j hp hm
  by_cases hj : j < 64
  · have := (P j hj).1
    rw [hp, hm] at this
    simp at this
  · rw [bits_of_lt (n := 64) hpv (by omega)] at hp
    cases hp
set_option maxRecDepth 100000 in
set_option maxHeartbeats 4000000 in
theorem specBitsOk (pv mv : Nat) (sc ln : Int) (w : World) (hpv : pv < 18446744073709551616) (hmv : mv < 18446744073709551616) (hsc : -9223372036854775808 ≤ sc ∧ sc ≤ 9223372036854775807) (hln : -9223372036854775808 ≤ ln ∧ ln ≤ 9223372036854775807) :
    Calls Try.prog 24 #[.agg (bitsV pv mv sc ln)] w fun e w' => e = .returned (.bool (okB pv mv sc ln)) ∧ Below w.heap.size w w' := by
  have N := Lib.hid (fun h => ok_no (sc := sc) (ln := ln) hpv hmv h)
  have B0 := Lib.hid (below_box (Below.refl w.heap.size w) (.cells (bitsV pv mv sc ln) 32))
  unfold bitsV at *
  by_cases g1 : ln < 0 ∨ 32 < ln ∨ sc < 0 ∨ 64 < sc
  · have N1 := Lib.hid (N.out (fun n h1 h2 => by
      have := h2.len
      have h3 := h2.col n (Nat.le_refl _)
      rw [colZ_last] at h3
      omega))
    by_cases t1 : ln < 0
    · go_enter Try.func24, Try.ntmps24
      go_wp2
      go_ret
      exact ⟨ret_bool (by rw [N1.out]), B0.out⟩
    by_cases t2 : 32 < ln
    · go_enter Try.func24, Try.ntmps24
      go_wp2
      go_ret
      exact ⟨ret_bool (by rw [N1.out]), B0.out⟩
    by_cases t3 : sc < 0
    · go_enter Try.func24, Try.ntmps24
      go_wp2
      go_ret
      exact ⟨ret_bool (by rw [N1.out]), B0.out⟩
    have t4 : 64 < sc := by omega
    go_enter Try.func24, Try.ntmps24
    go_wp2
    go_ret
    exact ⟨ret_bool (by rw [N1.out]), B0.out⟩
  obtain ⟨n, rfl⟩ : ∃ n : Nat, ln = n := ⟨ln.toNat, by omega⟩
  have hn : n ≤ 32 := by omega
  have hs1 : 0 ≤ sc := by omega
  have hs2 : sc ≤ 64 := by omega
  clear g1 hln hsc
  have CO := Lib.hid (fun w => specColumn pv mv n sc w hpv hmv ⟨hs1, hs2⟩ hn)
  unfold bitsV at CO
  obtain ⟨w1, hw1⟩ : ∃ w1, w1 = w.alloc (.cells #[.int .u64 pv, .int .u64 mv, .int .i64 sc, .int .i64 n] 32) := ⟨_, rfl⟩
  have hbox : w1.heap[w.heap.size]? = some (.cells #[.int .u64 pv, .int .u64 mv, .int .i64 sc, .int .i64 n] 32 (0, 0)) := by rw [hw1]; exact alloc_at _ _ _ rfl
  rw [← hw1] at B0
  have c0 := cur_cell hbox 0
  have c1 := cur_cell hbox 1
  have c2 := cur_cell hbox 2
  have c3 := cur_cell hbox 3
  simp at c0 c1 c2 c3
  clear hbox
  go_enter Try.func24, Try.ntmps24
  go_wp2
  rw [← hw1]
  clear hw1
  go_loop [3] (fun i => ∃ k : Nat, k ≤ 64 ∧ i = .int .i64 k ∧ Hid (∀ j, j < k → placeB pv mv n j = true)) (fun i => 64 - (intOf i).toNat)
  case atStart => exact ⟨0, Nat.zero_le _, rfl, Lib.hid (fun j hj => by omega)⟩
  case round =>
    obtain ⟨k, hk, rfl, H⟩ := hrel
    by_cases hlt : k < 64
    · have BP := Lib.hid (fun w => specBit pv k w hpv (by omega))
      have BM := Lib.hid (fun w => specBit mv k w hmv (by omega))
      have PB : Hid (placeB pv mv n k = (!(pv.testBit k && mv.testBit k) && (decide ((k : Int) < n) || !(pv.testBit k || mv.testBit k)))) := Lib.hid rfl
      have NO := Lib.hid (fun h => N.out (fun m h1 h2 => by
        obtain rfl : m = n := by omega
        exact place_bad (pv := pv) (mv := mv) (n := m) (i := k) hlt h h2))
      have YES : Hid (placeB pv mv n k = true → ∀ j, j < k + 1 → placeB pv mv n j = true) := Lib.hid (fun hx j hj => by
        by_cases e : j = k
        · subst e; exact hx
        · exact H.out j (by omega))
      clear H
      cases hp : pv.testBit k
      · rw [hp] at BP PB
        by_cases hl : (k : Int) < (n : Int)
        · have Y := Lib.hid (YES.out (by rw [PB.out]; simp [hl]))
          go_wp2_with fail
          refine (BP.out _).mono ?_
          rintro e w2 ⟨rfl, rfl⟩
          go_wp2
          go_round
          case rel => exact ⟨k + 1, by omega, by go_num, Y⟩
          case measure => simp [intOf]; omega
        · have hl2 : (n : Int) ≤ (k : Int) := by omega
          cases hm : mv.testBit k
          · rw [hm] at BM PB
            have Y := Lib.hid (YES.out (by rw [PB.out]; simp))
            go_wp2_with fail
            refine (BP.out _).mono ?_
            rintro e w2 ⟨rfl, rfl⟩
            go_wp2_with fail
            refine (BP.out _).mono ?_
            rintro e w2 ⟨rfl, rfl⟩
            go_wp2_with fail
            refine (BM.out _).mono ?_
            rintro e w2 ⟨rfl, rfl⟩
            go_wp2
            go_round
            case rel => exact ⟨k + 1, by omega, by go_num, Y⟩
            case measure => simp [intOf]; omega
          · rw [hm] at BM PB
            have N1 := Lib.hid (NO.out (by rw [PB.out]; simp; omega))
            go_wp2_with fail
            refine (BP.out _).mono ?_
            rintro e w2 ⟨rfl, rfl⟩
            go_wp2_with fail
            refine (BP.out _).mono ?_
            rintro e w2 ⟨rfl, rfl⟩
            go_wp2_with fail
            refine (BM.out _).mono ?_
            rintro e w2 ⟨rfl, rfl⟩
            go_wp2
            go_ret
            exact ⟨ret_bool (by rw [N1.out]), B0.out⟩
      · rw [hp] at BP PB
        cases hm : mv.testBit k
        · rw [hm] at BM PB
          by_cases hl : (k : Int) < (n : Int)
          · have Y := Lib.hid (YES.out (by rw [PB.out]; simp [hl]))
            go_wp2_with fail
            refine (BP.out _).mono ?_
            rintro e w2 ⟨rfl, rfl⟩
            go_wp2_with fail
            refine (BM.out _).mono ?_
            rintro e w2 ⟨rfl, rfl⟩
            go_wp2
            go_round
            case rel => exact ⟨k + 1, by omega, by go_num, Y⟩
            case measure => simp [intOf]; omega
          · have hl2 : (n : Int) ≤ (k : Int) := by omega
            have N1 := Lib.hid (NO.out (by rw [PB.out]; simp; omega))
            go_wp2_with fail
            refine (BP.out _).mono ?_
            rintro e w2 ⟨rfl, rfl⟩
            go_wp2_with fail
            refine (BM.out _).mono ?_
            rintro e w2 ⟨rfl, rfl⟩
            go_wp2_with fail
            refine (BP.out _).mono ?_
            rintro e w2 ⟨rfl, rfl⟩
            go_wp2
            go_ret
            exact ⟨ret_bool (by rw [N1.out]), B0.out⟩
        · rw [hm] at BM PB
          have N1 := Lib.hid (NO.out (by rw [PB.out]; simp))
          go_wp2_with fail
          refine (BP.out _).mono ?_
          rintro e w2 ⟨rfl, rfl⟩
          go_wp2_with fail
          refine (BM.out _).mono ?_
          rintro e w2 ⟨rfl, rfl⟩
          go_wp2
          go_ret
          exact ⟨ret_bool (by rw [N1.out]), B0.out⟩
    · have hk' : k = 64 := by omega
      subst hk'
      have PA := Lib.hid (place_all hpv hmv H.out)
      clear H
      go_wp2_with fail
      refine (CO.out _).mono ?_
      rintro e w2 ⟨c, rfl, ho, hb2⟩
      have B2 := Lib.hid (below_seq B0.out hb2)
      obtain ⟨a, cap, rfl, q4, q5, hr⟩ := intSIn_shape ho.read
      rw [listF_length] at *
      have R := Lib.hid hr
      clear ho hb2 hr q4 q5 c0 c1 c2 c3
      go_wp2
      go_loop [5] (fun i => ∃ k : Nat, k ≤ n + 1 ∧ i = .int .i64 k ∧ Hid (∀ j, j < k → rangeB (colZ pv mv sc n j) = true)) (fun i => n + 1 - (intOf i).toNat)
      case atStart => exact ⟨0, Nat.zero_le _, rfl, Lib.hid (fun j hj => by omega)⟩
      case round =>
        obtain ⟨k, hk, rfl, H⟩ := hrel
        by_cases hlt : k < n + 1
        · obtain ⟨b1, o1, rfl, q1⟩ := R.out.at (i := k) (by simpa [listF] using hlt)
          rw [ival_at (by simpa [listF] using hlt), listF_get] at q1
          have hlt2 : (k : Int) < ((n + 1 : Nat) : Int) := by omega
          have hlt3 : (k : Int) < (n : Int) + 1 := by omega
          have RI := Lib.hid (rangeB_iff (colZ pv mv sc n k))
          by_cases hx : rangeB (colZ pv mv sc n k) = true
          · have H2 : Hid (∀ j, j < k + 1 → rangeB (colZ pv mv sc n j) = true) := Lib.hid (fun j hj => by
              by_cases e : j = k
              · subst e; exact hx
              · exact H.out j (by omega))
            have hx2 := RI.out.1 hx
            generalize colZ pv mv sc n k = z at *
            obtain ⟨hx3, hx4⟩ := hx2
            clear hx H RI
            go_wp2
            go_round
            case rel => exact ⟨k + 1, by omega, by go_num, H2⟩
            case measure => simp [intOf]; omega
          · have N1 := Lib.hid (N.out (fun m h1 h2 => by
              obtain rfl : m = n := by omega
              exact hx (RI.out.2 (h2.col k (by omega)))))
            have hx2 : ¬ (0 ≤ colZ pv mv sc n k ∧ colZ pv mv sc n k ≤ 64) := fun h => hx (RI.out.2 h)
            generalize colZ pv mv sc n k = z at *
            clear hx H RI
            by_cases hz : z < 0
            · go_wp2
              go_ret
              exact ⟨ret_bool (by rw [N1.out]), B2.out⟩
            · have hz2 : 64 < z := by omega
              go_wp2
              go_ret
              exact ⟨ret_bool (by rw [N1.out]), B2.out⟩
        · have hk' : k = n + 1 := by omega
          subst hk'
          have Y : Hid (okB pv mv sc n = true) := Lib.hid (okB_is ⟨hn, PA.out.1, PA.out.2.1, PA.out.2.2, fun i hi => (rangeB_iff _).1 (H.out i (by omega))⟩)
          go_wp2
          go_ret
          exact ⟨ret_bool (by rw [Y.out]), B2.out⟩
set_option maxHeartbeats 1000000 in
theorem specBitsColumn (pv mv : Nat) (sc ln : Int) (w : World) (hpv : pv < 18446744073709551616) (hmv : mv < 18446744073709551616) (hsc : -9223372036854775808 ≤ sc ∧ sc ≤ 9223372036854775807) (hln : -9223372036854775808 ≤ ln ∧ ln ≤ 9223372036854775807) :
    Calls Try.prog 26 #[.agg (bitsV pv mv sc ln)] w (IntSPost (okL pv mv sc ln) w) := by
  have V := Lib.hid (fun w => specBitsOk pv mv sc ln w hpv hmv hsc hln)
  cases ho : okB pv mv sc ln
  · rw [okL_no ho]
    rw [ho] at V
    clear ho
    unfold bitsV at *
    go_enter Try.func26, Try.ntmps26
    go_wp2_with fail
    refine (V.out _).mono ?_
    rintro e w1 ⟨rfl, hb⟩
    go_wp2
    go_ret
    exact ⟨_, rfl, IntSOwn.mk (l := []) (World.ownsRow_nil _ _ 3 1), below_seq (below_box (Below.refl _ _) _) hb⟩
  · obtain ⟨n, rfl, hk⟩ := okB_of hpv hmv ho
    rw [okL_yes hk]
    rw [ho] at V
    have hs := hk.col n (Nat.le_refl _)
    rw [colZ_last] at hs
    have EL := Lib.hid (fun w => specColumn pv mv n sc w hpv hmv hs hk.len)
    clear ho hs hk
    unfold bitsV at *
    generalize listF (n + 1) (colZ pv mv sc n) = L at *
    go_enter Try.func26, Try.ntmps26
    go_wp2_with fail
    refine (V.out _).mono ?_
    rintro e w1 ⟨rfl, hb⟩
    have hbox : w1.heap[w.heap.size]? = some (.cells #[.int .u64 pv, .int .u64 mv, .int .i64 sc, .int .i64 n] 32 (0, 0)) := kept_block (alloc_at _ _ _ rfl) hb
    have c0 := cur_cell hbox 0
    have c1 := cur_cell hbox 1
    have c2 := cur_cell hbox 2
    have c3 := cur_cell hbox 3
    simp at c0 c1 c2 c3
    have B1 := Lib.hid (below_seq (below_box (Below.refl w.heap.size w) _) hb)
    clear hbox hb
    go_wp2_with fail
    refine (EL.out _).mono ?_
    rintro e w2 ⟨c, rfl, ho, hb2⟩
    have P := Lib.hid (And.intro (ho.wide (lo' := w.heap.size) B1.out.size (Nat.le_refl _)) (below_seq B1.out hb2))
    obtain ⟨a, m, cap, rfl⟩ := ho.shape
    clear ho hb2
    go_wp2
    go_ret
    exact ⟨_, rfl, P.out.1, P.out.2⟩
set_option maxRecDepth 100000 in
set_option maxHeartbeats 2000000 in
theorem specPeq (p : ByteArray) (b : UInt8) (w : World) (hp : p.size ≤ maxLen) :
    Calls Try.prog 30 #[.string p, .int .u8 b.toNat] w fun e w' => e = .returned (.int .u64 ((peqZ p.data.toList b : Nat) : Int)) ∧ w = w' := by
  by_cases hg : 32 < p.size
  · rw [peqZ_no (by simpa using hg)]
    have h0 : (0 : Int) < (p.size : Int) := by omega
    go_enter Try.func30, Try.ntmps30
    go_wp2
    go_loop [5, 6] (fun x i => x = .int .u64 0 ∧ i = .int .i64 0) (fun _ _ => 0)
    case atStart => exact ⟨rfl, rfl⟩
    case round =>
      obtain ⟨rfl, rfl⟩ := hrel
      go_wp2
      go_ret
      exact ⟨rfl, rfl⟩
  rw [peqZ_yes (by simpa using hg)]
  clear hp
  go_enter Try.func30, Try.ntmps30
  go_wp2
  go_loop [5, 6] (fun x i => ∃ k y : Nat, k ≤ p.size ∧ i = .int .i64 k ∧ x = .int .u64 (y : Int) ∧ Hid (y = bitsUp (peqC p.data.toList b) k) ∧ y ≤ 4294967296) (fun _ i => p.size - (intOf i).toNat)
  case atStart => exact ⟨0, 0, Nat.zero_le _, rfl, rfl, Lib.hid rfl, by omega⟩
  case round =>
    obtain ⟨k, y, hk, rfl, rfl, HY, hy⟩ := hrel
    by_cases hlt : k < p.size
    · have PW := Lib.hid (fun w => specPower k w (by omega))
      have PC := Lib.hid (peqC_at p b k hlt)
      have h2 : 2 ^ k ≤ 4294967296 := Nat.pow_le_pow_right (n := 2) (by omega) (show k ≤ 32 by omega)
      have BS : Hid (∀ x, bitsUp (peqC p.data.toList b) k + (if peqC p.data.toList b k then 2 ^ k else 0) = x → x = bitsUp (peqC p.data.toList b) (k + 1) ∧ x ≤ 4294967296) := Lib.hid fun x hx => by
        refine ⟨hx.symm, ?_⟩
        have := bitsUp_lt (peqC p.data.toList b) (k + 1)
        have h3 : 2 ^ (k + 1) ≤ 4294967296 := Nat.pow_le_pow_right (n := 2) (by omega) (show k + 1 ≤ 32 by omega)
        subst hx
        exact Nat.le_trans (Nat.le_of_lt this) h3
      generalize 2 ^ k = K at *
      have hi2 : (k : Int) < (p.size : Int) := by omega
      by_cases he : p[k].toNat = b.toNat
      · have hE : (((p[k].toNat : Nat) : Int) == (b.toNat : Int)) = true := by simp [he]
        have R := Lib.hid (BS.out (y + K) (by rw [PC.out, HY.out]; simp [he]))
        go_wp2_with fail
        refine (PW.out _).mono ?_
        rintro e w2 ⟨rfl, rfl⟩
        go_wp2
        go_round
        case rel => exact ⟨k + 1, y + K, by omega, by go_num, by go_num, Lib.hid R.out.1, R.out.2⟩
        case measure => simp [intOf]; omega
      · have hE : (((p[k].toNat : Nat) : Int) == (b.toNat : Int)) = false := by simp; omega
        have R := Lib.hid (BS.out y (by rw [PC.out, HY.out]; simp [he]))
        go_wp2
        go_round
        case rel => exact ⟨k + 1, y, by omega, by go_num, rfl, Lib.hid R.out.1, R.out.2⟩
        case measure => simp [intOf]; omega
    · have hk' : k = p.size := by omega
      subst hk'
      go_wp2
      go_ret
      exact ⟨ret_int (by unfold peqN; rw [len_data, HY.out]), rfl⟩
end Go.Proofs.Yticfnhbjoaecjaa
