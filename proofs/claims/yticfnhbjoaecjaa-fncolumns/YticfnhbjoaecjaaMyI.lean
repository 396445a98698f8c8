/- Chapter 6 in the program: the elements of a column, whether it is valid. -/
import Derived.Test.YticfnhbjoaecjaaMyP
import Derived.Test.YticfnhbjoaecjaaArr
import Derived.Test.YticfnhbjoaecjaaIntsU
import Derived.Test.YticfnhbjoaecjaaMask
import Derived.Deep.RegionLaw
import Derived.BigRegion
import Derived.BigQuiet
namespace Go.Proofs.Yticfnhbjoaecjaa
open Go.RowKit
set_option linter.unusedVariables false

/-- A column, as a value. -/
def bitsV (pv mv : Nat) (sc ln : Int) : Array Value := #[.int .u64 pv, .int .u64 mv, .int .i64 sc, .int .i64 ln]
/-- The elements as the program reckons them, in 64 bits. -/
def colW (pv mv : Nat) (sc : Int) (n i : Nat) : Int := wrap64 (colZ pv mv sc n i)
theorem colW_step (pv mv : Nat) (sc : Int) (n i : Nat) : wrap64 (wrap64 (colW pv mv sc n (i + 1) - bI pv i) + bI mv i) = colW pv mv sc n i := by
  unfold colW
  rw [colZ_succ]
  unfold wrap64
  omega
theorem colW_last (pv mv : Nat) (sc : Int) (n : Nat) (h : -9223372036854775808 ≤ sc ∧ sc ≤ 9223372036854775807) : colW pv mv sc n n = sc := by
  unfold colW; rw [colZ_last]; unfold wrap64; omega
theorem colW_in (pv mv : Nat) (sc : Int) (n i : Nat) (h : 0 ≤ sc ∧ sc ≤ 64) (hn : n ≤ 32) (hi : i ≤ n) : colW pv mv sc n i = colZ pv mv sc n i := by
  have := colZ_near pv mv sc n i hi
  unfold colW wrap64; omega
def listF (n : Nat) (F : Nat → Int) : List Int := (List.range n).map F
theorem listF_length (n : Nat) (F : Nat → Int) : (listF n F).length = n := by simp [listF]
theorem listF_at {n k : Nat} (F : Nat → Int) (h : k < n) : (listF n F)[k]? = some (F k) := by simp [listF, h]
theorem listF_get {n k : Nat} (F : Nat → Int) (h : k < (listF n F).length) : (listF n F)[k] = F k := by simp [listF]
theorem listF_ext {n : Nat} {F G : Nat → Int} (h : ∀ k, k < n → F k = G k) : listF n F = listF n G := by
  unfold listF
  refine List.map_congr_left fun k hk => ?_
  rw [h k (by simpa using hk)]
theorem listF_snoc (n : Nat) (F : Nat → Int) : listF (n + 1) F = listF n F ++ [F n] := by simp [listF, List.range_succ]
/-- A whole block of numbers is a row of the call's own. -/
theorem ArrAt.own {w : World} {b n base : Nat} {F : Nat → Int} (h : ArrAt w b 3 n F) (hb : base ≤ b) (hn : n ≤ maxLen) : w.ownsRow base 3 1 (.slice (some ⟨b, 0, none⟩) n n) n ((listF n F).map ival) := by
  refine ⟨by simp [listF], .inr ⟨b, n, _, rfl, hb, h, Nat.le_refl _, hn, by simp [cellsA], ?_⟩⟩
  simp [cellsA, listF, ival, List.take_of_length_le]
/-- A row made anew, as a whole block. -/
theorem own_arr {w : World} {base n g : Nat} (h : w.ownsRow base 3 1 (.slice (some ⟨g, 0, none⟩) n n) n (List.replicate n (.int .i64 0))) : ArrAt w g 3 n (fun _ => 0) := by
  rcases h.2 with ⟨hv, _⟩ | ⟨g', cap', cur, hv, hbg, hg, h1', h2, h3, h4⟩
  · simp at hv
  simp at hv
  obtain ⟨rfl, rfl⟩ := hv
  have hcur : cur.toList = List.replicate n (.int .i64 0) := by rw [← h4, List.take_of_length_le (by simp [h3])]
  unfold ArrAt
  rw [hg]
  congr 2
  apply Array.ext'
  rw [hcur]
  unfold cellsA
  apply List.ext_getElem <;> simp
def IntSPost (l : List Int) (w : World) (e : Ending) (w' : World) : Prop := ∃ c, e = .returned c ∧ IntSOwn w.heap.size w'.heap.size [c] l w' ∧ Below w.heap.size w w'

def elF (pv mv : Nat) (sc : Int) (n k : Nat) : Nat → Int := fun j => if k ≤ j then colW pv mv sc n j else 0
theorem elF_set (pv mv : Nat) (sc : Int) (n k : Nat) : upd (elF pv mv sc n (k + 1)) k (colW pv mv sc n k) = elF pv mv sc n k := by
  funext j
  unfold upd elF
  by_cases e : j = k
  · subst e; simp
  · rw [if_neg e]
    by_cases h : k ≤ j
    · rw [if_pos h, if_pos (by omega)]
    · rw [if_neg h, if_neg (by omega)]
set_option maxRecDepth 100000 in
set_option maxHeartbeats 4000000 in
theorem implElements (pv mv n : Nat) (sc : Int) (w : World) (hpv : pv < 18446744073709551616) (hmv : mv < 18446744073709551616) (hsc : -9223372036854775808 ≤ sc ∧ sc ≤ 9223372036854775807) (hn : n ≤ 32) :
    Calls Try.prog 47 #[.agg (bitsV pv mv sc n)] w (IntSPost (listF (n + 1) (colW pv mv sc n)) w) := by
  obtain ⟨i0, hi, hz0, hz1, hz2⟩ := info_parts Try.info3
  have SC := Lib.hid hsc
  clear hsc
  unfold bitsV
  go_enter Try.func47, Try.ntmps47
  go_wp2_with (at_make; rw [show (n : Int) + 1 = ((n + 1 : Nat) : Int) from by omega]; refine wpList_make_full _ rfl _ _ 34 rfl (w.heap.size + 1) 3 i0 (.int .i64 0) 1 Try.underlying34 hi hz0 hz1 .i64 .i64 _ _ (n + 1) rfl rfl rfl rfl (by rw [hz2]; omega) (by unfold maxLen; omega) (by simp) ?_)
  clear hi hz0 hz1 hz2
  intro w1 hown hgr
  rw [toList_madeCells_one] at hown
  have hblk : ArrAt w1 (w.heap.size + 1) 3 (n + 1) (fun _ => 0) := by simpa using own_arr hown
  have hbox : w1.heap[w.heap.size]? = some (.cells #[.int .u64 pv, .int .u64 mv, .int .i64 sc, .int .i64 n] 32 (0, 0)) := kept_grown (alloc_at _ _ _ rfl) hgr (by simp)
  have hbel : Below w.heap.size w w1 := below_seq (below_box (Below.refl _ _) _) (grown_below hgr)
  have c2 := cur_cell hbox 2
  have c3 := cur_cell hbox 3
  have a1 := hblk.cell (k := n) (by omega)
  have a2 := hblk.free n
  have H0 : Hid (ArrAt (w1.setCell ⟨w.heap.size + 1, n, none⟩ (.int .i64 sc)) (w.heap.size + 1) 3 (n + 1) (elF pv mv sc n n) ∧ (w1.setCell ⟨w.heap.size + 1, n, none⟩ (.int .i64 sc)).heap[w.heap.size]? = some (.cells #[.int .u64 pv, .int .u64 mv, .int .i64 sc, .int .i64 n] 32 (0, 0)) ∧ Below w.heap.size w (w1.setCell ⟨w.heap.size + 1, n, none⟩ (.int .i64 sc))) := Lib.hid ⟨(hblk.set n sc).ext (fun j hj => by
      unfold upd elF
      by_cases e : j = n
      · subst e; rw [if_pos rfl, if_pos (Nat.le_refl _), colW_last _ _ _ _ SC.out]
      · rw [if_neg e, if_neg (by omega)]), kept_grown hbox (set_grown _ _ _ _) (by simp), below_write hbel (set_grown _ _ _ _) (by omega)⟩
  clear hown hgr hblk hbel hbox
  simp at c2 c3
  have k1 : (n : Int) < ((n + 1 : Nat) : Int) := by omega
  go_wp2
  clear c2 c3 a1 a2
  go_loopw [4] (fun iv wr => ∃ k : Nat, k ≤ n ∧ iv = .int .i64 ((k : Int) - 1) ∧ Hid (ArrAt wr (w.heap.size + 1) 3 (n + 1) (elF pv mv sc n k) ∧ wr.heap[w.heap.size]? = some (.cells #[.int .u64 pv, .int .u64 mv, .int .i64 sc, .int .i64 n] 32 (0, 0)) ∧ Below w.heap.size w wr)) (fun iv _ => ((intOf iv) + 1).toNat)
  case atStart => exact ⟨n, Nat.le_refl _, by go_num, H0⟩
  case round =>
    clear H0
    obtain ⟨k, hk, rfl, H⟩ := hrel
    cases k with
    | zero =>
      go_wp2
      go_ret
      exact ⟨_, rfl, IntSOwn.mk (ArrAt.own (H.out.1.ext (fun j hj => by unfold elF; rw [if_pos (Nat.zero_le _)])) (by omega) (by unfold maxLen; omega)), H.out.2.2⟩
    | succ k =>
      have ek : ((k + 1 : Nat) : Int) - 1 = (k : Int) := by omega
      rw [ek]
      clear ek
      have c0 := cur_cell H.out.2.1 0
      have c1 := cur_cell H.out.2.1 1
      simp at c0 c1
      have b0 := H.out.1.cell (k := k) (by omega)
      have b1 := H.out.1.free k
      have b2 := H.out.1.cell (k := k + 1) (by omega)
      have E1 : elF pv mv sc n (k + 1) (k + 1) = colW pv mv sc n (k + 1) := by unfold elF; rw [if_pos (Nat.le_refl _)]
      have E2 : elF pv mv sc n (k + 1) k = 0 := by unfold elF; rw [if_neg (by omega)]
      rw [E1] at b2
      rw [E2] at b0
      have q1 : bits .and .u64 ((pv : Int) / 2 ^ k) 1 = bI pv k := by
        rw [show (pv : Int) / 2 ^ k = ((pv / 2 ^ k : Nat) : Int) from by simp, ← bI_of, ← bit_and1]
        exact u64_and_nat _ 1 (Nat.lt_of_le_of_lt (Nat.div_le_self _ _) hpv) (by omega)
      have q2 : bits .and .u64 ((mv : Int) / 2 ^ k) 1 = bI mv k := by
        rw [show (mv : Int) / 2 ^ k = ((mv / 2 ^ k : Nat) : Int) from by simp, ← bI_of, ← bit_and1]
        exact u64_and_nat _ 1 (Nat.lt_of_le_of_lt (Nat.div_le_self _ _) hmv) (by omega)
      obtain ⟨r1, r2⟩ := bI_range pv k
      obtain ⟨r3, r4⟩ := bI_range mv k
      have CS := colW_step pv mv sc n k
      have RS := Lib.hid (elF_set pv mv sc n k)
      generalize bI pv k = x at *
      generalize bI mv k = y at *
      generalize colW pv mv sc n (k + 1) = z at *
      generalize colW pv mv sc n k = v at *
      have i1 : (0 : Int) ≤ (k : Int) := by omega
      have i2 : (k : Int) < ((n + 1 : Nat) : Int) := by omega
      have i3 : (k : Int) + 1 < ((n + 1 : Nat) : Int) := by omega
      have R := Lib.hid (And.intro ((H.out.1.drew 1).set k v) (And.intro (kept_grown (b := w.heap.size) (w := wr.drewN 1) H.out.2.1 (set_grown (wr.drewN 1) (w.heap.size + 1) k (.int .i64 v)) (by simp)) (below_write (below_seq H.out.2.2 (belowN 1)) (set_grown (wr.drewN 1) (w.heap.size + 1) k (.int .i64 v)) (by omega))))
      rw [RS.out] at R
      clear H E1 E2
      go_wp2
      go_region
      go_wp2
      go_roundw
      case rel => exact ⟨k, by omega, by go_num, R⟩
      case measure => simp [intOf]
/-- What the program asks of the bits: none at the length or above, none in both. -/
theorem maskOut_iff {pv mv n : Nat} (hn : n ≤ 32) (hpv : pv < 18446744073709551616) (hmv : mv < 18446744073709551616) : (pv ||| mv) &&& (18446744073709551615 - (2 ^ n - 1)) = 0 ↔ pv < 2 ^ n ∧ mv < 2 ^ n := by
  have hlow : 2 ^ n - 1 < 18446744073709551616 := by
    have := Nat.pow_le_pow_right (n := 2) (by omega) (show n ≤ 64 by omega)
    omega
  have hb : ∀ j, ((pv ||| mv) &&& (18446744073709551615 - (2 ^ n - 1))).testBit j = ((pv.testBit j || mv.testBit j) && (decide (j < 64) && !decide (j < n))) := fun j => by
    rw [Nat.testBit_and, Nat.testBit_or]
    have := not_bit (x := 2 ^ n - 1) (i := j) hlow
    unfold notN at this
    rw [this, Nat.testBit_two_pow_sub_one]
  constructor
  · intro h
    have hz : ∀ j, ((pv.testBit j || mv.testBit j) && (decide (j < 64) && !decide (j < n))) = false := fun j => by rw [← hb j, h]; simp
    refine ⟨lt_of_bits hpv fun j h1 h2 => ?_, lt_of_bits hmv fun j h1 h2 => ?_⟩
    · have := hz j
      simp [h1, show ¬ j < n by omega] at this
      exact this.1
    · have := hz j
      simp [h1, show ¬ j < n by omega] at this
      exact this.2
  · rintro ⟨h1, h2⟩
    apply Nat.eq_of_testBit_eq
    intro j
    rw [hb j, Nat.zero_testBit]
    by_cases hj : j < n
    · simp [hj]
    · rw [bits_of_lt h1 (by omega), bits_of_lt h2 (by omega)]; simp
theorem andZero_iff {pv mv : Nat} : pv &&& mv = 0 ↔ ∀ j, pv.testBit j = true → mv.testBit j = true → False := by
  constructor
  · intro h j h1 h2
    have := congrArg (fun x => x.testBit j) h
    simp [Nat.testBit_and, h1, h2] at this
  · intro h
    apply Nat.eq_of_testBit_eq
    intro j
    rw [Nat.testBit_and, Nat.zero_testBit, Bool.eq_false_iff]
    intro hh
    rw [Bool.and_eq_true] at hh
    exact h j hh.1 hh.2
theorem ok_no {pv mv : Nat} {sc ln : Int} (hpv : pv < 18446744073709551616) (hmv : mv < 18446744073709551616) (h : ∀ n : Nat, ln = n → BOk pv mv sc n → False) : okB pv mv sc ln = false := by
  cases e : okB pv mv sc ln
  · rfl
  · obtain ⟨n, h1, h2⟩ := okB_of hpv hmv e
    exact absurd (h n h1 h2) id
theorem colW_bad {pv mv n i : Nat} {sc : Int} (hn : n ≤ 32) (hi : i ≤ n) (hsc : -9223372036854775808 ≤ sc ∧ sc ≤ 9223372036854775807) (h : rangeB (colW pv mv sc n i) = false) : ¬ BOk pv mv sc n := by
  intro k
  have hs := k.col n (Nat.le_refl _)
  rw [colZ_last] at hs
  rw [colW_in pv mv sc n i hs hn hi, (rangeB_iff _).2 (k.col i hi)] at h
  cases h
set_option maxRecDepth 100000 in
set_option maxHeartbeats 4000000 in
theorem implValid (pv mv : Nat) (sc ln : Int) (w : World) (hpv : pv < 18446744073709551616) (hmv : mv < 18446744073709551616) (hsc : -9223372036854775808 ≤ sc ∧ sc ≤ 9223372036854775807) (hln : -9223372036854775808 ≤ ln ∧ ln ≤ 9223372036854775807) :
    Calls Try.prog 46 #[.agg (bitsV pv mv sc ln)] w fun e w' => e = .returned (.bool (okB pv mv sc ln)) ∧ Below w.heap.size w w' := by
  have N := Lib.hid (fun h => ok_no (sc := sc) (ln := ln) hpv hmv h)
  have B0 := Lib.hid (below_box (Below.refl w.heap.size w) (.cells (bitsV pv mv sc ln) 32))
  unfold bitsV at *
  by_cases g1 : ln < 0 ∨ 32 < ln
  · have N1 := Lib.hid (N.out (fun n h1 h2 => by have := h2.len; omega))
    rcases g1 with g | g
    · go_enter Try.func46, Try.ntmps46
      go_wp2
      go_ret
      exact ⟨ret_bool (by rw [N1.out]), B0.out⟩
    · have g' : ¬ ln < 0 := by omega
      go_enter Try.func46, Try.ntmps46
      go_wp2
      go_ret
      exact ⟨ret_bool (by rw [N1.out]), B0.out⟩
  obtain ⟨n, rfl⟩ : ∃ n : Nat, ln = n := ⟨ln.toNat, by omega⟩
  have hn : n ≤ 32 := by omega
  clear g1 hln
  have hlow : lowN n = 2 ^ n - 1 := by unfold lowN; congr 2; omega
  have LN : Hid (∀ w, Calls Try.prog 45 #[.int .i64 n] w fun e w' => e = .returned (.int .u64 ((lowN n : Nat) : Int)) ∧ w' = w) := Lib.hid (fun w => (implMaskLow (n : Int) w (by omega)).mono fun _ _ h => ⟨h.1, h.2.symm⟩)
  rw [hlow] at LN
  have hor : pv ||| mv < 18446744073709551616 := Nat.or_lt_two_pow (n := 64) hpv hmv
  have hp2 : 2 ^ n - 1 < 18446744073709551616 := by
    have := Nat.pow_le_pow_right (n := 2) (by omega) (show n ≤ 64 by omega)
    omega
  have q1 := u64_or_nat pv mv hpv hmv
  have q2 := u64_andNot_nat (pv ||| mv) (2 ^ n - 1) hor hp2
  have q3 := u64_and_nat pv mv hpv hmv
  have M1 := Lib.hid (maskOut_iff hn hpv hmv)
  have M2 := Lib.hid (andZero_iff (pv := pv) (mv := mv))
  have EL := Lib.hid (fun w => implElements pv mv n sc w hpv hmv hsc hn)
  have HS := Lib.hid hsc
  unfold bitsV at EL
  clear hsc hlow hor hp2
  generalize 2 ^ n - 1 = low at *
  generalize pv ||| mv = o at *
  generalize o &&& (18446744073709551615 - low) = u at *
  obtain ⟨w1, hw1⟩ : ∃ w1, w1 = w.alloc (.cells #[.int .u64 pv, .int .u64 mv, .int .i64 sc, .int .i64 n] 32) := ⟨_, rfl⟩
  have hbox : w1.heap[w.heap.size]? = some (.cells #[.int .u64 pv, .int .u64 mv, .int .i64 sc, .int .i64 n] 32 (0, 0)) := by rw [hw1]; exact alloc_at _ _ _ rfl
  rw [← hw1] at B0
  have c0 := cur_cell hbox 0
  have c1 := cur_cell hbox 1
  have c2 := cur_cell hbox 2
  have c3 := cur_cell hbox 3
  simp at c0 c1 c2 c3
  have K := Lib.hid hbox
  clear hbox
  by_cases hu : u = 0
  · generalize pv &&& mv = v at *
    have hB : ((u : Int) != 0) = false := by simp; omega
    have U := Lib.hid (M1.out.1 hu)
    clear hu
    by_cases hv : v = 0
    · have hC : ((v : Int) != 0) = false := by simp; omega
      have V := Lib.hid (M2.out.1 hv)
      clear hv
      go_enter Try.func46, Try.ntmps46
      go_wp2
      rw [← hw1]
      clear hw1
      go_quiet ((go_at_call 45; exact Calls.quiet_of_same (LN.out _)))
      go_wp2_with fail
      refine (EL.out _).mono ?_
      rintro e w2 ⟨c, rfl, ho, hb2⟩
      have B2 := Lib.hid (below_seq (below_seq B0.out (belowN nq)) hb2)
      obtain ⟨a, cap, rfl, q4, q5, hr⟩ := intSIn_shape ho.read
      rw [listF_length] at *
      have R := Lib.hid hr
      clear ho hb2 hr q4 q5 c0 c1 c2 c3
      go_wp2
      go_loop [34, 4] (fun i _ => ∃ k : Nat, k ≤ n + 1 ∧ i = .int .i64 k ∧ Hid (∀ j, j < k → rangeB (colW pv mv sc n j) = true)) (fun i _ => n + 1 - (intOf i).toNat)
      case atStart => exact ⟨0, Nat.zero_le _, rfl, Lib.hid (fun j hj => by omega)⟩
      case round =>
        obtain ⟨k, hk, rfl, H⟩ := hrel
        by_cases hlt : k < n + 1
        · obtain ⟨b1, o1, rfl, q1⟩ := R.out.at (i := k) (by simpa [listF] using hlt)
          rw [ival_at (by simpa [listF] using hlt), listF_get] at q1
          have hlt2 : (k : Int) < ((n + 1 : Nat) : Int) := by omega
          have hlt3 : (k : Int) < (n : Int) + 1 := by omega
          have RB := Lib.hid (colW_bad (pv := pv) (mv := mv) (i := k) hn (by omega) HS.out)
          have RI := Lib.hid (rangeB_iff (colW pv mv sc n k))
          by_cases hx : rangeB (colW pv mv sc n k) = true
          · have H2 : Hid (∀ j, j < k + 1 → rangeB (colW pv mv sc n j) = true) := Lib.hid (fun j hj => by
              by_cases e : j = k
              · subst e; exact hx
              · exact H.out j (by omega))
            have hx2 := RI.out.1 hx
            generalize colW pv mv sc n k = z at *
            obtain ⟨hx3, hx4⟩ := hx2
            clear hx H RB RI
            go_wp2
            go_round
            case rel => exact ⟨k + 1, by omega, by go_num, H2⟩
            case measure => simp [intOf]; omega
          · have N1 := Lib.hid (N.out (fun m h1 h2 => by
              obtain rfl : m = n := by omega
              exact RB.out (by simpa using hx) h2))
            have hx2 : ¬ (0 ≤ colW pv mv sc n k ∧ colW pv mv sc n k ≤ 64) := fun h => hx (RI.out.2 h)
            generalize colW pv mv sc n k = z at *
            clear hx H RB RI
            by_cases hz : z < 0
            · go_wp2
              go_ret
              exact ⟨ret_bool (by rw [N1.out]), B2.out⟩
            · have hz2 : 64 < z := by omega
              go_wp2
              go_ret
              exact ⟨ret_bool (by rw [N1.out]), B2.out⟩
        · have hk' : k = n + 1 := by omega
          subst hk'
          have Y : Hid (okB pv mv sc n = true) := Lib.hid (okB_is ⟨hn, V.out, U.out.1, U.out.2, fun i hi => by
            have hs := (rangeB_iff _).1 (H.out n (by omega))
            rw [colW_last _ _ _ _ HS.out] at hs
            have := (rangeB_iff _).1 (H.out i (by omega))
            rw [colW_in _ _ _ _ _ hs hn hi] at this
            exact this⟩)
          go_wp2
          go_ret
          exact ⟨ret_bool (by rw [Y.out]), B2.out⟩
    · have hC : ((v : Int) != 0) = true := by simp; omega
      have N1 := Lib.hid (N.out (fun m h1 h2 => by
        obtain rfl : m = n := by omega
        exact hv (M2.out.2 h2.dis)))
      clear hv
      go_enter Try.func46, Try.ntmps46
      go_wp2
      rw [← hw1]
      clear hw1
      go_quiet ((go_at_call 45; exact Calls.quiet_of_same (LN.out _)))
      go_wp2
      go_ret
      exact ⟨ret_bool (by rw [N1.out]), below_seq B0.out (belowN _)⟩
  · have hB : ((u : Int) != 0) = true := by simp; omega
    have N1 := Lib.hid (N.out (fun m h1 h2 => by
      obtain rfl : m = n := by omega
      exact hu (M1.out.2 ⟨h2.hp, h2.hm⟩)))
    clear hu
    go_enter Try.func46, Try.ntmps46
    go_wp2
    rw [← hw1]
    clear hw1
    go_quiet ((go_at_call 45; exact Calls.quiet_of_same (LN.out _)))
    go_wp2
    go_ret
    exact ⟨ret_bool (by rw [N1.out]), below_seq B0.out (belowN _)⟩
end Go.Proofs.Yticfnhbjoaecjaa
