/- Chapter 7 in the model: numbers compared, the lesser, numbers put into planes. -/
import Derived.Test.YtfdlmpjccoaejaaNuS
namespace Go.Proofs.Ytfdlmpjccoaejaa
open Go.RowKit
set_option linter.unusedVariables false

set_option maxRecDepth 100000 in
set_option maxHeartbeats 4000000 in
theorem specNumsLess (c d : Value) (a b : List Nat) (w : World) (h : Uint64SIn [c] a w) (k : Uint64SIn [d] b w) (ha : bd64 a) (hb : bd64 b) :
    Calls Try.prog 53 #[c, d] w fun e w' => e = .returned (.int .u64 ((lessM a b : Nat) : Int)) ∧ Below w.heap.size w w' := by
  have M := Lib.hid (specTwins c d a b w h k)
  have HA := Lib.hid h
  have HB := Lib.hid k
  obtain ⟨a1, cap1, rfl, h1, h2, hr⟩ := uint64SIn_shape h
  obtain ⟨a2, cap2, rfl, k1, k2, kr⟩ := uint64SIn_shape k
  clear h h1 hr k k1 kr h2 k2
  cases ht : twinsB a b with
  | false =>
    rw [ht] at M
    have E : Hid (lessM a b = 0) := Lib.hid (by unfold lessM; rw [ht]; rfl)
    clear ht
    go_enter Try.func53, Try.ntmps53
    go_wp2
    go_loop [5, 6] (fun x i => x = .int .u64 0 ∧ i = .int .i64 0) (fun _ _ => 0)
    case atStart => exact ⟨rfl, rfl⟩
    case round =>
      obtain ⟨rfl, rfl⟩ := hrel
      go_wp2_with fail
      refine M.out.mono ?_
      rintro e w' ⟨rfl, rfl⟩
      go_wp2
      go_ret
      exact ⟨ret_int (by rw [E.out]; rfl), Below.refl _ _⟩
  | true =>
    rw [ht] at M
    have E : Hid (lessM a b = bitsUp (fun l => decide (getN a l < getN b l)) 64) := Lib.hid (by unfold lessM lessL; rw [ht, if_pos rfl])
    have h16 := (twins_iff.1 ht).2
    have hb16 : b.length ≤ 16 := by have := (twins_iff.1 ht).1; omega
    have GA := Lib.hid (fun (l : Nat) (hl : l < 64) => specGet _ a l w HA.out ha h16 hl)
    have GB := Lib.hid (fun (l : Nat) (hl : l < 64) => specGet _ b l w HB.out hb hb16 hl)
    have LA := Lib.hid (fun l => Nat.lt_of_lt_of_le (getN_lt a l) (pow_le16 h16))
    have LB := Lib.hid (fun l => Nat.lt_of_lt_of_le (getN_lt b l) (pow_le16 hb16))
    clear ht HA HB hb16 h16
    go_enter Try.func53, Try.ntmps53
    go_wp2
    go_loop [5, 6] (fun x i => ∃ k y : Nat, k ≤ 64 ∧ i = .int .i64 k ∧ x = .int .u64 (y : Int) ∧ Hid (y = bitsUp (fun l => decide (getN a l < getN b l)) k)) (fun _ i => 64 - (intOf i).toNat)
    case atStart => exact ⟨0, 0, Nat.zero_le _, rfl, rfl, Lib.hid rfl⟩
    case round =>
      obtain ⟨k, y, hk, rfl, rfl, HY⟩ := hrel
      by_cases hlt : k < 64
      · have A := Lib.hid (GA.out k hlt)
        have B := Lib.hid (GB.out k hlt)
        have la := LA.out k
        have lb := LB.out k
        have hu : bitsUp (fun l => decide (getN a l < getN b l)) (k + 1) = y + if decide (getN a k < getN b k) then 2 ^ k else 0 := by rw [bitsUp, HY.out]
        have hlu : bitsUp (fun l => decide (getN a l < getN b l)) (k + 1) < 18446744073709551616 := Nat.lt_of_lt_of_le (bitsUp_lt _ _) (Nat.pow_le_pow_right (n := 2) (by omega) (show k + 1 ≤ 64 by omega))
        have PW := Lib.hid (fun w => specPower k w (by omega))
        generalize getN a k = x1 at *
        generalize getN b k = x2 at *
        generalize 2 ^ k = P at *
        by_cases hc : x1 < x2
        · have HU : Hid (y + P = bitsUp (fun l => decide (getN a l < getN b l)) (k + 1)) := Lib.hid (by rw [hu]; simp [hc])
          have hq : IntKind.u64.wrap ((y : Int) + (P : Int)) = ((y + P : Nat) : Int) := by rw [IntKind.wrap_u64]; rw [← HU.out] at hlu; omega
          clear hu hlu HY
          go_wp2_with fail
          refine M.out.mono ?_
          rintro e w' ⟨rfl, rfl⟩
          go_wp2_with fail
          refine A.out.mono ?_
          rintro e w1 ⟨rfl, rfl⟩
          go_wp2_with fail
          refine B.out.mono ?_
          rintro e w1 ⟨rfl, rfl⟩
          go_wp2_with fail
          refine (PW.out _).mono ?_
          rintro e w1 ⟨rfl, rfl⟩
          go_wp2
          go_round
          case rel => exact ⟨k + 1, y + P, by omega, by go_num, by first | rfl | (rw [← hq]) | go_num, HU⟩
          case measure => simp [intOf]; omega
        · have HU : Hid (y = bitsUp (fun l => decide (getN a l < getN b l)) (k + 1)) := Lib.hid (by rw [hu]; simp [hc])
          clear hu hlu HY
          go_wp2_with fail
          refine M.out.mono ?_
          rintro e w' ⟨rfl, rfl⟩
          go_wp2_with fail
          refine A.out.mono ?_
          rintro e w1 ⟨rfl, rfl⟩
          go_wp2_with fail
          refine B.out.mono ?_
          rintro e w1 ⟨rfl, rfl⟩
          go_wp2
          go_round
          case rel => exact ⟨k + 1, y, by omega, by go_num, rfl, HU⟩
          case measure => simp [intOf]; omega
      · have hk' : k = 64 := by omega
        subst hk'
        go_wp2
        go_ret
        exact ⟨ret_int (by rw [E.out, HY.out]), Below.refl _ _⟩
set_option maxRecDepth 100000 in
set_option maxHeartbeats 4000000 in
theorem specNumsMin (c d : Value) (a b : List Nat) (w : World) (h : Uint64SIn [c] a w) (k : Uint64SIn [d] b w) (ha : bd64 a) (hb : bd64 b) :
    Calls Try.prog 54 #[c, d] w (Uint64SRet (minM a b) w) := by
  have M := Lib.hid (specTwins c d a b w h k)
  have HA := Lib.hid h
  have HB := Lib.hid k
  obtain ⟨a1, cap1, rfl, h1, h2, hr⟩ := uint64SIn_shape h
  obtain ⟨a2, cap2, rfl, k1, k2, kr⟩ := uint64SIn_shape k
  clear h h1 hr k k1 kr
  unfold maxLen at h2
  cases ht : twinsB a b with
  | false =>
    rw [ht] at M
    have E : Hid (minM a b = []) := Lib.hid (by unfold minM; rw [ht]; rfl)
    clear ht
    go_enter Try.func54, Try.ntmps54
    go_wp2_with fail
    refine M.out.mono ?_
    rintro e w' ⟨rfl, rfl⟩
    go_wp2
    go_ret
    exact ⟨_, rfl, by rw [E.out]; exact nil_own _ _ _, Below.refl _ _⟩
  | true =>
    rw [ht] at M
    have E : Hid (minM a b = putN (listN 64 (fun l => min (getN a l) (getN b l))) a.length) := Lib.hid (by unfold minM; rw [ht, if_pos rfl])
    have h16 := (twins_iff.1 ht).2
    have hb16 : b.length ≤ 16 := by have := (twins_iff.1 ht).1; omega
    have GA := Lib.hid (fun (l : Nat) w' (hl : l < 64) (hb' : Below w.heap.size w w') => specGet _ a l w' (HA.out.below hb') ha h16 hl)
    have GB := Lib.hid (fun (l : Nat) w' (hl : l < 64) (hb' : Below w.heap.size w w') => specGet _ b l w' (HB.out.below hb') hb hb16 hl)
    have LA := Lib.hid (fun l => Nat.lt_of_lt_of_le (getN_lt a l) (pow_le16 h16))
    have LB := Lib.hid (fun l => Nat.lt_of_lt_of_le (getN_lt b l) (pow_le16 hb16))
    have PU := Lib.hid (fun c l w' hI h64 hpos => specPut c l a.length w' hI h64 h16 hpos)
    clear ht HA HB hb16
    go_enter Try.func54, Try.ntmps54
    go_wp2_with fail
    refine M.out.mono ?_
    rintro e w' ⟨rfl, rfl⟩
    clear M
    generalize hF : (fun l => min (getN a l) (getN b l)) = F at *
    have HF : Hid (∀ l, min (getN a l) (getN b l) = F l) := Lib.hid (fun l => by rw [← hF])
    clear hF
    go_wp2
    go_loopw [5, 6] (fun o i wr => ∃ (k c : Nat) (ad : Option Addr), k ≤ 64 ∧ i = .int .i64 k ∧ o = .slice ad k c ∧ Hid (wr.ownsRow w.heap.size 3 1 (.slice ad k c) k ((intsN k F).map ival) ∧ Below w.heap.size w wr)) (fun _ i _ => 64 - (intOf i).toNat)
    case atStart => exact ⟨0, 0, _, Nat.zero_le _, rfl, rfl, Lib.hid ⟨nil_ints w, below_box (Below.refl _ _) _⟩⟩
    case round =>
      obtain ⟨k, c, ad, hk, rfl, rfl, H⟩ := hrel
      by_cases hlt : k < 64
      · have A := Lib.hid (GA.out k wr hlt H.out.2)
        have B := Lib.hid (GB.out k wr hlt H.out.2)
        have la := LA.out k
        have lb := LB.out k
        have hf := HF.out k
        have SN := Lib.hid (intsN_snoc k F)
        generalize getN a k = x at *
        generalize getN b k = y at *
        have hsz := H.out.2.size
        generalize F k = z at *
        by_cases hxy : x ≤ y
        · have e : z = x := by omega
          subst e
          have hi : (z : Int) ≤ (y : Int) := by omega
          clear hf
          go_wp2_with fail
          refine A.out.mono ?_
          rintro e w1 ⟨rfl, rfl⟩
          go_wp2_with fail
          refine B.out.mono ?_
          rintro e w1 ⟨rfl, rfl⟩
          go_wp2_with (at_builtin; go_must (refine wp_app_row rfl _ _ 36 rfl 3 (.int .i64 0) 8 Try.underlying36 Try.info3 rfl w.heap.size k (.slice ad k c) ((intsN k F).map ival) (by rfl) (H.out.1.alloc _) (some ⟨wr.heap.size, 0, none⟩) 1 1 [.int .i64 z] (by rfl) rfl (row_one wr (.int .i64 z) 3) (by simp [Value.oneCell']) (by unfold maxLen; omega) (by omega) (by simp; omega) ?_); intro v3 w3 ho3 hg3; rw [← SN.out] at ho3; have F3 := Lib.hid (And.intro ho3 (app_below H.out.2 H.out.1 _ hg3)); obtain ⟨a3, c3, rfl⟩ := own_shape ho3; clear ho3 hg3)
          go_roundw
          case rel => exact ⟨k + 1, c3, a3, by omega, by go_num, rfl, F3⟩
          case measure => simp [intOf]; omega
        · have e : z = y := by omega
          subst e
          have hi : ¬ (x : Int) ≤ (z : Int) := by omega
          have hi2 : (z : Int) < (x : Int) := by omega
          clear hf
          go_wp2_with fail
          refine A.out.mono ?_
          rintro e w1 ⟨rfl, rfl⟩
          go_wp2_with fail
          refine B.out.mono ?_
          rintro e w1 ⟨rfl, rfl⟩
          go_wp2_with (at_builtin; go_must (refine wp_app_row rfl _ _ 36 rfl 3 (.int .i64 0) 8 Try.underlying36 Try.info3 rfl w.heap.size k (.slice ad k c) ((intsN k F).map ival) (by rfl) (H.out.1.alloc _) (some ⟨wr.heap.size, 0, none⟩) 1 1 [.int .i64 z] (by rfl) rfl (row_one wr (.int .i64 z) 3) (by simp [Value.oneCell']) (by unfold maxLen; omega) (by omega) (by simp; omega) ?_); intro v3 w3 ho3 hg3; rw [← SN.out] at ho3; have F3 := Lib.hid (And.intro ho3 (app_below H.out.2 H.out.1 _ hg3)); obtain ⟨a3, c3, rfl⟩ := own_shape ho3; clear ho3 hg3)
          go_roundw
          case rel => exact ⟨k + 1, c3, a3, by omega, by go_num, rfl, F3⟩
          case measure => simp [intOf]; omega
      · have hk' : k = 64 := by omega
        subst hk'
        have Q := Lib.hid (PU.out (.slice ad 64 c) (intsN 64 F) wr ((IntSOwn.mk H.out.1).read) (by rw [intsN_length]; omega) (intsN_pos (fun i hi => by rw [← HF.out]; have := LA.out i; omega)))
        rw [intsN_nats] at Q
        clear PU
        go_wp2_with fail
        refine Q.out.mono ?_
        rintro e w3 ⟨c3, rfl, ho, hb3⟩
        go_wp2
        go_ret
        exact ⟨_, rfl, by rw [E.out]; exact ho.wide H.out.2.size (Nat.le_refl _), below_seq H.out.2 hb3⟩
set_option maxRecDepth 100000 in
set_option maxHeartbeats 4000000 in
theorem specNumsOf (c : Value) (l : List Int) (k : Int) (w : World) (h : IntSIn [c] l w) :
    Calls Try.prog 26 #[c, .int .i64 k] w (Uint64SRet (numsM l k) w) := by
  have HI := Lib.hid h
  obtain ⟨a, cap, hc, h1, h2, hr⟩ := h
  simp at hc
  subst hc
  unfold maxLen at h2
  have HR := Lib.hid hr
  clear hr h1
  by_cases g1 : 64 < l.length
  · have E := Lib.hid (nums_no (l := l) (k := k) (.inl g1))
    go_enter Try.func26, Try.ntmps26
    go_wp2
    go_ret
    exact ⟨_, rfl, by rw [E.out]; exact nil_own _ _ _, Below.refl _ _⟩
  by_cases g2 : k < 0
  · have E := Lib.hid (nums_no (l := l) (k := k) (.inr (.inl g2)))
    go_enter Try.func26, Try.ntmps26
    go_wp2
    go_ret
    exact ⟨_, rfl, by rw [E.out]; exact nil_own _ _ _, Below.refl _ _⟩
  by_cases g3 : 16 < k
  · have E := Lib.hid (nums_no (l := l) (k := k) (.inr (.inr g3)))
    go_enter Try.func26, Try.ntmps26
    go_wp2
    go_ret
    exact ⟨_, rfl, by rw [E.out]; exact nil_own _ _ _, Below.refl _ _⟩
  obtain ⟨n, rfl⟩ : ∃ n : Nat, k = n := ⟨k.toNat, by omega⟩
  have hn : n ≤ 16 := by omega
  have hp := pow_le16 hn
  have NB := Lib.hid (fun i (hi : i < l.length) hB => nums_bad (l := l) (k := n) (i := i) hi hB)
  have NA := Lib.hid (nums_all (l := l) (k := n) (by omega) hn)
  have PW : Hid (∀ w, Calls Try.prog 77 #[.int .i64 n] w fun e w' => e = .returned (.int .i64 ((2 ^ n : Nat) : Int)) ∧ w' = w) := Lib.hid (fun w => (specPow16 n w hn).mono fun _ _ h => ⟨h.1, h.2.symm⟩)
  have PU := Lib.hid (fun w' hI hpos => specPut (.slice a l.length cap) l n w' hI (by omega) hn hpos)
  have IB : Hid (∀ z : Int, inB n z = true ↔ 0 ≤ z ∧ z < ((2 ^ n : Nat) : Int)) := Lib.hid (fun z => by rw [inB_of]; simp)
  clear g2 g3
  generalize 2 ^ n = P at *
  go_enter Try.func26, Try.ntmps26
  go_wp2
  go_loopw [5] (fun i wr => ∃ m : Nat, m ≤ l.length ∧ i = .int .i64 m ∧ Hid ((∀ i (hi : i < l.length), i < m → inB n l[i] = true) ∧ Below w.heap.size w wr)) (fun i _ => l.length - (intOf i).toNat)
  case atStart => exact ⟨0, Nat.zero_le _, rfl, Lib.hid ⟨fun i _ h => absurd h (Nat.not_lt_zero _), Below.refl _ _⟩⟩
  case round =>
    obtain ⟨m, hm, rfl, H⟩ := hrel
    by_cases hlt : m < l.length
    · obtain ⟨b, off, e1, q⟩ := (HR.out.below H.out.2).at (i := m) (by simpa using hlt)
      subst e1
      rw [ival_at hlt] at q
      have ib := IB.out l[m]
      have H2 : Hid (inB n l[m] = true → ∀ i (hi : i < l.length), i < m + 1 → inB n l[i] = true) := Lib.hid (fun hB i hi h => by
        by_cases e : i = m
        · subst e; exact hB
        · exact H.out.1 i hi (by omega))
      have N := Lib.hid (NB.out m hlt)
      generalize l[m] = z at *
      by_cases hneg : z < 0
      · have E : Hid (numsM l n = []) := Lib.hid (N.out (by rw [Bool.eq_false_iff]; intro c; have := ib.1 c; omega))
        have d1 : decide (z < 0) = true := by simp [hneg]
        clear ib
        go_wp2
        go_quiet (fail)
        go_wp2
        go_ret
        exact ⟨_, rfl, by rw [E.out]; exact nil_own _ _ _, below_seq H.out.2 (belowN _)⟩
      · have d1 : decide (z < 0) = false := by simp; omega
        by_cases hge : (P : Int) ≤ z
        · have E : Hid (numsM l n = []) := Lib.hid (N.out (by rw [Bool.eq_false_iff]; intro c; have := ib.1 c; omega))
          have d2 : decide ((P : Int) ≤ z) = true := by simp [hge]
          clear ib
          go_wp2
          go_quiet ((go_at_call 77; exact Calls.quiet_of_same (PW.out _)))
          go_wp2
          go_ret
          exact ⟨_, rfl, by rw [E.out]; exact nil_own _ _ _, below_seq H.out.2 (belowN _)⟩
        · have d2 : decide ((P : Int) ≤ z) = false := by simp; omega
          have R := Lib.hid (H2.out (ib.2 (by omega)))
          clear ib
          go_wp2
          go_quiet ((go_at_call 77; exact Calls.quiet_of_same (PW.out _)))
          go_wp2
          go_roundw
          case rel => exact ⟨m + 1, by omega, by go_num, Lib.hid ⟨R.out, below_seq H.out.2 (belowN _)⟩⟩
          case measure => simp [intOf]; omega
    · have hk' : m = l.length := by omega
      subst hk'
      have E : Hid (numsM l n = putN (l.map Int.toNat) n) := Lib.hid (NA.out (fun i hi => H.out.1 i hi hi))
      have Q := Lib.hid (PU.out wr ((HI.out.lies.below H.out.2).now) (fun z hz => by
        obtain ⟨i, hi, rfl⟩ := List.mem_iff_getElem.1 hz
        have := (IB.out l[i]).1 (H.out.1 i hi hi)
        exact ⟨this.1, by omega⟩))
      clear PU
      go_wp2_with fail
      refine Q.out.mono ?_
      rintro e w3 ⟨c3, rfl, ho, hb3⟩
      go_wp2
      go_ret
      exact ⟨_, rfl, by rw [E.out]; exact ho.wide H.out.2.size (Nat.le_refl _), below_seq H.out.2 hb3⟩
end Go.Proofs.Ytfdlmpjccoaejaa
