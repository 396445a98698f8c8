/- For every code: the law FnNums answers true: numbers put into planes are read, added, compared and minimized lane by lane. No condition. -/
import Derived.Test.YtfdlmpjccoaejaaBase
import Derived.Test.YtfdlmpjccoaejaaBigIs
import Derived.Test.YtfdlmpjccoaejaaNuW
import Derived.Test.YtfdlmpjccoaejaaNuU
import Derived.Test.YtfdlmpjccoaejaaPlI
namespace Go.Proofs.Ytfdlmpjccoaejaa.fnNums
open Go.ChangeShapes Go.WideShapes Go.ChangeAt Go.RowKit
open Go.ChangeMaps (open_string shut_string)
set_option linter.unusedVariables false

set_option maxRecDepth 100000 in
set_option maxHeartbeats 16000000 in
theorem walk (a0 : Option Addr) (len0 cap0 : Nat) (z0 : List Int) (w : World) (w0 : IsRow .u8 w a0 len0 cap0 z0) :
    Calls Try.prog 4 #[.slice a0 len0 cap0] w fun e w' => e = .returned (.bool true) ∧ Below w.heap.size w w' := by
  obtain ⟨l, hl, hcap, hmax, hr⟩ := row_of_isRow w0
  clear w0
  subst hl
  have R := Lib.hid hr
  clear hr
  have hm : l.length ≤ maxLen := Nat.le_trans hcap hmax
  by_cases hbig : 1048576 < l.length
  · have hB : decide (1048576 < l.length) = true := by simp [hbig]
    go_enter Try.func4, Try.ntmps4
    go_wp2_with fail
    refine (bigIs a0 l.length cap0 _ hm).mono ?_
    rintro e w1 ⟨rfl, rfl⟩
    rw [hB]
    go_wp2
    go_ret
    exact ⟨rfl, Below.refl _ _⟩
  have hB : decide (1048576 < l.length) = false := by simp; omega
  have hl2 : l.length ≤ 1048576 := by omega
  go_enter Try.func4, Try.ntmps4
  go_wp2_with fail
  refine (bigIs a0 l.length cap0 _ hm).mono ?_
  rintro e w1 ⟨rfl, rfl⟩
  rw [hB]
  clear hB
  obtain ⟨h, hh⟩ : ∃ h : Nat, l.length / 2 = h := ⟨_, rfl⟩
  have hhl : h ≤ l.length := by omega
  have td : (l.length : Int).tdiv 2 = (h : Int) := by rw [Int.tdiv_eq_ediv_of_nonneg (by omega)]; omega
  obtain ⟨a1, c1, K1, K2, D2⟩ : ∃ (a1 : Option Addr) (c1 : Nat), Hid (h < cap0 → a1 = Option.map (fun x => x.add h) a0 ∧ c1 = cap0 - h) ∧ Hid (cap0 = h → a1 = a0 ∧ c1 = 0) ∧ Hid (∀ w', Below w.heap.size w w' → Calls Try.prog 25 #[.slice a1 (l.length - h) c1] w' (DrawnNums w')) := by
    by_cases hc : h < cap0
    · refine ⟨_, _, Lib.hid (fun _ => ⟨rfl, rfl⟩), Lib.hid (fun e => by omega), Lib.hid (fun w' hb' => ?_)⟩
      have := drawNums (Option.map (fun x => x.add h) a0) (l.drop h) (cap0 - h) w' (by rw [List.length_drop]; omega) (by
        have := (R.out.below hb').map_cut h (l.length - h) (by simp; omega)
        rw [← List.map_drop, ← List.map_take, List.take_of_length_le (by rw [List.length_drop]; omega)] at this
        exact this)
      rw [List.length_drop] at this
      exact this
    · refine ⟨_, _, Lib.hid (fun e => absurd e hc), Lib.hid (fun _ => ⟨rfl, rfl⟩), Lib.hid (fun w' hb' => ?_)⟩
      have := drawNums a0 [] 0 w' (by simp) (.inl rfl)
      rw [show l.length - h = ([] : List UInt8).length from by simp; omega]
      exact this
  have hc2 : h < cap0 ∨ cap0 = h := by omega
  clear hh
  go_wp2_with fail
  refine (drawNums a0 l cap0 _ hl2 R.out).mono ?_
  rintro e w2 ⟨ca, A, k, rfl, ia, la, ra, rk, hb2⟩
  obtain ⟨aa, xa, rfl, _, _, _⟩ := intSIn_shape ia
  have IA := Lib.hid ia
  have B2 := Lib.hid hb2
  have RA := Lib.hid ra
  clear ia hb2 ra R
  rcases hc2 with hc | hc
  · obtain ⟨rfl, rfl⟩ := K1.out hc
    clear K1 K2
    go_wp2_with fail
    refine (D2.out _ B2.out).mono ?_
    rintro e w3 ⟨cb, Bl, kb, rfl, ib, lb, rb, rkb, hb3⟩
    obtain ⟨ab, xb, rfl, _, _, _⟩ := intSIn_shape ib
    replace IA := Lib.hid ((IA.out.lies.below hb3).now)
    have IB := Lib.hid ib
    have B3 := Lib.hid (below_seq B2.out hb3)
    have RB := Lib.hid rb
    clear ib hb3 rb D2 B2 td
    have NS := Lib.hid (specNumsOf _ A k w3 IA.out)
    go_wp2_with fail
    refine NS.out.mono ?_
    rintro e w4 ⟨c4, rfl, ho4, hb4⟩
    obtain ⟨a4, x4, rfl, _, _, _⟩ := uint64SIn_shape ho4.read
    replace IA := Lib.hid ((IA.out.lies.below hb4).now)
    replace IB := Lib.hid ((IB.out.lies.below hb4).now)
    have B4 := Lib.hid (below_seq B3.out hb4)
    clear ho4 hb4 NS B3
    have hml := numsM_length A k
    have HNO := Lib.hid (fun (hA : 64 < A.length) => nums_no (l := A) (k := k) (.inl hA))
    have NI := Lib.hid (implNumsOf _ A k w4 IA.out)
    have NS := Lib.hid (fun w' (hb' : Below w4.heap.size w4 w') => specNumsOf _ A k w' ((IA.out.lies.below hb').now))
    obtain ⟨ml, hml2⟩ : ∃ ml, (numsM A k).length = ml := ⟨_, rfl⟩
    have HML := Lib.hid hml2
    rw [hml2] at hml ⊢
    clear hml2
    have cases4 : (¬ (ml : Int) = k) ∨ ((ml : Int) = k ∧ 64 < Bl.length) ∨ ((ml : Int) = k ∧ ¬ 64 < Bl.length ∧ 64 < A.length) ∨ ((ml : Int) = k ∧ ¬ 64 < Bl.length ∧ ¬ 64 < A.length) := by omega
    rcases cases4 with d1 | ⟨d1, d2⟩ | ⟨d1, d2, d3⟩ | ⟨d1, d2, d3⟩
    rotate_left 3
    · subst d1
      have e1 : ((ml : Int) != (ml : Int)) = false := by simp
      have NB := Lib.hid (fun i (hi : i < A.length) hB => nums_bad (l := A) (k := ml) (i := i) hi hB)
      have NA := Lib.hid (nums_all (l := A) (k := ml) (by omega) hml)
      clear HNO NS
      go_wp2
      go_loop [7, 8] (fun tv i => ∃ j y : Nat, j ≤ ml ∧ i = .int .i64 j ∧ tv = .int .i64 (y : Int) ∧ Hid (y = 2 ^ j)) (fun _ i => ml - (intOf i).toNat)
      case atStart => exact ⟨0, 1, Nat.zero_le _, rfl, rfl, Lib.hid rfl⟩
      case round =>
        obtain ⟨j, y, hj, rfl, rfl, HY⟩ := hrel
        have hy : y ≤ 65536 := by rw [HY.out]; exact pow_le16 (by omega)
        by_cases hlt : j < ml
        · have HY2 : Hid (2 * y = 2 ^ (j + 1)) := Lib.hid (by rw [HY.out, Nat.pow_succ, Nat.mul_comm])
          go_wp2
          go_round
          case rel => exact ⟨j + 1, 2 * y, by omega, by go_num, by go_num, HY2⟩
          case measure => simp [intOf]; omega
        · have hj' : j = ml := by omega
          subst hj'
          have hy0 : 0 < y := by rw [HY.out]; exact Nat.pow_pos (by omega)
          have IN : Hid (∀ z : Int, inB j z = true ↔ 0 ≤ z ∧ z < (y : Int)) := Lib.hid (fun z => by rw [inB_of, HY.out]; simp)
          go_wp2
          go_loop [9] (fun i => ∃ q : Nat, q ≤ A.length ∧ i = .int .i64 q ∧ Hid (∀ i (hi : i < A.length), i < q → inB j A[i] = true)) (fun i => A.length - (intOf i).toNat)
          case atStart => exact ⟨0, Nat.zero_le _, rfl, Lib.hid (fun i _ h => absurd h (Nat.not_lt_zero _))⟩
          case round =>
            obtain ⟨q, hq, rfl, HQ⟩ := hrel
            by_cases hqa : q < A.length
            · obtain ⟨bA, oA, rfl, cA⟩ := int_at IA.out hqa
              have egd : A.getD q 0 = A[q] := by simp [List.getD, hqa]
              rw [egd] at cA
              have BAD := Lib.hid (NB.out q hqa)
              have inz := IN.out A[q]
              have HQ2 : Hid (inB j A[q] = true → ∀ i (hi : i < A.length), i < q + 1 → inB j A[i] = true) := Lib.hid (fun hB i hi h => by
                by_cases e : i = q
                · subst e; exact hB
                · exact HQ.out i hi (by omega))
              clear egd
              generalize A[q] = z at *
              by_cases z0 : z < 0
              · have N0 : Hid (numsM A j = []) := Lib.hid (BAD.out (by rw [Bool.eq_false_iff]; intro c; have := inz.1 c; omega))
                rw [N0.out] at NI
                clear inz BAD HQ2 N0
                go_wp2_with fail
                refine NI.out.mono ?_
                rintro e w5 ⟨c5, rfl, ho5, hb5⟩
                obtain ⟨a5, x5, rfl, _, _, _⟩ := uint64SIn_shape ho5.read
                have B5 := Lib.hid (below_seq B4.out hb5)
                clear ho5 hb5 NI
                go_wp2
                go_ret
                exact ⟨by simp, B5.out⟩
              by_cases z1 : (y : Int) ≤ z
              · have N0 : Hid (numsM A j = []) := Lib.hid (BAD.out (by rw [Bool.eq_false_iff]; intro c; have := inz.1 c; omega))
                rw [N0.out] at NI
                clear inz BAD HQ2 N0
                go_wp2_with fail
                refine NI.out.mono ?_
                rintro e w5 ⟨c5, rfl, ho5, hb5⟩
                obtain ⟨a5, x5, rfl, _, _, _⟩ := uint64SIn_shape ho5.read
                have B5 := Lib.hid (below_seq B4.out hb5)
                clear ho5 hb5 NI
                go_wp2
                go_ret
                exact ⟨by simp, B5.out⟩
              have HQ3 := Lib.hid (HQ2.out (inz.2 (by omega)))
              clear inz BAD HQ2
              go_wp2
              go_round
              case rel => exact ⟨q + 1, by omega, by go_num, HQ3⟩
              case measure => simp [intOf]; omega
            · have ALL : Hid (∀ i (hi : i < A.length), inB j A[i] = true) := Lib.hid (fun i hi => HQ.out i hi (by omega))
              have hq' : q = A.length := by omega
              subst hq'
              clear HQ NB
              have A0 : Hid ((w4.alloc (.cells #[] 3)).ownsRow w4.heap.size 3 1 (.slice (some ⟨w4.heap.size, 0, none⟩) 0 0) 0 ((intsN 0 (cutN y Bl)).map ival) ∧ Below w4.heap.size w4 (w4.alloc (.cells #[] 3))) := Lib.hid ⟨nil_ints w4, below_box (Below.refl _ _) _⟩
              go_wp2
              go_loopw [10, 11, 12] (fun o i _ wr => ∃ (q c : Nat) (ad : Option Addr), q ≤ Bl.length ∧ i = .int .i64 q ∧ o = .slice ad q c ∧ Hid (wr.ownsRow w4.heap.size 3 1 (.slice ad q c) q ((intsN q (cutN y Bl)).map ival) ∧ Below w4.heap.size w4 wr)) (fun _ i _ _ => Bl.length - (intOf i).toNat)
              case atStart => exact ⟨0, 0, _, Nat.zero_le _, rfl, rfl, A0⟩
              case round =>
                clear A0
                obtain ⟨q, c, ad, hq, rfl, rfl, H⟩ := hrel
                by_cases hqb : q < Bl.length
                · obtain ⟨bB, oB, rfl, cB⟩ := int_at ((IB.out.lies.below H.out.2).now) hqb
                  have SN := Lib.hid (intsN_snoc q (cutN y Bl))
                  have ci := cutN_int hy0 Bl q
                  have cl := cutN_lt y hy0 Bl q
                  obtain ⟨t1, t2⟩ := tmod_range (Bl.getD q 0) hy0
                  obtain ⟨t3, t4⟩ := tmod_mod (Bl.getD q 0) hy0
                  rw [← ci] at t3 t4
                  clear ci
                  generalize Bl.getD q 0 = z at *
                  generalize cutN y Bl q = v at *
                  obtain ⟨n, hn⟩ : ∃ n : Int, z.tmod (y : Int) = n := ⟨_, rfl⟩
                  rw [hn] at t1 t2 t3 t4
                  have hsz := H.out.2.size
                  have yne : ¬ ((y : Int) = 0) := by omega
                  by_cases n0 : n < 0
                  · have e5 : n + (y : Int) = (v : Int) := by have := t4 n0; omega
                    clear t3 t4
                    go_wp2_with (at_builtin; go_must (refine wp_app_row rfl _ _ 36 rfl 3 (.int .i64 0) 8 Try.underlying36 Try.info3 rfl w4.heap.size q (.slice ad q c) _ (by rfl) (H.out.1.alloc _) (some ⟨wr.heap.size, 0, none⟩) 1 1 [.int .i64 v] (by rfl) rfl (row_one wr (.int .i64 v) 3) (by simp [Value.oneCell']) (by unfold maxLen; omega) (by omega) (by simp; omega) ?_); intro v3 w5 ho3 hg3; rw [← SN.out] at ho3; have F3 := Lib.hid (And.intro ho3 (app_below H.out.2 H.out.1 _ hg3)); obtain ⟨a5, c5, rfl⟩ := own_shape ho3; clear ho3 hg3)
                    go_roundw
                    case rel => exact ⟨q + 1, c5, a5, by omega, by go_num, rfl, F3⟩
                    case measure => simp [intOf]; omega
                  · have e5 : n = (v : Int) := by have := t3 (by omega); omega
                    subst e5
                    clear t3 t4
                    go_wp2_with (at_builtin; go_must (refine wp_app_row rfl _ _ 36 rfl 3 (.int .i64 0) 8 Try.underlying36 Try.info3 rfl w4.heap.size q (.slice ad q c) _ (by rfl) (H.out.1.alloc _) (some ⟨wr.heap.size, 0, none⟩) 1 1 [.int .i64 v] (by rfl) rfl (row_one wr (.int .i64 v) 3) (by simp [Value.oneCell']) (by unfold maxLen; omega) (by omega) (by simp; omega) ?_); intro v3 w5 ho3 hg3; rw [← SN.out] at ho3; have F3 := Lib.hid (And.intro ho3 (app_below H.out.2 H.out.1 _ hg3)); obtain ⟨a5, c5, rfl⟩ := own_shape ho3; clear ho3 hg3)
                    go_roundw
                    case rel => exact ⟨q + 1, c5, a5, by omega, by go_num, rfl, F3⟩
                    case measure => simp [intOf]; omega
                · have hq' : q = Bl.length := by omega
                  subst hq'
                  have lowS := Lib.hid (IntSOwn.mk H.out.1).read
                  have BW := Lib.hid (below_seq B4.out H.out.2)
                  have IAW := Lib.hid ((IA.out.lies.below H.out.2).now)
                  have XE : Hid (numsM A j = putN (listN A.length (natF A)) j) := Lib.hid (by rw [NA.out ALL.out, map_natF])
                  have YE : Hid (numsM (intsN Bl.length (cutN y Bl)) j = putN (listN Bl.length (cutN y Bl)) j) := Lib.hid (nums_ints (by omega) hml (fun i _ => by rw [← HY.out]; exact cutN_lt y hy0 Bl i))
                  have gX : Hid (∀ l, getN (numsM A j) l = atN A.length (natF A) l) := Lib.hid (fun l => by rw [XE.out]; exact put_at (natF_lt ALL.out))
                  have gY : Hid (∀ l, getN (numsM (intsN Bl.length (cutN y Bl)) j) l = atN Bl.length (cutN y Bl) l) := Lib.hid (fun l => by rw [YE.out]; exact put_at (fun i _ => by rw [← HY.out]; exact cutN_lt y hy0 Bl i))
                  have LX : Hid ((numsM A j).length = j) := Lib.hid (by rw [XE.out, putN_length])
                  have LY : Hid ((numsM (intsN Bl.length (cutN y Bl)) j).length = j) := Lib.hid (by rw [YE.out, putN_length])
                  have bX : Hid (bd64 (numsM A j)) := Lib.hid (numsM_lt _ _)
                  have bY : Hid (bd64 (numsM (intsN Bl.length (cutN y Bl)) j)) := Lib.hid (numsM_lt _ _)
                  have NI5 := Lib.hid (implNumsOf _ A j wr IAW.out)
                  have NI6 := Lib.hid (fun w' (hb' : Below wr.heap.size wr w') => implNumsOf _ (intsN Bl.length (cutN y Bl)) j w' ((lowS.out.lies.below hb').now))
                  clear NI NA XE YE IA IB B4 H HML
                  generalize numsM A j = X at *
                  generalize numsM (intsN Bl.length (cutN y Bl)) j = Y at *
                  go_wp2_with fail
                  refine NI5.out.mono ?_
                  rintro e w5 ⟨c5, rfl, ho5, hb5⟩
                  obtain ⟨a5, x5, rfl, _, _, _⟩ := uint64SIn_shape ho5.read
                  have I5 := Lib.hid ho5.read
                  have C6 := Lib.hid (NI6.out w5 hb5)
                  have B5 := Lib.hid hb5
                  clear ho5 hb5 NI5 NI6
                  go_wp2_with fail
                  refine C6.out.mono ?_
                  rintro e w6 ⟨c6, rfl, ho6, hb6⟩
                  obtain ⟨a6, x6, rfl, _, _, _⟩ := uint64SIn_shape ho6.read
                  replace I5 := Lib.hid (I5.out.below hb6)
                  have I6 := Lib.hid ho6.read
                  have B6 := Lib.hid (below_seq B5.out hb6)
                  clear ho6 hb6 C6 B5
                  have C7 := Lib.hid (implNumsAdd _ _ X Y w6 I5.out I6.out bX.out bY.out)
                  have C8 := Lib.hid (fun w' (hb' : Below w6.heap.size w6 w') => implNumsMin _ _ X Y w' (I5.out.below hb') (I6.out.below hb') bX.out bY.out)
                  have C9 := Lib.hid (fun w' (hb' : Below w6.heap.size w6 w') => implNumsLess _ _ X Y w' (I5.out.below hb') (I6.out.below hb') bX.out bY.out)
                  have CX := Lib.hid (fun (ln : Nat) w' (hb' : Below w6.heap.size w6 w') => implNumAt _ X ln w' (I5.out.below hb') bX.out)
                  have tw : twinsB X Y = true := twins_iff.2 ⟨by rw [LX.out, LY.out], by rw [LX.out]; exact hml⟩
                  have TW := Lib.hid tw
                  rw [LX.out] at C7 C8 C9 CX
                  rw [LY.out] at C7 C8 C9
                  rw [LX.out, LY.out]
                  clear tw I5 I6
                  go_wp2_with fail
                  refine C7.out.mono ?_
                  rintro e w7 ⟨c7, rfl, ho7, hb7⟩
                  obtain ⟨a7, n7, x7, rfl⟩ := ho7.shape
                  have I7 := Lib.hid ho7.read
                  have C8b := Lib.hid (C8.out w7 hb7)
                  have B7 := Lib.hid hb7
                  clear ho7 hb7 C7 C8
                  go_wp2_with fail
                  refine C8b.out.mono ?_
                  rintro e w8 ⟨c8, rfl, ho8, hb8⟩
                  obtain ⟨a8, n8, x8, rfl⟩ := ho8.shape
                  replace I7 := Lib.hid (I7.out.below hb8)
                  have I8 := Lib.hid ho8.read
                  have B8 := Lib.hid (below_seq B7.out hb8)
                  have C9b := Lib.hid (C9.out w8 B8.out)
                  clear ho8 hb8 C8b C9 B7
                  go_wp2_with fail
                  refine C9b.out.mono ?_
                  rintro e w9 ⟨rfl, hb9⟩
                  have B9 := Lib.hid (below_seq B8.out hb9)
                  have W9 := Lib.hid (below_seq B6.out B9.out)
                  have CS := Lib.hid (fun (ln : Nat) w' (hb' : Below w9.heap.size w9 w') => implNumAt _ (addM X Y) ln w' ((I7.out.below hb9).below hb') (addM_lt X Y))
                  have CL := Lib.hid (fun (ln : Nat) w' (hb' : Below w9.heap.size w9 w') => implNumAt _ (minM X Y) ln w' ((I8.out.below hb9).below hb') (minM_lt X Y))
                  have CX2 := Lib.hid (fun (ln : Nat) w' (hb' : Below w9.heap.size w9 w') => CX.out ln w' (below_seq B9.out hb'))
                  have lsl : lessM X Y < 18446744073709551616 := by unfold lessM; split; exact lessL_lt _ _; omega
                  have LT := Lib.hid (fun (l : Nat) (hl : l < 64) => less_at TW.out hl)
                  have AT := Lib.hid (fun (l : Nat) (hl : l < 64) => add_at TW.out hl)
                  have MT := Lib.hid (fun (l : Nat) (hl : l < 64) => minM_get TW.out hl)
                  clear hb9 C9b B8 CX I7 I8 B9
                  generalize lessM X Y = ls at *
                  go_wp2
                  go_loopw [18, 19, 20, 21] (fun i _ _ _ wq => ∃ q : Nat, q ≤ 64 ∧ i = .int .i64 q ∧ Hid (Below w9.heap.size w9 wq)) (fun i _ _ _ _ => 64 - (intOf i).toNat)
                  case atStart => exact ⟨0, by omega, rfl, Lib.hid (Below.refl _ _)⟩
                  case round =>
                    obtain ⟨q, hq, rfl, HB⟩ := hrel
                    by_cases hq64 : q < 64
                    · have N1 := Lib.hid (fun wz (hz : Below w9.heap.size w9 wz) => CX2.out q wz hz)
                      have N2 := Lib.hid (fun wz (hz : Below w9.heap.size w9 wz) => CS.out q wz hz)
                      have N3 := Lib.hid (fun wz (hz : Below w9.heap.size w9 wz) => CL.out q wz hz)
                      have ea := AT.out q hq64
                      have em := MT.out q hq64
                      have el := LT.out q hq64
                      have gx := gX.out q
                      have gy := gY.out q
                      rw [numZ_in (by rw [LX.out]; exact hml) hq64] at N1
                      rw [numZ_in (addM_length X Y) hq64, ea] at N2
                      rw [numZ_in (minM_length X Y) hq64, em] at N3
                      rw [LX.out, ← HY.out] at N2
                      rw [gx] at N1 N2 N3 el
                      rw [gy] at N2 N3 el
                      clear ea em gx gy
                      have pl : atN A.length (natF A) q < 65536 := by
                        by_cases hA : q < A.length
                        · rw [atN_in _ hA]
                          have := natF_lt ALL.out q hA
                          rw [← HY.out] at this
                          omega
                        · rw [atN_out _ hA]; omega
                      have ql : atN Bl.length (cutN y Bl) q < 65536 := by
                        by_cases hB : q < Bl.length
                        · rw [atN_in _ hB]
                          have := cutN_lt y hy0 Bl q
                          omega
                        · rw [atN_out _ hB]; omega
                      have qb := and_bitN ls q lsl
                      have PA : Hid (q < A.length → ∃ b off, aa = some ⟨b, off, none⟩ ∧ wr.cell? ⟨b, off + q, none⟩ = some (.int .i64 ((atN A.length (natF A) q : Nat) : Int))) := Lib.hid (fun hA => by
                        obtain ⟨b, off, e, c⟩ := int_at ((IAW.out.lies.below (below_seq W9.out HB.out)).now) hA
                        refine ⟨b, off, e, ?_⟩
                        rw [c, atN_in _ hA, natF_int]
                        have e2 : A.getD q 0 = A[q] := by simp [List.getD, hA]
                        rw [e2]
                        exact (inB_of.1 (ALL.out q hA)).1)
                      have PB : Hid (q < Bl.length → ∃ b off, ad = some ⟨b, off, none⟩ ∧ wr.cell? ⟨b, off + q, none⟩ = some (.int .i64 ((atN Bl.length (cutN y Bl) q : Nat) : Int))) := Lib.hid (fun hB => by
                        have lw := (lowS.out.lies.below (below_seq W9.out HB.out)).now
                        have ll := intsN_length Bl.length (cutN y Bl)
                        rw [← ll] at lw
                        obtain ⟨b, off, e, c⟩ := int_at (l := intsN Bl.length (cutN y Bl)) (by simpa [ll] using lw) (i := q) (by rw [ll]; exact hB)
                        refine ⟨b, off, e, ?_⟩
                        rw [c, atN_in _ hB]
                        simp [intsN, List.getD, hB])
                      have ZA : Hid (¬ q < A.length → atN A.length (natF A) q = 0) := Lib.hid (fun h => atN_out _ h)
                      have ZB : Hid (¬ q < Bl.length → atN Bl.length (cutN y Bl) q = 0) := Lib.hid (fun h => atN_out _ h)
                      generalize atN A.length (natF A) q = pv at *
                      generalize atN Bl.length (cutN y Bl) q = qv at *
                      have tm : ((pv : Int) + (qv : Int)).tmod (y : Int) = (((pv + qv) % y : Nat) : Int) := by rw [Int.tmod_eq_emod_of_nonneg (by omega)]; simp
                      have svl : (pv + qv) % y < 65536 := Nat.lt_of_lt_of_le (Nat.mod_lt _ hy0) hy
                      generalize (pv + qv) % y = sv at *
                      have hwv : IntKind.i64.wrap (sv : Int) = (sv : Int) := by simp [IntKind.wrap, IntKind.bits, IntKind.signed]; omega
                      have yne : ¬ ((y : Int) = 0) := by omega
                      have yn : ¬ (y = 0) := by omega
                      have f1 : ((pv : Int) != (pv : Int)) = false := by simp
                      have f2 : ((sv : Int) != (sv : Int)) = false := by simp
                      have hws : IntKind.i64.wrap ((pv : Int) + (qv : Int)) = (pv : Int) + (qv : Int) := by simp [IntKind.wrap, IntKind.bits, IntKind.signed]; omega
                      rw [el] at qb
                      by_cases hA : q < A.length
                      · obtain ⟨bA, oA, rfl, cA⟩ := PA.out hA
                        by_cases hB : q < Bl.length
                        · obtain ⟨bB, oB, rfl, cB⟩ := PB.out hB
                          clear PA PB ZA ZB
                          rcases Nat.lt_trichotomy pv qv with hpq | hpq | hpq
                          · have mn : min pv qv = pv := by omega
                            rw [mn] at N3
                            have dl : decide (pv < qv) = true := by rw [decide_eq_true_iff]; omega
                            rw [dl] at qb
                            have f3 : decide ((pv : Int) < (qv : Int)) = true := by rw [decide_eq_true_iff]; omega
                            have hle : (pv : Int) < (qv : Int) := by omega
                            have M1 : Hid (∀ n, Calls Try.prog 31 #[.slice a5 j x5, .int .i64 q] (wr.drewN n) fun e w' => e = .returned (.int .i64 (pv : Int)) ∧ w' = wr.drewN n) := Lib.hid (fun n => (N1.out _ (below_seq HB.out (belowN n))).mono fun e w' h => ⟨h.1, h.2.symm⟩)
                            have M2 : Hid (∀ n, Calls Try.prog 31 #[.slice a7 n7 x7, .int .i64 q] (wr.drewN n) fun e w' => e = .returned (.int .i64 (sv : Int)) ∧ w' = wr.drewN n) := Lib.hid (fun n => (N2.out _ (below_seq HB.out (belowN n))).mono fun e w' h => ⟨h.1, h.2.symm⟩)
                            have M3 : Hid (∀ n, Calls Try.prog 31 #[.slice a8 n8 x8, .int .i64 q] (wr.drewN n) fun e w' => e = .returned (.int .i64 (pv : Int)) ∧ w' = wr.drewN n) := Lib.hid (fun n => (N3.out _ (below_seq HB.out (belowN n))).mono fun e w' h => ⟨h.1, h.2.symm⟩)
                            have N1x := N1
                            clear mn dl el N1x
                            simp only [Bool.toNat_true] at qb
                            go_wp2
                            go_quiet ((go_at_call 31; first | (with_reducible exact Calls.quiet_of_same (M1.out _)) | (with_reducible exact Calls.quiet_of_same (M2.out _)) | (with_reducible exact Calls.quiet_of_same (M3.out _))))
                            go_wp2
                            go_roundw
                            case rel => exact ⟨q + 1, by omega, by go_num, Lib.hid (below_seq HB.out (belowN _))⟩
                            case measure => simp [intOf]; omega
                          · subst hpq
                            have mn : min pv pv = pv := Nat.min_self _
                            rw [mn] at N3
                            have dl : decide (pv < pv) = false := by rw [decide_eq_false_iff_not]; omega
                            rw [dl] at qb
                            have f3 : decide (((pv : Int)) < ((pv : Int))) = false := by rw [decide_eq_false_iff_not]; omega
                            have M1 : Hid (∀ n, Calls Try.prog 31 #[.slice a5 j x5, .int .i64 q] (wr.drewN n) fun e w' => e = .returned (.int .i64 (pv : Int)) ∧ w' = wr.drewN n) := Lib.hid (fun n => (N1.out _ (below_seq HB.out (belowN n))).mono fun e w' h => ⟨h.1, h.2.symm⟩)
                            have M2 : Hid (∀ n, Calls Try.prog 31 #[.slice a7 n7 x7, .int .i64 q] (wr.drewN n) fun e w' => e = .returned (.int .i64 (sv : Int)) ∧ w' = wr.drewN n) := Lib.hid (fun n => (N2.out _ (below_seq HB.out (belowN n))).mono fun e w' h => ⟨h.1, h.2.symm⟩)
                            have M3 : Hid (∀ n, Calls Try.prog 31 #[.slice a8 n8 x8, .int .i64 q] (wr.drewN n) fun e w' => e = .returned (.int .i64 (pv : Int)) ∧ w' = wr.drewN n) := Lib.hid (fun n => (N3.out _ (below_seq HB.out (belowN n))).mono fun e w' h => ⟨h.1, h.2.symm⟩)
                            have N1x := N1
                            clear mn dl el N1x
                            simp only [Bool.toNat_false] at qb
                            go_wp2
                            go_quiet ((go_at_call 31; first | (with_reducible exact Calls.quiet_of_same (M1.out _)) | (with_reducible exact Calls.quiet_of_same (M2.out _)) | (with_reducible exact Calls.quiet_of_same (M3.out _))))
                            go_wp2
                            go_roundw
                            case rel => exact ⟨q + 1, by omega, by go_num, Lib.hid (below_seq HB.out (belowN _))⟩
                            case measure => simp [intOf]; omega
                          · have mn : min pv qv = qv := by omega
                            rw [mn] at N3
                            have dl : decide (pv < qv) = false := by rw [decide_eq_false_iff_not]; omega
                            rw [dl] at qb
                            have f4 : ((qv : Int) != (qv : Int)) = false := by simp
                            have f3 : decide ((pv : Int) < (qv : Int)) = false := by rw [decide_eq_false_iff_not]; omega
                            have hle : (qv : Int) < (pv : Int) := by omega
                            have M1 : Hid (∀ n, Calls Try.prog 31 #[.slice a5 j x5, .int .i64 q] (wr.drewN n) fun e w' => e = .returned (.int .i64 (pv : Int)) ∧ w' = wr.drewN n) := Lib.hid (fun n => (N1.out _ (below_seq HB.out (belowN n))).mono fun e w' h => ⟨h.1, h.2.symm⟩)
                            have M2 : Hid (∀ n, Calls Try.prog 31 #[.slice a7 n7 x7, .int .i64 q] (wr.drewN n) fun e w' => e = .returned (.int .i64 (sv : Int)) ∧ w' = wr.drewN n) := Lib.hid (fun n => (N2.out _ (below_seq HB.out (belowN n))).mono fun e w' h => ⟨h.1, h.2.symm⟩)
                            have M3 : Hid (∀ n, Calls Try.prog 31 #[.slice a8 n8 x8, .int .i64 q] (wr.drewN n) fun e w' => e = .returned (.int .i64 (qv : Int)) ∧ w' = wr.drewN n) := Lib.hid (fun n => (N3.out _ (below_seq HB.out (belowN n))).mono fun e w' h => ⟨h.1, h.2.symm⟩)
                            have N1x := N1
                            clear mn dl el N1x
                            simp only [Bool.toNat_false] at qb
                            go_wp2
                            go_quiet ((go_at_call 31; first | (with_reducible exact Calls.quiet_of_same (M1.out _)) | (with_reducible exact Calls.quiet_of_same (M2.out _)) | (with_reducible exact Calls.quiet_of_same (M3.out _))))
                            go_wp2
                            go_roundw
                            case rel => exact ⟨q + 1, by omega, by go_num, Lib.hid (below_seq HB.out (belowN _))⟩
                            case measure => simp [intOf]; omega
                        · have zB := ZB.out hB
                          subst zB
                          clear PA PB ZA ZB
                          by_cases hpq : pv = 0
                          · subst hpq
                            replace cA : wr.cell? ⟨bA, oA + q, none⟩ = some (.int .i64 0) := cA
                            have mn : min 0 0 = 0 := by omega
                            rw [mn] at N3
                            have dl : decide (0 < 0) = false := by rw [decide_eq_false_iff_not]; omega
                            rw [dl] at qb
                            have zs : sv = 0 := by
                              have h := tm
                              simp at h
                              omega
                            subst zs
                            clear tm hws hwv f1 f2
                            have tm : (0 : Int).tmod (y : Int) = 0 := by simp
                            have M1 : Hid (∀ n, Calls Try.prog 31 #[.slice a5 j x5, .int .i64 q] (wr.drewN n) fun e w' => e = .returned (.int .i64 (0 : Int)) ∧ w' = wr.drewN n) := Lib.hid (fun n => (N1.out _ (below_seq HB.out (belowN n))).mono fun e w' h => ⟨h.1, h.2.symm⟩)
                            have M2 : Hid (∀ n, Calls Try.prog 31 #[.slice a7 n7 x7, .int .i64 q] (wr.drewN n) fun e w' => e = .returned (.int .i64 (0 : Int)) ∧ w' = wr.drewN n) := Lib.hid (fun n => (N2.out _ (below_seq HB.out (belowN n))).mono fun e w' h => ⟨h.1, h.2.symm⟩)
                            have M3 : Hid (∀ n, Calls Try.prog 31 #[.slice a8 n8 x8, .int .i64 q] (wr.drewN n) fun e w' => e = .returned (.int .i64 (0 : Int)) ∧ w' = wr.drewN n) := Lib.hid (fun n => (N3.out _ (below_seq HB.out (belowN n))).mono fun e w' h => ⟨h.1, h.2.symm⟩)
                            have N1x := N1
                            clear mn dl el N1x
                            simp only [Bool.toNat_false] at qb
                            go_wp2
                            go_quiet ((go_at_call 31; first | (with_reducible exact Calls.quiet_of_same (M1.out _)) | (with_reducible exact Calls.quiet_of_same (M2.out _)) | (with_reducible exact Calls.quiet_of_same (M3.out _))))
                            go_wp2
                            go_roundw
                            case rel => exact ⟨q + 1, by omega, by go_num, Lib.hid (below_seq HB.out (belowN _))⟩
                            case measure => simp [intOf]; omega
                          · have mn : min pv 0 = 0 := by omega
                            rw [mn] at N3
                            have dl : decide (pv < 0) = false := by rw [decide_eq_false_iff_not]; omega
                            rw [dl] at qb
                            have tm1 : ((pv : Int) + (0 : Int)).tmod (y : Int) = (sv : Int) := by simpa using tm
                            have tm2 : (pv : Int).tmod (y : Int) = (sv : Int) := by simpa using tm
                            have hw1 : IntKind.i64.wrap ((pv : Int) + (0 : Int)) = (pv : Int) := by simpa using hws
                            have hw2 : IntKind.i64.wrap (pv : Int) = (pv : Int) := by simpa using hws
                            clear tm hws f1
                            have f1 : ((pv : Int) != (pv : Int)) = false := by simp
                            have f3 : decide ((pv : Int) < (0 : Int)) = false := by rw [decide_eq_false_iff_not]; omega
                            have hle : (0 : Int) < (pv : Int) := by omega
                            have M1 : Hid (∀ n, Calls Try.prog 31 #[.slice a5 j x5, .int .i64 q] (wr.drewN n) fun e w' => e = .returned (.int .i64 (pv : Int)) ∧ w' = wr.drewN n) := Lib.hid (fun n => (N1.out _ (below_seq HB.out (belowN n))).mono fun e w' h => ⟨h.1, h.2.symm⟩)
                            have M2 : Hid (∀ n, Calls Try.prog 31 #[.slice a7 n7 x7, .int .i64 q] (wr.drewN n) fun e w' => e = .returned (.int .i64 (sv : Int)) ∧ w' = wr.drewN n) := Lib.hid (fun n => (N2.out _ (below_seq HB.out (belowN n))).mono fun e w' h => ⟨h.1, h.2.symm⟩)
                            have M3 : Hid (∀ n, Calls Try.prog 31 #[.slice a8 n8 x8, .int .i64 q] (wr.drewN n) fun e w' => e = .returned (.int .i64 (0 : Int)) ∧ w' = wr.drewN n) := Lib.hid (fun n => (N3.out _ (below_seq HB.out (belowN n))).mono fun e w' h => ⟨h.1, h.2.symm⟩)
                            have N1x := N1
                            clear mn dl el N1x
                            simp only [Bool.toNat_false] at qb
                            go_wp2
                            go_quiet ((go_at_call 31; first | (with_reducible exact Calls.quiet_of_same (M1.out _)) | (with_reducible exact Calls.quiet_of_same (M2.out _)) | (with_reducible exact Calls.quiet_of_same (M3.out _))))
                            go_wp2
                            go_roundw
                            case rel => exact ⟨q + 1, by omega, by go_num, Lib.hid (below_seq HB.out (belowN _))⟩
                            case measure => simp [intOf]; omega
                      · have zA := ZA.out hA
                        subst zA
                        by_cases hB : q < Bl.length
                        · obtain ⟨bB, oB, rfl, cB⟩ := PB.out hB
                          clear PA PB ZA ZB
                          by_cases hpq : qv = 0
                          · subst hpq
                            replace cB : wr.cell? ⟨bB, oB + q, none⟩ = some (.int .i64 0) := cB
                            have mn : min 0 0 = 0 := by omega
                            rw [mn] at N3
                            have dl : decide (0 < 0) = false := by rw [decide_eq_false_iff_not]; omega
                            rw [dl] at qb
                            have zs : sv = 0 := by
                              have h := tm
                              simp at h
                              omega
                            subst zs
                            clear tm hws hwv f1 f2
                            have tm : (0 : Int).tmod (y : Int) = 0 := by simp
                            have M1 : Hid (∀ n, Calls Try.prog 31 #[.slice a5 j x5, .int .i64 q] (wr.drewN n) fun e w' => e = .returned (.int .i64 (0 : Int)) ∧ w' = wr.drewN n) := Lib.hid (fun n => (N1.out _ (below_seq HB.out (belowN n))).mono fun e w' h => ⟨h.1, h.2.symm⟩)
                            have M2 : Hid (∀ n, Calls Try.prog 31 #[.slice a7 n7 x7, .int .i64 q] (wr.drewN n) fun e w' => e = .returned (.int .i64 (0 : Int)) ∧ w' = wr.drewN n) := Lib.hid (fun n => (N2.out _ (below_seq HB.out (belowN n))).mono fun e w' h => ⟨h.1, h.2.symm⟩)
                            have M3 : Hid (∀ n, Calls Try.prog 31 #[.slice a8 n8 x8, .int .i64 q] (wr.drewN n) fun e w' => e = .returned (.int .i64 (0 : Int)) ∧ w' = wr.drewN n) := Lib.hid (fun n => (N3.out _ (below_seq HB.out (belowN n))).mono fun e w' h => ⟨h.1, h.2.symm⟩)
                            have N1x := N1
                            clear mn dl el N1x
                            simp only [Bool.toNat_false] at qb
                            go_wp2
                            go_quiet ((go_at_call 31; first | (with_reducible exact Calls.quiet_of_same (M1.out _)) | (with_reducible exact Calls.quiet_of_same (M2.out _)) | (with_reducible exact Calls.quiet_of_same (M3.out _))))
                            go_wp2
                            go_roundw
                            case rel => exact ⟨q + 1, by omega, by go_num, Lib.hid (below_seq HB.out (belowN _))⟩
                            case measure => simp [intOf]; omega
                          · have mn : min 0 qv = 0 := by omega
                            rw [mn] at N3
                            have dl : decide (0 < qv) = true := by rw [decide_eq_true_iff]; omega
                            rw [dl] at qb
                            have tm1 : ((0 : Int) + (qv : Int)).tmod (y : Int) = (sv : Int) := by simpa using tm
                            have tm2 : (qv : Int).tmod (y : Int) = (sv : Int) := by simpa using tm
                            have hw1 : IntKind.i64.wrap ((0 : Int) + (qv : Int)) = (qv : Int) := by simpa using hws
                            have hw2 : IntKind.i64.wrap (qv : Int) = (qv : Int) := by simpa using hws
                            clear tm hws f1
                            have f3 : decide ((0 : Int) < (qv : Int)) = true := by rw [decide_eq_true_iff]; omega
                            have hle : (0 : Int) < (qv : Int) := by omega
                            have hps : 0 < qv := by omega
                            have f5 : (!decide (0 < qv)) = false := by rw [decide_eq_true hps]; rfl
                            have M1 : Hid (∀ n, Calls Try.prog 31 #[.slice a5 j x5, .int .i64 q] (wr.drewN n) fun e w' => e = .returned (.int .i64 (0 : Int)) ∧ w' = wr.drewN n) := Lib.hid (fun n => (N1.out _ (below_seq HB.out (belowN n))).mono fun e w' h => ⟨h.1, h.2.symm⟩)
                            have M2 : Hid (∀ n, Calls Try.prog 31 #[.slice a7 n7 x7, .int .i64 q] (wr.drewN n) fun e w' => e = .returned (.int .i64 (sv : Int)) ∧ w' = wr.drewN n) := Lib.hid (fun n => (N2.out _ (below_seq HB.out (belowN n))).mono fun e w' h => ⟨h.1, h.2.symm⟩)
                            have M3 : Hid (∀ n, Calls Try.prog 31 #[.slice a8 n8 x8, .int .i64 q] (wr.drewN n) fun e w' => e = .returned (.int .i64 (0 : Int)) ∧ w' = wr.drewN n) := Lib.hid (fun n => (N3.out _ (below_seq HB.out (belowN n))).mono fun e w' h => ⟨h.1, h.2.symm⟩)
                            have N1x := N1
                            clear mn dl el N1x
                            simp only [Bool.toNat_true] at qb
                            go_wp2
                            go_quiet ((go_at_call 31; first | (with_reducible exact Calls.quiet_of_same (M1.out _)) | (with_reducible exact Calls.quiet_of_same (M2.out _)) | (with_reducible exact Calls.quiet_of_same (M3.out _))))
                            go_wp2
                            go_roundw
                            case rel => exact ⟨q + 1, by omega, by go_num, Lib.hid (below_seq HB.out (belowN _))⟩
                            case measure => simp [intOf]; omega
                        · have zB := ZB.out hB
                          subst zB
                          clear PA PB ZA ZB
                          have mn : min 0 0 = 0 := by omega
                          rw [mn] at N3
                          have dl : decide (0 < 0) = false := by rw [decide_eq_false_iff_not]; omega
                          rw [dl] at qb
                          have zs : sv = 0 := by
                            have h := tm
                            simp at h
                            omega
                          subst zs
                          clear tm hws hwv f1 f2
                          have tm : (0 : Int).tmod (y : Int) = 0 := by simp
                          have M1 : Hid (∀ n, Calls Try.prog 31 #[.slice a5 j x5, .int .i64 q] (wr.drewN n) fun e w' => e = .returned (.int .i64 (0 : Int)) ∧ w' = wr.drewN n) := Lib.hid (fun n => (N1.out _ (below_seq HB.out (belowN n))).mono fun e w' h => ⟨h.1, h.2.symm⟩)
                          have M2 : Hid (∀ n, Calls Try.prog 31 #[.slice a7 n7 x7, .int .i64 q] (wr.drewN n) fun e w' => e = .returned (.int .i64 (0 : Int)) ∧ w' = wr.drewN n) := Lib.hid (fun n => (N2.out _ (below_seq HB.out (belowN n))).mono fun e w' h => ⟨h.1, h.2.symm⟩)
                          have M3 : Hid (∀ n, Calls Try.prog 31 #[.slice a8 n8 x8, .int .i64 q] (wr.drewN n) fun e w' => e = .returned (.int .i64 (0 : Int)) ∧ w' = wr.drewN n) := Lib.hid (fun n => (N3.out _ (below_seq HB.out (belowN n))).mono fun e w' h => ⟨h.1, h.2.symm⟩)
                          have N1x := N1
                          clear mn dl el N1x
                          simp only [Bool.toNat_false] at qb
                          go_wp2
                          go_quiet ((go_at_call 31; first | (with_reducible exact Calls.quiet_of_same (M1.out _)) | (with_reducible exact Calls.quiet_of_same (M2.out _)) | (with_reducible exact Calls.quiet_of_same (M3.out _))))
                          go_wp2
                          go_roundw
                          case rel => exact ⟨q + 1, by omega, by go_num, Lib.hid (below_seq HB.out (belowN _))⟩
                          case measure => simp [intOf]; omega
                    · have hq' : q = 64 := by omega
                      subst hq'
                      go_wp2
                      go_ret
                      exact ⟨rfl, below_seq BW.out (below_seq W9.out HB.out)⟩
    all_goals
      first
        | (have e1 : ((ml : Int) != k) = true := (by simp; omega))
        | (have e1 : ((ml : Int) != k) = false := (by simp; omega))
      clear HNO
      go_wp2_with fail
      refine NI.out.mono ?_
      rintro e w5 ⟨c5, rfl, ho5, hb5⟩
      obtain ⟨a5, x5, rfl, _, _, _⟩ := uint64SIn_shape ho5.read
      have NS5 := Lib.hid (NS.out w5 hb5)
      have B5 := Lib.hid (below_seq B4.out hb5)
      clear ho5 hb5 NI NS
      rw [HML.out]
      go_wp2_with fail
      refine NS5.out.mono ?_
      rintro e w6 ⟨c6, rfl, ho6, hb6⟩
      obtain ⟨a6, x6, rfl, _, _, _⟩ := uint64SIn_shape ho6.read
      rw [HML.out]
      have e2 : ((ml : Int) == (ml : Int)) = true := by simp
      have B6 := Lib.hid (below_seq B5.out hb6)
      clear ho6 hb6 NS5
      go_wp2
      go_ret
      exact ⟨by simp, B6.out⟩
  · subst hc
    obtain ⟨rfl, rfl⟩ := K2.out rfl
    have e0 : l.length - cap0 = 0 := (by omega)
    rw [e0] at D2
    clear e0
    clear K1 K2
    go_wp2_with fail
    refine (D2.out _ B2.out).mono ?_
    rintro e w3 ⟨cb, Bl, kb, rfl, ib, lb, rb, rkb, hb3⟩
    obtain ⟨ab, xb, rfl, _, _, _⟩ := intSIn_shape ib
    replace IA := Lib.hid ((IA.out.lies.below hb3).now)
    have IB := Lib.hid ib
    have B3 := Lib.hid (below_seq B2.out hb3)
    have RB := Lib.hid rb
    clear ib hb3 rb D2 B2 td
    have NS := Lib.hid (specNumsOf _ A k w3 IA.out)
    go_wp2_with fail
    refine NS.out.mono ?_
    rintro e w4 ⟨c4, rfl, ho4, hb4⟩
    obtain ⟨a4, x4, rfl, _, _, _⟩ := uint64SIn_shape ho4.read
    replace IA := Lib.hid ((IA.out.lies.below hb4).now)
    replace IB := Lib.hid ((IB.out.lies.below hb4).now)
    have B4 := Lib.hid (below_seq B3.out hb4)
    clear ho4 hb4 NS B3
    have hml := numsM_length A k
    have HNO := Lib.hid (fun (hA : 64 < A.length) => nums_no (l := A) (k := k) (.inl hA))
    have NI := Lib.hid (implNumsOf _ A k w4 IA.out)
    have NS := Lib.hid (fun w' (hb' : Below w4.heap.size w4 w') => specNumsOf _ A k w' ((IA.out.lies.below hb').now))
    obtain ⟨ml, hml2⟩ : ∃ ml, (numsM A k).length = ml := ⟨_, rfl⟩
    have HML := Lib.hid hml2
    rw [hml2] at hml ⊢
    clear hml2
    have cases4 : (¬ (ml : Int) = k) ∨ ((ml : Int) = k ∧ 64 < Bl.length) ∨ ((ml : Int) = k ∧ ¬ 64 < Bl.length ∧ 64 < A.length) ∨ ((ml : Int) = k ∧ ¬ 64 < Bl.length ∧ ¬ 64 < A.length) := by omega
    rcases cases4 with d1 | ⟨d1, d2⟩ | ⟨d1, d2, d3⟩ | ⟨d1, d2, d3⟩
    rotate_left 3
    · subst d1
      have e1 : ((ml : Int) != (ml : Int)) = false := by simp
      have NB := Lib.hid (fun i (hi : i < A.length) hB => nums_bad (l := A) (k := ml) (i := i) hi hB)
      have NA := Lib.hid (nums_all (l := A) (k := ml) (by omega) hml)
      clear HNO NS
      go_wp2
      go_loop [7, 8] (fun tv i => ∃ j y : Nat, j ≤ ml ∧ i = .int .i64 j ∧ tv = .int .i64 (y : Int) ∧ Hid (y = 2 ^ j)) (fun _ i => ml - (intOf i).toNat)
      case atStart => exact ⟨0, 1, Nat.zero_le _, rfl, rfl, Lib.hid rfl⟩
      case round =>
        obtain ⟨j, y, hj, rfl, rfl, HY⟩ := hrel
        have hy : y ≤ 65536 := by rw [HY.out]; exact pow_le16 (by omega)
        by_cases hlt : j < ml
        · have HY2 : Hid (2 * y = 2 ^ (j + 1)) := Lib.hid (by rw [HY.out, Nat.pow_succ, Nat.mul_comm])
          go_wp2
          go_round
          case rel => exact ⟨j + 1, 2 * y, by omega, by go_num, by go_num, HY2⟩
          case measure => simp [intOf]; omega
        · have hj' : j = ml := by omega
          subst hj'
          have hy0 : 0 < y := by rw [HY.out]; exact Nat.pow_pos (by omega)
          have IN : Hid (∀ z : Int, inB j z = true ↔ 0 ≤ z ∧ z < (y : Int)) := Lib.hid (fun z => by rw [inB_of, HY.out]; simp)
          go_wp2
          go_loop [9] (fun i => ∃ q : Nat, q ≤ A.length ∧ i = .int .i64 q ∧ Hid (∀ i (hi : i < A.length), i < q → inB j A[i] = true)) (fun i => A.length - (intOf i).toNat)
          case atStart => exact ⟨0, Nat.zero_le _, rfl, Lib.hid (fun i _ h => absurd h (Nat.not_lt_zero _))⟩
          case round =>
            obtain ⟨q, hq, rfl, HQ⟩ := hrel
            by_cases hqa : q < A.length
            · obtain ⟨bA, oA, rfl, cA⟩ := int_at IA.out hqa
              have egd : A.getD q 0 = A[q] := by simp [List.getD, hqa]
              rw [egd] at cA
              have BAD := Lib.hid (NB.out q hqa)
              have inz := IN.out A[q]
              have HQ2 : Hid (inB j A[q] = true → ∀ i (hi : i < A.length), i < q + 1 → inB j A[i] = true) := Lib.hid (fun hB i hi h => by
                by_cases e : i = q
                · subst e; exact hB
                · exact HQ.out i hi (by omega))
              clear egd
              generalize A[q] = z at *
              by_cases z0 : z < 0
              · have N0 : Hid (numsM A j = []) := Lib.hid (BAD.out (by rw [Bool.eq_false_iff]; intro c; have := inz.1 c; omega))
                rw [N0.out] at NI
                clear inz BAD HQ2 N0
                go_wp2_with fail
                refine NI.out.mono ?_
                rintro e w5 ⟨c5, rfl, ho5, hb5⟩
                obtain ⟨a5, x5, rfl, _, _, _⟩ := uint64SIn_shape ho5.read
                have B5 := Lib.hid (below_seq B4.out hb5)
                clear ho5 hb5 NI
                go_wp2
                go_ret
                exact ⟨by simp, B5.out⟩
              by_cases z1 : (y : Int) ≤ z
              · have N0 : Hid (numsM A j = []) := Lib.hid (BAD.out (by rw [Bool.eq_false_iff]; intro c; have := inz.1 c; omega))
                rw [N0.out] at NI
                clear inz BAD HQ2 N0
                go_wp2_with fail
                refine NI.out.mono ?_
                rintro e w5 ⟨c5, rfl, ho5, hb5⟩
                obtain ⟨a5, x5, rfl, _, _, _⟩ := uint64SIn_shape ho5.read
                have B5 := Lib.hid (below_seq B4.out hb5)
                clear ho5 hb5 NI
                go_wp2
                go_ret
                exact ⟨by simp, B5.out⟩
              have HQ3 := Lib.hid (HQ2.out (inz.2 (by omega)))
              clear inz BAD HQ2
              go_wp2
              go_round
              case rel => exact ⟨q + 1, by omega, by go_num, HQ3⟩
              case measure => simp [intOf]; omega
            · have ALL : Hid (∀ i (hi : i < A.length), inB j A[i] = true) := Lib.hid (fun i hi => HQ.out i hi (by omega))
              have hq' : q = A.length := by omega
              subst hq'
              clear HQ NB
              have A0 : Hid ((w4.alloc (.cells #[] 3)).ownsRow w4.heap.size 3 1 (.slice (some ⟨w4.heap.size, 0, none⟩) 0 0) 0 ((intsN 0 (cutN y Bl)).map ival) ∧ Below w4.heap.size w4 (w4.alloc (.cells #[] 3))) := Lib.hid ⟨nil_ints w4, below_box (Below.refl _ _) _⟩
              go_wp2
              go_loopw [10, 11, 12] (fun o i _ wr => ∃ (q c : Nat) (ad : Option Addr), q ≤ Bl.length ∧ i = .int .i64 q ∧ o = .slice ad q c ∧ Hid (wr.ownsRow w4.heap.size 3 1 (.slice ad q c) q ((intsN q (cutN y Bl)).map ival) ∧ Below w4.heap.size w4 wr)) (fun _ i _ _ => Bl.length - (intOf i).toNat)
              case atStart => exact ⟨0, 0, _, Nat.zero_le _, rfl, rfl, A0⟩
              case round =>
                clear A0
                obtain ⟨q, c, ad, hq, rfl, rfl, H⟩ := hrel
                by_cases hqb : q < Bl.length
                · obtain ⟨bB, oB, rfl, cB⟩ := int_at ((IB.out.lies.below H.out.2).now) hqb
                  have SN := Lib.hid (intsN_snoc q (cutN y Bl))
                  have ci := cutN_int hy0 Bl q
                  have cl := cutN_lt y hy0 Bl q
                  obtain ⟨t1, t2⟩ := tmod_range (Bl.getD q 0) hy0
                  obtain ⟨t3, t4⟩ := tmod_mod (Bl.getD q 0) hy0
                  rw [← ci] at t3 t4
                  clear ci
                  generalize Bl.getD q 0 = z at *
                  generalize cutN y Bl q = v at *
                  obtain ⟨n, hn⟩ : ∃ n : Int, z.tmod (y : Int) = n := ⟨_, rfl⟩
                  rw [hn] at t1 t2 t3 t4
                  have hsz := H.out.2.size
                  have yne : ¬ ((y : Int) = 0) := by omega
                  by_cases n0 : n < 0
                  · have e5 : n + (y : Int) = (v : Int) := by have := t4 n0; omega
                    clear t3 t4
                    go_wp2_with (at_builtin; go_must (refine wp_app_row rfl _ _ 36 rfl 3 (.int .i64 0) 8 Try.underlying36 Try.info3 rfl w4.heap.size q (.slice ad q c) _ (by rfl) (H.out.1.alloc _) (some ⟨wr.heap.size, 0, none⟩) 1 1 [.int .i64 v] (by rfl) rfl (row_one wr (.int .i64 v) 3) (by simp [Value.oneCell']) (by unfold maxLen; omega) (by omega) (by simp; omega) ?_); intro v3 w5 ho3 hg3; rw [← SN.out] at ho3; have F3 := Lib.hid (And.intro ho3 (app_below H.out.2 H.out.1 _ hg3)); obtain ⟨a5, c5, rfl⟩ := own_shape ho3; clear ho3 hg3)
                    go_roundw
                    case rel => exact ⟨q + 1, c5, a5, by omega, by go_num, rfl, F3⟩
                    case measure => simp [intOf]; omega
                  · have e5 : n = (v : Int) := by have := t3 (by omega); omega
                    subst e5
                    clear t3 t4
                    go_wp2_with (at_builtin; go_must (refine wp_app_row rfl _ _ 36 rfl 3 (.int .i64 0) 8 Try.underlying36 Try.info3 rfl w4.heap.size q (.slice ad q c) _ (by rfl) (H.out.1.alloc _) (some ⟨wr.heap.size, 0, none⟩) 1 1 [.int .i64 v] (by rfl) rfl (row_one wr (.int .i64 v) 3) (by simp [Value.oneCell']) (by unfold maxLen; omega) (by omega) (by simp; omega) ?_); intro v3 w5 ho3 hg3; rw [← SN.out] at ho3; have F3 := Lib.hid (And.intro ho3 (app_below H.out.2 H.out.1 _ hg3)); obtain ⟨a5, c5, rfl⟩ := own_shape ho3; clear ho3 hg3)
                    go_roundw
                    case rel => exact ⟨q + 1, c5, a5, by omega, by go_num, rfl, F3⟩
                    case measure => simp [intOf]; omega
                · have hq' : q = Bl.length := by omega
                  subst hq'
                  have lowS := Lib.hid (IntSOwn.mk H.out.1).read
                  have BW := Lib.hid (below_seq B4.out H.out.2)
                  have IAW := Lib.hid ((IA.out.lies.below H.out.2).now)
                  have XE : Hid (numsM A j = putN (listN A.length (natF A)) j) := Lib.hid (by rw [NA.out ALL.out, map_natF])
                  have YE : Hid (numsM (intsN Bl.length (cutN y Bl)) j = putN (listN Bl.length (cutN y Bl)) j) := Lib.hid (nums_ints (by omega) hml (fun i _ => by rw [← HY.out]; exact cutN_lt y hy0 Bl i))
                  have gX : Hid (∀ l, getN (numsM A j) l = atN A.length (natF A) l) := Lib.hid (fun l => by rw [XE.out]; exact put_at (natF_lt ALL.out))
                  have gY : Hid (∀ l, getN (numsM (intsN Bl.length (cutN y Bl)) j) l = atN Bl.length (cutN y Bl) l) := Lib.hid (fun l => by rw [YE.out]; exact put_at (fun i _ => by rw [← HY.out]; exact cutN_lt y hy0 Bl i))
                  have LX : Hid ((numsM A j).length = j) := Lib.hid (by rw [XE.out, putN_length])
                  have LY : Hid ((numsM (intsN Bl.length (cutN y Bl)) j).length = j) := Lib.hid (by rw [YE.out, putN_length])
                  have bX : Hid (bd64 (numsM A j)) := Lib.hid (numsM_lt _ _)
                  have bY : Hid (bd64 (numsM (intsN Bl.length (cutN y Bl)) j)) := Lib.hid (numsM_lt _ _)
                  have NI5 := Lib.hid (implNumsOf _ A j wr IAW.out)
                  have NI6 := Lib.hid (fun w' (hb' : Below wr.heap.size wr w') => implNumsOf _ (intsN Bl.length (cutN y Bl)) j w' ((lowS.out.lies.below hb').now))
                  clear NI NA XE YE IA IB B4 H HML
                  generalize numsM A j = X at *
                  generalize numsM (intsN Bl.length (cutN y Bl)) j = Y at *
                  go_wp2_with fail
                  refine NI5.out.mono ?_
                  rintro e w5 ⟨c5, rfl, ho5, hb5⟩
                  obtain ⟨a5, x5, rfl, _, _, _⟩ := uint64SIn_shape ho5.read
                  have I5 := Lib.hid ho5.read
                  have C6 := Lib.hid (NI6.out w5 hb5)
                  have B5 := Lib.hid hb5
                  clear ho5 hb5 NI5 NI6
                  go_wp2_with fail
                  refine C6.out.mono ?_
                  rintro e w6 ⟨c6, rfl, ho6, hb6⟩
                  obtain ⟨a6, x6, rfl, _, _, _⟩ := uint64SIn_shape ho6.read
                  replace I5 := Lib.hid (I5.out.below hb6)
                  have I6 := Lib.hid ho6.read
                  have B6 := Lib.hid (below_seq B5.out hb6)
                  clear ho6 hb6 C6 B5
                  have C7 := Lib.hid (implNumsAdd _ _ X Y w6 I5.out I6.out bX.out bY.out)
                  have C8 := Lib.hid (fun w' (hb' : Below w6.heap.size w6 w') => implNumsMin _ _ X Y w' (I5.out.below hb') (I6.out.below hb') bX.out bY.out)
                  have C9 := Lib.hid (fun w' (hb' : Below w6.heap.size w6 w') => implNumsLess _ _ X Y w' (I5.out.below hb') (I6.out.below hb') bX.out bY.out)
                  have CX := Lib.hid (fun (ln : Nat) w' (hb' : Below w6.heap.size w6 w') => implNumAt _ X ln w' (I5.out.below hb') bX.out)
                  have tw : twinsB X Y = true := twins_iff.2 ⟨by rw [LX.out, LY.out], by rw [LX.out]; exact hml⟩
                  have TW := Lib.hid tw
                  rw [LX.out] at C7 C8 C9 CX
                  rw [LY.out] at C7 C8 C9
                  rw [LX.out, LY.out]
                  clear tw I5 I6
                  go_wp2_with fail
                  refine C7.out.mono ?_
                  rintro e w7 ⟨c7, rfl, ho7, hb7⟩
                  obtain ⟨a7, n7, x7, rfl⟩ := ho7.shape
                  have I7 := Lib.hid ho7.read
                  have C8b := Lib.hid (C8.out w7 hb7)
                  have B7 := Lib.hid hb7
                  clear ho7 hb7 C7 C8
                  go_wp2_with fail
                  refine C8b.out.mono ?_
                  rintro e w8 ⟨c8, rfl, ho8, hb8⟩
                  obtain ⟨a8, n8, x8, rfl⟩ := ho8.shape
                  replace I7 := Lib.hid (I7.out.below hb8)
                  have I8 := Lib.hid ho8.read
                  have B8 := Lib.hid (below_seq B7.out hb8)
                  have C9b := Lib.hid (C9.out w8 B8.out)
                  clear ho8 hb8 C8b C9 B7
                  go_wp2_with fail
                  refine C9b.out.mono ?_
                  rintro e w9 ⟨rfl, hb9⟩
                  have B9 := Lib.hid (below_seq B8.out hb9)
                  have W9 := Lib.hid (below_seq B6.out B9.out)
                  have CS := Lib.hid (fun (ln : Nat) w' (hb' : Below w9.heap.size w9 w') => implNumAt _ (addM X Y) ln w' ((I7.out.below hb9).below hb') (addM_lt X Y))
                  have CL := Lib.hid (fun (ln : Nat) w' (hb' : Below w9.heap.size w9 w') => implNumAt _ (minM X Y) ln w' ((I8.out.below hb9).below hb') (minM_lt X Y))
                  have CX2 := Lib.hid (fun (ln : Nat) w' (hb' : Below w9.heap.size w9 w') => CX.out ln w' (below_seq B9.out hb'))
                  have lsl : lessM X Y < 18446744073709551616 := by unfold lessM; split; exact lessL_lt _ _; omega
                  have LT := Lib.hid (fun (l : Nat) (hl : l < 64) => less_at TW.out hl)
                  have AT := Lib.hid (fun (l : Nat) (hl : l < 64) => add_at TW.out hl)
                  have MT := Lib.hid (fun (l : Nat) (hl : l < 64) => minM_get TW.out hl)
                  clear hb9 C9b B8 CX I7 I8 B9
                  generalize lessM X Y = ls at *
                  go_wp2
                  go_loopw [18, 19, 20, 21] (fun i _ _ _ wq => ∃ q : Nat, q ≤ 64 ∧ i = .int .i64 q ∧ Hid (Below w9.heap.size w9 wq)) (fun i _ _ _ _ => 64 - (intOf i).toNat)
                  case atStart => exact ⟨0, by omega, rfl, Lib.hid (Below.refl _ _)⟩
                  case round =>
                    obtain ⟨q, hq, rfl, HB⟩ := hrel
                    by_cases hq64 : q < 64
                    · have N1 := Lib.hid (fun wz (hz : Below w9.heap.size w9 wz) => CX2.out q wz hz)
                      have N2 := Lib.hid (fun wz (hz : Below w9.heap.size w9 wz) => CS.out q wz hz)
                      have N3 := Lib.hid (fun wz (hz : Below w9.heap.size w9 wz) => CL.out q wz hz)
                      have ea := AT.out q hq64
                      have em := MT.out q hq64
                      have el := LT.out q hq64
                      have gx := gX.out q
                      have gy := gY.out q
                      rw [numZ_in (by rw [LX.out]; exact hml) hq64] at N1
                      rw [numZ_in (addM_length X Y) hq64, ea] at N2
                      rw [numZ_in (minM_length X Y) hq64, em] at N3
                      rw [LX.out, ← HY.out] at N2
                      rw [gx] at N1 N2 N3 el
                      rw [gy] at N2 N3 el
                      clear ea em gx gy
                      have pl : atN A.length (natF A) q < 65536 := by
                        by_cases hA : q < A.length
                        · rw [atN_in _ hA]
                          have := natF_lt ALL.out q hA
                          rw [← HY.out] at this
                          omega
                        · rw [atN_out _ hA]; omega
                      have ql : atN Bl.length (cutN y Bl) q < 65536 := by
                        by_cases hB : q < Bl.length
                        · rw [atN_in _ hB]
                          have := cutN_lt y hy0 Bl q
                          omega
                        · rw [atN_out _ hB]; omega
                      have qb := and_bitN ls q lsl
                      have PA : Hid (q < A.length → ∃ b off, aa = some ⟨b, off, none⟩ ∧ wr.cell? ⟨b, off + q, none⟩ = some (.int .i64 ((atN A.length (natF A) q : Nat) : Int))) := Lib.hid (fun hA => by
                        obtain ⟨b, off, e, c⟩ := int_at ((IAW.out.lies.below (below_seq W9.out HB.out)).now) hA
                        refine ⟨b, off, e, ?_⟩
                        rw [c, atN_in _ hA, natF_int]
                        have e2 : A.getD q 0 = A[q] := by simp [List.getD, hA]
                        rw [e2]
                        exact (inB_of.1 (ALL.out q hA)).1)
                      have PB : Hid (q < Bl.length → ∃ b off, ad = some ⟨b, off, none⟩ ∧ wr.cell? ⟨b, off + q, none⟩ = some (.int .i64 ((atN Bl.length (cutN y Bl) q : Nat) : Int))) := Lib.hid (fun hB => by
                        have lw := (lowS.out.lies.below (below_seq W9.out HB.out)).now
                        have ll := intsN_length Bl.length (cutN y Bl)
                        rw [← ll] at lw
                        obtain ⟨b, off, e, c⟩ := int_at (l := intsN Bl.length (cutN y Bl)) (by simpa [ll] using lw) (i := q) (by rw [ll]; exact hB)
                        refine ⟨b, off, e, ?_⟩
                        rw [c, atN_in _ hB]
                        simp [intsN, List.getD, hB])
                      have ZA : Hid (¬ q < A.length → atN A.length (natF A) q = 0) := Lib.hid (fun h => atN_out _ h)
                      have ZB : Hid (¬ q < Bl.length → atN Bl.length (cutN y Bl) q = 0) := Lib.hid (fun h => atN_out _ h)
                      generalize atN A.length (natF A) q = pv at *
                      generalize atN Bl.length (cutN y Bl) q = qv at *
                      have tm : ((pv : Int) + (qv : Int)).tmod (y : Int) = (((pv + qv) % y : Nat) : Int) := by rw [Int.tmod_eq_emod_of_nonneg (by omega)]; simp
                      have svl : (pv + qv) % y < 65536 := Nat.lt_of_lt_of_le (Nat.mod_lt _ hy0) hy
                      generalize (pv + qv) % y = sv at *
                      have hwv : IntKind.i64.wrap (sv : Int) = (sv : Int) := by simp [IntKind.wrap, IntKind.bits, IntKind.signed]; omega
                      have yne : ¬ ((y : Int) = 0) := by omega
                      have yn : ¬ (y = 0) := by omega
                      have f1 : ((pv : Int) != (pv : Int)) = false := by simp
                      have f2 : ((sv : Int) != (sv : Int)) = false := by simp
                      have hws : IntKind.i64.wrap ((pv : Int) + (qv : Int)) = (pv : Int) + (qv : Int) := by simp [IntKind.wrap, IntKind.bits, IntKind.signed]; omega
                      rw [el] at qb
                      by_cases hA : q < A.length
                      · obtain ⟨bA, oA, rfl, cA⟩ := PA.out hA
                        by_cases hB : q < Bl.length
                        · obtain ⟨bB, oB, rfl, cB⟩ := PB.out hB
                          clear PA PB ZA ZB
                          rcases Nat.lt_trichotomy pv qv with hpq | hpq | hpq
                          · have mn : min pv qv = pv := by omega
                            rw [mn] at N3
                            have dl : decide (pv < qv) = true := by rw [decide_eq_true_iff]; omega
                            rw [dl] at qb
                            have f3 : decide ((pv : Int) < (qv : Int)) = true := by rw [decide_eq_true_iff]; omega
                            have hle : (pv : Int) < (qv : Int) := by omega
                            have M1 : Hid (∀ n, Calls Try.prog 31 #[.slice a5 j x5, .int .i64 q] (wr.drewN n) fun e w' => e = .returned (.int .i64 (pv : Int)) ∧ w' = wr.drewN n) := Lib.hid (fun n => (N1.out _ (below_seq HB.out (belowN n))).mono fun e w' h => ⟨h.1, h.2.symm⟩)
                            have M2 : Hid (∀ n, Calls Try.prog 31 #[.slice a7 n7 x7, .int .i64 q] (wr.drewN n) fun e w' => e = .returned (.int .i64 (sv : Int)) ∧ w' = wr.drewN n) := Lib.hid (fun n => (N2.out _ (below_seq HB.out (belowN n))).mono fun e w' h => ⟨h.1, h.2.symm⟩)
                            have M3 : Hid (∀ n, Calls Try.prog 31 #[.slice a8 n8 x8, .int .i64 q] (wr.drewN n) fun e w' => e = .returned (.int .i64 (pv : Int)) ∧ w' = wr.drewN n) := Lib.hid (fun n => (N3.out _ (below_seq HB.out (belowN n))).mono fun e w' h => ⟨h.1, h.2.symm⟩)
                            have N1x := N1
                            clear mn dl el N1x
                            simp only [Bool.toNat_true] at qb
                            go_wp2
                            go_quiet ((go_at_call 31; first | (with_reducible exact Calls.quiet_of_same (M1.out _)) | (with_reducible exact Calls.quiet_of_same (M2.out _)) | (with_reducible exact Calls.quiet_of_same (M3.out _))))
                            go_wp2
                            go_roundw
                            case rel => exact ⟨q + 1, by omega, by go_num, Lib.hid (below_seq HB.out (belowN _))⟩
                            case measure => simp [intOf]; omega
                          · subst hpq
                            have mn : min pv pv = pv := Nat.min_self _
                            rw [mn] at N3
                            have dl : decide (pv < pv) = false := by rw [decide_eq_false_iff_not]; omega
                            rw [dl] at qb
                            have f3 : decide (((pv : Int)) < ((pv : Int))) = false := by rw [decide_eq_false_iff_not]; omega
                            have M1 : Hid (∀ n, Calls Try.prog 31 #[.slice a5 j x5, .int .i64 q] (wr.drewN n) fun e w' => e = .returned (.int .i64 (pv : Int)) ∧ w' = wr.drewN n) := Lib.hid (fun n => (N1.out _ (below_seq HB.out (belowN n))).mono fun e w' h => ⟨h.1, h.2.symm⟩)
                            have M2 : Hid (∀ n, Calls Try.prog 31 #[.slice a7 n7 x7, .int .i64 q] (wr.drewN n) fun e w' => e = .returned (.int .i64 (sv : Int)) ∧ w' = wr.drewN n) := Lib.hid (fun n => (N2.out _ (below_seq HB.out (belowN n))).mono fun e w' h => ⟨h.1, h.2.symm⟩)
                            have M3 : Hid (∀ n, Calls Try.prog 31 #[.slice a8 n8 x8, .int .i64 q] (wr.drewN n) fun e w' => e = .returned (.int .i64 (pv : Int)) ∧ w' = wr.drewN n) := Lib.hid (fun n => (N3.out _ (below_seq HB.out (belowN n))).mono fun e w' h => ⟨h.1, h.2.symm⟩)
                            have N1x := N1
                            clear mn dl el N1x
                            simp only [Bool.toNat_false] at qb
                            go_wp2
                            go_quiet ((go_at_call 31; first | (with_reducible exact Calls.quiet_of_same (M1.out _)) | (with_reducible exact Calls.quiet_of_same (M2.out _)) | (with_reducible exact Calls.quiet_of_same (M3.out _))))
                            go_wp2
                            go_roundw
                            case rel => exact ⟨q + 1, by omega, by go_num, Lib.hid (below_seq HB.out (belowN _))⟩
                            case measure => simp [intOf]; omega
                          · have mn : min pv qv = qv := by omega
                            rw [mn] at N3
                            have dl : decide (pv < qv) = false := by rw [decide_eq_false_iff_not]; omega
                            rw [dl] at qb
                            have f4 : ((qv : Int) != (qv : Int)) = false := by simp
                            have f3 : decide ((pv : Int) < (qv : Int)) = false := by rw [decide_eq_false_iff_not]; omega
                            have hle : (qv : Int) < (pv : Int) := by omega
                            have M1 : Hid (∀ n, Calls Try.prog 31 #[.slice a5 j x5, .int .i64 q] (wr.drewN n) fun e w' => e = .returned (.int .i64 (pv : Int)) ∧ w' = wr.drewN n) := Lib.hid (fun n => (N1.out _ (below_seq HB.out (belowN n))).mono fun e w' h => ⟨h.1, h.2.symm⟩)
                            have M2 : Hid (∀ n, Calls Try.prog 31 #[.slice a7 n7 x7, .int .i64 q] (wr.drewN n) fun e w' => e = .returned (.int .i64 (sv : Int)) ∧ w' = wr.drewN n) := Lib.hid (fun n => (N2.out _ (below_seq HB.out (belowN n))).mono fun e w' h => ⟨h.1, h.2.symm⟩)
                            have M3 : Hid (∀ n, Calls Try.prog 31 #[.slice a8 n8 x8, .int .i64 q] (wr.drewN n) fun e w' => e = .returned (.int .i64 (qv : Int)) ∧ w' = wr.drewN n) := Lib.hid (fun n => (N3.out _ (below_seq HB.out (belowN n))).mono fun e w' h => ⟨h.1, h.2.symm⟩)
                            have N1x := N1
                            clear mn dl el N1x
                            simp only [Bool.toNat_false] at qb
                            go_wp2
                            go_quiet ((go_at_call 31; first | (with_reducible exact Calls.quiet_of_same (M1.out _)) | (with_reducible exact Calls.quiet_of_same (M2.out _)) | (with_reducible exact Calls.quiet_of_same (M3.out _))))
                            go_wp2
                            go_roundw
                            case rel => exact ⟨q + 1, by omega, by go_num, Lib.hid (below_seq HB.out (belowN _))⟩
                            case measure => simp [intOf]; omega
                        · have zB := ZB.out hB
                          subst zB
                          clear PA PB ZA ZB
                          by_cases hpq : pv = 0
                          · subst hpq
                            replace cA : wr.cell? ⟨bA, oA + q, none⟩ = some (.int .i64 0) := cA
                            have mn : min 0 0 = 0 := by omega
                            rw [mn] at N3
                            have dl : decide (0 < 0) = false := by rw [decide_eq_false_iff_not]; omega
                            rw [dl] at qb
                            have zs : sv = 0 := by
                              have h := tm
                              simp at h
                              omega
                            subst zs
                            clear tm hws hwv f1 f2
                            have tm : (0 : Int).tmod (y : Int) = 0 := by simp
                            have M1 : Hid (∀ n, Calls Try.prog 31 #[.slice a5 j x5, .int .i64 q] (wr.drewN n) fun e w' => e = .returned (.int .i64 (0 : Int)) ∧ w' = wr.drewN n) := Lib.hid (fun n => (N1.out _ (below_seq HB.out (belowN n))).mono fun e w' h => ⟨h.1, h.2.symm⟩)
                            have M2 : Hid (∀ n, Calls Try.prog 31 #[.slice a7 n7 x7, .int .i64 q] (wr.drewN n) fun e w' => e = .returned (.int .i64 (0 : Int)) ∧ w' = wr.drewN n) := Lib.hid (fun n => (N2.out _ (below_seq HB.out (belowN n))).mono fun e w' h => ⟨h.1, h.2.symm⟩)
                            have M3 : Hid (∀ n, Calls Try.prog 31 #[.slice a8 n8 x8, .int .i64 q] (wr.drewN n) fun e w' => e = .returned (.int .i64 (0 : Int)) ∧ w' = wr.drewN n) := Lib.hid (fun n => (N3.out _ (below_seq HB.out (belowN n))).mono fun e w' h => ⟨h.1, h.2.symm⟩)
                            have N1x := N1
                            clear mn dl el N1x
                            simp only [Bool.toNat_false] at qb
                            go_wp2
                            go_quiet ((go_at_call 31; first | (with_reducible exact Calls.quiet_of_same (M1.out _)) | (with_reducible exact Calls.quiet_of_same (M2.out _)) | (with_reducible exact Calls.quiet_of_same (M3.out _))))
                            go_wp2
                            go_roundw
                            case rel => exact ⟨q + 1, by omega, by go_num, Lib.hid (below_seq HB.out (belowN _))⟩
                            case measure => simp [intOf]; omega
                          · have mn : min pv 0 = 0 := by omega
                            rw [mn] at N3
                            have dl : decide (pv < 0) = false := by rw [decide_eq_false_iff_not]; omega
                            rw [dl] at qb
                            have tm1 : ((pv : Int) + (0 : Int)).tmod (y : Int) = (sv : Int) := by simpa using tm
                            have tm2 : (pv : Int).tmod (y : Int) = (sv : Int) := by simpa using tm
                            have hw1 : IntKind.i64.wrap ((pv : Int) + (0 : Int)) = (pv : Int) := by simpa using hws
                            have hw2 : IntKind.i64.wrap (pv : Int) = (pv : Int) := by simpa using hws
                            clear tm hws f1
                            have f1 : ((pv : Int) != (pv : Int)) = false := by simp
                            have f3 : decide ((pv : Int) < (0 : Int)) = false := by rw [decide_eq_false_iff_not]; omega
                            have hle : (0 : Int) < (pv : Int) := by omega
                            have M1 : Hid (∀ n, Calls Try.prog 31 #[.slice a5 j x5, .int .i64 q] (wr.drewN n) fun e w' => e = .returned (.int .i64 (pv : Int)) ∧ w' = wr.drewN n) := Lib.hid (fun n => (N1.out _ (below_seq HB.out (belowN n))).mono fun e w' h => ⟨h.1, h.2.symm⟩)
                            have M2 : Hid (∀ n, Calls Try.prog 31 #[.slice a7 n7 x7, .int .i64 q] (wr.drewN n) fun e w' => e = .returned (.int .i64 (sv : Int)) ∧ w' = wr.drewN n) := Lib.hid (fun n => (N2.out _ (below_seq HB.out (belowN n))).mono fun e w' h => ⟨h.1, h.2.symm⟩)
                            have M3 : Hid (∀ n, Calls Try.prog 31 #[.slice a8 n8 x8, .int .i64 q] (wr.drewN n) fun e w' => e = .returned (.int .i64 (0 : Int)) ∧ w' = wr.drewN n) := Lib.hid (fun n => (N3.out _ (below_seq HB.out (belowN n))).mono fun e w' h => ⟨h.1, h.2.symm⟩)
                            have N1x := N1
                            clear mn dl el N1x
                            simp only [Bool.toNat_false] at qb
                            go_wp2
                            go_quiet ((go_at_call 31; first | (with_reducible exact Calls.quiet_of_same (M1.out _)) | (with_reducible exact Calls.quiet_of_same (M2.out _)) | (with_reducible exact Calls.quiet_of_same (M3.out _))))
                            go_wp2
                            go_roundw
                            case rel => exact ⟨q + 1, by omega, by go_num, Lib.hid (below_seq HB.out (belowN _))⟩
                            case measure => simp [intOf]; omega
                      · have zA := ZA.out hA
                        subst zA
                        by_cases hB : q < Bl.length
                        · obtain ⟨bB, oB, rfl, cB⟩ := PB.out hB
                          clear PA PB ZA ZB
                          by_cases hpq : qv = 0
                          · subst hpq
                            replace cB : wr.cell? ⟨bB, oB + q, none⟩ = some (.int .i64 0) := cB
                            have mn : min 0 0 = 0 := by omega
                            rw [mn] at N3
                            have dl : decide (0 < 0) = false := by rw [decide_eq_false_iff_not]; omega
                            rw [dl] at qb
                            have zs : sv = 0 := by
                              have h := tm
                              simp at h
                              omega
                            subst zs
                            clear tm hws hwv f1 f2
                            have tm : (0 : Int).tmod (y : Int) = 0 := by simp
                            have M1 : Hid (∀ n, Calls Try.prog 31 #[.slice a5 j x5, .int .i64 q] (wr.drewN n) fun e w' => e = .returned (.int .i64 (0 : Int)) ∧ w' = wr.drewN n) := Lib.hid (fun n => (N1.out _ (below_seq HB.out (belowN n))).mono fun e w' h => ⟨h.1, h.2.symm⟩)
                            have M2 : Hid (∀ n, Calls Try.prog 31 #[.slice a7 n7 x7, .int .i64 q] (wr.drewN n) fun e w' => e = .returned (.int .i64 (0 : Int)) ∧ w' = wr.drewN n) := Lib.hid (fun n => (N2.out _ (below_seq HB.out (belowN n))).mono fun e w' h => ⟨h.1, h.2.symm⟩)
                            have M3 : Hid (∀ n, Calls Try.prog 31 #[.slice a8 n8 x8, .int .i64 q] (wr.drewN n) fun e w' => e = .returned (.int .i64 (0 : Int)) ∧ w' = wr.drewN n) := Lib.hid (fun n => (N3.out _ (below_seq HB.out (belowN n))).mono fun e w' h => ⟨h.1, h.2.symm⟩)
                            have N1x := N1
                            clear mn dl el N1x
                            simp only [Bool.toNat_false] at qb
                            go_wp2
                            go_quiet ((go_at_call 31; first | (with_reducible exact Calls.quiet_of_same (M1.out _)) | (with_reducible exact Calls.quiet_of_same (M2.out _)) | (with_reducible exact Calls.quiet_of_same (M3.out _))))
                            go_wp2
                            go_roundw
                            case rel => exact ⟨q + 1, by omega, by go_num, Lib.hid (below_seq HB.out (belowN _))⟩
                            case measure => simp [intOf]; omega
                          · have mn : min 0 qv = 0 := by omega
                            rw [mn] at N3
                            have dl : decide (0 < qv) = true := by rw [decide_eq_true_iff]; omega
                            rw [dl] at qb
                            have tm1 : ((0 : Int) + (qv : Int)).tmod (y : Int) = (sv : Int) := by simpa using tm
                            have tm2 : (qv : Int).tmod (y : Int) = (sv : Int) := by simpa using tm
                            have hw1 : IntKind.i64.wrap ((0 : Int) + (qv : Int)) = (qv : Int) := by simpa using hws
                            have hw2 : IntKind.i64.wrap (qv : Int) = (qv : Int) := by simpa using hws
                            clear tm hws f1
                            have f3 : decide ((0 : Int) < (qv : Int)) = true := by rw [decide_eq_true_iff]; omega
                            have hle : (0 : Int) < (qv : Int) := by omega
                            have hps : 0 < qv := by omega
                            have f5 : (!decide (0 < qv)) = false := by rw [decide_eq_true hps]; rfl
                            have M1 : Hid (∀ n, Calls Try.prog 31 #[.slice a5 j x5, .int .i64 q] (wr.drewN n) fun e w' => e = .returned (.int .i64 (0 : Int)) ∧ w' = wr.drewN n) := Lib.hid (fun n => (N1.out _ (below_seq HB.out (belowN n))).mono fun e w' h => ⟨h.1, h.2.symm⟩)
                            have M2 : Hid (∀ n, Calls Try.prog 31 #[.slice a7 n7 x7, .int .i64 q] (wr.drewN n) fun e w' => e = .returned (.int .i64 (sv : Int)) ∧ w' = wr.drewN n) := Lib.hid (fun n => (N2.out _ (below_seq HB.out (belowN n))).mono fun e w' h => ⟨h.1, h.2.symm⟩)
                            have M3 : Hid (∀ n, Calls Try.prog 31 #[.slice a8 n8 x8, .int .i64 q] (wr.drewN n) fun e w' => e = .returned (.int .i64 (0 : Int)) ∧ w' = wr.drewN n) := Lib.hid (fun n => (N3.out _ (below_seq HB.out (belowN n))).mono fun e w' h => ⟨h.1, h.2.symm⟩)
                            have N1x := N1
                            clear mn dl el N1x
                            simp only [Bool.toNat_true] at qb
                            go_wp2
                            go_quiet ((go_at_call 31; first | (with_reducible exact Calls.quiet_of_same (M1.out _)) | (with_reducible exact Calls.quiet_of_same (M2.out _)) | (with_reducible exact Calls.quiet_of_same (M3.out _))))
                            go_wp2
                            go_roundw
                            case rel => exact ⟨q + 1, by omega, by go_num, Lib.hid (below_seq HB.out (belowN _))⟩
                            case measure => simp [intOf]; omega
                        · have zB := ZB.out hB
                          subst zB
                          clear PA PB ZA ZB
                          have mn : min 0 0 = 0 := by omega
                          rw [mn] at N3
                          have dl : decide (0 < 0) = false := by rw [decide_eq_false_iff_not]; omega
                          rw [dl] at qb
                          have zs : sv = 0 := by
                            have h := tm
                            simp at h
                            omega
                          subst zs
                          clear tm hws hwv f1 f2
                          have tm : (0 : Int).tmod (y : Int) = 0 := by simp
                          have M1 : Hid (∀ n, Calls Try.prog 31 #[.slice a5 j x5, .int .i64 q] (wr.drewN n) fun e w' => e = .returned (.int .i64 (0 : Int)) ∧ w' = wr.drewN n) := Lib.hid (fun n => (N1.out _ (below_seq HB.out (belowN n))).mono fun e w' h => ⟨h.1, h.2.symm⟩)
                          have M2 : Hid (∀ n, Calls Try.prog 31 #[.slice a7 n7 x7, .int .i64 q] (wr.drewN n) fun e w' => e = .returned (.int .i64 (0 : Int)) ∧ w' = wr.drewN n) := Lib.hid (fun n => (N2.out _ (below_seq HB.out (belowN n))).mono fun e w' h => ⟨h.1, h.2.symm⟩)
                          have M3 : Hid (∀ n, Calls Try.prog 31 #[.slice a8 n8 x8, .int .i64 q] (wr.drewN n) fun e w' => e = .returned (.int .i64 (0 : Int)) ∧ w' = wr.drewN n) := Lib.hid (fun n => (N3.out _ (below_seq HB.out (belowN n))).mono fun e w' h => ⟨h.1, h.2.symm⟩)
                          have N1x := N1
                          clear mn dl el N1x
                          simp only [Bool.toNat_false] at qb
                          go_wp2
                          go_quiet ((go_at_call 31; first | (with_reducible exact Calls.quiet_of_same (M1.out _)) | (with_reducible exact Calls.quiet_of_same (M2.out _)) | (with_reducible exact Calls.quiet_of_same (M3.out _))))
                          go_wp2
                          go_roundw
                          case rel => exact ⟨q + 1, by omega, by go_num, Lib.hid (below_seq HB.out (belowN _))⟩
                          case measure => simp [intOf]; omega
                    · have hq' : q = 64 := by omega
                      subst hq'
                      go_wp2
                      go_ret
                      exact ⟨rfl, below_seq BW.out (below_seq W9.out HB.out)⟩
    all_goals
      first
        | (have e1 : ((ml : Int) != k) = true := (by simp; omega))
        | (have e1 : ((ml : Int) != k) = false := (by simp; omega))
      clear HNO
      go_wp2_with fail
      refine NI.out.mono ?_
      rintro e w5 ⟨c5, rfl, ho5, hb5⟩
      obtain ⟨a5, x5, rfl, _, _, _⟩ := uint64SIn_shape ho5.read
      have NS5 := Lib.hid (NS.out w5 hb5)
      have B5 := Lib.hid (below_seq B4.out hb5)
      clear ho5 hb5 NI NS
      rw [HML.out]
      go_wp2_with fail
      refine NS5.out.mono ?_
      rintro e w6 ⟨c6, rfl, ho6, hb6⟩
      obtain ⟨a6, x6, rfl, _, _, _⟩ := uint64SIn_shape ho6.read
      rw [HML.out]
      have e2 : ((ml : Int) == (ml : Int)) = true := by simp
      have B6 := Lib.hid (below_seq B5.out hb6)
      clear ho6 hb6 NS5
      go_wp2
      go_ret
      exact ⟨by simp, B6.out⟩

set_option maxRecDepth 100000 in
theorem lifted (os : Os) (started : os.Started) (H : Type) (enc : TypeId × Value → H) :
    ReturnsInHanded {} Try.checked os 4 .any (Rows.fnNumsSpec.pre6 enc Try.prog Try.f4 Rows.fnNumsRow.domain false) (Rows.fnNumsSpec.post enc Try.prog Try.f4 false true false false) := by
  refine returnsInHanded_of_change (C := Try.checked) own started (by kernel_rfl) Try.func4
    (ChangeSpec.witness6 (enc := enc) (C := Try.checked) false ⟨#[], #[.slice none 0 0], []⟩ 8 (by kernel_rfl) (by kernel_rfl) (by kernel_rfl) (by kernel_rfl)) ?_
  intro W base args ds gs before hval0 hW hcnd _
  have hval : ∀ (j : Nat) t v, Try.f4.params[j]? = some t → args[j]? = some v → Value.okWide Try.prog W .any base t v := hval0
  have hW' := hW
  obtain ⟨p, q, hA0, hV, rfl, hfz, hnd⟩ := hW
  have hA : DataW.TrodAll enc Try.prog W 0 (fun _ => true) true Try.f4.params.toList args.toList ds p := hA0
  rw [Try.params4] at hA hval
  obtain ⟨v0, vs0, d0, ds0, p0, q0, hargs, rfl, rfl, h0, r0⟩ := trodAll_cons hA
  obtain ⟨rfl, rfl, rfl⟩ := trodAll_nil r0
  obtain rfl : args = #[v0] := by cases args; simp_all
  obtain ⟨rfl, rfl⟩ := trodVars_none hV
  obtain ⟨a0, len0, cap0, rfl⟩ := okWide_slice Try.underlying22 (hval 0 22 v0 rfl rfl)
  have k0 := h0
  have lt0 : ∀ x ∈ p0, x.block < W.heap.size := by obtain ⟨m, hm⟩ := k0; exact DataW.trod_lt m _ _ _ hm
  obtain ⟨z0, w0⟩ : ∃ zs, IsRow .u8 W a0 len0 cap0 zs := by
    obtain ⟨fuel, hf⟩ := h0
    rcases open_ints Try.underlying22 Try.underlying5 (by kernel_rfl) hf with ⟨hcs, _⟩ | ⟨x, l, c, zs, hcs, _, hl, hm, hz, _, hcell, hwz⟩
    · simp [Value.cells] at hcs
      obtain ⟨rfl, rfl, rfl⟩ := hcs
      exact ⟨[], .inl ⟨rfl, rfl, rfl, rfl⟩⟩
    · simp [Value.cells] at hcs
      obtain ⟨rfl, rfl, rfl⟩ := hcs
      exact ⟨zs, .inr ⟨_, rfl, hl, hm, by simpa using hz, hcell, hwz⟩⟩
  clear hA0 hval0
  refine (walk a0 len0 cap0 z0 W w0).mono fun e W' ⟨he, bel⟩ => ?_
  subst he
  exact ⟨_, rfl, _, _, _, [], _, [], hW', trodAll_mk1 (shut_bool Try.underlying4 _), (trodAll_cons_mk (Below.trod laidOut (by kernel_rfl) (of_decide_eq_true (by kernel_rfl)) k0 bel lt0) trodAll_mk0), rfl, bel.frame _, fun h => by cases h⟩

theorem over : Rows.fnNumsRow.holds Try.pinned (OpenSpec.ofChange Rows.fnNumsSpec) :=
  OpenClaim.holds_of_wide 4 Try.f4 rfl rfl rfl rfl rfl rfl rfl ⟨rfl, rfl, rfl, rfl, rfl⟩ rfl rfl rfl rfl rfl (by kernel_rfl) Try.func4 (by kernel_rfl)
    (of_decide_eq_true (by kernel_rfl)) (by unfold Func.isWrapper; first | (rw [if_pos (by decide +kernel)]; kernel_rfl) | (rw [if_neg (by decide +kernel)]; exact ⟨rfl, rfl⟩))
    (fun os started H enc _ => lifted os started H enc)
end Go.Proofs.Ytfdlmpjccoaejaa.fnNums
namespace Go.Proofs.Ytfdlmpjccoaejaa
theorem fnNums_holds : Rows.FnNumsSaid := fnNums.over
end Go.Proofs.Ytfdlmpjccoaejaa
