/- Chapter 7 in the program: numbers in planes: read, compared, added, the lesser. -/
import Derived.Test.YtfdlmpjccoaejaaArrG
import Derived.Test.YtfdlmpjccoaejaaMask
import Derived.Test.YtfdlmpjccoaejaaPlR
import Derived.Test.YtfdlmpjccoaejaaIntsU
import Derived.Test.YtfdlmpjccoaejaaApp
import Derived.Deep.DeepMust
import Derived.Deep.RegionHeld3
import Derived.Deep.RegionLaw
import Derived.Deep.QuietTactic
import Derived.BigQuiet
import Derived.BigRegion
import Derived.Laws.BitsAllLaws
namespace Go.Proofs.Ytfdlmpjccoaejaa
open Go.RowKit
set_option linter.unusedVariables false

theorem i64_and_nat (a b : Nat) (ha : a < 9223372036854775808) (hb : b < 9223372036854775808) : bits .and .i64 (a : Int) (b : Int) = ((a &&& b : Nat) : Int) := by
  have hx : a &&& b ≤ b := Nat.and_le_right
  show IntKind.i64.wrap ((BitVec.ofInt 64 (a : Int) &&& BitVec.ofInt 64 (b : Int)).toNat : Int) = _
  rw [BitVec.toNat_and, ofInt_u64 a (by omega), ofInt_u64 b (by omega)]
  simp [IntKind.wrap, IntKind.bits, IntKind.signed]
  omega
theorem i64_or_nat (a b : Nat) (ha : a < 9223372036854775808) (hb : b < 9223372036854775808) : bits .or .i64 (a : Int) (b : Int) = ((a ||| b : Nat) : Int) := by
  have hx : a ||| b < 2 ^ 63 := Nat.or_lt_two_pow ha hb
  show IntKind.i64.wrap ((BitVec.ofInt 64 (a : Int) ||| BitVec.ofInt 64 (b : Int)).toNat : Int) = _
  rw [BitVec.toNat_or, ofInt_u64 a (by omega), ofInt_u64 b (by omega)]
  simp [IntKind.wrap, IntKind.bits, IntKind.signed]
  omega
theorem bitN (x i : Nat) : x / 2 ^ i % 2 = (x.testBit i).toNat := by
  rw [← bit_is]
  have := Nat.mod_lt (x / 2 ^ i) (show 2 > 0 by omega)
  by_cases h : x / 2 ^ i % 2 = 1
  · simp [h]
  · simp [h]; omega
theorem pow_le16 {k : Nat} (h : k ≤ 16) : 2 ^ k ≤ 65536 := Nat.pow_le_pow_right (n := 2) (by omega) h
/-- One plane more, read off a lane. -/
theorem or_step {n k b : Nat} (hn : n < 2 ^ k) (hb : b ≤ 1) : n ||| b * 2 ^ k = n + 2 ^ k * b := by
  have := Nat.two_pow_add_eq_or_of_lt hn b
  rw [Nat.mul_comm b, Nat.or_comm, ← this]; omega
set_option maxRecDepth 100000 in
set_option maxHeartbeats 2000000 in
theorem implNumAt (c : Value) (l : List Nat) (lane : Int) (w : World) (h : Uint64SIn [c] l w) (hb : bd64 l) :
    Calls Try.prog 31 #[c, .int .i64 lane] w fun e w' => e = .returned (.int .i64 (numZ l lane)) ∧ w = w' := by
  have H := Lib.hid h
  obtain ⟨a, cap, rfl, h1, h2, hr⟩ := uint64SIn_shape h
  unfold maxLen at h2
  clear h h1 hr
  by_cases g1 : lane < 0
  · have E : Hid (numZ l lane = -1) := Lib.hid (by unfold numZ; rw [if_neg (by omega)])
    go_enter Try.func31, Try.ntmps31
    go_wp2
    go_ret
    exact ⟨ret_int E.out.symm, rfl⟩
  by_cases g2 : 64 ≤ lane
  · have E : Hid (numZ l lane = -1) := Lib.hid (by unfold numZ; rw [if_neg (by omega)])
    go_enter Try.func31, Try.ntmps31
    go_wp2
    go_ret
    exact ⟨ret_int E.out.symm, rfl⟩
  obtain ⟨ln, rfl⟩ : ∃ n : Nat, lane = n := ⟨lane.toNat, by omega⟩
  by_cases g3 : 16 < l.length
  · have E : Hid (numZ l ln = -1) := Lib.hid (by unfold numZ; rw [if_neg (by omega)])
    go_enter Try.func31, Try.ntmps31
    go_wp2
    go_ret
    exact ⟨ret_int E.out.symm, rfl⟩
  have E : Hid (numZ l ln = (getN l ln : Int)) := Lib.hid (by unfold numZ; rw [if_pos (by omega)]; simp)
  go_enter Try.func31, Try.ntmps31
  go_wp2
  go_loop [21, 5, 6, 7] (fun i n _ _ => ∃ k y : Nat, k ≤ l.length ∧ i = .int .i64 k ∧ n = .int .i64 (y : Int) ∧ Hid (y = getN (l.take k) ln)) (fun i _ _ _ => l.length - (intOf i).toNat)
  case atStart => exact ⟨0, 0, Nat.zero_le _, rfl, rfl, Lib.hid (by simp [getN])⟩
  case round =>
    obtain ⟨k, y, hk, rfl, rfl, HY⟩ := hrel
    by_cases hlt : k < l.length
    · obtain ⟨b, off, cap', e, q⟩ := in_at H.out hlt
      simp at e
      obtain ⟨rfl, rfl⟩ := e
      have hx := hb.at k
      have hgt := Lib.hid (getN_take l ln k hlt)
      have hy : y < 2 ^ k := by rw [HY.out]; have := getN_lt (l.take k) ln; rwa [List.length_take, Nat.min_eq_left (by omega)] at this
      have hp := pow_le16 (show k ≤ 16 by omega)
      have egd : l.getD k 0 = l[k] := by simp [List.getD, hlt]
      rw [← egd] at hgt
      clear egd
      generalize l.getD k 0 = x at *
      have q1 : bits .and .u64 ((x : Int) / 2 ^ ln) 1 = (((x.testBit ln).toNat : Nat) : Int) := by
        rw [show (x : Int) / 2 ^ ln = ((x / 2 ^ ln : Nat) : Int) from by simp, ← bitN, ← bit_and1]
        exact u64_and_nat _ 1 (Nat.lt_of_le_of_lt (Nat.div_le_self _ _) hx) (by omega)
      have hbit : (x.testBit ln).toNat ≤ 1 := Bool.toNat_le _
      generalize (x.testBit ln).toNat = t at *
      have hT : t * 2 ^ k ≤ 65536 := by
        have : t * 2 ^ k ≤ 1 * 2 ^ k := Nat.mul_le_mul_right _ hbit
        omega
      have q2 : bits .or .i64 (y : Int) ((t : Int) * 2 ^ k) = ((y + 2 ^ k * t : Nat) : Int) := by
        rw [← or_step hy hbit, show (t : Int) * 2 ^ k = ((t * 2 ^ k : Nat) : Int) from by simp]
        exact i64_or_nat _ _ (by omega) (by omega)
      have q3 : wrap64 ((t : Int) * 2 ^ k) = (t : Int) * 2 ^ k := by
        rw [show (t : Int) * 2 ^ k = ((t * 2 ^ k : Nat) : Int) from by simp]
        generalize t * 2 ^ k = T at *
        unfold wrap64; omega
      have HY2 : Hid (y + 2 ^ k * t = getN (l.take (k + 1)) ln) := Lib.hid (by rw [hgt.out, HY.out])
      clear HY hgt
      go_wp2
      go_round
      case rel => exact ⟨k + 1, _, by omega, by go_num, rfl, HY2⟩
      case measure => simp [intOf]; omega
    · have HF : Hid (y = getN l ln) := Lib.hid (by rw [HY.out, List.take_of_length_le (by omega)])
      go_wp2
      go_ret
      exact ⟨ret_int (by rw [E.out, HF.out]), rfl⟩
set_option maxHeartbeats 400000 in
theorem implMatch (c d : Value) (a b : List Nat) (w : World) (h : Uint64SIn [c] a w) (k : Uint64SIn [d] b w) :
    Calls Try.prog 79 #[c, d] w fun e w' => e = .returned (.bool (twinsB a b)) ∧ w = w' := by
  obtain ⟨a1, cap1, rfl, h1, h2, hr⟩ := uint64SIn_shape h
  obtain ⟨a2, cap2, rfl, k1, k2, kr⟩ := uint64SIn_shape k
  unfold maxLen at h2 k2
  clear h h1 hr k k1 kr
  by_cases e : a.length = b.length
  · by_cases g : a.length ≤ 16
    · have E : Hid (twinsB a b = true) := Lib.hid (twins_iff.2 ⟨e, g⟩)
      rw [← e]
      clear e
      go_enter Try.func79, Try.ntmps79
      go_wp2
      go_ret
      refine ⟨ret_bool ?_, rfl⟩
      rw [E.out]; simp; omega
    · have E : Hid (twinsB a b = false) := Lib.hid (by rw [Bool.eq_false_iff]; intro c; exact g (twins_iff.1 c).2)
      rw [← e]
      clear e
      go_enter Try.func79, Try.ntmps79
      go_wp2
      go_ret
      refine ⟨ret_bool ?_, rfl⟩
      rw [E.out]; simp; omega
  · have E : Hid (twinsB a b = false) := Lib.hid (by rw [Bool.eq_false_iff]; intro c; exact e (twins_iff.1 c).1)
    have hB : ((a.length : Int) == (b.length : Int)) = false := by simp; omega
    go_enter Try.func79, Try.ntmps79
    go_wp2
    go_ret
    exact ⟨ret_bool E.out.symm, rfl⟩
theorem selectQ (m a b : Nat) (w : World) (hm : m < 18446744073709551616) (ha : a < 18446744073709551616) (hb : b < 18446744073709551616) :
    Calls Try.prog 81 #[.int .u64 m, .int .u64 a, .int .u64 b] w fun e w' => e = .returned (.int .u64 ((selN m a b : Nat) : Int)) ∧ w' = w := (implSelect m a b w hm ha hb).mono fun _ _ h => ⟨h.1, h.2.symm⟩
set_option maxRecDepth 100000 in
set_option maxHeartbeats 2000000 in
theorem implNumsLess (c d : Value) (a b : List Nat) (w : World) (h : Uint64SIn [c] a w) (k : Uint64SIn [d] b w) (ha : bd64 a) (hb : bd64 b) :
    Calls Try.prog 30 #[c, d] w fun e w' => e = .returned (.int .u64 ((lessM a b : Nat) : Int)) ∧ Below w.heap.size w w' := by
  have M := Lib.hid (implMatch c d a b w h k)
  have HA := Lib.hid h
  have HB := Lib.hid k
  obtain ⟨a1, cap1, rfl, h1, h2, hr⟩ := uint64SIn_shape h
  obtain ⟨a2, cap2, rfl, k1, k2, kr⟩ := uint64SIn_shape k
  clear h h1 hr k k1 kr
  unfold maxLen at h2
  cases ht : twinsB a b with
  | false =>
    rw [ht] at M
    have E : Hid (lessM a b = 0) := Lib.hid (by unfold lessM; rw [ht]; rfl)
    clear ht
    go_enter Try.func30, Try.ntmps30
    go_wp2_with fail
    refine M.out.mono ?_
    rintro e w' ⟨rfl, rfl⟩
    go_wp2
    go_ret
    exact ⟨ret_int (by rw [E.out]; rfl), Below.refl _ _⟩
  | true =>
    rw [ht] at M
    have E : Hid (lessM a b = lessR (fun i => a.getD i 0) (fun i => b.getD i 0) a.length) := Lib.hid (by unfold lessM; rw [ht, if_pos rfl, less_is (twins_iff.1 ht).1 ha hb])
    have hl : a.length ≤ b.length := Nat.le_of_eq (twins_iff.1 ht).1
    clear ht
    go_enter Try.func30, Try.ntmps30
    go_wp2_with fail
    refine M.out.mono ?_
    rintro e w' ⟨rfl, rfl⟩
    clear M
    go_wp2
    go_loopw [13, 5, 6] (fun i y _ wr => ∃ k x : Nat, k ≤ a.length ∧ i = .int .i64 k ∧ y = .int .u64 (x : Int) ∧ Hid (Below w.heap.size w wr) ∧ Hid (x = lessR (fun i => a.getD i 0) (fun i => b.getD i 0) k)) (fun i _ _ _ => a.length - (intOf i).toNat)
    case atStart => exact ⟨0, 0, Nat.zero_le _, rfl, rfl, Lib.hid (Below.refl _ _), Lib.hid rfl⟩
    case round =>
      obtain ⟨k, x, hk, rfl, rfl, HW, HX⟩ := hrel
      by_cases hlt : k < a.length
      · have hlt2 : k < b.length := by omega
        obtain ⟨b1, o1, cap1', e1, q1⟩ := in_at (HA.out.below HW.out) hlt
        obtain ⟨b2, o2, cap2', e2, q2⟩ := in_at (HB.out.below HW.out) hlt2
        simp at e1 e2
        obtain ⟨rfl, rfl⟩ := e1
        obtain ⟨rfl, rfl⟩ := e2
        have xl : x < 18446744073709551616 := by rw [HX.out]; exact lessR_lt ha.at hb.at k
        have HX2 : Hid (selN (a.getD k 0 ^^^ b.getD k 0) (b.getD k 0) x = lessR (fun i => a.getD i 0) (fun i => b.getD i 0) (k + 1)) := Lib.hid (by rw [lessR, HX.out])
        have hu := ha.at k
        have hv := hb.at k
        generalize a.getD k 0 = u at *
        generalize b.getD k 0 = v at *
        have qx := u64_xor_nat u v hu hv
        have lx : u ^^^ v < 18446744073709551616 := Nat.xor_lt_two_pow (n := 64) hu hv
        have S := Lib.hid (fun w => selectQ (u ^^^ v) v x w lx hv xl)
        have g2 : (k : Int) < (b.length : Int) := by omega
        clear HX
        generalize selN (u ^^^ v) v x = R at *
        generalize u ^^^ v = X at *
        go_wp2
        go_quiet ((go_at_call 81; exact Calls.quiet_of_same (S.out _)))
        go_wp2
        go_roundw
        case rel => exact ⟨k + 1, R, by omega, by go_num, rfl, Lib.hid (below_seq HW.out (belowN _)), HX2⟩
        case measure => simp [intOf]; omega
      · have HF : Hid (x = lessM a b) := Lib.hid (by rw [E.out, HX.out]; congr 1; omega)
        go_wp2
        go_ret
        exact ⟨ret_int (by rw [HF.out]), HW.out⟩
/-- The first k by G, the others by Z. -/
def progN (G Z : Nat → Nat) (k : Nat) : Nat → Nat := fun i => if i < k then G i else Z i
theorem progN_set (G Z : Nat → Nat) (k : Nat) : updN (progN G Z k) k (G k) = progN G Z (k + 1) := by
  funext j
  unfold updN progN
  by_cases e : j = k
  · subst e; simp
  · rw [if_neg e]
    by_cases h : j < k
    · rw [if_pos h, if_pos (by omega)]
    · rw [if_neg h, if_neg (by omega)]
theorem progN_zero (G Z : Nat → Nat) : progN G Z 0 = Z := by funext j; unfold progN; simp
theorem progN_done (G Z : Nat → Nat) (k : Nat) : listN k (progN G Z k) = listN k G := listN_ext fun i hi => by unfold progN; rw [if_pos hi]
theorem progN_at (G Z : Nat → Nat) (k : Nat) : progN G Z k k = Z k := by unfold progN; rw [if_neg (by omega)]
set_option maxRecDepth 100000 in
set_option maxHeartbeats 4000000 in
theorem implNumsMin (c d : Value) (a b : List Nat) (w : World) (h : Uint64SIn [c] a w) (k : Uint64SIn [d] b w) (ha : bd64 a) (hb : bd64 b) :
    Calls Try.prog 29 #[c, d] w (Uint64SRet (minM a b) w) := by
  have M := Lib.hid (implMatch c d a b w h k)
  have L := Lib.hid (implNumsLess c d a b w h k ha hb)
  have HA := Lib.hid h
  have HB := Lib.hid k
  obtain ⟨a1, cap1, rfl, h1, h2, hr⟩ := uint64SIn_shape h
  obtain ⟨a2, cap2, rfl, k1, k2, kr⟩ := uint64SIn_shape k
  clear h h1 hr k k1 kr
  unfold maxLen at h2
  cases ht : twinsB a b with
  | false =>
    rw [ht] at M
    have E : Hid (minM a b = []) := Lib.hid (by unfold minM; rw [ht]; rfl)
    clear ht
    go_enter Try.func29, Try.ntmps29
    go_wp2_with fail
    refine M.out.mono ?_
    rintro e w' ⟨rfl, rfl⟩
    go_wp2
    go_ret
    exact ⟨_, rfl, by rw [E.out]; exact nil_own _ _ _, Below.refl _ _⟩
  | true =>
    rw [ht] at M
    have eL : lessM a b = lessL a b := by unfold lessM; rw [ht, if_pos rfl]
    rw [eL] at L
    have E := Lib.hid (minM_is ht ha hb)
    have hl : a.length ≤ b.length := Nat.le_of_eq (twins_iff.1 ht).1
    have h16 := (twins_iff.1 ht).2
    have lm := lessL_lt a b
    generalize lessL a b = m at *
    clear ht eL
    obtain ⟨i0, hi, hz0, hz1, hz2⟩ := info_parts Try.infoU64
    go_enter Try.func29, Try.ntmps29
    go_wp2_with fail
    refine M.out.mono ?_
    rintro e w' ⟨rfl, rfl⟩
    clear M
    go_wp2_with fail
    refine L.out.mono ?_
    rintro e w1 ⟨rfl, hb1⟩
    clear L
    have IA := Lib.hid (HA.out.below hb1)
    have IB := Lib.hid (HB.out.below hb1)
    clear HA HB
    go_wp2_with (at_make; refine wpList_make_full _ rfl _ _ 26 rfl w1.heap.size 43 i0 (.int .u64 0) 1 Try.underlying26 hi hz0 hz1 .i64 .i64 _ _ a.length rfl rfl rfl rfl (by rw [hz2]; omega) (by unfold maxLen; omega) (Nat.le_refl _) ?_)
    clear hi hz0 hz1 hz2
    intro w2 hown hgr
    rw [toList_madeCells_one] at hown
    have A0 : Hid (ArrU w2 w1.heap.size 43 a.length (progN (fun i => selN m (a.getD i 0) (b.getD i 0)) (fun _ => 0) 0) ∧ Below w1.heap.size w1 w2) := Lib.hid ⟨by rw [progN_zero]; exact own_arrG hown, grown_below hgr⟩
    clear hown hgr
    go_wp2
    go_loopw [20, 7] (fun i _ wr => ∃ k : Nat, k ≤ a.length ∧ i = .int .i64 k ∧ Hid (ArrU wr w1.heap.size 43 a.length (progN (fun i => selN m (a.getD i 0) (b.getD i 0)) (fun _ => 0) k) ∧ Below w1.heap.size w1 wr)) (fun i _ _ => a.length - (intOf i).toNat)
    case atStart => exact ⟨0, Nat.zero_le _, rfl, A0⟩
    case round =>
      clear A0
      obtain ⟨k, hk, rfl, H⟩ := hrel
      by_cases hlt : k < a.length
      · have hlt2 : k < b.length := by omega
        obtain ⟨b1, o1, cap1', e1, q1⟩ := in_at IA.out hlt
        obtain ⟨b2, o2, cap2', e2, q2⟩ := in_at IB.out hlt2
        simp at e1 e2
        obtain ⟨rfl, rfl⟩ := e1
        obtain ⟨rfl, rfl⟩ := e2
        have hn1 : b1 ≠ w1.heap.size := Nat.ne_of_lt (block_lt_of_cell q1)
        have hn2 : b2 ≠ w1.heap.size := Nat.ne_of_lt (block_lt_of_cell q2)
        have p1 := cell_keep q1 H.out.2
        have p2 := cell_keep q2 H.out.2
        have hc := H.out.1.cell hlt
        rw [progN_at] at hc
        have hf := H.out.1.free k
        have RS := Lib.hid (progN_set (fun i => selN m (a.getD i 0) (b.getD i 0)) (fun _ => 0) k)
        have hu := ha.at k
        have hv := hb.at k
        have S := Lib.hid (fun w => implSelect m (a.getD k 0) (b.getD k 0) w lm hu hv)
        have R := Lib.hid (And.intro (H.out.1.set k (selN m (a.getD k 0) (b.getD k 0))) (H.out.2.setCell (p := ⟨w1.heap.size, k, none⟩) (Nat.le_refl _) (.int .u64 ((selN m (a.getD k 0) (b.getD k 0) : Nat) : Int))))
        rw [RS.out] at R
        generalize selN m (a.getD k 0) (b.getD k 0) = v at *
        generalize a.getD k 0 = x at *
        generalize b.getD k 0 = y at *
        have k1 : (wr.setCell ⟨w1.heap.size, k, none⟩ (.int .u64 (v : Int))).cell? ⟨b1, o1 + k, none⟩ = some (.int .u64 x) := cell_set p1 hn1
        have k2 : (wr.setCell ⟨w1.heap.size, k, none⟩ (.int .u64 (v : Int))).cell? ⟨b2, o2 + k, none⟩ = some (.int .u64 y) := cell_set p2 hn2
        have g2 : (k : Int) < (b.length : Int) := by omega
        clear H RS q1 q2
        go_wp2_with fail
        go_region_held3 (fun w' => w'.cell? ⟨b1, o1 + k, none⟩ = some (.int .u64 x) ∧ w'.cell? ⟨b2, o2 + k, none⟩ = some (.int .u64 y)) (first | go_keep | exact ⟨p1, p2⟩ | exact ⟨k1, k2⟩)
          ((go_at_call 81; refine (S.out _).mono ?_; rintro e w' ⟨rfl, rfl⟩))
        go_wp2
        go_roundw
        case rel => exact ⟨k + 1, by omega, by go_num, Lib.hid ⟨R.out.1.drew 1, below_seq R.out.2 (belowN 1)⟩⟩
        case measure => simp [intOf]; omega
      · have hk' : k = a.length := by omega
        subst hk'
        go_wp2
        go_ret
        exact ⟨_, rfl, (H.out.1.mk (Nat.le_refl _) (by unfold maxLen; omega) (by rw [progN_done, E.out])).wide hb1.size (Nat.le_refl _), below_seq hb1 H.out.2⟩
end Go.Proofs.Ytfdlmpjccoaejaa
