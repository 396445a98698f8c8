/- Chapter 7 in the program: rows of planes added up; numbers put into planes. -/
import Derived.Test.YtfdlmpjccoaejaaNuI
namespace Go.Proofs.Ytfdlmpjccoaejaa
open Go.RowKit
set_option linter.unusedVariables false

theorem addR_fill (s r : List Nat) : listN s.length (outR (fun i => s.getD i 0) (fun i => r.getD i 0)) = addR s r := rfl
set_option maxRecDepth 100000 in
set_option maxHeartbeats 4000000 in
theorem implAddRows (n g : Nat) (ca cb : Value) (a b : List Nat) (w : World) (hn : n ≤ 16) (r0 : w.cell? ⟨g, 0, none⟩ = some ca) (r1 : w.cell? ⟨g, 1, none⟩ = some cb) (h : Uint64SIn [ca] a w) (k : Uint64SIn [cb] b w) (la : a.length = n) (lb : b.length = n) (ha : bd64 a) (hb : bd64 b) :
    Calls Try.prog 80 #[.int .i64 n, .slice (some ⟨g, 0, none⟩) 2 2] w (Uint64SRet (addTwo n a b) w) := by
  have RW : Hid (∀ j : Nat, j < 2 → ∃ c r, w.cell? ⟨g, j, none⟩ = some c ∧ Uint64SIn [c] r w ∧ r.length = n ∧ bd64 r ∧ ∀ s : List Nat, s = (if j = 0 then zerosN n else addR (zerosN n) a) → addR s r = if j + 1 = 1 then addR (zerosN n) a else addTwo n a b) := Lib.hid (by
    intro j hj
    obtain rfl | rfl : j = 0 ∨ j = 1 := by omega
    · exact ⟨ca, a, r0, h, la, ha, fun s hs => by rw [hs]; rfl⟩
    · exact ⟨cb, b, r1, k, lb, hb, fun s hs => by rw [hs]; rfl⟩)
  obtain ⟨i0, hi, hz0, hz1, hz2⟩ := info_parts Try.infoU64
  clear r0 r1 h k la lb ha hb
  go_enter Try.func80, Try.ntmps80
  go_wp2_with (at_make; refine wpList_make_full _ rfl _ _ 26 rfl w.heap.size 43 i0 (.int .u64 0) 1 Try.underlying26 hi hz0 hz1 .i64 .i64 _ _ n rfl rfl rfl rfl (by rw [hz2]; omega) (by unfold maxLen; omega) (Nat.le_refl _) ?_)
  clear hi hz0 hz1 hz2
  intro w2 hown hgr
  rw [toList_madeCells_one] at hown
  have A0 : Hid (∃ s : List Nat, s = zerosN n ∧ s.length = n ∧ bd64 s ∧ ArrU w2 w.heap.size 43 n (fun i => s.getD i 0) ∧ Below w.heap.size w w2) := Lib.hid ⟨zerosN n, rfl, by simp [zerosN], zerosN_lt n, by
    refine ArrU.ext (F := fun _ => 0) (own_arrG hown) fun i hi => ?_
    simp [zerosN, List.getD, hi], grown_below hgr⟩
  clear hown hgr
  go_wp2
  go_loopw [17, 7, 8, 9, 10, 11, 12] (fun i _ _ _ _ _ _ wr => ∃ j : Nat, j ≤ 2 ∧ i = .int .i64 j ∧ Hid (∃ s : List Nat, s = (if j = 0 then zerosN n else if j = 1 then addR (zerosN n) a else addTwo n a b) ∧ s.length = n ∧ bd64 s ∧ ArrU wr w.heap.size 43 n (fun i => s.getD i 0) ∧ Below w.heap.size w wr)) (fun i _ _ _ _ _ _ _ => 2 - (intOf i).toNat)
  case atStart => exact ⟨0, by omega, rfl, A0⟩
  case round =>
    clear A0
    obtain ⟨j, hj, rfl, H⟩ := hrel
    by_cases hlt : j < 2
    · obtain ⟨c, r, q, hin, hr, hrb, hs2⟩ := RW.out j hlt
      obtain ⟨s, hs, hsl, hsb, hA, hB⟩ := H.out
      have q1 := cell_keep q hB
      have IR := Lib.hid hin
      obtain ⟨a1, cap1, rfl, h1, h2, _⟩ := uint64SIn_shape hin
      have HS := Lib.hid hs2
      have HR := Lib.hid hr
      have HSL := Lib.hid hsl
      have SJ : Hid (s = if j = 0 then zerosN n else addR (zerosN n) a) := Lib.hid (by
        rw [hs]
        obtain rfl | rfl : j = 0 ∨ j = 1 := by omega
        · rfl
        · rfl)
      have A1 : Hid (ArrU wr w.heap.size 43 n (progN (outR (fun i => s.getD i 0) (fun i => r.getD i 0)) (fun i => s.getD i 0) 0) ∧ Below w.heap.size w wr) := Lib.hid ⟨by rw [progN_zero]; exact hA, hB⟩
      rw [hr] at q1 h1 h2
      clear hs2 hr hsl hin H q hs hA hB
      go_wp2
      go_loopw [23, 8, 9, 10, 11, 12] (fun i cv _ _ _ _ wq => ∃ k x : Nat, k ≤ n ∧ i = .int .i64 k ∧ cv = .int .u64 (x : Int) ∧ Hid (x = carR (fun i => s.getD i 0) (fun i => r.getD i 0) k) ∧ Hid (ArrU wq w.heap.size 43 n (progN (outR (fun i => s.getD i 0) (fun i => r.getD i 0)) (fun i => s.getD i 0) k) ∧ Below w.heap.size w wq)) (fun i _ _ _ _ _ _ => n - (intOf i).toNat)
      case atStart => exact ⟨0, 0, Nat.zero_le _, rfl, rfl, Lib.hid rfl, A1⟩
      case round =>
        clear A1 q1
        obtain ⟨k, x, hk, rfl, rfl, HX, H⟩ := hrel
        by_cases hkn : k < n
        · obtain ⟨b1, o1, cap1', e1, p1⟩ := in_at (IR.out.below H.out.2) (i := k) (by rw [HR.out]; exact hkn)
          simp at e1
          obtain ⟨rfl, -, rfl⟩ := e1
          have hc := H.out.1.cell hkn
          rw [progN_at] at hc
          have hf := H.out.1.free k
          have RS := Lib.hid (progN_set (outR (fun i => s.getD i 0) (fun i => r.getD i 0)) (fun i => s.getD i 0) k)
          have hu := hsb.at k
          have hv := hrb.at k
          have hx : x < 18446744073709551616 := by rw [HX.out]; exact carR_lt hsb.at hrb.at k
          have HX2 : Hid ((s.getD k 0 &&& r.getD k 0) ||| ((s.getD k 0 ^^^ r.getD k 0) &&& x) = carR (fun i => s.getD i 0) (fun i => r.getD i 0) (k + 1)) := Lib.hid (by rw [carR, HX.out])
          have R := Lib.hid (And.intro (H.out.1.set k (outR (fun i => s.getD i 0) (fun i => r.getD i 0) k)) (H.out.2.setCell (p := ⟨w.heap.size, k, none⟩) (Nat.le_refl _) (.int .u64 ((outR (fun i => s.getD i 0) (fun i => r.getD i 0) k : Nat) : Int))))
          rw [RS.out] at R
          have e5 : outR (fun i => s.getD i 0) (fun i => r.getD i 0) k = (s.getD k 0 ^^^ r.getD k 0) ^^^ x := by unfold outR; rw [HX.out]
          rw [e5] at R
          clear H RS HX e5
          generalize s.getD k 0 = u at *
          generalize r.getD k 0 = v at *
          have t1 := u64_xor_nat u v hu hv
          have t2 := u64_and_nat u v hu hv
          have l1 : u ^^^ v < 18446744073709551616 := Nat.xor_lt_two_pow (n := 64) hu hv
          have l2 : u &&& v < 18446744073709551616 := Nat.and_lt_two_pow (n := 64) _ hv
          generalize u ^^^ v = o at *
          generalize u &&& v = d at *
          have t3 := u64_xor_nat o x l1 hx
          have t4 := u64_and_nat o x l1 hx
          have l4 : o &&& x < 18446744073709551616 := Nat.and_lt_two_pow (n := 64) _ hx
          generalize o ^^^ x = z at *
          generalize o &&& x = y at *
          have t5 := u64_or_nat d y l2 l4
          generalize d ||| y = x2 at *
          go_wp2
          go_roundw
          case rel => exact ⟨k + 1, x2, by omega, by go_num, rfl, HX2, R⟩
          case measure => simp [intOf]; omega
        · have hk' : k = n := by omega
          subst hk'
          have D : Hid (∃ s : List Nat, s = (if j + 1 = 0 then zerosN k else if j + 1 = 1 then addR (zerosN k) a else addTwo k a b) ∧ s.length = k ∧ bd64 s ∧ ArrU wr w.heap.size 43 k (fun i => s.getD i 0) ∧ Below w.heap.size w wr) := Lib.hid (by
            refine ⟨addR s r, ?_, by rw [addR_length, HSL.out], addR_lt hsb hrb, ?_, H.out.2⟩
            · rw [if_neg (by omega)]; exact HS.out s SJ.out
            · refine H.out.1.ext fun i hi => ?_
              rw [← addR_fill, HSL.out, listN_getD _ hi]
              unfold progN; rw [if_pos hi])
          clear H HX
          go_wp2
          go_roundw
          case rel => exact ⟨j + 1, by omega, by go_num, D⟩
          case measure => simp [intOf]; omega
    · have hj' : j = 2 := by omega
      subst hj'
      go_wp2
      go_ret
      obtain ⟨s, hs, hsl, hsb, hA, hB⟩ := H.out
      refine ⟨_, rfl, hA.mk (Nat.le_refl _) (by unfold maxLen; omega) ?_, hB⟩
      have e : s = addTwo n a b := hs
      have := listN_self (addTwo n a b)
      rw [addTwo_length] at this
      rw [e]
      exact this.symm
set_option maxRecDepth 100000 in
set_option maxHeartbeats 2000000 in
theorem implNumsAdd (c d : Value) (a b : List Nat) (w : World) (h : Uint64SIn [c] a w) (k : Uint64SIn [d] b w) (ha : bd64 a) (hb : bd64 b) :
    Calls Try.prog 28 #[c, d] w (Uint64SRet (addM a b) w) := by
  have M := Lib.hid (implMatch c d a b w h k)
  have HA := Lib.hid h
  have HB := Lib.hid k
  obtain ⟨a1, cap1, rfl, h1, h2, hr⟩ := uint64SIn_shape h
  obtain ⟨a2, cap2, rfl, k1, k2, kr⟩ := uint64SIn_shape k
  clear h h1 hr k k1 kr
  unfold maxLen at h2
  cases ht : twinsB a b with
  | false =>
    rw [ht] at M
    have E : Hid (addM a b = []) := Lib.hid (by unfold addM; rw [ht]; rfl)
    clear ht
    go_enter Try.func28, Try.ntmps28
    go_wp2_with fail
    refine M.out.mono ?_
    rintro e w' ⟨rfl, rfl⟩
    go_wp2
    go_ret
    exact ⟨_, rfl, by rw [E.out]; exact nil_own _ _ _, Below.refl _ _⟩
  | true =>
    rw [ht] at M
    have E := Lib.hid (addM_is ht ha hb)
    obtain ⟨w1, hw1⟩ : ∃ w1, w1 = w.alloc (.cells #[.slice a1 a.length cap1, .slice a2 b.length cap2] 26) := ⟨_, rfl⟩
    have hb1 : Below w.heap.size w w1 := by rw [hw1]; exact below_box (Below.refl _ _) _
    have blk : w1.heap[w.heap.size]? = some (.cells #[.slice a1 a.length cap1, .slice a2 b.length cap2] 26 (0, 0)) := by rw [hw1]; exact alloc_at _ _ _ rfl
    have A := Lib.hid (implAddRows a.length w.heap.size (.slice a1 a.length cap1) (.slice a2 b.length cap2) a b w1 (twins_iff.1 ht).2 (cur_cell blk 0) (cur_cell blk 1) (HA.out.below hb1) (HB.out.below hb1) rfl (twins_iff.1 ht).1.symm ha hb)
    rw [E.out] at A
    have HB1 := Lib.hid hb1
    clear ht hb1 blk E HA HB
    go_enter Try.func28, Try.ntmps28
    go_wp2_with fail
    refine M.out.mono ?_
    rintro e w' ⟨rfl, rfl⟩
    clear M
    go_wp2_with fail
    rw [← hw1]
    clear hw1
    refine A.out.mono ?_
    rintro e w2 ⟨c, rfl, ho, hb2⟩
    go_wp2
    go_ret
    exact ⟨_, rfl, ho.wide HB1.out.size (Nat.le_refl _), below_seq HB1.out hb2⟩
theorem inB_of {k : Nat} {z : Int} : inB k z = true ↔ 0 ≤ z ∧ z < 2 ^ k := by unfold inB; simp
/-- Numbers that are refused. -/
theorem nums_no {l : List Int} {k : Int} (h : 64 < l.length ∨ k < 0 ∨ 16 < k) : numsM l k = [] := by
  unfold numsM
  rw [if_neg]
  unfold numsOkB
  simp
  intro h1 h2 h3
  omega
theorem nums_bad {l : List Int} {k i : Nat} (hi : i < l.length) (h : inB k l[i] = false) : numsM l k = [] := by
  unfold numsM
  rw [if_neg]
  unfold numsOkB
  intro c
  simp only [Bool.and_eq_true, List.all_eq_true] at c
  have := c.2 l[i] (List.getElem_mem hi)
  rw [Int.toNat_natCast] at this
  rw [h] at this
  cases this
theorem nums_all {l : List Int} {k : Nat} (h1 : l.length ≤ 64) (h2 : k ≤ 16) (h : ∀ i (hi : i < l.length), inB k l[i] = true) : numsM l k = putN (l.map Int.toNat) k := by
  unfold numsM
  rw [if_pos, Int.toNat_natCast]
  unfold numsOkB
  simp only [Bool.and_eq_true, decide_eq_true_eq, List.all_eq_true]
  refine ⟨⟨⟨h1, by omega⟩, by omega⟩, fun z hz => ?_⟩
  obtain ⟨i, hi, rfl⟩ := List.mem_iff_getElem.1 hz
  rw [Int.toNat_natCast]
  exact h i hi
theorem putN_put (l : List Int) (k m : Nat) (hm : m < l.length) : putN ((l.take (m + 1)).map Int.toNat) k = putN ((l.take m).map Int.toNat ++ [l[m].toNat]) k := by
  rw [List.take_succ_eq_append_getElem hm, List.map_append]; rfl
set_option maxRecDepth 100000 in
set_option maxHeartbeats 4000000 in
theorem implNumsOf (c : Value) (l : List Int) (k : Int) (w : World) (h : IntSIn [c] l w) :
    Calls Try.prog 27 #[c, .int .i64 k] w (Uint64SRet (numsM l k) w) := by
  obtain ⟨a, cap, hc, h1, h2, hr⟩ := h
  simp at hc
  subst hc
  unfold maxLen at h2
  have HR := Lib.hid hr
  clear hr h1
  by_cases g1 : 64 < l.length
  · have E := Lib.hid (nums_no (l := l) (k := k) (.inl g1))
    go_enter Try.func27, Try.ntmps27
    go_wp2
    go_ret
    exact ⟨_, rfl, by rw [E.out]; exact nil_own _ _ _, Below.refl _ _⟩
  by_cases g2 : k < 0
  · have E := Lib.hid (nums_no (l := l) (k := k) (.inr (.inl g2)))
    go_enter Try.func27, Try.ntmps27
    go_wp2
    go_ret
    exact ⟨_, rfl, by rw [E.out]; exact nil_own _ _ _, Below.refl _ _⟩
  by_cases g3 : 16 < k
  · have E := Lib.hid (nums_no (l := l) (k := k) (.inr (.inr g3)))
    go_enter Try.func27, Try.ntmps27
    go_wp2
    go_ret
    exact ⟨_, rfl, by rw [E.out]; exact nil_own _ _ _, Below.refl _ _⟩
  obtain ⟨n, rfl⟩ : ∃ n : Nat, k = n := ⟨k.toNat, by omega⟩
  have hn : n ≤ 16 := by omega
  have hp := pow_le16 hn
  have hw : wrap64 (2 ^ n : Int) = 2 ^ n := by
    obtain ⟨Q, hQ⟩ : ∃ Q : Nat, (2 : Int) ^ n = Q := ⟨2 ^ n, by simp⟩
    have hQ2 : Q ≤ 65536 := by
      have : ((Q : Nat) : Int) = ((2 ^ n : Nat) : Int) := by rw [← hQ]; simp
      omega
    rw [hQ]
    unfold wrap64; omega
  have NB := Lib.hid (fun i (hi : i < l.length) hB => nums_bad (l := l) (k := n) (i := i) hi hB)
  have NA := Lib.hid (nums_all (l := l) (k := n) (by omega) hn)
  clear g2 g3
  obtain ⟨i0, hi, hz0, hz1, hz2⟩ := info_parts Try.infoU64
  go_enter Try.func27, Try.ntmps27
  go_wp2_with (at_make; refine wpList_make_full _ rfl _ _ 26 rfl w.heap.size 43 i0 (.int .u64 0) 1 Try.underlying26 hi hz0 hz1 .i64 .i64 _ _ n rfl rfl rfl rfl (by rw [hz2]; omega) (by unfold maxLen; omega) (Nat.le_refl _) ?_)
  clear hi hz0 hz1 hz2
  intro w2 hown hgr
  rw [toList_madeCells_one] at hown
  have A0 : Hid ((∀ i (hi : i < l.length), i < 0 → inB n l[i] = true) ∧ ArrU w2 w.heap.size 43 n (fun j => (putN ((l.take 0).map Int.toNat) n).getD j 0) ∧ Below w.heap.size w w2) := Lib.hid ⟨fun i _ h => absurd h (Nat.not_lt_zero _), by
    refine ArrU.ext (F := fun _ => 0) (own_arrG hown) fun i hi => ?_
    rw [List.take_zero, List.map_nil, putN_nil]
    simp [zerosN, List.getD, hi], grown_below hgr⟩
  clear hown hgr
  go_wp2
  go_loopw [24, 6, 7, 8] (fun i _ _ _ wr => ∃ m : Nat, m ≤ l.length ∧ i = .int .i64 m ∧ Hid ((∀ i (hi : i < l.length), i < m → inB n l[i] = true) ∧ ArrU wr w.heap.size 43 n (fun j => (putN ((l.take m).map Int.toNat) n).getD j 0) ∧ Below w.heap.size w wr)) (fun i _ _ _ _ => l.length - (intOf i).toNat)
  case atStart => exact ⟨0, Nat.zero_le _, rfl, A0⟩
  case round =>
    clear A0
    obtain ⟨m, hm, rfl, H⟩ := hrel
    by_cases hlt : m < l.length
    · obtain ⟨b, off, e1, q⟩ := (HR.out.below H.out.2.2).at (i := m) (by simpa using hlt)
      subst e1
      rw [ival_at hlt] at q
      cases hB : inB n l[m] with
      | false =>
        have N := Lib.hid (NB.out m hlt hB)
        by_cases hneg : l[m] < 0
        · generalize l[m] = z at *
          clear hB
          go_wp2
          go_ret
          exact ⟨_, rfl, by rw [N.out]; exact nil_own _ _ _, H.out.2.2⟩
        · have hge : (2 : Int) ^ n ≤ l[m] := by
            rcases Int.lt_or_le l[m] (2 ^ n) with c | c
            · rw [inB_of.2 ⟨by omega, c⟩] at hB; cases hB
            · exact c
          generalize l[m] = z at *
          clear hB
          go_wp2
          go_ret
          exact ⟨_, rfl, by rw [N.out]; exact nil_own _ _ _, H.out.2.2⟩
      | true =>
        obtain ⟨z0, z1⟩ := inB_of.1 hB
        have PP := Lib.hid (fun j => putN_getD_or ((l.take m).map Int.toNat) l[m].toNat n j)
        rw [← putN_put l n m hlt] at PP
        have hml : ((l.take m).map Int.toNat).length = m := by simp; omega
        rw [hml] at PP
        have lo := Lib.hid (fun j => getD_lt (B := 18446744073709551616) (by omega) (putN_lt ((l.take m).map Int.toNat) n (by rw [hml]; omega)) j)
        have H2 : Hid (∀ i (hi : i < l.length), i < m + 1 → inB n l[i] = true) := Lib.hid (fun i hi h => by
          by_cases e : i = m
          · subst e; exact hB
          · exact H.out.1 i hi (by omega))
        have A1 : Hid (ArrU wr w.heap.size 43 n (progN (fun j => (putN ((l.take (m + 1)).map Int.toNat) n).getD j 0) (fun j => (putN ((l.take m).map Int.toNat) n).getD j 0) 0) ∧ Below w.heap.size w wr) := Lib.hid ⟨by rw [progN_zero]; exact H.out.2.1, H.out.2.2⟩
        obtain ⟨z, ez⟩ : ∃ z : Nat, l[m] = z := ⟨l[m].toNat, by omega⟩
        rw [ez] at z1 q PP
        rw [Int.toNat_natCast] at PP
        have zq : z < 2 ^ n := by
          have : ((z : Nat) : Int) < ((2 ^ n : Nat) : Int) := by simpa using z1
          omega
        have hm63 : m ≤ 63 := by omega
        clear hB z0 ez H NB hml
        generalize hG : (fun j => (putN ((l.take (m + 1)).map Int.toNat) n).getD j 0) = G at *
        have HG := Lib.hid hG
        have PPG : Hid (∀ j, j < n → G j = (putN ((l.take m).map Int.toNat) n).getD j 0 ||| (if z.testBit j then 2 ^ m else 0)) := Lib.hid (fun j hj => by rw [← PP.out j hj, ← hG])
        clear hG PP
        go_wp2
        go_loopw [39, 8] (fun i _ wq => ∃ j : Nat, j ≤ n ∧ i = .int .i64 j ∧ Hid (ArrU wq w.heap.size 43 n (progN G (fun j => (putN ((l.take m).map Int.toNat) n).getD j 0) j) ∧ Below w.heap.size w wq)) (fun i _ _ => n - (intOf i).toNat)
        case atStart => exact ⟨0, Nat.zero_le _, rfl, A1⟩
        case round =>
          clear A1 q
          obtain ⟨j, hj, rfl, H⟩ := hrel
          by_cases hjn : j < n
          · have hc := H.out.1.cell hjn
            rw [progN_at] at hc
            have hf := H.out.1.free j
            have RS := Lib.hid (progN_set G (fun j => (putN ((l.take m).map Int.toNat) n).getD j 0) j)
            have ej := PPG.out j hjn
            have R := Lib.hid (And.intro ((H.out.1.drew 1).set j (G j)) ((below_seq H.out.2 (belowN 1)).setCell (p := ⟨w.heap.size, j, none⟩) (Nat.le_refl _) (.int .u64 ((G j : Nat) : Int))))
            rw [RS.out] at R
            have hu := lo.out j
            generalize (putN ((l.take m).map Int.toNat) n).getD j 0 = u at *
            generalize G j = v at *
            have q1 : bits .and .i64 ((z : Int) / 2 ^ j) 1 = (((z.testBit j).toNat : Nat) : Int) := by
              rw [show (z : Int) / 2 ^ j = ((z / 2 ^ j : Nat) : Int) from by simp, ← bitN, ← bit_and1]
              exact i64_and_nat _ 1 (Nat.lt_of_le_of_lt (Nat.div_le_self _ _) (by omega)) (by omega)
            have eT : (if z.testBit j then 2 ^ m else 0) = (z.testBit j).toNat * 2 ^ m := by cases z.testBit j <;> simp
            rw [eT] at ej
            have hbit : (z.testBit j).toNat ≤ 1 := Bool.toNat_le _
            generalize (z.testBit j).toNat = tt at *
            have hP : 2 ^ m ≤ 9223372036854775808 := Nat.pow_le_pow_right (n := 2) (by omega) hm63
            have hT : tt * 2 ^ m ≤ 9223372036854775808 := by
              have : tt * 2 ^ m ≤ 1 * 2 ^ m := Nat.mul_le_mul_right _ hbit
              omega
            have q2 : IntKind.u64.wrap (tt : Int) = tt := by rw [IntKind.wrap_u64]; omega
            have q3 : IntKind.u64.wrap ((tt : Int) * 2 ^ m) = ((tt * 2 ^ m : Nat) : Int) := by
              rw [show (tt : Int) * 2 ^ m = ((tt * 2 ^ m : Nat) : Int) from by simp, IntKind.wrap_u64]
              generalize tt * 2 ^ m = T at *
              omega
            have q4 := u64_or_nat u (tt * 2 ^ m) hu (by omega)
            rw [← ej] at q4
            generalize tt * 2 ^ m = T at *
            have i1 : (0 : Int) ≤ (j : Int) := by omega
            have i2 : (j : Int) < (n : Int) := by omega
            clear H RS ej eT hP
            go_wp2
            go_region
            go_wp2
            go_roundw
            case rel => exact ⟨j + 1, by omega, by go_num, R⟩
            case measure => simp [intOf]; omega
          · have hj' : j = n := by omega
            subst hj'
            have D : Hid (ArrU wr w.heap.size 43 j G ∧ Below w.heap.size w wr) := Lib.hid ⟨H.out.1.ext fun i hi => by unfold progN; rw [if_pos hi], H.out.2⟩
            clear H
            go_wp2
            go_roundw
            case rel => exact ⟨m + 1, by omega, by go_num, Lib.hid ⟨H2.out, by rw [HG.out]; exact D.out.1, D.out.2⟩⟩
            case measure => simp [intOf]; omega
    · have hk' : m = l.length := by omega
      subst hk'
      go_wp2
      go_ret
      refine ⟨_, rfl, H.out.2.1.mk (Nat.le_refl _) (by unfold maxLen; omega) ?_, H.out.2.2⟩
      rw [NA.out (fun i hi => H.out.1 i hi hi), List.take_of_length_le (Nat.le_refl _)]
      have := listN_self (putN (l.map Int.toNat) n)
      rw [putN_length] at this
      exact this.symm
end Go.Proofs.Ytfdlmpjccoaejaa
