/- Chapter 7 in the model: numbers in planes. -/
import Derived.Test.YtfdlmpjccoaejaaNuJ
import Derived.Test.YtfdlmpjccoaejaaPow
namespace Go.Proofs.Ytfdlmpjccoaejaa
open Go.RowKit
set_option linter.unusedVariables false

/-- What an append leaves below. -/
theorem app_below {s n : Nat} {w wr w1 : World} {v : Value} {e : TypeId} {xs : List Value} (hB : Below w.heap.size w wr) (hO : wr.ownsRow w.heap.size e s v n xs) (o : Obj) (hg : (wr.alloc o).grownBy w1 v.ownBlock) : Below w.heap.size w w1 :=
  (below_box hB o).grown hg (by have := hB.size; simp; omega) (fun g hg => (hO.lt g hg).1)
theorem ones_iv (l : List Int) : ∀ u ∈ l.map ival, u.oneCell' = true := by
  intro u hu
  obtain ⟨z, _, rfl⟩ := List.mem_map.1 hu
  rfl
set_option maxRecDepth 100000 in
set_option maxHeartbeats 1000000 in
theorem specGet (c : Value) (l : List Nat) (ln : Nat) (w : World) (h : Uint64SIn [c] l w) (hb : bd64 l) (hl : l.length ≤ 16) (hn : ln < 64) :
    Calls Try.prog 85 #[c, .int .i64 ln] w fun e w' => e = .returned (.int .i64 ((getN l ln : Nat) : Int)) ∧ w = w' := by
  have H := Lib.hid h
  obtain ⟨a, cap, rfl, h1, h2, hr⟩ := uint64SIn_shape h
  clear h h1 hr h2
  go_enter Try.func85, Try.ntmps85
  go_wp2
  go_loop [5, 6] (fun n i => ∃ k y : Nat, k ≤ l.length ∧ i = .int .i64 ((k : Int) - 1) ∧ n = .int .i64 (y : Int) ∧ Hid (y = getN (l.drop k) ln)) (fun _ i => (intOf i + 1).toNat)
  case atStart => exact ⟨l.length, 0, Nat.le_refl _, by go_num, rfl, Lib.hid (by rw [List.drop_of_length_le (Nat.le_refl _)]; rfl)⟩
  case round =>
    obtain ⟨k, y, hk, rfl, rfl, HY⟩ := hrel
    cases k with
    | zero =>
      have HE : Hid (y = getN l ln) := Lib.hid (by rw [HY.out, List.drop_zero])
      clear HY
      go_wp2
      go_ret
      exact ⟨ret_int (by rw [HE.out]), rfl⟩
    | succ k =>
      have ek : ((k + 1 : Nat) : Int) - 1 = (k : Int) := by omega
      rw [ek]
      clear ek
      obtain ⟨b, off, cap', e, q⟩ := in_at H.out (i := k) (by omega)
      simp at e
      obtain ⟨rfl, rfl⟩ := e
      have GD := Lib.hid (getN_drop l ln k (by omega))
      have egd : l[k] = l.getD k 0 := by simp [List.getD, show k < l.length by omega]
      rw [egd] at GD
      have hx := hb.at k
      have hy : y < 65536 := by
        rw [HY.out]
        refine Nat.lt_of_lt_of_le (getN_lt _ _) ?_
        exact pow_le16 (by rw [List.length_drop]; omega)
      clear egd
      generalize l.getD k 0 = x at *
      have B := Lib.hid (fun w => specBit x ln w hx (by omega))
      cases hbt : x.testBit ln
      · rw [hbt] at B GD
        have HY2 : Hid (2 * y = getN (l.drop k) ln) := Lib.hid (by rw [GD.out, HY.out]; simp)
        clear GD HY hbt
        go_wp2_with fail
        refine (B.out _).mono ?_
        rintro e w1 ⟨rfl, rfl⟩
        go_wp2
        go_round
        case rel => exact ⟨k, 2 * y, by omega, by go_num, by go_num, HY2⟩
        case measure => simp [intOf]
      · rw [hbt] at B GD
        have HY2 : Hid (2 * y + 1 = getN (l.drop k) ln) := Lib.hid (by rw [GD.out, HY.out]; simp; omega)
        clear GD HY hbt
        go_wp2_with fail
        refine (B.out _).mono ?_
        rintro e w1 ⟨rfl, rfl⟩
        go_wp2
        go_round
        case rel => exact ⟨k, 2 * y + 1, by omega, by go_num, by go_num, HY2⟩
        case measure => simp [intOf]
set_option maxHeartbeats 1000000 in
theorem specNumAt (c : Value) (l : List Nat) (lane : Int) (w : World) (h : Uint64SIn [c] l w) (hb : bd64 l) :
    Calls Try.prog 50 #[c, .int .i64 lane] w fun e w' => e = .returned (.int .i64 (numZ l lane)) ∧ w = w' := by
  have H := Lib.hid h
  obtain ⟨a, cap, rfl, h1, h2, hr⟩ := uint64SIn_shape h
  unfold maxLen at h2
  clear h h1 hr
  by_cases g3 : 16 < l.length
  · have E : Hid (numZ l lane = -1) := Lib.hid (by unfold numZ; rw [if_neg (by omega)])
    go_enter Try.func50, Try.ntmps50
    go_wp2
    go_ret
    exact ⟨ret_int E.out.symm, rfl⟩
  by_cases g1 : lane < 0
  · have E : Hid (numZ l lane = -1) := Lib.hid (by unfold numZ; rw [if_neg (by omega)])
    go_enter Try.func50, Try.ntmps50
    go_wp2
    go_ret
    exact ⟨ret_int E.out.symm, rfl⟩
  by_cases g2 : 63 < lane
  · have E : Hid (numZ l lane = -1) := Lib.hid (by unfold numZ; rw [if_neg (by omega)])
    go_enter Try.func50, Try.ntmps50
    go_wp2
    go_ret
    exact ⟨ret_int E.out.symm, rfl⟩
  obtain ⟨ln, rfl⟩ : ∃ n : Nat, lane = n := ⟨lane.toNat, by omega⟩
  have E : Hid (numZ l ln = (getN l ln : Int)) := Lib.hid (by unfold numZ; rw [if_pos (by omega)]; simp)
  have G := Lib.hid (specGet _ l ln w H.out hb (by omega) (by omega))
  go_enter Try.func50, Try.ntmps50
  go_wp2_with fail
  refine G.out.mono ?_
  rintro e w1 ⟨rfl, rfl⟩
  go_wp2
  go_ret
  exact ⟨ret_int E.out.symm, rfl⟩
set_option maxRecDepth 100000 in
set_option maxHeartbeats 4000000 in
theorem specPut (c : Value) (l : List Int) (n : Nat) (w : World) (h : IntSIn [c] l w) (h64 : l.length ≤ 64) (hn : n ≤ 16) (hpos : ∀ z ∈ l, 0 ≤ z ∧ z < 9223372036854775808) :
    Calls Try.prog 64 #[c, .int .i64 n] w (Uint64SRet (putN (l.map Int.toNat) n) w) := by
  obtain ⟨a, cap, hc, h1, h2, hr⟩ := h
  simp at hc
  subst hc
  have HR := Lib.hid hr
  have HP := Lib.hid hpos
  clear hr h1 h2 hpos
  obtain ⟨i0, hi, hz0, hz1, hz2⟩ := info_parts Try.infoU64
  go_enter Try.func64, Try.ntmps64
  go_wp2_with (at_make; refine wpList_make_full _ rfl _ _ 26 rfl w.heap.size 43 i0 (.int .u64 0) 1 Try.underlying26 hi hz0 hz1 .i64 .i64 _ _ n rfl rfl rfl rfl (by rw [hz2]; omega) (by unfold maxLen; omega) (Nat.le_refl _) ?_)
  clear hi hz0 hz1 hz2
  intro w2 hown hgr
  rw [toList_madeCells_one] at hown
  have A0 : Hid (ArrU w2 w.heap.size 43 n (fun j => (putN ((l.take 0).map Int.toNat) n).getD j 0) ∧ Below w.heap.size w w2) := Lib.hid ⟨by
    refine ArrU.ext (F := fun _ => 0) (own_arrG hown) fun i hi => ?_
    rw [List.take_zero, List.map_nil, putN_nil]
    simp [zerosN, List.getD, hi], grown_below hgr⟩
  clear hown hgr
  go_wp2
  go_loopw [6, 7, 8] (fun i _ _ wr => ∃ m : Nat, m ≤ l.length ∧ i = .int .i64 m ∧ Hid (ArrU wr w.heap.size 43 n (fun j => (putN ((l.take m).map Int.toNat) n).getD j 0) ∧ Below w.heap.size w wr)) (fun i _ _ _ => l.length - (intOf i).toNat)
  case atStart => exact ⟨0, Nat.zero_le _, rfl, A0⟩
  case round =>
    clear A0
    obtain ⟨m, hm, rfl, H⟩ := hrel
    by_cases hlt : m < l.length
    · obtain ⟨b, off, e1, q⟩ := (HR.out.below H.out.2).at (i := m) (by simpa using hlt)
      subst e1
      rw [ival_at hlt] at q
      obtain ⟨z0, z1⟩ := HP.out _ (List.getElem_mem hlt)
      have PP := Lib.hid (fun j => putN_getD_snoc ((l.take m).map Int.toNat) l[m].toNat n j)
      rw [← putN_put l n m hlt] at PP
      have hml : ((l.take m).map Int.toNat).length = m := by simp; omega
      rw [hml] at PP
      have hml2 : ((l.take (m + 1)).map Int.toNat).length = m + 1 := by simp; omega
      have lo := Lib.hid (fun j => getD_lt (B := 18446744073709551616) (by omega) (putN_lt ((l.take (m + 1)).map Int.toNat) n (by rw [hml2]; omega)) j)
      have A1 : Hid (ArrU wr w.heap.size 43 n (progN (fun j => (putN ((l.take (m + 1)).map Int.toNat) n).getD j 0) (fun j => (putN ((l.take m).map Int.toNat) n).getD j 0) 0) ∧ Below w.heap.size w wr) := Lib.hid ⟨by rw [progN_zero]; exact H.out.1, H.out.2⟩
      obtain ⟨z, ez⟩ : ∃ z : Nat, l[m] = z := ⟨l[m].toNat, by omega⟩
      rw [ez] at z1 q PP
      rw [Int.toNat_natCast] at PP
      clear ez z0 H hml hml2
      generalize hG : (fun j => (putN ((l.take (m + 1)).map Int.toNat) n).getD j 0) = G at *
      have HG := Lib.hid hG
      have PPG : Hid (∀ j, j < n → G j = (putN ((l.take m).map Int.toNat) n).getD j 0 + (if z.testBit j then 2 ^ m else 0)) := Lib.hid (fun j hj => by rw [← PP.out j hj, ← hG])
      have LG : Hid (∀ j, G j < 18446744073709551616) := Lib.hid (fun j => by rw [← hG]; exact lo.out j)
      clear hG PP lo
      have PW := Lib.hid (fun w => specPower m w (by omega))
      generalize 2 ^ m = P at *
      go_wp2
      go_loopw [7, 8] (fun v i wq => ∃ j y : Nat, j ≤ n ∧ i = .int .i64 j ∧ v = .int .i64 (y : Int) ∧ y < 9223372036854775808 ∧ Hid (y = z / 2 ^ j) ∧ Hid (ArrU wq w.heap.size 43 n (progN G (fun j => (putN ((l.take m).map Int.toNat) n).getD j 0) j) ∧ Below w.heap.size w wq)) (fun _ i _ => n - (intOf i).toNat)
      case atStart => exact ⟨0, z, Nat.zero_le _, rfl, rfl, by omega, Lib.hid (by simp), A1⟩
      case round =>
        clear A1 q
        obtain ⟨j, y, hj, rfl, rfl, hy, HY, H⟩ := hrel
        by_cases hjn : j < n
        · have hc := H.out.1.cell hjn
          rw [progN_at] at hc
          have hf := H.out.1.free j
          have RS := Lib.hid (progN_set G (fun j => (putN ((l.take m).map Int.toNat) n).getD j 0) j)
          have ej := PPG.out j hjn
          have lj := LG.out j
          obtain ⟨r, hr⟩ : ∃ r : Nat, y % 2 = r := ⟨_, rfl⟩
          obtain ⟨hh, hhe⟩ : ∃ hh : Nat, y / 2 = hh := ⟨_, rfl⟩
          have t1 : (y : Int).tmod 2 = (r : Int) := by rw [Int.tmod_eq_emod_of_nonneg (by omega)]; omega
          have t2 : (y : Int).tdiv 2 = (hh : Int) := by rw [Int.tdiv_eq_ediv_of_nonneg (by omega)]; omega
          have hhl : hh < 9223372036854775808 := by omega
          have tb := bit_is z j
          rw [← HY.out] at tb
          have HY2 : Hid (hh = z / 2 ^ (j + 1)) := Lib.hid (by rw [← hhe, HY.out, Nat.pow_succ, Nat.div_div_eq_div_mul])
          rw [hr] at tb
          clear hhe hr HY
          cases hbt : z.testBit j
          · rw [hbt] at tb ej
            have hne : r ≠ 1 := by simpa using tb
            have hB : ((r : Int) == 1) = false := by simp; omega
            simp at ej
            have R : Hid (ArrU wr w.heap.size 43 n (progN G (fun j => (putN ((l.take m).map Int.toNat) n).getD j 0) (j + 1)) ∧ Below w.heap.size w wr) := Lib.hid ⟨H.out.1.ext fun i hi => by
              unfold progN
              by_cases e : i = j
              · subst e; rw [if_neg (by omega), if_pos (by omega), ej]
                simp [List.getD]
              · by_cases hij : i < j
                · rw [if_pos hij, if_pos (by omega)]
                · rw [if_neg hij, if_neg (by omega)], H.out.2⟩
            clear H RS ej tb hbt hc hf hne lj
            go_wp2
            go_roundw
            case rel => exact ⟨j + 1, hh, by omega, by go_num, rfl, hhl, HY2, R⟩
            case measure => simp [intOf]; omega
          · rw [hbt] at tb ej
            have hne : r = 1 := by simpa using tb
            have hB : ((r : Int) == 1) = true := by rw [hne]; rfl
            simp only [↓reduceIte] at ej
            have R := Lib.hid (And.intro (ArrU.set (w := wr.drew) (H.out.1.drew 1) j (G j)) ((below_drew H.out.2).setCell (p := ⟨w.heap.size, j, none⟩) (Nat.le_refl _) (.int .u64 ((G j : Nat) : Int))))
            rw [RS.out] at R
            generalize (putN ((l.take m).map Int.toNat) n).getD j 0 = u at *
            generalize G j = v at *
            have hq : IntKind.u64.wrap ((u : Int) + (P : Int)) = (v : Int) := by rw [IntKind.wrap_u64]; omega
            have i1 : (0 : Int) ≤ (j : Int) := by omega
            have i2 : (j : Int) < (n : Int) := by omega
            clear H RS ej tb hbt hne lj
            go_wp2
            go_region_law (refine step_callW wr.drew rfl (by rfl) 87 _ _ rfl _ (by kernel_rfl) Try.call87 _ (PW.out wr.drew) ?_; rintro e w4 ⟨rfl, rfl⟩; refine ⟨_, rfl, ?_⟩)
            all_goals
              go_wp2
              go_roundw
              case rel => exact ⟨j + 1, hh, by omega, by go_num, rfl, hhl, HY2, R⟩
              case measure => simp [intOf]; omega
        · have hj' : j = n := by omega
          subst hj'
          have D : Hid (ArrU wr w.heap.size 43 j G ∧ Below w.heap.size w wr) := Lib.hid ⟨H.out.1.ext fun i hi => by unfold progN; rw [if_pos hi], H.out.2⟩
          clear H HY
          go_wp2
          go_roundw
          case rel => exact ⟨m + 1, by omega, by go_num, Lib.hid ⟨by rw [HG.out]; exact D.out.1, D.out.2⟩⟩
          case measure => simp [intOf]; omega
    · have hk' : m = l.length := by omega
      subst hk'
      go_wp2
      go_ret
      refine ⟨_, rfl, H.out.1.mk (Nat.le_refl _) (by unfold maxLen; omega) ?_, H.out.2⟩
      rw [List.take_of_length_le (Nat.le_refl _)]
      have := listN_self (putN (l.map Int.toNat) n)
      rw [putN_length] at this
      exact this.symm
set_option maxHeartbeats 400000 in
theorem specTwins (c d : Value) (a b : List Nat) (w : World) (h : Uint64SIn [c] a w) (k : Uint64SIn [d] b w) :
    Calls Try.prog 86 #[c, d] w fun e w' => e = .returned (.bool (twinsB a b)) ∧ w = w' := by
  obtain ⟨a1, cap1, rfl, h1, h2, hr⟩ := uint64SIn_shape h
  obtain ⟨a2, cap2, rfl, k1, k2, kr⟩ := uint64SIn_shape k
  unfold maxLen at h2 k2
  clear h h1 hr k k1 kr
  by_cases e : a.length = b.length
  · by_cases g : a.length ≤ 16
    · have E : Hid (twinsB a b = true) := Lib.hid (twins_iff.2 ⟨e, g⟩)
      rw [← e]
      clear e
      go_enter Try.func86, Try.ntmps86
      go_wp2
      go_ret
      refine ⟨ret_bool ?_, rfl⟩
      rw [E.out]; simp; omega
    · have E : Hid (twinsB a b = false) := Lib.hid (by rw [Bool.eq_false_iff]; intro c; exact g (twins_iff.1 c).2)
      rw [← e]
      clear e
      go_enter Try.func86, Try.ntmps86
      go_wp2
      go_ret
      refine ⟨ret_bool ?_, rfl⟩
      rw [E.out]; simp; omega
  · have E : Hid (twinsB a b = false) := Lib.hid (by rw [Bool.eq_false_iff]; intro c; exact e (twins_iff.1 c).1)
    have hB : ((a.length : Int) == (b.length : Int)) = false := by simp; omega
    go_enter Try.func86, Try.ntmps86
    go_wp2
    go_ret
    exact ⟨ret_bool E.out.symm, rfl⟩
/-- Numbers as integers. -/
def intsN (k : Nat) (F : Nat → Nat) : List Int := (List.range k).map fun i => ((F i : Nat) : Int)
theorem intsN_snoc (k : Nat) (F : Nat → Nat) : (intsN (k + 1) F).map ival = (intsN k F).map ival ++ [.int .i64 ((F k : Nat) : Int)] := by simp [intsN, List.range_succ, ival]
theorem intsN_length (k : Nat) (F : Nat → Nat) : (intsN k F).length = k := by simp [intsN]
theorem intsN_nats (k : Nat) (F : Nat → Nat) : (intsN k F).map Int.toNat = listN k F := by simp [intsN, listN]
theorem intsN_pos {k : Nat} {F : Nat → Nat} (h : ∀ i, i < k → F i < 9223372036854775808) : ∀ z ∈ intsN k F, 0 ≤ z ∧ z < 9223372036854775808 := by
  intro z hz
  unfold intsN at hz
  obtain ⟨i, hi, rfl⟩ := List.mem_map.1 hz
  have := h i (by simpa using hi)
  exact ⟨by omega, by omega⟩
theorem nil_ints (w : World) : (w.alloc (.cells #[] 3)).ownsRow w.heap.size 3 1 (.slice (some ⟨w.heap.size, 0, none⟩) 0 0) 0 [] := World.ownsRow_made w #[] 0 (Nat.le_refl _) (by unfold maxLen; omega) rfl
set_option maxRecDepth 100000 in
set_option maxHeartbeats 4000000 in
theorem specNumsAdd (c d : Value) (a b : List Nat) (w : World) (h : Uint64SIn [c] a w) (k : Uint64SIn [d] b w) (ha : bd64 a) (hb : bd64 b) :
    Calls Try.prog 52 #[c, d] w (Uint64SRet (addM a b) w) := by
  have M := Lib.hid (specTwins c d a b w h k)
  have HA := Lib.hid h
  have HB := Lib.hid k
  obtain ⟨a1, cap1, rfl, h1, h2, hr⟩ := uint64SIn_shape h
  obtain ⟨a2, cap2, rfl, k1, k2, kr⟩ := uint64SIn_shape k
  clear h h1 hr k k1 kr
  unfold maxLen at h2
  cases ht : twinsB a b with
  | false =>
    rw [ht] at M
    have E : Hid (addM a b = []) := Lib.hid (by unfold addM; rw [ht]; rfl)
    clear ht
    go_enter Try.func52, Try.ntmps52
    go_wp2_with fail
    refine M.out.mono ?_
    rintro e w' ⟨rfl, rfl⟩
    go_wp2
    go_ret
    exact ⟨_, rfl, by rw [E.out]; exact nil_own _ _ _, Below.refl _ _⟩
  | true =>
    rw [ht] at M
    have E : Hid (addM a b = putN (listN 64 (fun l => (getN a l + getN b l) % 2 ^ a.length)) a.length) := Lib.hid (by unfold addM; rw [ht, if_pos rfl])
    have h16 := (twins_iff.1 ht).2
    have hb16 : b.length ≤ 16 := by have := (twins_iff.1 ht).1; omega
    have hp := pow_le16 h16
    have hp0 : 0 < 2 ^ a.length := Nat.pow_pos (by omega)
    have GA := Lib.hid (fun (l : Nat) w' (hl : l < 64) (hb' : Below w.heap.size w w') => specGet _ a l w' (HA.out.below hb') ha h16 hl)
    have GB := Lib.hid (fun (l : Nat) w' (hl : l < 64) (hb' : Below w.heap.size w w') => specGet _ b l w' (HB.out.below hb') hb hb16 hl)
    have LA := Lib.hid (fun l => Nat.lt_of_lt_of_le (getN_lt a l) (pow_le16 h16))
    have LB := Lib.hid (fun l => Nat.lt_of_lt_of_le (getN_lt b l) (pow_le16 hb16))
    have PW := Lib.hid (fun w => specPow16 a.length w h16)
    have PU := Lib.hid (fun c l w' hI h64 hpos => specPut c l a.length w' hI h64 h16 hpos)
    clear ht HA HB hb16
    go_enter Try.func52, Try.ntmps52
    go_wp2_with fail
    refine M.out.mono ?_
    rintro e w' ⟨rfl, rfl⟩
    clear M
    generalize 2 ^ a.length = P at *
    generalize hF : (fun l => (getN a l + getN b l) % P) = F at *
    have HF : Hid (∀ l, (getN a l + getN b l) % P = F l) := Lib.hid (fun l => by rw [← hF])
    clear hF
    go_wp2
    go_loopw [5, 6] (fun o i wr => ∃ (k c : Nat) (ad : Option Addr), k ≤ 64 ∧ i = .int .i64 k ∧ o = .slice ad k c ∧ Hid (wr.ownsRow w.heap.size 3 1 (.slice ad k c) k ((intsN k F).map ival) ∧ Below w.heap.size w wr)) (fun _ i _ => 64 - (intOf i).toNat)
    case atStart => exact ⟨0, 0, _, Nat.zero_le _, rfl, rfl, Lib.hid ⟨nil_ints w, below_box (Below.refl _ _) _⟩⟩
    case round =>
      obtain ⟨k, c, ad, hk, rfl, rfl, H⟩ := hrel
      by_cases hlt : k < 64
      · have A := Lib.hid (GA.out k wr hlt H.out.2)
        have B := Lib.hid (GB.out k wr hlt H.out.2)
        have la := LA.out k
        have lb := LB.out k
        have hf := HF.out k
        have SN := Lib.hid (intsN_snoc k F)
        generalize getN a k = x at *
        generalize getN b k = y at *
        have tm : ((x : Int) + (y : Int)).tmod (P : Int) = ((F k : Nat) : Int) := by
          rw [Int.tmod_eq_emod_of_nonneg (by omega), ← hf]; simp
        have pn : ¬ ((P : Int) = 0) := by omega
        have OL := Lib.hid (below_box H.out.2)
        have hsz := H.out.2.size
        clear hf
        generalize F k = z at *
        go_wp2_with fail
        refine A.out.mono ?_
        rintro e w1 ⟨rfl, rfl⟩
        go_wp2_with fail
        refine B.out.mono ?_
        rintro e w1 ⟨rfl, rfl⟩
        go_wp2_with fail
        refine (PW.out _).mono ?_
        rintro e w1 ⟨rfl, rfl⟩
        go_wp2_with (at_builtin; go_must (refine wp_app_row rfl _ _ 36 rfl 3 (.int .i64 0) 8 Try.underlying36 Try.info3 rfl w.heap.size k (.slice ad k c) ((intsN k F).map ival) (by rfl) (H.out.1.alloc _) (some ⟨wr.heap.size, 0, none⟩) 1 1 [.int .i64 z] (by rfl) rfl (row_one wr (.int .i64 z) 3) (by simp [Value.oneCell']) (by unfold maxLen; omega) (by omega) (by simp; omega) ?_); intro v3 w3 ho3 hg3; rw [← SN.out] at ho3; have F3 := Lib.hid (And.intro ho3 (app_below H.out.2 H.out.1 _ hg3)); obtain ⟨a3, c3, rfl⟩ := own_shape ho3; clear ho3 hg3)
        go_roundw
        case rel => exact ⟨k + 1, c3, a3, by omega, by go_num, rfl, F3⟩
        case measure => simp [intOf]; omega
      · have hk' : k = 64 := by omega
        subst hk'
        have Q := Lib.hid (PU.out (.slice ad 64 c) (intsN 64 F) wr ((IntSOwn.mk H.out.1).read) (by rw [intsN_length]; omega) (intsN_pos (fun i hi => by rw [← HF.out]; have := Nat.mod_lt (getN a i + getN b i) hp0; omega)))
        rw [intsN_nats] at Q
        clear PU
        go_wp2_with fail
        refine Q.out.mono ?_
        rintro e w3 ⟨c3, rfl, ho, hb3⟩
        go_wp2
        go_ret
        exact ⟨_, rfl, by rw [E.out]; exact ho.wide H.out.2.size (Nat.le_refl _), below_seq H.out.2 hb3⟩
end Go.Proofs.Ytfdlmpjccoaejaa
