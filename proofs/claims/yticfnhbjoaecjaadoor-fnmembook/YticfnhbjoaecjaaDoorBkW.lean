/- For every code: the law FnMemBook answers true: a memory is an array whose every access is logged. The table that strconv reads lies as the row lists it, and the card ties that to the program's text. -/
import Derived.Test.YticfnhbjoaecjaaDoorBase
import Derived.Test.YticfnhbjoaecjaaDoorBigIs
import Derived.Test.YticfnhbjoaecjaaDoorLPick
import Derived.Test.YticfnhbjoaecjaaDoorBytesOf
import Derived.Test.YticfnhbjoaecjaaDoorBkJ
import Derived.Test.YticfnhbjoaecjaaDoorMemRI
import Derived.Test.YticfnhbjoaecjaaDoorMemWI
import Derived.Test.YticfnhbjoaecjaaDoorMemSI
import Derived.Test.YticfnhbjoaecjaaDoorTchI
namespace Go.Proofs.YticfnhbjoaecjaaDoor.fnMemBook
open Go.ChangeShapes Go.WideShapes Go.ChangeAt Go.RowKit
set_option linter.unusedVariables false

def fillV (z k : Nat) : Nat → Value := fun i => if i < k then .string (strL (List.replicate z 0)) else .string ⟨#[]⟩
theorem fillV_set (z k n : Nat) : ∀ j, j < n → (if j = k then Value.string (strL (List.replicate z 0)) else fillV z k j) = fillV z (k + 1) j := by
  intro j _
  unfold fillV
  by_cases e : j = k
  · subst e; rw [if_pos rfl, if_pos (by omega)]
  · rw [if_neg e]
    by_cases h : j < k
    · rw [if_pos h, if_pos (by omega)]
    · rw [if_neg h, if_neg (by omega)]
theorem fillV_done (z n : Nat) : ∀ j, j < n → fillV z n j = bookV (List.replicate n (List.replicate z 0)) j := by
  intro j hj
  unfold fillV bookV
  rw [if_pos hj]
  simp [List.getD, hj]
theorem flat_len {z : Nat} : ∀ (l : List (List UInt8)) {i : Nat}, (∀ c ∈ l, c.length = z) → l.length ≤ i → l.flatten.length ≤ i * z
  | [], i, _, _ => by simp
  | c :: l, i, h, hi => by
    obtain ⟨i, rfl⟩ : ∃ k, i = k + 1 := ⟨i - 1, by simp at hi; omega⟩
    have h1 := flat_len l (i := i) (fun c hc => h c (List.mem_cons_of_mem _ hc)) (by simpa using hi)
    have h2 := h c List.mem_cons_self
    rw [List.flatten_cons, List.length_append, Nat.succ_mul]; omega
set_option maxRecDepth 100000 in
set_option maxHeartbeats 40000000 in
theorem walk (a0 : Option Addr) (len0 cap0 : Nat) (z0 : List Int) (w : World) (w0 : IsRow .u8 w a0 len0 cap0 z0) (hL : laidMetH Tryd.prog Rows.fnMemBookRow.laid w) :
    Calls Tryd.prog 3 #[.slice a0 len0 cap0] w fun e w' => e = .returned (.bool true) ∧ Below w.heap.size w w' := by
  obtain ⟨l, hl, hcap, hmax, hr⟩ := row_of_isRow w0
  have P0 := Lib.hid (pow_of hL)
  clear w0 hL
  subst hl
  have R := Lib.hid hr
  clear hr
  have hm : l.length ≤ maxLen := Nat.le_trans hcap hmax
  by_cases hbig : 1048576 < l.length
  · have hB : decide (1048576 < l.length) = true := by simp [hbig]
    go_enter Tryd.func3, Tryd.ntmps3
    go_wp2_with fail
    refine (bigIs a0 l.length cap0 _ hm).mono ?_
    rintro e w1 ⟨rfl, rfl⟩
    rw [hB]
    go_wp2
    go_ret
    exact ⟨rfl, Below.refl _ _⟩
  have hB : decide (1048576 < l.length) = false := by simp; omega
  go_enter Tryd.func3, Tryd.ntmps3
  go_wp2_with fail
  refine (bigIs a0 l.length cap0 _ hm).mono ?_
  rintro e w1 ⟨rfl, rfl⟩
  rw [hB]
  clear hB
  go_wp2_with fail
  refine (lawsPick a0 cap0 l 1 6 _ hm (by omega) (by omega) (by omega) R.out).mono ?_
  rintro e w1 ⟨⟨n', rfl, hn'⟩, rfl⟩
  go_wp2_with fail
  refine (lawsPick a0 cap0 l 2 4 _ hm (by omega) (by omega) (by omega) R.out).mono ?_
  rintro e w1 ⟨⟨z', rfl, hz'⟩, rfl⟩
  obtain ⟨n, hn⟩ : ∃ n : Nat, n = 1 + n' := ⟨_, rfl⟩
  obtain ⟨z, hz⟩ : ∃ z : Nat, z = 1 + z' := ⟨_, rfl⟩
  have en : (1 : Int) + (n' : Int) = (n : Int) := by omega
  have ez : (1 : Int) + (z' : Int) = (z : Int) := by omega
  have hn6 : n ≤ 6 := by omega
  have hn1 : 1 ≤ n := by omega
  have hz4 : z ≤ 4 := by omega
  have hz1 : 1 ≤ z := by omega
  clear hn hz
  go_wp2_with fail
  refine (uImplMemNew n z _ (by omega) (by omega)).mono ?_
  rintro e w1 ⟨c0, c1, c2, rfl, ho, hb1⟩
  obtain ⟨hBM, hnew⟩ := BookM.new n z hn6 hz1 hz4
  have BM0 := Lib.hid hBM
  rw [hnew] at ho BM0
  clear hBM hnew
  obtain ⟨q0, a1, n1, k1, a2, n2, k2, rfl, rfl, rfl⟩ := ho.shape
  have M1 := Lib.hid ((ho.lies (Nat.le_refl _)).imp (fun _ h => h.read))
  have B1 := Lib.hid hb1
  clear ho hb1
  obtain ⟨i0, hi, hz0, hz1', hz2⟩ := info_parts Tryd.infoStr
  go_wp2_with (at_make; refine wpList_make_full _ rfl _ _ 30 rfl (w1.heap.size + 1) 9 i0 (.string ⟨#[]⟩) 1 Tryd.underlying30 hi hz0 hz1' .i64 .i64 _ _ n rfl rfl rfl rfl (by rw [hz2]; omega) (by unfold maxLen; omega) (by simp) ?_)
  clear hi hz0 hz1' hz2
  intro w3 hown hgr
  rw [toList_madeCells_one] at hown
  have hV := own_vals hown
  have sz3 : w1.heap.size + 1 ≤ w3.heap.size := by have := hgr.size; simpa using this
  have hgt := (hown.lt (w1.heap.size + 1) rfl).2
  have bx3 : w3.heap[w1.heap.size]? = some (.cells #[.int .i64 q0, .slice a1 n1 k1, .slice a2 n2 k2] 28 (0, 0)) := kept_grown (alloc_at w1 _ _ rfl) hgr (by simp)
  have B3 : Below w.heap.size w w3 := below_seq (below_box B1.out (.cells #[.int .i64 q0, .slice a1 n1 k1, .slice a2 n2 k2] 28)) (grown_below hgr)
  have M3 := (M1.out.box (.cells #[.int .i64 q0, .slice a1 n1 k1, .slice a2 n2 k2] 28)).below (grown_below hgr)
  have sw := B1.out.size
  have I3 : Hid (BInv w (w3.alloc (.cells #[] 35)) w1.heap.size (w1.heap.size + 1) w3.heap.size n w.heap.size w1.heap.size (.int .i64 q0) (.slice a1 n1 k1) (.slice a2 n2 k2) ⟨z, List.replicate n (List.replicate z 0), []⟩ (fun _ => .string ⟨#[]⟩) [] (.slice (some ⟨w3.heap.size, 0, none⟩) 0 0)) :=
    Lib.hid ⟨kept_block bx3 (below_box (Below.refl _ _) _), M3.box _, .inl (Nat.le_refl _), kept_block hV (below_box (Below.refl _ _) _), World.ownsRow_made w3 #[] 0 (Nat.le_refl _) (by unfold maxLen; omega) rfl, below_box B3 _, sw, by omega, by omega, by simp⟩
  obtain ⟨b5, h5⟩ : ∃ b5, b5 = w1.heap.size := ⟨_, rfl⟩
  obtain ⟨gB, hgB⟩ : ∃ gB, gB = w1.heap.size + 1 := ⟨_, rfl⟩
  rw [← hgB, ← h5] at I3
  obtain ⟨base, hbase⟩ : ∃ base, base = w3.heap.size := ⟨_, rfl⟩
  rw [← hbase] at I3
  rw [← hgB, ← h5]
  clear hown hgr hV bx3 B3 M3 M1 B1 sz3 hgt sw
  go_wp2
  obtain ⟨w4, hw4⟩ : ∃ w4, w4 = w3.alloc (.cells #[] 35) := ⟨_, rfl⟩
  rw [← hw4, ← hbase] 
  rw [← hw4] at I3
  clear hw4 hbase h5 hgB
  obtain ⟨i1, hi, hz0, hz1', hz2⟩ := info_parts Tryd.info5
  have I5 := Lib.hid (And.intro hi (And.intro hz0 (And.intro hz1' hz2)))
  clear hi hz0 hz1' hz2
  go_loopw [8] (fun iv wr => ∃ k : Nat, k ≤ n ∧ iv = .int .i64 k ∧ Hid (BInv w wr b5 gB base n w.heap.size b5 (.int .i64 q0) (.slice a1 n1 k1) (.slice a2 n2 k2) ⟨z, List.replicate n (List.replicate z 0), []⟩ (fillV z k) [] (.slice (some ⟨base, 0, none⟩) 0 0))) (fun iv _ => n - (intOf iv).toNat)
  case atStart => exact ⟨0, Nat.zero_le _, rfl, Lib.hid (I3.out.vals (fun j _ => by unfold fillV; rw [if_neg (by omega)]))⟩
  case round =>
    clear I3
    obtain ⟨k, hk, rfl, I⟩ := hrel
    by_cases hlt : k < n
    · have hk0 : (0 : Int) ≤ (k : Int) := by omega
      have hk1 : (k : Int) < (n : Int) := by omega
      go_wp2_with (at_make; refine wpList_make_full _ rfl _ _ 22 rfl wr.heap.size 5 i1 (.int .u8 0) 1 Tryd.underlying22 I5.out.1 I5.out.2.1 I5.out.2.2.1 .i64 .i64 _ _ z rfl rfl rfl rfl (by rw [I5.out.2.2.2]; omega) (by unfold maxLen; omega) (Nat.le_refl _) ?_)
      intro w5 hown hgr
      rw [toList_madeCells_one] at hown
      have hcv := conv_own z (l := List.replicate z 0) (by simp) (by simpa [bval] using hown)
      have J := I.out.below (grown_below hgr)
      have hc := J.book.cell (k := k) hlt
      have hf := cur_free J.book k
      have N := Lib.hid ((J.note k (.string (strL (List.replicate z 0)))).vals (fillV_set z k n))
      clear hown hgr J I
      go_wp2
      go_roundw
      case rel => exact ⟨k + 1, by omega, by go_num, N⟩
      case measure => simp [intOf]; omega
    · have hkn : k = n := by omega
      subst hkn
      have II := Lib.hid (I.out.vals (fillV_done z k))
      clear I
      go_wp2
      obtain ⟨v, hv, hv40, hvl⟩ : ∃ v : Nat, (if (l.length : Int) < 40 then (l.length : Int) else 40) = (v : Int) ∧ v ≤ 40 ∧ v ≤ l.length := ⟨min 40 l.length, by split <;> omega, by omega, by omega⟩
      have hmn : ∀ w ts t, (Builtin.min_ ts t #[.int .i64 40, .int .i64 l.length]).run Tryd.prog w = .ok (.int .i64 v) w := fun w ts t => by simp [Builtin.min_, Builtin.min2, hv]
      go_loopw [9, 7] (fun kv lv wr => ∃ (j lo hi : Nat) (p0 : Int) (a1 : Option Addr) (n1 k1 : Nat) (a2 : Option Addr) (n2 k2 : Nat) (al : Option Addr) (cl : Nat) (m : MemM), j ≤ v ∧ kv = .int .i64 j ∧ lv = .slice al m.log.length cl ∧ m.log.length ≤ j ∧ Hid (BookM k z m) ∧
        Hid (BInv w wr b5 gB base k lo hi (.int .i64 p0) (.slice a1 n1 k1) (.slice a2 n2 k2) m (bookV m.cells) m.log (.slice al m.log.length cl))) (fun kv _ _ => v - (intOf kv).toNat)
      case atStart => exact ⟨0, _, _, _, _, _, _, _, _, _, _, _, _, Nat.zero_le _, rfl, rfl, Nat.zero_le _, BM0, II⟩
      case round =>
        clear II BM0
        obtain ⟨j, lo, hi, p0, a1, n1, k1, a2, n2, k2, al, cl, m, hj, rfl, rfl, hml, BM, I⟩ := hrel
        by_cases hjv : j < v
        · have hjv' : (j : Int) < (v : Int) := by omega
          have RR := Lib.hid (R.out.below I.out.bel)
          go_wp2_with fail
          rw [show (k : Int) + 1 = ((k + 1 : Nat) : Int) from by omega]
          refine (lawsPick a0 cap0 l j (k + 1) _ hm (by omega) (by omega) (by omega) RR.out).mono ?_
          rintro e wx ⟨⟨at_, rfl, hat⟩, rfl⟩
          go_wp2_with fail
          rw [show (j : Int) + 3 = ((j + 3 : Nat) : Int) from by omega]
          refine (lawsPick a0 cap0 l (j + 3) 2 _ hm (by omega) (by omega) (by omega) RR.out).mono ?_
          rintro e wx ⟨⟨c, rfl, hc2⟩, rfl⟩
          have e5 := cur_cell I.out.box 0
          have e6 := cur_cell I.out.box 1
          have e7 := cur_cell I.out.box 2
          by_cases hc : c = 0
          · subst hc
            clear e5 e6 e7
            obtain ⟨wo, rfl⟩ : ∃ wo, wo = wr := ⟨_, rfl⟩
            go_wp2
            go_loopw [11] (fun dv wd => ∃ (ds : List UInt8) (ad : Option Addr) (cd : Nat), dv = .slice ad ds.length cd ∧ ds.length ≤ z ∧ Hid (wd.ownsRow wo.heap.size 5 1 (.slice ad ds.length cd) ds.length (ds.map bval)) ∧ Hid (Below wo.heap.size wo wd)) (fun dv _ => z - lenOf dv)
            case atStart => exact ⟨[], _, _, rfl, Nat.zero_le _, Lib.hid (World.ownsRow_made wo #[] 0 (Nat.le_refl _) (by unfold maxLen; omega) rfl), Lib.hid (below_box (Below.refl _ _) _)⟩
            case round =>
              obtain ⟨ds, ad, cd, rfl, hdz, OD, BD⟩ := hrel
              by_cases hdl : ds.length < z
              · have hdl' : (ds.length : Int) < (z : Int) := by omega
                go_wp2_with fail
                rw [show (j : Int) + (ds.length : Int) + 5 = ((j + ds.length + 5 : Nat) : Int) from by omega]
                refine (lawsPick a0 cap0 l (j + ds.length + 5) 256 _ hm (by omega) (by omega) (by omega) (RR.out.below BD.out)).mono ?_
                rintro e wx ⟨⟨x, rfl, hx⟩, rfl⟩
                have hwr : IntKind.u8.wrap (x : Int) = x := by rw [IntKind.wrap_u8']; omega
                have HU : Hid (Value.int .u8 (x : Int) = bval (UInt8.ofNat x)) := Lib.hid (by unfold bval; simp; omega)
                have OO := OD.out
                have bsz := BD.out.size
                have bbb := BD.out
                go_wp2_with (at_builtin; rw [HU.out]; refine wp_app1 wo wr (bval (UInt8.ofNat x)) rfl _ _ 22 rfl wo.heap.size 5 (.int .u8 0) 1 Tryd.underlying22 Tryd.info5 rfl _ _ _ (by rfl) OO (by rfl) rfl (by unfold maxLen; omega) (by omega) bsz bbb ?_; clear OO bbb; intro v' w' hown hbel; obtain ⟨aa, cc, rfl⟩ := own_shape hown)
                rw [show ds.length + 1 = (ds ++ [UInt8.ofNat x]).length from by simp] at hown ⊢
                go_roundw
                case rel => exact ⟨ds ++ [UInt8.ofNat x], aa, cc, rfl, by simp; omega, Lib.hid (by rw [List.map_append]; exact hown), Lib.hid hbel⟩
                case measure => simp [lenOf]; omega
              · have HDZ : Hid (ds.length = z) := Lib.hid (by omega)
                have hdn : ¬ (ds.length : Int) < (z : Int) := by omega
                have hd4 : ds.length ≤ 4 := by omega
                clear hdz hdl
                have I1 := I.out.below BD.out
                have FB : Hid (hi ≤ wo.heap.size ∧ base ≤ wo.heap.size ∧ (∀ g, (Value.slice al m.log.length cl).ownBlock = some g → g < wo.heap.size) ∧ wo.heap.size ≤ wr.heap.size) := Lib.hid ⟨I.out.mem.top, I.out.top, fun g hg => (I.out.log.lt g hg).2, BD.out.size⟩
                have g5 := cur_cell I1.box 0
                have g6 := cur_cell I1.box 1
                have g7 := cur_cell I1.box 2
                have CA := Lib.hid (uBytesOf _ ds wr.drew (by omega) ((ByteSOwn.mk (own_below OD.out (belowN 1))).read))
                have CB := Lib.hid (uBytesOf _ ds (wr.alloc (.cells #[.int .i64 0, .slice none 0 0, .slice none 0 0] 28)).drew (by omega) ((ByteSOwn.mk (own_below (OD.out.alloc (.cells #[.int .i64 0, .slice none 0 0, .slice none 0 0] 28)) (belowN 1))).read))
                have IA := Lib.hid (And.intro (I1.below (belowN 1)) (own_below OD.out (belowN 1)))
                have IB := Lib.hid (And.intro ((I1.below (below_box (Below.refl _ _) (.cells #[.int .i64 0, .slice none 0 0, .slice none 0 0] 28))).below (belowN 1)) (own_below (OD.out.alloc (.cells #[.int .i64 0, .slice none 0 0, .slice none 0 0] 28)) (belowN 1)))
                have hat' : (-9223372036854775808 : Int) ≤ (at_ : Int) ∧ (at_ : Int) ≤ 9223372036854775807 := by omega
                have h5 := cur_cell (I1.below (below_box (Below.refl _ _) (.cells #[.int .i64 0, .slice none 0 0, .slice none 0 0] 28))).box 0
                have h6 := cur_cell (I1.below (below_box (Below.refl _ _) (.cells #[.int .i64 0, .slice none 0 0, .slice none 0 0] 28))).box 1
                have h7 := cur_cell (I1.below (below_box (Below.refl _ _) (.cells #[.int .i64 0, .slice none 0 0, .slice none 0 0] 28))).box 2
                clear I1 I OD BD
                go_wp2
                go_region_law (first
                  | (refine step_callW wr.drew rfl (by rfl) 8 _ _ rfl _ (by kernel_rfl) Tryd.call8 _ CA.out ?_; rintro e w5 ⟨bv, rfl, ho5, hb5⟩; refine ⟨_, rfl, ?_⟩; obtain ⟨ba, bn0, bc, rfl⟩ := ho5.shape; have I5' := Lib.hid (And.intro (IA.out.1.below hb5) (own_below IA.out.2 hb5)); have s5 : wr.heap.size ≤ w5.heap.size := hb5.size; have C5 := Lib.hid (uImplMemWrite _ _ _ m at_ _ ds w5 I5'.out.1.mem.now ho5.read hat'); have C6 := Lib.hid (uImplMemWrite _ _ _ m at_ _ ds (w5.alloc (.cells #[.int .i64 0, .slice none 0 0, .slice none 0 0] 28)) (I5'.out.1.below (below_box (Below.refl _ _) (.cells #[.int .i64 0, .slice none 0 0, .slice none 0 0] 28))).mem.now ((ho5.lies (Nat.le_refl _)).box (.cells #[.int .i64 0, .slice none 0 0, .slice none 0 0] 28)).now.read hat'); have l0 := cur_cell I5'.out.1.box 0; have l1 := cur_cell I5'.out.1.box 1; have l2 := cur_cell I5'.out.1.box 2; have IZ := I5'.out.1.below (below_box (Below.refl _ _) (.cells #[.int .i64 0, .slice none 0 0, .slice none 0 0] 28)); have k0 := cur_cell IZ.box 0; have k1 := cur_cell IZ.box 1; have k2 := cur_cell IZ.box 2; clear IZ; clear hb5 ho5)
                  | (refine step_callW (wr.alloc (.cells #[.int .i64 0, .slice none 0 0, .slice none 0 0] 28)).drew rfl (by rfl) 8 _ _ rfl _ (by kernel_rfl) Tryd.call8 _ CB.out ?_; rintro e w5 ⟨bv, rfl, ho5, hb5⟩; refine ⟨_, rfl, ?_⟩; obtain ⟨ba, bn0, bc, rfl⟩ := ho5.shape; have I5' := Lib.hid (And.intro (IB.out.1.below hb5) (own_below IB.out.2 hb5)); have s5 : wr.heap.size + 1 ≤ w5.heap.size := (by have := hb5.size; simpa only [size_box, size_drew] using this); have C5 := Lib.hid (uImplMemWrite _ _ _ m at_ _ ds w5 I5'.out.1.mem.now ho5.read hat'); have Z5 := Lib.hid (kept_block (show (wr.alloc (.cells #[.int .i64 0, .slice none 0 0, .slice none 0 0] 28)).drew.heap[wr.heap.size]? = some (.cells #[.int .i64 0, .slice none 0 0, .slice none 0 0] 28) from alloc_at wr _ _ rfl) hb5); have l0 := cur_cell I5'.out.1.box 0; have l1 := cur_cell I5'.out.1.box 1; have l2 := cur_cell I5'.out.1.box 2; clear hb5 ho5)
                  | (refine step_callW w5 rfl (by rfl) 7 _ _ rfl _ (by kernel_rfl) Tryd.call7 _ C5.out ?_; rintro e w6 ⟨d0, d1, d2, rfl, ho6, hb6⟩; refine ⟨_, rfl, ?_⟩; obtain ⟨q1, x1, y1, t1, x2, y2, t2, rfl, rfl, rfl⟩ := ho6.shape; have N6 := Lib.hid (And.intro (I5'.out.1.below hb6) (And.intro ((ho6.lies (Nat.le_refl _)).imp (fun _ h => h.read)) (own_below I5'.out.2 hb6))); try have Z6 := Lib.hid (kept_block Z5.out hb6); try have z0 := cur_cell Z6.out 0; try have z1 := cur_cell Z6.out 1; try have z2 := cur_cell Z6.out 2; try have f0 := cur_free Z6.out 0; try have f1 := cur_free Z6.out 1; try have f2 := cur_free Z6.out 2; clear ho6 hb6)
                  | (refine step_callW (w5.alloc (.cells #[.int .i64 0, .slice none 0 0, .slice none 0 0] 28)) rfl (by rfl) 7 _ _ rfl _ (by kernel_rfl) Tryd.call7 _ C6.out ?_; rintro e w6 ⟨d0, d1, d2, rfl, ho6, hb6⟩; refine ⟨_, rfl, ?_⟩; obtain ⟨q1, x1, y1, t1, x2, y2, t2, rfl, rfl, rfl⟩ := ho6.shape; rw [size_box] at ho6; have N6 := Lib.hid (And.intro ((I5'.out.1.below (below_box (Below.refl _ _) (.cells #[.int .i64 0, .slice none 0 0, .slice none 0 0] 28))).below hb6) (And.intro ((ho6.lies (Nat.le_refl _)).imp (fun _ h => h.read)) (own_below (own_below I5'.out.2 (below_box (Below.refl _ _) (.cells #[.int .i64 0, .slice none 0 0, .slice none 0 0] 28))) hb6))); have Z6 := Lib.hid (kept_block (alloc_at w5 (.cells #[.int .i64 0, .slice none 0 0, .slice none 0 0] 28) _ rfl) hb6); have z0 := cur_cell Z6.out 0; have z1 := cur_cell Z6.out 1; have z2 := cur_cell Z6.out 2; have f0 := cur_free Z6.out 0; have f1 := cur_free Z6.out 1; have f2 := cur_free Z6.out 2; clear ho6 hb6))
                all_goals
                  first
                    | (have NN := BNext.behind (wo := wo) N6.out.1 N6.out.2.1 (by have := FB.out.2.2.2; omega) N6.out.2.2; obtain ⟨wn, hwn⟩ : ∃ wn, wn = w6.alloc (.cells #[.int .i64 q1, .slice x1 y1 t1, .slice x2 y2 t2] 28) := ⟨_, rfl⟩; rw [← hwn] at NN ⊢; obtain ⟨bn, hbn⟩ : ∃ bn, bn = w6.heap.size := ⟨_, rfl⟩; rw [← hbn] at NN ⊢; have HN := Lib.hid NN; clear NN hwn hbn)
                    | (have NN := BNext.ahead (wo := wo) (bx := wr.heap.size) N6.out.1 N6.out.2.1 (by have := FB.out.2.2.2; omega) N6.out.2.2 Z6.out (by omega) (by have := FB.out; omega) (by have := FB.out; omega) (fun g hg => by have := FB.out.2.2.1 g hg; have := FB.out.2.2.2; omega); obtain ⟨wn, hwn⟩ : ∃ wn, wn = ((w6.setCell ⟨wr.heap.size, 0, none⟩ (.int .i64 q1)).setCell ⟨wr.heap.size, 1, none⟩ (.slice x1 y1 t1)).setCell ⟨wr.heap.size, 2, none⟩ (.slice x2 y2 t2) := ⟨_, rfl⟩; rw [← hwn] at NN ⊢; obtain ⟨bn, hbn⟩ : ∃ bn, bn = wr.heap.size := ⟨_, rfl⟩; rw [← hbn] at NN ⊢; have HN := Lib.hid NN; clear NN hwn hbn)
                    | (have NN := BNext.ahead (wo := wo) (bx := w5.heap.size) N6.out.1 N6.out.2.1 (by have := FB.out.2.2.2; omega) N6.out.2.2 Z6.out (by omega) (by have := FB.out; omega) (by have := FB.out; omega) (fun g hg => by have := FB.out.2.2.1 g hg; have := FB.out.2.2.2; omega); obtain ⟨wn, hwn⟩ : ∃ wn, wn = ((w6.setCell ⟨w5.heap.size, 0, none⟩ (.int .i64 q1)).setCell ⟨w5.heap.size, 1, none⟩ (.slice x1 y1 t1)).setCell ⟨w5.heap.size, 2, none⟩ (.slice x2 y2 t2) := ⟨_, rfl⟩; rw [← hwn] at NN ⊢; obtain ⟨bn, hbn⟩ : ∃ bn, bn = w5.heap.size := ⟨_, rfl⟩; rw [← hbn] at NN ⊢; have HN := Lib.hid NN; clear NN hwn hbn)
                all_goals
                  by_cases hak : at_ < k
                  · obtain ⟨r1, r2, r3⟩ := BM.out.write (by omega) hz1 hz4 (by omega) hak HDZ.out
                    rw [r1]
                    rw [r2] at HN
                    obtain ⟨lo', hi', LN', hlo'⟩ := HN.out.mem
                    have LN := Lib.hid LN'
                    clear LN'
                    have hbl : base ≤ lo' := Nat.le_trans FB.out.2.1 hlo'
                    have b5o : b5 < wo.heap.size := by have h1 := HN.out.inv.or5; have h2 := HN.out.inv.upB; have h3 := FB.out.2.1; omega
                    have hdis : Hid (∀ g, (Value.slice al m.log.length cl).ownBlock = some g → g < lo') := Lib.hid (fun g hg => by have := FB.out.2.2.1 g hg; omega)
                    have x0 := cur_cell HN.out.box 0
                    have x1' := cur_cell HN.out.box 1
                    have x2' := cur_cell HN.out.box 2
                    obtain ⟨S, hS⟩ : ∃ S, S = strL ds := ⟨_, rfl⟩
                    have HS := Lib.hid hS
                    clear hS
                    have BS := Lib.hid (bookV_set m.cells at_ ds (by rw [BM.out.count]; exact hak))
                    have BC := Lib.hid BM.out.count
                    have ak1 : (at_ : Int) < (k : Int) := by omega
                    have ak0 : (0 : Int) ≤ (at_ : Int) := by omega
                    have hEq : ((at_ : Int) == (k : Int)) = false := by simp; omega
                    have R3 := Lib.hid r3
                    clear r1 r2 r3
                    go_wp2_with (first
                      | (refine wp_st_store rfl 28 _ _ rfl b5 28 _ _ _ _ _ _ Tryd.sizeMem rfl rfl HN.out.inv.box ⟨rfl, rfl, rfl⟩ ?_; intro w9 X9 G9 S9; clear S9; have J9 := HN.out.inv.put LN.out hbl X9 G9; have hcv := conv_any (HN.out.dat.kept G9 (own_apart HN.out.dat b5o)); rw [← HS.out] at hcv; have hc := J9.book.cell (k := at_) hak; have hf := cur_free J9.book at_; have JB := Lib.hid ((J9.note at_ (.string S)).vals (fun i hi => (show _ = bookV (m.cells.set at_ ds) i by rw [HS.out]; exact BS.out i (by rw [BC.out]; exact hi)))); have RT : Hid (Row ((w9.setCell ⟨gB, at_, none⟩ (.string S)).alloc (.cells #[.int .i64 2, .int .i64 at_, .int .i64 z] 35)) (some ⟨w9.heap.size, 0, none⟩) (flatT [⟨2, at_, z⟩])) := Lib.hid (by have := rowT (w9.setCell ⟨gB, at_, none⟩ (.string S)) 2 at_ z; simpa using this); clear J9 X9 G9 x0 x1' x2')
                      | (at_builtin; refine wp_app_rowS rfl _ _ 26 rfl 35 _ 3 24 Tryd.underlying26 Tryd.infoTouch rfl (by omega) base m.log.length (.slice al m.log.length cl) (flatT m.log) (by rfl) (JB.out.log.alloc _) (some ⟨w9.heap.size, 0, none⟩) 1 1 (flatT [⟨2, at_, z⟩]) (by rfl) rfl RT.out (flatT_one _) (by unfold maxLen; omega) (by omega) (by have := JB.out.top; rw [size_box]; omega) ?_; intro v9 wA hoA hgA; rw [← flatT_app] at hoA; obtain ⟨aA, cA, rfl⟩ := own_shape hoA))
                    have JA := (JB.out.below (below_box (Below.refl _ _) (.cells #[.int .i64 2, .int .i64 at_, .int .i64 z] 35))).more (lg' := m.log ++ [⟨2, at_, z⟩]) hgA (by rw [List.length_append]; exact hoA) hdis.out
                    rw [show m.log.length + 1 = (m.log ++ [(⟨2, at_, z⟩ : TouchM)]).length from by simp] at JA ⊢
                    go_roundw
                    case rel => exact ⟨j + 1, _, _, _, _, _, _, _, _, _, aA, cA, ⟨m.z, m.cells.set at_ ds, m.log ++ [⟨2, at_, z⟩]⟩, by omega, by go_num, rfl, by simp; omega, R3, Lib.hid JA⟩
                    case measure => simp [intOf]; omega
                  · have r1 := BM.out.writeNo (by omega) hz1 hz4 (by omega) (show k ≤ at_ by omega) ds
                    rw [r1]
                    have ak1 : ¬ (at_ : Int) < (k : Int) := by omega
                    have hEq : ((at_ : Int) == (k : Int)) = true := by simp; omega
                    have JN := Lib.hid HN.out.inv
                    clear r1 HN
                    go_wp2
                    go_roundw
                    case rel => exact ⟨j + 1, _, _, _, _, _, _, _, _, _, al, cl, m, by omega, by go_num, rfl, by omega, BM, JN⟩
                    case measure => simp [intOf]; omega
          · have hcB : ((c : Int) == 0) = false := by simp; omega
            obtain ⟨lo0, hi0⟩ : Nat × Nat := (lo, hi)
            go_wp2_with fail
            refine (uImplMemRead _ _ _ m at_ _ I.out.mem.now (by omega)).mono ?_
            rintro e w6 ⟨d0, d1, d2, dv, mid, rfl, ho, hod, hm1, hm2, hb6⟩
            by_cases hak : at_ < k
            · obtain ⟨r1, r2, r3, r4⟩ := BM.out.read (by omega) hz1 hz4 (by omega) hak
              obtain ⟨G, hG⟩ : ∃ G, G = m.cells.getD at_ [] := ⟨_, rfl⟩
              rw [← hG] at r3
              rw [r2] at ho
              rw [r3] at hod
              rw [r1]
              obtain ⟨q1, x1, y1, t1, x2, y2, t2, rfl, rfl, rfl⟩ := ho.shape
              obtain ⟨xa, xc, hdv, hdo⟩ : ∃ xa xc, dv = .slice xa G.length xc ∧ w6.ownsRow mid 5 1 (.slice xa G.length xc) G.length (G.map bval) := by
                obtain ⟨xa, xc, e1, e2, _⟩ := hod
                simp at e1
                exact ⟨xa, xc, e1, e2⟩
              subst hdv
              have J6 := I.out.below hb6
              have L6 := (ho.lies hm2).imp (fun _ h => h.read)
              have hlw := I.out.log.lt
              have hbt := I.out.top
              have hbb := I.out.or5
              have hbu := I.out.upB
              clear I ho hod
              obtain ⟨w7, hw7⟩ : ∃ w7, w7 = w6.alloc (.cells #[.int .i64 q1, .slice x1 y1 t1, .slice x2 y2 t2] 28) := ⟨_, rfl⟩
              have bb7 : Below w6.heap.size w6 w7 := by rw [hw7]; exact below_box (Below.refl _ _) _
              have J7 := J6.below bb7
              have L7 := L6.below bb7
              have D7 := own_below hdo bb7
              have X7 : w7.heap[w6.heap.size]? = some (.cells #[.int .i64 q1, .slice x1 y1 t1, .slice x2 y2 t2] 28) := by rw [hw7]; exact alloc_at w6 _ _ rfl
              have cB := J7.book.cell (k := at_) hak
              have hcv := fun q => conv_any (own_drewN D7 q)
              unfold bookV at cB
              rw [← hG] at cB
              have HG := Lib.hid hG
              clear hG
              generalize strL G = S at *
              have hSS : (S.toList != S.toList) = false := by simp
              have ak1 : (at_ : Int) < (k : Int) := by omega
              have ak0 : (0 : Int) ≤ (at_ : Int) := by omega
              have JJ := Lib.hid J7
              have LL := Lib.hid L7
              have XX := Lib.hid X7
              clear J6 J7 L6 L7 D7 hdo e5 e6 e7 X7
              go_wp2
              rw [← hw7]
              clear hw7 bb7
              go_quiet (fail)
              obtain ⟨w8, hw8⟩ : ∃ w8, w8 = w7.drewN nq := ⟨_, rfl⟩
              rw [← hw8]
              have b78 : Below w7.heap.size w7 w8 := by rw [hw8]; exact belowN nq
              have J8 := JJ.out.below b78
              have L8 := LL.out.below b78
              have X8 := kept_block XX.out b78
              have x0 := cur_cell X8 0
              have x1' := cur_cell X8 1
              have x2' := cur_cell X8 2
              clear JJ LL XX hw8 cB hcv
              have hdis : ∀ g, (Value.slice al m.log.length cl).ownBlock = some g → g < wr.heap.size := fun g hg => (hlw g hg).2
              go_wp2_with (first
                | (refine wp_st_store rfl 28 _ _ rfl b5 28 _ _ _ _ _ _ Tryd.sizeMem rfl rfl J8.box ⟨rfl, rfl, rfl⟩ ?_; intro w9 X9 G9 S9; clear S9; have J9 := J8.put L8 hbt X9 G9; clear J8 L8 X8 x0 x1' x2')
                | (at_builtin; refine wp_app_rowS rfl _ _ 26 rfl 35 _ 3 24 Tryd.underlying26 Tryd.infoTouch rfl (by omega) base m.log.length (.slice al m.log.length cl) (flatT m.log) (by rfl) (J9.log.alloc _) (some ⟨w9.heap.size, 0, none⟩) 1 1 (flatT [⟨1, at_, z⟩]) (by rfl) rfl (rowT w9 1 at_ z) (flatT_one _) (by unfold maxLen; omega) (by omega) (by have := J9.top; simp; omega) ?_; intro v9 wA hoA hgA; rw [← flatT_app] at hoA; obtain ⟨aA, cA, rfl⟩ := own_shape hoA))
              have bA : Below w9.heap.size w9 (w9.alloc (.cells #[.int .i64 1, .int .i64 at_, .int .i64 z] 35)) := below_box (Below.refl _ _) _
              have JA := (J9.below bA).more (lg' := m.log ++ [⟨1, at_, z⟩]) hgA (by rw [List.length_append]; exact hoA) hdis
              rw [show m.log.length + 1 = (m.log ++ [(⟨1, at_, z⟩ : TouchM)]).length from by simp] at JA ⊢
              go_roundw
              case rel => exact ⟨j + 1, _, _, _, _, _, _, _, _, _, aA, cA, ⟨m.z, m.cells, m.log ++ [⟨1, at_, z⟩]⟩, by omega, by go_num, rfl, by simp; omega, Lib.hid r4, Lib.hid JA⟩
              case measure => simp [intOf]; omega
            · have r1 := BM.out.readNo (by omega) hz1 hz4 (by omega) (show k ≤ at_ by omega)
              rw [r1]
              obtain ⟨q1, x1, y1, t1, x2, y2, t2, rfl, rfl, rfl⟩ := ho.shape
              obtain ⟨xa, xc, hdv⟩ : ∃ xa xc, dv = .slice xa (readD m (at_ : Int)).length xc := by
                obtain ⟨xa, xc, e1, _⟩ := hod
                simp at e1
                exact ⟨xa, xc, e1⟩
              subst hdv
              have J7 := Lib.hid ((I.out.below hb6).below (below_box (Below.refl _ _) (.cells #[.int .i64 q1, .slice x1 y1 t1, .slice x2 y2 t2] 28)))
              have ak1 : ¬ (at_ : Int) < (k : Int) := by omega
              generalize (readD m (at_ : Int)).length = rl at *
              clear I ho hod e5 e6 e7
              go_wp2
              go_quiet (fail)
              have J8 := Lib.hid (J7.out.below (belowN nq))
              clear J7
              go_wp2
              go_roundw
              case rel => exact ⟨j + 1, _, _, _, _, _, _, _, _, _, al, cl, m, by omega, by go_num, rfl, by omega, BM, J8⟩
              case measure => simp [intOf]; omega
        · have hjv' : ¬ (j : Int) < (v : Int) := by omega
          have e5 := cur_cell I.out.box 0
          have e6 := cur_cell I.out.box 1
          have e7 := cur_cell I.out.box 2
          go_wp2
          go_loop [17, 18] (fun sv iv => ∃ i : Nat, i ≤ k ∧ iv = .int .i64 i ∧ sv = .string (strL (m.cells.take i).flatten)) (fun _ iv => k - (intOf iv).toNat)
          case atStart => exact ⟨0, Nat.zero_le _, rfl, rfl⟩
          case round =>
            obtain ⟨i, hik, rfl, rfl⟩ := hrel
            by_cases hlt : i < k
            · have ik1 : (i : Int) < (k : Int) := by omega
              have ik0 : (0 : Int) ≤ (i : Int) := by omega
              have cb := I.out.book.cell (k := i) hlt
              unfold bookV at cb
              obtain ⟨G, hG⟩ : ∃ G, G = m.cells.getD i [] := ⟨_, rfl⟩
              rw [← hG] at cb
              have hil : i < m.cells.length := by rw [BM.out.count]; exact hlt
              have hGG : G = m.cells[i] := by rw [hG]; simp [List.getD, hil]
              have HT : Hid (strL (m.cells.take i).flatten ++ strL G = strL (m.cells.take (i + 1)).flatten) := Lib.hid (by
                rw [List.take_succ_eq_append_getElem hil, List.flatten_append, hGG]; apply ByteArray.ext; simp [strL, ByteArray.data_append])
              have gl : G.length = z := by rw [hGG]; exact BM.out.each _ (List.getElem_mem hil)
              have fl : (m.cells.take i).flatten.length ≤ i * z := flat_len _ (fun c hc => BM.out.each c (List.mem_of_mem_take hc)) (by rw [List.length_take]; omega)
              have fz : i * z ≤ 6 * 4 := Nat.mul_le_mul (by omega) hz4
              have sm : (strL (m.cells.take i).flatten).size + (strL G).size ≤ 9223372036854775807 := by rw [strL_size, strL_size]; omega
              clear hG hGG gl fl fz
              generalize strL (m.cells.take i).flatten = S1 at *
              generalize strL G = S2 at *
              go_wp2
              go_round
              case rel => exact ⟨i + 1, by omega, by go_num, by rw [← HT.out]⟩
              case measure => simp [intOf]; omega
            · have hik' : i = k := by omega
              subst hik'
              rw [List.take_of_length_le (by rw [BM.out.count]; exact Nat.le_refl _)]
              clear e5 e6 e7
              have e5 := cur_cell I.out.box 0
              have e6 := cur_cell I.out.box 1
              have e7 := cur_cell I.out.box 2
              have MI := Lib.hid I.out.mem
              go_wp2_with fail
              refine (uImplMemSweep _ _ _ m _ MI.out.now).mono ?_
              rintro e w6 ⟨d0, d1, d2, dv, rfl, hX, hb6⟩
              obtain ⟨s1, s2⟩ := BM.out.sweep (by omega) hz1 hz4 (by omega)
              rw [s1]
              obtain ⟨q1, x1, y1, t1, x2, y2, t2, rfl, rfl, rfl⟩ := hX.shape
              have hod := hX.more
              rw [s2] at hod
              obtain ⟨G, hG⟩ : ∃ G, G = m.cells.flatten := ⟨_, rfl⟩
              rw [← hG] at hod ⊢
              obtain ⟨xa, xc, hdv, hdo⟩ : ∃ xa xc, dv = .slice xa G.length xc ∧ w6.ownsRow wr.heap.size 5 1 (.slice xa G.length xc) G.length (G.map bval) := by
                obtain ⟨xa, xc, e1, e2, _⟩ := hod
                simp at e1
                exact ⟨xa, xc, e1, e2⟩
              subst hdv
              obtain ⟨w7, hw7⟩ : ∃ w7, w7 = w6.alloc (.cells #[.int .i64 q1, .slice x1 y1 t1, .slice x2 y2 t2] 28) := ⟨_, rfl⟩
              have bb7 : Below w6.heap.size w6 w7 := by rw [hw7]; exact below_box (Below.refl _ _) _
              have J7 := (I.out.below hb6).below bb7
              have hcv := conv_any (own_below hdo bb7)
              have f7 := cur_cell J7.box 2
              obtain ⟨_, _, ht⟩ := memIn_shape J7.mem.now
              obtain ⟨ta, tc, htv, _, hml2, hrow⟩ := touchSIn_shape ht
              simp at htv
              obtain ⟨rfl, rfl, rfl⟩ := htv
              have JJ := Lib.hid J7
              have TT := Lib.hid (And.intro ht hrow)
              have TB := Lib.hid (BM.out.tbd (by omega) hz4)
              have bO := Lib.hid (Row.of_own J7.log)
              clear I MI hX hod hdo e5 e6 e7 ht hrow hG s2 J7
              generalize strL G = S at *
              go_wp2_with fail
              rw [← hw7]
              clear hw7 bb7 hb6
              rw [hcv]
              simp only [Result.andThen]
              rw [Oper.upon_value]
              go_wp2_with fail
              refine (lawsSameLog _ al _ cl m.log _ hml2 TT.out.2 bO.out).mono ?_
              rintro e w8 ⟨rfl, n8, hw8⟩
              have b8 : Below w7.heap.size w7 w8 := by rw [hw8]; exact belowN n8
              have f8 := cell_keep f7 b8
              have J8 := Lib.hid (JJ.out.below b8)
              clear hw8 f7 hcv JJ TT bO b8
              obtain ⟨_, _, ht⟩ := memIn_shape J8.out.mem.now
              have TT := Lib.hid ht
              clear ht
              go_wp2_with fail
              refine (uImplTouchText _ m.log _ TT.out TB.out (P0.out.stays J8.out.bel)).mono ?_
              rintro e w9 ⟨rfl, hb9⟩
              have J9 := Lib.hid (J8.out.below hb9)
              clear hb9 f8 J8 TT
              go_wp2_with fail
              refine (uSpecTouchText _ m.log _ (TouchSOwn.mk J9.out.log).read TB.out).mono ?_
              rintro e wA ⟨rfl, hbA⟩
              have BA := Lib.hid (below_seq J9.out.bel hbA)
              clear hbA J9
              generalize strL (textL m.log) = T at *
              go_wp2
              go_ret
              exact ⟨rfl, BA.out⟩
end Go.Proofs.YticfnhbjoaecjaaDoor.fnMemBook
