/- FnZeroOne: the walk. -/
import Derived.Test.YtkifndcfmmdkpaaBase
import Derived.Test.YtkifndcfmmdkpaaNdR
import Derived.Test.YtkifndcfmmdkpaaZoP
import Derived.Test.YtkifndcfmmdkpaaLwN
import Derived.Test.YtkifndcfmmdkpaaLPick
import Derived.Test.YtkifndcfmmdkpaaCopy
import Derived.Test.YtkifndcfmmdkpaaNeA
import Derived.Test.YtkifndcfmmdkpaaNeF
import Derived.Test.YtkifndcfmmdkpaaNeH
import Derived.Deep.RegionHeld3
import Derived.Deep.RegionLawGrows
namespace Go.Proofs.Ytkifndcfmmdkpaa.fnZeroOne
open Go.ChangeShapes Go.WideShapes Go.ChangeAt Go.RowKit
open Go.ChangeMaps (open_string shut_string)
set_option linter.unusedVariables false

theorem intRet {l : List Int} {w : World} {e : Ending} {w' : World} (h : IntSRet l w e w') : ∃ a cap, e = .returned (.slice a l.length cap) ∧ IntSIn [.slice a l.length cap] l w' ∧ Below w.heap.size w w' := by
  obtain ⟨c, rfl, ho, hb⟩ := h
  obtain ⟨a, cap, rfl, h1, h2, h3⟩ := intSIn_shape ho.read
  exact ⟨a, cap, rfl, ho.read, hb⟩
theorem intRetN {l : List Int} {n : Nat} (hn : l.length = n) {w : World} {e : Ending} {w' : World} (h : IntSRet l w e w') : ∃ a cap, e = .returned (.slice a n cap) ∧ IntSIn [.slice a n cap] l w' ∧ Below w.heap.size w w' := by
  subst hn
  exact intRet h
theorem sin_some {a : Option Addr} {n c : Nat} {l : List Int} {w : World} (h : IntSIn [.slice a n c] l w) (hn : 1 ≤ n) : ∃ b off, a = some ⟨b, off, none⟩ := by
  obtain ⟨a', c', e, _, _, r⟩ := intSIn_shape h
  simp at e
  obtain ⟨rfl, e2, rfl⟩ := e
  rcases r with r | ⟨b, off, rfl, _⟩
  · have : l = [] := by simpa using r
    rw [this] at e2; simp at e2; omega
  · exact ⟨b, off, rfl⟩
theorem sin_cells {b off n c : Nat} {l : List Int} {w : World} (h : IntSIn [.slice (some ⟨b, off, none⟩) n c] l w) : ∀ j u, (l.map ival)[j]? = some u → w.cell? ((⟨b, off, none⟩ : Addr).add j) = some u := by
  obtain ⟨a', c', e, _, _, r⟩ := intSIn_shape h
  simp at e
  obtain ⟨rfl, e2, rfl⟩ := e
  exact row_cells r
theorem own_cellF {B g n c : Nat} {L : List Int} {w : World} (h : w.ownsRow B 3 1 (.slice (some ⟨g, 0, none⟩) n c) n (L.map ival)) {p : Nat} (hp : p < n) : w.cell? ⟨g, p, none⟩ = some (.int .i64 (L.getD p 0)) ∧ w.frozen? ⟨g, p, none⟩ = false := by
  have hl : L.length = n := by simpa using h.1
  have hpl : p < L.length := by omega
  constructor
  · have := row_cells (Row.of_own h) p (.int .i64 (L.getD p 0)) (by rw [ival_at hpl]; simp [hpl])
    have e : (⟨g, 0, none⟩ : Addr).add p = ⟨g, p, none⟩ := by unfold Addr.add; split <;> simp_all
    rwa [e] at this
  · rcases h.2 with ⟨hv, _⟩ | ⟨g', cap', cur, hv, _, hg, _⟩
    · simp at hv
    · simp at hv
      obtain ⟨rfl, rfl⟩ := hv
      exact cur_free hg p
theorem own_setF {B g n c : Nat} {L : List Int} {w : World} (h : w.ownsRow B 3 1 (.slice (some ⟨g, 0, none⟩) n c) n (L.map ival)) (p : Nat) (y : Int) : (w.setCell ⟨g, p, none⟩ (.int .i64 y)).ownsRow B 3 1 (.slice (some ⟨g, 0, none⟩) n c) n ((L.set p y).map ival) := by
  have := (h.stored p (.int .i64 y)).1
  rw [List.map_set]
  exact this
theorem app_lowS {s n B : Nat} {w w1 : World} {v : Value} {e : TypeId} {xs : List Value} (hs : B ≤ w.heap.size) (hO : w.ownsRow B e s v n xs) (o : Obj) (hg : (w.alloc o).grownBy w1 v.ownBlock) : Below B w w1 :=
  ((Below.refl B w).alloc hs o).grown hg (by simp; omega) (fun g hg => (hO.lt g hg).1)
theorem prov_no {m : NetM} (h : provB m = false) : sortsB m = false ∧ faultM m = [] := by
  exact ⟨by unfold sortsB; simp [h], faultM_no h⟩
theorem prov_at {m : NetM} {n : Nat} (h1 : netOkB m = true) (h2 : m.n = n) (h3 : n ≤ 12) : provB m = true := by
  unfold provB; rw [h1]; simp; omega
theorem prov_not {m : NetM} (h : ¬ (netOkB m = true ∧ m.n ≤ 12)) : provB m = false := by
  unfold provB
  cases h1 : netOkB m
  · rfl
  · simp; exact Int.not_le.1 fun h2 => h ⟨h1, h2⟩
theorem own_take {w : World} {B q c n : Nat} {ad : Option Addr} {L : List Int} (h : w.ownsRow B 3 1 (.slice ad q c) q (L.map ival)) (hn : n ≤ q) (hm : n ≤ 64) : IntSIn [.slice ad n c] (L.take n) w := by
  have hl : L.length = q := by simpa using h.1
  have hc := own_cap h
  refine ⟨ad, c, by simp [hl, Nat.min_eq_left hn], by simp; omega, by simp [hl]; unfold maxLen; omega, ?_⟩
  have r := Row.of_own h
  rcases r with r | ⟨b, off, rfl, hr⟩
  · exact .inl (by rw [List.map_take, r]; simp)
  · refine .inr ⟨b, off, rfl, fun i hi => ?_⟩
    have hi' : i < n := by simpa [hl, Nat.min_eq_left hn] using hi
    rw [hr i (by simpa [hl] using (by omega : i < q)), List.map_take, List.getElem?_take_of_lt hi']
theorem none_facts {x : NetM} {n : Nat} (hp : provB x = true) (hn : x.n = n) (hw : ∀ t ∈ x.ws, WireOk n t) (hok : netOkB x = true) (hf : faultK x = none) :
    sortsB x = true ∧ faultM x = [] ∧ ∀ l : List Int, l.length = n → netRunM x l = runW x.ws l ∧ sortedB (runW x.ws l) = true :=
  ⟨by unfold sortsB; rw [hp, hf]; rfl, faultM_none hf, fun l hl => ⟨by unfold netRunM; rw [if_pos ⟨hok, by rw [hl, hn]⟩], zo_sorted hn hw hf hl⟩⟩
theorem some_facts {x : NetM} {n k : Nat} (hp : provB x = true) (hn : x.n = n) (hok : netOkB x = true) (hf : faultK x = some k) :
    sortsB x = false ∧ faultM x = digitsM k n ∧ (0 < k ∧ k < 2 ^ n) ∧ netRunM x (digitsM k n) = runW x.ws (digitsM k n) ∧ netRunM x (digitsM (k - 1) n) = runW x.ws (digitsM (k - 1) n) ∧ sortedB (runW x.ws (digitsM k n)) = false ∧ sortedB (runW x.ws (digitsM (k - 1) n)) = true := by
  obtain ⟨f1, f2, f3⟩ := faultK_first hf
  have f0 := fault_pos hf
  have e : x.n.toNat = n := by omega
  rw [e] at f1
  have run : ∀ j, netRunM x (digitsM j n) = runW x.ws (digitsM j n) := fun j => by unfold netRunM; rw [if_pos ⟨hok, by rw [digitsM_length, hn]⟩]
  refine ⟨by unfold sortsB; rw [hp, hf]; rfl, by rw [faultM_some hp hf, e], ⟨f0, f1⟩, run k, run (k - 1), ?_, ?_⟩
  · unfold faultAt at f2; rw [e] at f2; simpa using f2
  · have := f3 (k - 1) (by omega)
    unfold faultAt at this; rw [e] at this; simpa using this
set_option maxRecDepth 100000 in
set_option maxHeartbeats 4000000 in
theorem walk (a0 : Option Addr) (len0 cap0 : Nat) (z0 : List Int) (w : World) (w0 : IsRow .u8 w a0 len0 cap0 z0) :
    Calls Try.prog 3 #[.slice a0 len0 cap0] w fun e w' => e = .returned (.bool true) ∧ Below w.heap.size w w' := by
  obtain ⟨l, hl, hcap, hmax, hr⟩ := row_of_isRow w0
  clear w0
  subst hl
  have R := Lib.hid hr
  clear hr
  have hm : l.length ≤ maxLen := Nat.le_trans hcap hmax
  by_cases hbig : 1048576 < l.length
  · have hB : decide (1048576 < l.length) = true := by simp [hbig]
    go_enter Try.func3, Try.ntmps3
    go_wp2_with fail
    refine (bigIs a0 l.length cap0 _ hm).mono ?_
    rintro e w1 ⟨rfl, rfl⟩
    rw [hB]
    go_wp2
    go_ret
    exact ⟨rfl, Below.refl _ _⟩
  have hB : decide (1048576 < l.length) = false := by simp; omega
  have hl2 : l.length ≤ 1048576 := by omega
  go_enter Try.func3, Try.ntmps3
  go_wp2_with fail
  refine (bigIs a0 l.length cap0 _ hm).mono ?_
  rintro e w1 ⟨rfl, rfl⟩
  rw [hB]
  clear hB
  go_wp2_with fail
  refine (drawOne a0 l cap0 w hl2 R.out).mono ?_
  rintro e w1 ⟨x, ax, kx, rfl, hX, hK, hx, hb⟩
  obtain ⟨W, hW⟩ : ∃ W, W = w1.alloc (.cells #[.int .i64 x.n, .slice ax x.ws.length kx] 26) := ⟨_, rfl⟩
  have BW : Below w1.heap.size w1 W := by rw [hW]; exact below_box (Below.refl _ w1) _
  have KA := Lib.hid (show W.heap[w1.heap.size]? = some (.cells #[.int .i64 x.n, .slice ax x.ws.length kx] 26 (0, 0)) by rw [hW]; exact alloc_at _ _ _ rfl)
  have NX := Lib.hid (hX.below BW).lies
  have B2 := Lib.hid (below_seq hb BW)
  have hT : w1.heap.size < W.heap.size := by rw [hW]; simp
  clear hX hb BW
  go_upto_region 4 with fail
  rw [← hW]
  clear hW
  generalize w1.heap.size = TA at *
  go_wp2_with fail
  refine (drawRun a0 l cap0 W hl2 (R.out.below B2.out)).mono ?_
  rintro e w2 ⟨zz, az, qz, kz, a2, q2, k2, L2, rfl, hO, hq2, hb⟩
  obtain ⟨W2, hW2⟩ : ∃ W2, W2 = w2.alloc (.cells #[.int .i64 zz, .slice az qz kz] 26) := ⟨_, rfl⟩
  have B3 : Below W.heap.size W W2 := by rw [hW2]; exact below_box hb _
  have O2 := Lib.hid (show W2.ownsRow W.heap.size 3 1 (.slice a2 q2 k2) q2 (L2.map ival) by rw [hW2]; exact own_below hO (below_box (Below.refl _ w2) _))
  have BB := Lib.hid B3
  have x0 : W2.cell? ⟨TA, 0, none⟩ = some (.int .i64 x.n) := cur_cell (kept_block KA.out B3) 0
  have x1 : W2.cell? ⟨TA, 1, none⟩ = some (.slice ax x.ws.length kx) := cur_cell (kept_block KA.out B3) 1
  clear hO hb B3
  go_upto_region 5 with fail
  rw [← hW2]
  clear hW2
  go_wp2_with fail
  refine (uSpecNetOk (.int .i64 x.n) (.slice ax x.ws.length kx) x W2 (NX.out.below BB.out).now).mono ?_
  rintro e w3 ⟨rfl, hb⟩
  replace O2 := Lib.hid (own_below O2.out hb)
  replace BB := Lib.hid (below_seq BB.out hb)
  clear hb x0 x1
  by_cases hp : netOkB x = true ∧ x.n ≤ 12
  · obtain ⟨ho, h12⟩ := hp
    obtain ⟨n, hn, h1, h64, hws, hwo⟩ := netOkB_ok ho
    have PR := prov_at ho hn (by omega)
    have n12 : n ≤ 12 := by omega
    have NONE := Lib.hid (none_facts PR hn hwo ho)
    have SOME := Lib.hid (fun k => some_facts (k := k) PR hn ho)
    have HN := Lib.hid hn
    rw [ho]
    clear hn ho PR hwo hws hK hx h12
    generalize x.n = xn at *
    obtain rfl : xn = (n : Int) := HN.out
    clear HN
    have x0 : w3.cell? ⟨TA, 0, none⟩ = some (.int .i64 n) := cur_cell (kept_block KA.out BB.out) 0
    go_wp2_with fail
    clear x0
    go_loopg [5] (100 - q2) (fun k o wr => ∃ (q c : Nat) (ad : Option Addr) (L : List Int), q ≤ 71 ∧ 100 - q = k ∧ o = .slice ad q c ∧ Hid (wr.ownsRow W.heap.size 3 1 (.slice ad q c) q (L.map ival) ∧ Below W.heap.size W wr))
    case atStart => exact ⟨q2, k2, a2, L2, hq2, rfl, rfl, Lib.hid ⟨O2.out, BB.out⟩⟩
    case round =>
      clear O2 BB
      obtain ⟨q, c, ad, L, hq, hk, rfl, HO⟩ := hrel
      have x0 : wr.cell? ⟨TA, 0, none⟩ = some (.int .i64 n) := cur_cell (kept_block KA.out HO.out.2) 0
      by_cases hqn : q < n
      · go_wp2_with fail
        clear x0
        refine (lawsPick a0 cap0 l q 50 _ hm (by omega) (by omega) (by omega) ((R.out.below B2.out).below HO.out.2)).mono ?_
        rintro e w6 ⟨⟨y', rfl, hy'⟩, rfl⟩
        have hsz : W.heap.size ≤ wr.heap.size := HO.out.2.size
        have X6 := Lib.hid (fun (o : Obj) (w6 : World) (hg : (wr.alloc o).grownBy w6 (Value.ownBlock (.slice ad q c))) => HO.out.2.trans (app_lowS hsz HO.out.1 o hg))
        go_wp2_with (at_builtin; go_must (refine wp_app_row rfl _ _ 28 rfl 3 (.int .i64 0) 8 Try.underlying28 Try.info3 rfl W.heap.size q (.slice ad q c) (L.map ival) (by rfl) (HO.out.1.alloc _) (some ⟨wr.heap.size, 0, none⟩) 1 1 [.int .i64 y'] (by rfl) rfl (row_one wr (.int .i64 y') 3) (by simp [Value.oneCell']) (by unfold maxLen; omega) (by omega) (by simp; omega) ?_); intro v6 w6 ho6 hg6; have Y6 := Lib.hid (X6.out _ w6 hg6); have O6 := Lib.hid ho6; obtain ⟨a6, c6, rfl⟩ := own_shape ho6; clear ho6 hg6)
        go_roundg (100 - (q + 1))
        case measure => omega
        case rel => exact ⟨q + 1, c6, a6, L ++ [(y' : Int)], by omega, rfl, rfl, Lib.hid ⟨by rw [List.map_append]; exact O6.out, Y6.out⟩⟩
      · have hcq := own_cap HO.out.1
        have hnc : n ≤ c := by omega
        have LI := Lib.hid (own_take HO.out.1 (by omega) h64).lies
        have hLq : L.length = q := by simpa using HO.out.1.1
        have HT : Hid ((L.take n).length = n) := Lib.hid (by rw [List.length_take, hLq]; omega)
        clear hLq
        have B4 := Lib.hid HO.out.2
        have x1 : wr.cell? ⟨TA, 1, none⟩ = some (.slice ax x.ws.length kx) := cur_cell (kept_block KA.out B4.out) 1
        clear HO
        generalize L.take n = LT at *
        go_wp2_with fail
        refine (uImplNetSorts (.int .i64 n) (.slice ax x.ws.length kx) x wr (NX.out.below B4.out).now).mono ?_
        rintro e w4 ⟨rfl, hb⟩
        replace LI := Lib.hid (LI.out.below hb)
        replace B4 := Lib.hid (below_seq B4.out hb)
        clear hb x0 x1
        have x0 : w4.cell? ⟨TA, 0, none⟩ = some (.int .i64 n) := cur_cell (kept_block KA.out B4.out) 0
        have x1 : w4.cell? ⟨TA, 1, none⟩ = some (.slice ax x.ws.length kx) := cur_cell (kept_block KA.out B4.out) 1
        go_wp2_with fail
        refine (uImplNetFault (.int .i64 n) (.slice ax x.ws.length kx) x w4 (NX.out.below B4.out).now).mono ?_
        rintro e w5 hh
        obtain ⟨fa, fc, rfl, hf, hb⟩ := intRet hh
        have FI := Lib.hid hf.lies
        replace LI := Lib.hid (LI.out.below hb)
        replace B4 := Lib.hid (below_seq B4.out hb)
        clear hb x0 x1 hf hh
        have x0 : w5.cell? ⟨TA, 0, none⟩ = some (.int .i64 n) := cur_cell (kept_block KA.out B4.out) 0
        have x1 : w5.cell? ⟨TA, 1, none⟩ = some (.slice ax x.ws.length kx) := cur_cell (kept_block KA.out B4.out) 1
        go_wp2_with fail
        refine (uSpecNetSorts (.int .i64 n) (.slice ax x.ws.length kx) x w5 (NX.out.below B4.out).now).mono ?_
        rintro e w6 ⟨rfl, hb⟩
        replace LI := Lib.hid (LI.out.below hb)
        replace FI := Lib.hid (FI.out.below hb)
        replace B4 := Lib.hid (below_seq B4.out hb)
        clear hb x0 x1
        have x0 : w6.cell? ⟨TA, 0, none⟩ = some (.int .i64 n) := cur_cell (kept_block KA.out B4.out) 0
        have x1 : w6.cell? ⟨TA, 1, none⟩ = some (.slice ax x.ws.length kx) := cur_cell (kept_block KA.out B4.out) 1
        cases hfk : faultK x with
        | none =>
          obtain ⟨s1, s2, s3⟩ := NONE.out hfk
          obtain ⟨s4, s5⟩ := s3 LT HT.out
          have S5 := Lib.hid (And.intro s4 s5)
          rw [s1]
          rw [s2] at FI ⊢
          clear s1 s2 s3 s4 s5 NONE SOME hfk
          have RL : Hid ((netRunM x LT).length = n) := Lib.hid (by rw [S5.out.1, runW_length, HT.out])
          have RS : Hid (sortedB (netRunM x LT) = true) := Lib.hid (by rw [S5.out.1, S5.out.2])
          have S1 := Lib.hid (fun w' (hb : Below w6.heap.size w6 w') => (show w'.cell? ⟨TA, 0, none⟩ = some (.int .i64 n) ∧ w'.cell? ⟨TA, 1, none⟩ = some (.slice ax x.ws.length kx) from ⟨cell_keep x0 hb, cell_keep x1 hb⟩))
          have T1 := Lib.hid (fun w' (hb : Below w6.heap.size w6 w') => uImplNetRun (.int .i64 n) (.slice ax x.ws.length kx) x (.slice ad n c) LT w' (NX.out.below (below_seq B4.out hb)).now (LI.out.below hb).now)
          have T3 := T1
          have HB := Lib.hid (below_drew (Below.refl w6.heap.size w6))
          have BZ := Lib.hid (below_seq B2.out B4.out)
          have bq : ((n : Int) == (n : Int)) = true := by simp
          clear FI S5 HT hnc hcq B4 LI B2
          go_upto_region 15 with fail
          clear x0 x1
          go_region_held3 (fun w' => w'.cell? ⟨TA, 0, none⟩ = some (.int .i64 n) ∧ w'.cell? ⟨TA, 1, none⟩ = some (.slice ax x.ws.length kx))
            (exact S1.out _ HB.out)
            (first
              | (go_at_call 24; refine (T1.out _ HB.out).mono ?_; rintro e v1 hh; obtain ⟨r1a, r1c, rfl, hr, hb⟩ := intRetN RL.out hh; have HB := Lib.hid (below_seq HB.out hb); have T2 := Lib.hid (lawsSorted (.slice r1a n r1c) (netRunM x LT) v1 hr (by rw [RL.out]; omega)); rw [RS.out] at T2; clear T1 hh hr hb)
              | (go_at_call 23; refine T2.out.mono ?_; rintro e v2 ⟨rfl, nd, hw2⟩; have hb : Below v1.heap.size v1 v2 := (by rw [hw2]; exact belowN nd); have HB := Lib.hid (below_seq HB.out hb); clear T2 hb hw2)
              | (go_at_call 24; refine (T3.out _ HB.out).mono ?_; rintro e v3 hh; obtain ⟨r3a, r3c, rfl, hr, hb⟩ := intRetN RL.out hh; have HB := Lib.hid (below_seq HB.out hb); clear T3 hh hr hb))
          go_wp2
          go_ret
          exact ⟨rfl, below_seq BZ.out HB.out⟩
        | some k =>
          obtain ⟨s1, s2, s3, s4, s5, s6, s7⟩ := SOME.out k hfk
          have S5 := Lib.hid (And.intro s4 (And.intro s5 (And.intro s6 s7)))
          rw [s1]
          rw [s2] at FI ⊢
          rw [digitsM_length] at FI ⊢
          clear s1 s2 s4 s5 s6 s7 NONE SOME hfk
          go_upto_region 16 with fail
          obtain ⟨fb, fo, rfl⟩ := sin_some FI.out.now h1
          have LD : Hid ((digitsM k n).length = n) := Lib.hid (digitsM_length k n)
          have RL : Hid ((netRunM x (digitsM k n)).length = n) := Lib.hid (by rw [S5.out.1, runW_length, LD.out])
          have RS : Hid (sortedB (netRunM x (digitsM k n)) = false) := Lib.hid (by rw [S5.out.1]; exact S5.out.2.2.1)
          have BZ := Lib.hid (below_seq B2.out B4.out)
          have SB := Lib.hid (fun w' (hb : Below w6.heap.size w6 w') => (show w'.cell? ⟨TA, 0, none⟩ = some (.int .i64 n) ∧ w'.cell? ⟨TA, 1, none⟩ = some (.slice ax x.ws.length kx) from ⟨cell_keep x0 hb, cell_keep x1 hb⟩))
          have NX6 := Lib.hid (NX.out.below B4.out)
          go_cut [8] (fun v wx => ∃ (ga : Option Addr) (gc : Nat), v = .slice ga n gc ∧ Hid (IntSIn [.slice ga n gc] (netRunM x (digitsM k n)) wx ∧ Below w6.heap.size w6 wx))
          case first =>
            have HA := Lib.hid (below_drew (below_box (Below.refl w6.heap.size w6) (.cells #[] 3)))
            have RD := Lib.hid (sin_cells (FI.out.below HA.out).now)
            have HB := Lib.hid (below_drew (Below.refl w6.heap.size w6))
            obtain ⟨i0, hi, hz0, hz1, hz2⟩ := info_parts Try.info3
            have HI := Lib.hid (And.intro hi (And.intro hz0 (And.intro hz1 hz2)))
            clear hi hz0 hz1 hz2
            go_region_held3 (fun w' => w'.cell? ⟨TA, 0, none⟩ = some (.int .i64 n) ∧ w'.cell? ⟨TA, 1, none⟩ = some (.slice ax x.ws.length kx))
              (first | exact SB.out _ HB.out | exact SB.out _ HA.out)
              (first
                | (refine step_append_grows (by rfl) _ _ _ (by rfl) 3 i0 (.int .i64 0) 1 8 Try.underlying28 HI.out.1 HI.out.2.1 HI.out.2.2.1 HI.out.2.2.2 rfl (by omega) (some ⟨w6.heap.size, 0, none⟩) 0 0 [] (by rfl) (by simp) (by simp) (by simp) ⟨fb, fo, none⟩ n fc ((digitsM k n).map ival) (by rfl) (by simp [LD.out]) RD.out (ones_ival (fun z => rfl)) (by omega) (by unfold maxLen; omega) (by omega) ?_; intro v7 w7 hown hgr; rw [Nat.zero_add, List.nil_append] at hown; obtain ⟨xa, xc, rfl⟩ := own_shape hown; have HB := Lib.hid (below_seq HA.out (grown_below hgr)); have L7 := Lib.hid (IntSOwn.mk hown).read; clear hown hgr)
                | (go_at_call 24; refine (uImplNetRun (.int .i64 n) (.slice ax x.ws.length kx) x (.slice xa n xc) (digitsM k n) w7 (NX6.out.below HB.out).now L7.out).mono ?_; rintro e v1 hh; obtain ⟨r1a, r1c, rfl, hr, hb⟩ := intRetN RL.out hh; have HB := Lib.hid (below_seq HB.out hb); have G1 := Lib.hid hr; clear hh hr hb))
            all_goals (go_wp2_with fail; go_meet)
            all_goals exact ⟨_, _, rfl, Lib.hid ⟨G1.out, HB.out⟩⟩
          case rest =>
            obtain ⟨ga, gc, rfl, H⟩ := hcut
            have FI := Lib.hid (FI.out.below H.out.2)
            have C := Lib.hid (SB.out wc H.out.2)
            obtain ⟨x0, x1⟩ := C.out
            have bq : ((n : Int) != (n : Int)) = false := by simp
            go_wp2_with fail
            clear x0 x1
            refine (lawsSorted (.slice ga n gc) (netRunM x (digitsM k n)) wc H.out.1 (by rw [RL.out]; omega)).mono ?_
            rintro e w7 ⟨rfl, nd, hw7⟩
            rw [RS.out]
            have HB := Lib.hid (show Below w6.heap.size w6 w7 by rw [hw7]; exact below_seq H.out.2 (belowN nd))
            have FI := Lib.hid (show Lies w7 0 w7.heap.size (IntSIn [.slice (some ⟨fb, fo, none⟩) n fc] (digitsM k n)) by rw [hw7]; exact ((FI.out.below (belowN nd)).now).lies)
            have E0 := Lib.hid (lit_made w7 w7.heap.size w7.heap.size (Nat.le_refl _) rfl)
            have RF : Hid (Row (w7.alloc (.cells #[] 3)) (some ⟨fb, fo, none⟩) ((digitsM k n).map ival)) := Lib.hid (by
              obtain ⟨a', c', e, _, _, r⟩ := intSIn_shape (FI.out.below (below_box (Below.refl _ w7) (.cells #[] 3))).now
              simp at e
              obtain ⟨rfl, e2, rfl⟩ := e
              exact r)
            have OD : Hid (∀ u ∈ (digitsM k n).map ival, u.oneCell' = true) := Lib.hid (ones_ival (fun z => rfl))
            have HB7 := Lib.hid (HB.out.trans ((below_box (Below.refl w7.heap.size w7) (.cells #[] 3)).mono HB.out.size))
            clear hw7 H C x1
            go_wp2_with (at_builtin; go_must (refine wp_app_row rfl _ _ 28 rfl 3 (.int .i64 0) 8 Try.underlying28 Try.info3 rfl w7.heap.size 0 (.slice (some ⟨w7.heap.size, 0, none⟩) 0 0) [] (by rfl) E0.out (some ⟨fb, fo, none⟩) n fc ((digitsM k n).map ival) (by rfl) (by simp [LD.out]) RF.out OD.out (by unfold maxLen; omega) (by omega) (by simp) ?_); intro v8 w8 ho8 hg8; rw [Nat.zero_add, List.nil_append] at ho8; have B8 := Lib.hid (HB7.out.grown hg8 HB7.out.size (fun g hg => Nat.le_trans HB.out.size (E0.out.lt g hg).1)); obtain ⟨a8, c8, rfl⟩ := own_shape ho8; obtain ⟨g, rfl, hg⟩ := own_some ho8 h1; have O8 := Lib.hid ho8; have x0 := (SB.out w8 B8.out).1; clear ho8 hg8)
            have S0 : Hid (w8.ownsRow w7.heap.size 3 1 (.slice (some ⟨g, 0, none⟩) n c8) n ((befM k n n).map ival) ∧ Below w6.heap.size w6 w8) := Lib.hid ⟨by rw [befM_full]; exact O8.out, B8.out⟩
            have hgb : w6.heap.size ≤ g := Nat.le_trans HB.out.size hg
            have kf := s3
            have K1 : Hid (∀ q, netRunM x (digitsM (k - 1) n) = q → q.length = n ∧ sortedB q = true) := Lib.hid (fun q e => by subst e; rw [S5.out.2.1]; exact ⟨by rw [runW_length, digitsM_length], S5.out.2.2.2⟩)
            clear x0 O8 B8 HB7 HB E0 RF OD FI S5 RL RS LD bq hg
            go_loopg [10] n (fun kk i wr => ∃ (j : Nat) (z : Int), j ≤ n ∧ j = kk ∧ i = .int .i64 z ∧ z = (j : Int) - 1 ∧ Hid ((∀ p, j ≤ p → p < n → digN k n p = 0) ∧ wr.ownsRow w7.heap.size 3 1 (.slice (some ⟨g, 0, none⟩) n c8) n ((befM k n j).map ival) ∧ Below w6.heap.size w6 wr))
            case atStart => exact ⟨n, _, Nat.le_refl _, rfl, rfl, rfl, Lib.hid ⟨fun p h1 h2 => absurd h2 (by omega), S0.out.1, S0.out.2⟩⟩
            case round =>
              clear S0
              obtain ⟨j, z, hj, rfl, rfl, hz, H⟩ := hrel
              by_cases hj0 : j = 0
              · exfalso
                subst hj0
                have := dig_zero kf.2 (fun p hp => H.out.1 p (by omega) hp)
                omega
              · obtain ⟨p, rfl⟩ : ∃ p, j = p + 1 := ⟨j - 1, by omega⟩
                obtain rfl : z = (p : Int) := by omega
                have hp : p < n := by omega
                have hc := own_cellF H.out.2.1 hp
                rw [befM_at k n (p + 1) p hp, if_pos (by omega)] at hc
                obtain ⟨c0, f0⟩ := hc
                have pi0 : (0 : Int) ≤ (p : Int) := by omega
                have pi1 : (p : Int) < (n : Int) := by omega
                clear hz
                rcases digN_two k n p with hd | hd
                · rw [hd] at c0
                  have ST := Lib.hid (own_setF H.out.2.1 p 1)
                  rw [befM_set k n p hp] at ST
                  have BT := Lib.hid (H.out.2.2.setCell (p := ⟨g, p, none⟩) hgb (.int .i64 1))
                  have ZT := Lib.hid (show ∀ p', p ≤ p' → p' < n → digN k n p' = 0 from fun p' h1 h2 => by
                    by_cases e : p' = p
                    · subst e; exact hd
                    · exact H.out.1 p' (by omega) h2)
                  have c1 := (own_cellF ST.out hp).1
                  rw [befM_at k n p p hp, if_neg (by omega)] at c1
                  clear hd H
                  go_wp2_with fail
                  go_roundg p
                  case measure => omega
                  case rel => exact ⟨p, _, by omega, rfl, rfl, by omega, Lib.hid ⟨ZT.out, ST.out, BT.out⟩⟩
                · rw [hd] at c0
                  have ST := Lib.hid (own_setF H.out.2.1 p 0)
                  rw [befM_pred hp (fun j h1 h2 => H.out.1 j (by omega) h2) hd] at ST
                  have BT := Lib.hid (H.out.2.2.setCell (p := ⟨g, p, none⟩) hgb (.int .i64 0))
                  have c1 : (wr.setCell ⟨g, p, none⟩ (.int .i64 0)).cell? ⟨g, p, none⟩ = some (.int .i64 0) := by
                    have := (own_cellF (own_setF H.out.2.1 p 0) hp).1
                    have hl : (befM k n (p + 1)).length = n := befM_length k n (p + 1)
                    simpa [hl, hp] using this
                  have X := Lib.hid (SB.out _ BT.out)
                  obtain ⟨x0, x1⟩ := X.out
                  clear hd H
                  go_wp2_with fail
                  refine (uImplNetRun (.int .i64 n) (.slice ax x.ws.length kx) x (.slice (some ⟨g, 0, none⟩) n c8) (digitsM (k - 1) n) _ (NX6.out.below BT.out).now (IntSOwn.mk ST.out).read).mono ?_
                  rintro e w10 hh
                  have KK := Lib.hid (K1.out _ rfl)
                  obtain ⟨r1a, r1c, rfl, hr, hb⟩ := intRetN KK.out.1 hh
                  have HR := Lib.hid hr
                  have HBB := Lib.hid (below_seq BZ.out (below_seq BT.out hb))
                  clear hh hr hb x0 x1 c0 c1 f0
                  go_wp2_with fail
                  refine (lawsSorted (.slice r1a n r1c) (netRunM x (digitsM (k - 1) n)) w10 HR.out (by rw [KK.out.1]; omega)).mono ?_
                  rintro e w11 ⟨rfl, nd, rfl⟩
                  rw [KK.out.2]
                  have HBC := Lib.hid (below_seq HBB.out (belowN nd))
                  go_wp2
                  go_ret
                  exact ⟨rfl, HBC.out⟩
  · have PN := prov_not hp
    obtain ⟨pn1, pn2⟩ := prov_no PN
    have x0 : w3.cell? ⟨TA, 0, none⟩ = some (.int .i64 x.n) := cur_cell (kept_block KA.out BB.out) 0
    have x1 : w3.cell? ⟨TA, 1, none⟩ = some (.slice ax x.ws.length kx) := cur_cell (kept_block KA.out BB.out) 1
    have NS := Lib.hid (uImplNetSorts (.int .i64 x.n) (.slice ax x.ws.length kx) x w3 (NX.out.below BB.out).now)
    rw [pn1] at NS
    have NF := Lib.hid (fun w' (hb : Below w3.heap.size w3 w') => uImplNetFault (.int .i64 x.n) (.slice ax x.ws.length kx) x w' (NX.out.below (below_seq BB.out hb)).now)
    rw [pn2] at NF
    clear pn1 pn2 PN
    have hc : netOkB x = false ∨ (netOkB x = true ∧ 12 < x.n) := by
      cases h : netOkB x
      · exact .inl rfl
      · exact .inr ⟨rfl, Int.not_le.1 fun h2 => hp ⟨h, h2⟩⟩
    clear hp
    rcases hc with h | ⟨h, h2⟩
    all_goals
      rw [h]
      clear h
      go_wp2_with fail
      refine NS.out.mono ?_
      rintro e w4 ⟨rfl, hb⟩
      have HB := Lib.hid hb
      have y0 : w4.cell? ⟨TA, 0, none⟩ = some (.int .i64 x.n) := cell_keep x0 hb
      have y1 : w4.cell? ⟨TA, 1, none⟩ = some (.slice ax x.ws.length kx) := cell_keep x1 hb
      clear hb x0 x1 NS
      go_wp2_with fail
      refine (NF.out w4 HB.out).mono ?_
      rintro e w5 hh
      obtain ⟨fa, fc, rfl, hf, hb⟩ := intRet hh
      have HB2 := Lib.hid (below_seq B2.out (below_seq BB.out (below_seq HB.out hb)))
      clear hb hh hf y0 y1 HB NF
      go_wp2
      go_ret
      exact ⟨rfl, HB2.out⟩

end Go.Proofs.Ytkifndcfmmdkpaa.fnZeroOne
