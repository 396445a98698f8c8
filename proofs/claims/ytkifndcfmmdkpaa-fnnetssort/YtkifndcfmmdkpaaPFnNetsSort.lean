/- For every code: the law FnNetsSort answers true: the three nets sort every list, and keep its numbers. No condition. -/
import Derived.Test.YtkifndcfmmdkpaaBase
import Derived.Deep.RegionHeld3
import Derived.Deep.RegionLawGrows
import Derived.Test.YtkifndcfmmdkpaaLPick
import Derived.Test.YtkifndcfmmdkpaaLwN
import Derived.Test.YtkifndcfmmdkpaaNsT
import Derived.Test.YtkifndcfmmdkpaaNtX
import Derived.Test.YtkifndcfmmdkpaaCurN
import Derived.Test.YtkifndcfmmdkpaaCopy
namespace Go.Proofs.Ytkifndcfmmdkpaa.fnNetsSort
open Go.ChangeShapes Go.WideShapes Go.ChangeAt Go.RowKit
open Go.ChangeMaps (open_string shut_string)
set_option linter.unusedVariables false

/-- The three nets in their row: each is good; the first two have nn places. -/
def NetsAt (nn : Nat) (w : World) (g : Nat) : Prop :=
  ∀ k, k < 3 → ∃ (a : Option Addr) (len cap n : Nat) (m : NetM), GoodNet m n ∧ 1 ≤ n ∧ n ≤ 64 ∧ (k < 2 → n = nn) ∧ w.cell? ⟨g, k * 2, none⟩ = some (.int .i64 n) ∧ w.cell? ⟨g, k * 2 + 1, none⟩ = some (.slice a len cap) ∧ NetIn [.int .i64 n, .slice a len cap] m w
theorem NetsAt.below {nn g : Nat} {w w' : World} (h : NetsAt nn w g) (hb : Below w.heap.size w w') : NetsAt nn w' g := fun k hk => by
  obtain ⟨a, len, cap, n, m, h1, h2, h3, h4, h5, h6, h7⟩ := h k hk
  exact ⟨a, len, cap, n, m, h1, h2, h3, h4, cell_keep h5 hb, cell_keep h6 hb, h7.below hb⟩
theorem netIn_good {m : NetM} {n : Nat} {c0 c1 : Value} {w : World} (G : GoodNet m n) (h : NetIn [c0, c1] m w) : ∃ a len cap, c0 = .int .i64 n ∧ c1 = .slice a len cap ∧ NetIn [.int .i64 n, .slice a len cap] m w := by
  obtain ⟨a1, k1, rfl, rfl, _⟩ := netIn_cells h
  rw [G.size] at h ⊢
  exact ⟨a1, _, k1, rfl, rfl, h⟩
theorem NetsAt.new {nn nb : Nat} {w : World} {a0 a1 a2 : Option Addr} {l0 l1 l2 k0 k1 k2 : Nat} {m0 m1 m2 : NetM} (h1 : 1 ≤ nn) (h2 : nn ≤ 64) (h3 : 1 ≤ nb) (h4 : nb ≤ 64) (G0 : GoodNet m0 nn) (G1 : GoodNet m1 nn) (G2 : GoodNet m2 nb)
    (i0 : NetIn [.int .i64 nn, .slice a0 l0 k0] m0 w) (i1 : NetIn [.int .i64 nn, .slice a1 l1 k1] m1 w) (i2 : NetIn [.int .i64 nb, .slice a2 l2 k2] m2 w) :
    NetsAt nn (w.alloc (.cells #[.int .i64 nn, .slice a0 l0 k0, .int .i64 nn, .slice a1 l1 k1, .int .i64 nb, .slice a2 l2 k2] 26)) w.heap.size := fun k hk => by
  have hb := below_box (Below.refl w.heap.size w) (.cells #[.int .i64 nn, .slice a0 l0 k0, .int .i64 nn, .slice a1 l1 k1, .int .i64 nb, .slice a2 l2 k2] 26)
  have L := fun r => lit_new w #[.int .i64 nn, .slice a0 l0 k0, .int .i64 nn, .slice a1 l1 k1, .int .i64 nb, .slice a2 l2 k2] 26 r
  obtain rfl | rfl | rfl : k = 0 ∨ k = 1 ∨ k = 2 := by omega
  · exact ⟨_, _, _, nn, m0, G0, h1, h2, fun _ => rfl, L 0, L 1, i0.below hb⟩
  · exact ⟨_, _, _, nn, m1, G1, h1, h2, fun _ => rfl, L 2, L 3, i1.below hb⟩
  · exact ⟨_, _, _, nb, m2, G2, h3, h4, fun h => absurd h (by omega), L 4, L 5, i2.below hb⟩
theorem twos_at (z : Nat) (h : z < 7) : ∃ n : Nat, isTwo n ∧ (#[Value.int .i64 1, .int .i64 2, .int .i64 4, .int .i64 8, .int .i64 16, .int .i64 32, .int .i64 64] : Array Value)[z]? = some (.int .i64 n) := by
  obtain rfl | rfl | rfl | rfl | rfl | rfl | rfl : z = 0 ∨ z = 1 ∨ z = 2 ∨ z = 3 ∨ z = 4 ∨ z = 5 ∨ z = 6 := by omega
  · exact ⟨1, by decide, rfl⟩
  · exact ⟨2, by decide, rfl⟩
  · exact ⟨4, by decide, rfl⟩
  · exact ⟨8, by decide, rfl⟩
  · exact ⟨16, by decide, rfl⟩
  · exact ⟨32, by decide, rfl⟩
  · exact ⟨64, by decide, rfl⟩
theorem app_lowS {s n B : Nat} {w w1 : World} {v : Value} {e : TypeId} {xs : List Value} (hs : B ≤ w.heap.size) (hO : w.ownsRow B e s v n xs) (o : Obj) (hg : (w.alloc o).grownBy w1 v.ownBlock) : Below B w w1 :=
  ((Below.refl B w).alloc hs o).grown hg (by simp; omega) (fun g hg => (hO.lt g hg).1)

set_option maxRecDepth 100000 in
set_option maxHeartbeats 2000000 in
theorem walk (a0 : Option Addr) (len0 cap0 : Nat) (z0 : List Int) (w : World) (w0 : IsRow .u8 w a0 len0 cap0 z0) :
    Calls Try.prog 4 #[.slice a0 len0 cap0] w fun e w' => e = .returned (.bool true) ∧ Below w.heap.size w w' := by
  obtain ⟨l, hl, hcap, hmax, hr⟩ := row_of_isRow w0
  clear w0
  subst hl
  have R := Lib.hid hr
  clear hr
  have hm : l.length ≤ maxLen := Nat.le_trans hcap hmax
  by_cases hbig : 1048576 < l.length
  · have hB : decide (1048576 < l.length) = true := by simp [hbig]
    go_enter Try.func4, Try.ntmps4
    go_wp2_with fail
    refine (bigIs a0 l.length cap0 _ hm).mono ?_
    rintro e w1 ⟨rfl, rfl⟩
    rw [hB]
    go_wp2
    go_ret
    exact ⟨rfl, Below.refl _ _⟩
  have hB : decide (1048576 < l.length) = false := by simp; omega
  have hl2 : l.length ≤ 1048576 := by omega
  go_enter Try.func4, Try.ntmps4
  go_wp2_with fail
  refine (bigIs a0 l.length cap0 _ hm).mono ?_
  rintro e w1 ⟨rfl, rfl⟩
  rw [hB]
  clear hB
  have T0 := Lib.hid (lawsPick a0 cap0 l 1 7 (w.alloc (.cells #[.int .i64 1, .int .i64 2, .int .i64 4, .int .i64 8, .int .i64 16, .int .i64 32, .int .i64 64] 3)) hm (by omega) (by omega) (by omega) (R.out.below (below_box (Below.refl _ w) _)))
  go_wp2_with fail
  refine T0.out.mono ?_
  rintro e w1 ⟨⟨z, rfl, hz⟩, rfl⟩
  obtain ⟨nn, h2, hq⟩ := twos_at z hz
  have hc : (w.alloc (.cells #[.int .i64 1, .int .i64 2, .int .i64 4, .int .i64 8, .int .i64 16, .int .i64 32, .int .i64 64] 3)).cell? ⟨w.heap.size, z, none⟩ = some (.int .i64 nn) := (lit_new w _ 3 z).trans hq
  have hn := isTwo_le h2
  have B1 := Lib.hid (below_box (Below.refl w.heap.size w) (.cells #[.int .i64 1, .int .i64 2, .int .i64 4, .int .i64 8, .int .i64 16, .int .i64 32, .int .i64 64] 3))
  have G0 := Lib.hid (bitonic_good h2)
  have G1 := Lib.hid (oddEven_good h2)
  clear T0 hq h2
  go_wp2_with fail
  clear hc
  generalize w.alloc (.cells #[.int .i64 1, .int .i64 2, .int .i64 4, .int .i64 8, .int .i64 16, .int .i64 32, .int .i64 64] 3) = w1 at *
  refine (uImplBitonic nn _ ⟨by omega, by omega⟩).mono ?_
  rintro e w2 ⟨c00, c01, rfl, ho, hb⟩
  obtain ⟨aa0, len0, cp0, rfl, rfl, hi⟩ := netIn_good G0.out ho.read
  have I0 := Lib.hid hi.lies
  have B2 := Lib.hid (below_seq B1.out hb)
  clear ho hi hb B1
  go_wp2_with fail
  refine (uImplOddEven nn _ ⟨by omega, by omega⟩).mono ?_
  rintro e w3 ⟨c00, c01, rfl, ho, hb⟩
  obtain ⟨aa1, len1, cp1, rfl, rfl, hi⟩ := netIn_good G1.out ho.read
  have I0' := Lib.hid (I0.out.below hb)
  have I1 := Lib.hid hi.lies
  have B3 := Lib.hid (below_seq B2.out hb)
  clear ho hi hb B2 I0
  go_wp2_with fail
  refine (lawsPick a0 cap0 l 2 40 _ hm (by omega) (by omega) (by omega) (R.out.below B3.out)).mono ?_
  rintro e w4 ⟨⟨y, rfl, hy⟩, rfl⟩
  have G2 := Lib.hid (bubble_good hy)
  go_wp2_with fail
  rw [show (1 : Int) + (y : Int) = ((y + 1 : Nat) : Int) from by omega]
  refine (uImplBubble ((y + 1 : Nat) : Int) _ ⟨by omega, by omega⟩).mono ?_
  rintro e w5 ⟨c00, c01, rfl, ho, hb⟩
  obtain ⟨aa2, len2, cp2, rfl, rfl, hi⟩ := netIn_good G2.out ho.read
  have NS := Lib.hid (NetsAt.new hn.1 hn.2 (by omega) (by omega) G0.out G1.out G2.out (I0'.out.below hb).now (I1.out.below hb).now hi)
  have B5 := Lib.hid (below_box (below_seq B3.out hb) (.cells #[.int .i64 nn, .slice aa0 len0 cp0, .int .i64 nn, .slice aa1 len1 cp1, .int .i64 (y + 1 : Nat), .slice aa2 len2 cp2] 26))
  clear ho hi hb B3 I0' I1 G0 G1 G2
  go_wp2
  generalize w5.heap.size = g at *
  go_loopw [5, 6, 7, 8, 9] (fun i _ _ _ _ wr => ∃ k : Nat, k ≤ 3 ∧ i = .int .i64 k ∧ Hid (NetsAt nn wr g ∧ Below w.heap.size w wr)) (fun i _ _ _ _ _ => 3 - (intOf i).toNat)
  case atStart => exact ⟨0, by omega, rfl, Lib.hid ⟨NS.out, B5.out⟩⟩
  case round =>
    clear NS B5
    obtain ⟨k, hk, rfl, H⟩ := hrel
    by_cases hlt : k < 3
    · obtain ⟨na, nl, nc, n, m, G, h1, h64, _, q0, q1, hin⟩ := H.out.1 k hlt
      have GG := Lib.hid G
      have NI := Lib.hid hin.lies
      have Q0 := Lib.hid q0
      have Q1 := Lib.hid q1
      clear G hin q0 q1
      have S0 : Hid ((wr.alloc (.cells #[] 3)).ownsRow wr.heap.size 3 1 (.slice (some ⟨wr.heap.size, 0, none⟩) 0 0) 0 (([] : List Int).map ival) ∧ Below wr.heap.size wr (wr.alloc (.cells #[] 3))) := Lib.hid ⟨lit_made wr wr.heap.size wr.heap.size (Nat.le_refl _) rfl, below_box (Below.refl _ wr) _⟩
      have RW := Lib.hid (R.out.below H.out.2)
      have dk : decide ((k : Int) < 3) = true := by simp; omega
      go_wp2
      generalize wr = wa at *
      clear dk
      go_loopw [6, 7] (fun o i wq => ∃ (q c : Nat) (ad : Option Addr) (L : List Int), q ≤ n ∧ i = .int .i64 q ∧ o = .slice ad q c ∧ Hid (L.length = q) ∧ Hid (wq.ownsRow wa.heap.size 3 1 (.slice ad q c) q (L.map ival) ∧ Below wa.heap.size wa wq)) (fun _ i _ => n - (intOf i).toNat)
      case atStart => exact ⟨0, 0, _, [], Nat.zero_le _, rfl, rfl, Lib.hid rfl, S0⟩
      case round =>
        clear S0
        obtain ⟨q, c, ad, L, hq, rfl, rfl, HL, HO⟩ := hrel
        have q0 := cell_keep Q0.out HO.out.2
        by_cases hqn : q < n
        · go_wp2_with fail
          clear q0
          refine (lawsPick a0 cap0 l 5 300 _ hm (by omega) (by omega) (by omega) (RW.out.below HO.out.2)).mono ?_
          rintro e w6 ⟨⟨x, rfl, hx⟩, rfl⟩
          go_wp2_with fail
          rw [show (3 : Int) + 2 * (q : Int) = ((3 + 2 * q : Nat) : Int) from by omega, show (1 : Int) + (x : Int) = ((1 + x : Nat) : Int) from by omega]
          refine (lawsPick a0 cap0 l (3 + 2 * q) (1 + x) _ hm (by omega) (by omega) (by omega) (RW.out.below HO.out.2)).mono ?_
          rintro e w6 ⟨⟨y, rfl, hy⟩, rfl⟩
          have hsz : wa.heap.size ≤ wr.heap.size := HO.out.2.size
          go_wp2_with (at_builtin; go_must (refine wp_app_row rfl _ _ 28 rfl 3 (.int .i64 0) 8 Try.underlying28 Try.info3 rfl wa.heap.size q (.slice ad q c) (L.map ival) (by rfl) (HO.out.1.alloc _) (some ⟨wr.heap.size, 0, none⟩) 1 1 [.int .i64 y] (by rfl) rfl (row_one wr (.int .i64 y) 3) (by simp [Value.oneCell']) (by unfold maxLen; omega) (by omega) (by simp; omega) ?_); intro v6 w6 ho6 hg6; have LW := app_lowS hsz HO.out.1 _ hg6; have X6 := Lib.hid (HO.out.2.trans LW); have O6 := Lib.hid ho6; obtain ⟨a6, c6, rfl⟩ := own_shape ho6; clear ho6 hg6 LW)
          go_roundw
          case rel => exact ⟨q + 1, c6, a6, L ++ [(y : Int)], by omega, by go_num, rfl, Lib.hid (by simp [HL.out]), Lib.hid ⟨by rw [List.map_append]; exact O6.out, X6.out⟩⟩
          case measure => simp [intOf]; omega
        · obtain rfl : q = n := by omega
          obtain ⟨lg, rfl, _⟩ := intSOwn_mid HO.out.1 h1
          have LI := Lib.hid ((IntSOwn.mk HO.out.1).read.lies)
          have RC := Lib.hid (Row.of_own HO.out.1)
          have B6 := Lib.hid HO.out.2
          have q1 := cell_keep Q1.out HO.out.2
          have NI6 := Lib.hid (NI.out.below HO.out.2)
          clear HO
          have CW : Hid ((wr.alloc (.cells #[] 3)).drew.cell? ⟨g, k * 2, none⟩ = some (.int .i64 q) ∧ (wr.alloc (.cells #[] 3)).drew.cell? ⟨g, k * 2 + 1, none⟩ = some (.slice na nl nc)) := Lib.hid ⟨cell_keep q0 (below_drew (below_box (Below.refl _ wr) _)), cell_keep q1 (below_drew (below_box (Below.refl _ wr) _))⟩
          have BWD := Lib.hid (below_drew (below_box (Below.refl wr.heap.size wr) (.cells #[] 3)))
          have RD : Hid (∀ j u, (L.map ival)[j]? = some u → (wr.alloc (.cells #[] 3)).drew.cell? ((⟨lg, 0, none⟩ : Addr).add j) = some u) := Lib.hid (row_cells (RC.out.below BWD.out))
          have HLL : Hid (L.length = q) := HL
          have ER : Hid (netRunM m L = runW m.ws L) := Lib.hid (by unfold netRunM; rw [if_pos ⟨GG.out.ok, by rw [GG.out.size, HLL.out]⟩])
          obtain ⟨i0, hi, hz0, hz1, hz2⟩ := info_parts Try.info3
          have HI := Lib.hid (And.intro hi (And.intro hz0 (And.intro hz1 hz2)))
          clear hi hz0 hz1 hz2 RC
          have dq : decide ((q : Int) < (q : Int)) = false := by simp
          have ik0 : (0 : Int) ≤ (k : Int) := by omega
          have ik1 : (k : Int) < 3 := by omega
          go_wp2_with fail
          go_region_held3 (fun w' => w'.cell? ⟨g, k * 2, none⟩ = some (.int .i64 q) ∧ w'.cell? ⟨g, k * 2 + 1, none⟩ = some (.slice na nl nc))
            (first | exact C7.out | exact C6.out | exact CW.out | exact ⟨q0, q1⟩ | go_keep)
            (first
              | (refine step_append_grows (by rfl) _ _ _ (by rfl) 3 i0 (.int .i64 0) 1 8 Try.underlying28 HI.out.1 HI.out.2.1 HI.out.2.2.1 HI.out.2.2.2 rfl (by omega) (some ⟨wr.heap.size, 0, none⟩) 0 0 [] (by rfl) (by simp) (by simp) (by simp) ⟨lg, 0, none⟩ q c (L.map ival) (by rfl) (by simp [HLL.out]) RD.out (ones_ival (fun z => rfl)) (by omega) (by unfold maxLen; omega) (by omega) ?_; intro v6 w6 hown hgr; rw [Nat.zero_add, List.nil_append] at hown; obtain ⟨xa, xc, rfl⟩ := own_shape hown; have C6 : Hid (w6.cell? ⟨g, k * 2, none⟩ = some (.int .i64 q) ∧ w6.cell? ⟨g, k * 2 + 1, none⟩ = some (.slice na nl nc)) := Lib.hid ⟨hgr.cell CW.out.1 (by simp), hgr.cell CW.out.2 (by simp)⟩; have L6 := Lib.hid (IntSOwn.mk hown).read; have B7 := Lib.hid (below_seq BWD.out (grown_below hgr)); have N6 := Lib.hid ((NI6.out.below B7.out).now); clear hown hgr)
              | (go_at_call 24; refine (uImplNetRun (.int .i64 q) (.slice na nl nc) m (.slice xa q xc) L w6 N6.out L6.out).mono ?_; rintro e w7 ⟨cg, rfl, ho, hb7⟩; rw [ER.out] at ho; have C7 : Hid (w7.cell? ⟨g, k * 2, none⟩ = some (.int .i64 q) ∧ w7.cell? ⟨g, k * 2 + 1, none⟩ = some (.slice na nl nc)) := Lib.hid ⟨cell_keep C6.out.1 hb7, cell_keep C6.out.2 hb7⟩; have G7 := Lib.hid ho.read; have B8 := Lib.hid (below_seq B7.out hb7); clear ho hb7))
          clear CW C6 L6 N6 B7 BWD RD HI q0 q1 dq
          obtain ⟨ga, gc, rfl, _⟩ := intSIn_shape G7.out
          have LG : Hid ((runW m.ws L).length = q) := Lib.hid (by rw [runW_length, HLL.out])
          have SG : Hid (sortedB (runW m.ws L) = true) := Lib.hid (GG.out.sort L HLL.out)
          have CG : Hid (∀ x, (runW m.ws L).count x = L.count x) := Lib.hid (fun x => GG.out.count L x HLL.out)
          have OKG : Hid (netOkB m = true) := Lib.hid GG.out.ok
          have BN7 := Lib.hid (B6.out.trans (B8.out.mono B6.out.size))
          have N7 := Lib.hid (NI.out.below BN7.out)
          have L7 := Lib.hid (LI.out.below B8.out)
          generalize runW m.ws L = G at *
          rw [LG.out] at G7 ⊢
          have b1 : ((q : Int) != (q : Int)) = false := by simp
          have b2 : ((q : Int) == 0) = false := by simp; omega
          have r0 := C7.out.1
          have r1 := C7.out.2
          go_wp2_with fail
          refine (lawsSorted _ G w7 G7.out (by rw [LG.out]; omega)).mono ?_
          rintro e w8 ⟨rfl, nd, rfl⟩
          rw [SG.out]
          go_wp2_with fail
          clear r0 r1 b1 b2
          refine (uSpecNetOk _ _ m _ ((N7.out.below (belowN nd)).now)).mono ?_
          rintro e w8 ⟨rfl, hb8⟩
          rw [OKG.out]
          have B9 := Lib.hid (below_seq (belowN nd) hb8)
          clear hb8
          have N9 := Lib.hid (H.out.1.below (below_seq BN7.out B9.out))
          have BB9 := Lib.hid (below_seq H.out.2 (below_seq BN7.out B9.out))
          have G9 := Lib.hid (G7.out.lies.below B9.out)
          have L9 := Lib.hid (L7.out.below B9.out)
          clear N7 BN7 L7 B8 B6 G7 C7 NI6 LI B9 H SG OKG ER GG
          go_wp2
          generalize wr = wb at *
          go_loopw [9] (fun i wq => ∃ j : Nat, j ≤ q ∧ i = .int .i64 j ∧ Hid (Below w8.heap.size w8 wq)) (fun i _ => q - (intOf i).toNat)
          case atStart => exact ⟨0, Nat.zero_le _, rfl, Lib.hid (Below.refl _ _)⟩
          case round =>
            obtain ⟨j, hj, rfl, HB⟩ := hrel
            by_cases hjq : j < q
            · have hjL : j < L.length := by rw [HLL.out]; exact hjq
              have hrow : Row wr (some ⟨lg, 0, none⟩) (L.map ival) := by
                obtain ⟨la, lc, hla, _, _, hrow⟩ := intSIn_shape (L9.out.below HB.out).now
                simp at hla
                obtain ⟨rfl, _, rfl⟩ := hla
                exact hrow
              have qj : wr.cell? ⟨lg, j, none⟩ = some (.int .i64 L[j]) := by
                rcases hrow with h0 | ⟨b', o', hb', hc'⟩
                · simp at h0; rw [h0] at hjL; simp at hjL
                · simp at hb'
                  obtain ⟨rfl, rfl⟩ := hb'
                  have := hc' j (by simpa using hjL)
                  rw [Nat.zero_add] at this
                  exact this.trans (ival_at hjL)
              have CA := Lib.hid (lawsCounts _ G L[j] wr.drew ((G9.out.below (below_drew HB.out)).now) (by rw [LG.out]; omega))
              have CB := Lib.hid (lawsCounts _ L L[j] wr.drew ((L9.out.below (below_drew HB.out)).now) (by rw [HLL.out]; omega))
              rw [CG.out] at CA
              clear hrow
              generalize hX : L[j] = x at *
              clear hX hjL
              generalize L.count x = y at *
              have CX : Hid (∀ v, (v = .slice ga q gc ∨ v = .slice (some ⟨lg, 0, none⟩) q c) → Calls Try.prog 28 #[v, .int .i64 x] wr.drew fun e w' => e = .returned (.int .i64 (y : Int)) ∧ wr.drew = w') := Lib.hid (fun v hv => by
                rcases hv with rfl | rfl
                · exact CA.out
                · exact CB.out)
              clear CA CB
              have bb : ((y : Int) != (y : Int)) = false := by simp
              have ij0 : (0 : Int) ≤ (j : Int) := by omega
              have ij1 : (j : Int) < (q : Int) := by omega
              go_wp2_with fail
              go_region_held3 (fun w' => w'.cell? ⟨lg, j, none⟩ = some (.int .i64 x))
                (first | go_keep | exact qj)
                ((go_at_call 28; refine (CX.out _ (by first | exact .inl rfl | exact .inr rfl)).mono ?_; rintro e w9 ⟨rfl, rfl⟩))
              go_wp2
              go_roundw
              case rel => exact ⟨j + 1, by omega, by go_num, Lib.hid (below_drew HB.out)⟩
              case measure => simp [intOf]; omega
            · have N10 := Lib.hid (N9.out.below HB.out)
              have B10 := Lib.hid (below_seq BB9.out HB.out)
              go_wp2
              go_roundw
              case rel => exact ⟨k + 1, by omega, by go_num, Lib.hid ⟨N10.out, B10.out⟩⟩
              case measure => simp [intOf]; omega
    · obtain rfl : k = 3 := by omega
      obtain ⟨_, _, _, n0, _, _, _, _, e0, q0, _, _⟩ := H.out.1 0 (by omega)
      obtain ⟨_, _, _, n1, _, _, _, _, e1, q1, _, _⟩ := H.out.1 1 (by omega)
      rw [e0 (by omega)] at q0
      rw [e1 (by omega)] at q1
      have q0' : wr.cell? ⟨g, 0, none⟩ = some (.int .i64 nn) := q0
      have q1' : wr.cell? ⟨g, 2, none⟩ = some (.int .i64 nn) := q1
      have bb : ((nn : Int) == (nn : Int)) = true := by simp
      clear q0 q1
      go_wp2
      go_ret
      exact ⟨rfl, H.out.2⟩

set_option maxRecDepth 100000 in
theorem lifted (os : Os) (started : os.Started) (H : Type) (enc : TypeId × Value → H) :
    ReturnsInHanded {} Try.checked os 4 .any (Rows.fnNetsSortSpec.pre6 enc Try.prog Try.f4 Rows.fnNetsSortRow.domain false) (Rows.fnNetsSortSpec.post enc Try.prog Try.f4 false true false false) := by
  refine returnsInHanded_of_change (C := Try.checked) own started (by kernel_rfl) Try.func4
    (ChangeSpec.witness6 (enc := enc) (C := Try.checked) false ⟨#[], #[.slice none 0 0], []⟩ 8 (by kernel_rfl) (by kernel_rfl) (by kernel_rfl) (by kernel_rfl)) ?_
  intro W base args ds gs before hval0 hW hcnd _
  have hval : ∀ (j : Nat) t v, Try.f4.params[j]? = some t → args[j]? = some v → Value.okWide Try.prog W .any base t v := hval0
  have hW' := hW
  obtain ⟨p, q, hA0, hV, rfl, hfz, hnd⟩ := hW
  have hA : DataW.TrodAll enc Try.prog W 0 (fun _ => true) true Try.f4.params.toList args.toList ds p := hA0
  rw [Try.params4] at hA hval
  obtain ⟨v0, vs0, d0, ds0, p0, q0, hargs, rfl, rfl, h0, r0⟩ := trodAll_cons hA
  obtain ⟨rfl, rfl, rfl⟩ := trodAll_nil r0
  obtain rfl : args = #[v0] := by cases args; simp_all
  obtain ⟨rfl, rfl⟩ := trodVars_none hV
  obtain ⟨a0, len0, cap0, rfl⟩ := okWide_slice Try.underlying22 (hval 0 22 v0 rfl rfl)
  have k0 := h0
  have lt0 : ∀ x ∈ p0, x.block < W.heap.size := by obtain ⟨m, hm⟩ := k0; exact DataW.trod_lt m _ _ _ hm
  obtain ⟨z0, w0⟩ : ∃ zs, IsRow .u8 W a0 len0 cap0 zs := by
    obtain ⟨fuel, hf⟩ := h0
    rcases open_ints Try.underlying22 Try.underlying5 (by kernel_rfl) hf with ⟨hcs, _⟩ | ⟨x, l, c, zs, hcs, _, hl, hm, hz, _, hcell, hwz⟩
    · simp [Value.cells] at hcs
      obtain ⟨rfl, rfl, rfl⟩ := hcs
      exact ⟨[], .inl ⟨rfl, rfl, rfl, rfl⟩⟩
    · simp [Value.cells] at hcs
      obtain ⟨rfl, rfl, rfl⟩ := hcs
      exact ⟨zs, .inr ⟨_, rfl, hl, hm, by simpa using hz, hcell, hwz⟩⟩
  clear hA0 hval0
  refine (walk a0 len0 cap0 z0 W w0).mono fun e W' ⟨he, bel⟩ => ?_
  subst he
  exact ⟨_, rfl, _, _, _, [], _, [], hW', trodAll_mk1 (shut_bool Try.underlying4 _), (trodAll_cons_mk (Below.trod laidOut (by kernel_rfl) (of_decide_eq_true (by kernel_rfl)) k0 bel lt0) trodAll_mk0), rfl, bel.frame _, fun h => by cases h⟩

theorem over : Rows.fnNetsSortRow.holds Try.pinned (OpenSpec.ofChange Rows.fnNetsSortSpec) :=
  OpenClaim.holds_of_wide 4 Try.f4 rfl rfl rfl rfl rfl rfl rfl ⟨rfl, rfl, rfl, rfl, rfl⟩ rfl rfl rfl rfl rfl (by kernel_rfl) Try.func4 (by kernel_rfl)
    (of_decide_eq_true (by kernel_rfl)) (by unfold Func.isWrapper; first | (rw [if_pos (by decide +kernel)]; kernel_rfl) | (rw [if_neg (by decide +kernel)]; exact ⟨rfl, rfl⟩))
    (fun os started H enc _ => lifted os started H enc)
end Go.Proofs.Ytkifndcfmmdkpaa.fnNetsSort
namespace Go.Proofs.Ytkifndcfmmdkpaa
theorem fnNetsSort_holds : Rows.FnNetsSortSaid := fnNetsSort.over
end Go.Proofs.Ytkifndcfmmdkpaa
