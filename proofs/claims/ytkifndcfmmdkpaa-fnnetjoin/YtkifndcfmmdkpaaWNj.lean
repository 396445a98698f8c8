/- FnNetJoin: the walk. -/
import Derived.Test.YtkifndcfmmdkpaaBase
import Derived.Test.YtkifndcfmmdkpaaNdD
import Derived.Test.YtkifndcfmmdkpaaZoP
import Derived.Test.YtkifndcfmmdkpaaLwN
import Derived.Test.YtkifndcfmmdkpaaLPick
import Derived.Test.YtkifndcfmmdkpaaNeR
import Derived.Test.YtkifndcfmmdkpaaNeD
import Derived.Test.YtkifndcfmmdkpaaNeJ
import Derived.Deep.RegionHeld3
namespace Go.Proofs.Ytkifndcfmmdkpaa.fnNetJoin
open Go.ChangeShapes Go.WideShapes Go.ChangeAt Go.RowKit
open Go.ChangeMaps (open_string shut_string)
set_option linter.unusedVariables false

theorem intRet {l : List Int} {w : World} {e : Ending} {w' : World} (h : IntSRet l w e w') : ∃ a cap, e = .returned (.slice a l.length cap) ∧ IntSIn [.slice a l.length cap] l w' ∧ Below w.heap.size w w' := by
  obtain ⟨c, rfl, ho, hb⟩ := h
  obtain ⟨a, cap, rfl, h1, h2, h3⟩ := intSIn_shape ho.read
  exact ⟨a, cap, rfl, ho.read, hb⟩
theorem joinRet {x y : NetM} {w : World} {e : Ending} {w' : World} (h : JoinRet x y w e w') : ∃ a cap, e = .returned (.tuple #[.agg #[.int .i64 (joinM x y).n, .slice a (joinM x y).ws.length cap], .bool (joinB x y)]) ∧ NetIn [.int .i64 (joinM x y).n, .slice a (joinM x y).ws.length cap] (joinM x y) w' ∧ Below w.heap.size w w' := by
  obtain ⟨c0, c1, rfl, ho, hb⟩ := h
  obtain ⟨a, cap, rfl, rfl, _⟩ := netIn_cells ho.read
  exact ⟨a, cap, rfl, ho.read, hb⟩
theorem app_lowS {s n B : Nat} {w w1 : World} {v : Value} {e : TypeId} {xs : List Value} (hs : B ≤ w.heap.size) (hO : w.ownsRow B e s v n xs) (o : Obj) (hg : (w.alloc o).grownBy w1 v.ownBlock) : Below B w w1 :=
  ((Below.refl B w).alloc hs o).grown hg (by simp; omega) (fun g hg => (hO.lt g hg).1)
set_option maxRecDepth 100000 in
set_option maxHeartbeats 4000000 in
theorem walk (a0 : Option Addr) (len0 cap0 : Nat) (z0 : List Int) (w : World) (w0 : IsRow .u8 w a0 len0 cap0 z0) :
    Calls Try.prog 5 #[.slice a0 len0 cap0] w fun e w' => e = .returned (.bool true) ∧ Below w.heap.size w w' := by
  obtain ⟨l, hl, hcap, hmax, hr⟩ := row_of_isRow w0
  clear w0
  subst hl
  have R := Lib.hid hr
  clear hr
  have hm : l.length ≤ maxLen := Nat.le_trans hcap hmax
  by_cases hbig : 1048576 < l.length
  · have hB : decide (1048576 < l.length) = true := by simp [hbig]
    go_enter Try.func5, Try.ntmps5
    go_wp2_with fail
    refine (bigIs a0 l.length cap0 _ hm).mono ?_
    rintro e w1 ⟨rfl, rfl⟩
    rw [hB]
    go_wp2
    go_ret
    exact ⟨rfl, Below.refl _ _⟩
  have hB : decide (1048576 < l.length) = false := by simp; omega
  have hl2 : l.length ≤ 1048576 := by omega
  go_enter Try.func5, Try.ntmps5
  go_wp2_with fail
  refine (bigIs a0 l.length cap0 _ hm).mono ?_
  rintro e w1 ⟨rfl, rfl⟩
  rw [hB]
  clear hB
  go_wp2_with fail
  refine (drawTwo a0 l cap0 w hl2 R.out).mono ?_
  rintro e w1 ⟨x, y, ax, kx, ay, ky, rfl, hX, hY, hK, hx, hy, hb⟩
  have HX := Lib.hid (And.intro hX.lies hY.lies)
  have B1 := Lib.hid hb
  clear hX hY hb
  obtain ⟨W, hW⟩ : ∃ W, W = (w1.alloc (.cells #[.int .i64 x.n, .slice ax x.ws.length kx] 26)).alloc (.cells #[.int .i64 y.n, .slice ay y.ws.length ky] 26) := ⟨_, rfl⟩
  have BW : Below w1.heap.size w1 W := by rw [hW]; exact below_box (below_box (Below.refl _ w1) _) _
  have KA := Lib.hid (show W.heap[w1.heap.size]? = some (.cells #[.int .i64 x.n, .slice ax x.ws.length kx] 26 (0, 0)) by rw [hW]; exact (alloc_old _ _ _ (by simp)).trans (alloc_at _ _ _ rfl))
  have KB := Lib.hid (show W.heap[w1.heap.size + 1]? = some (.cells #[.int .i64 y.n, .slice ay y.ws.length ky] 26 (0, 0)) by rw [hW]; exact alloc_at _ _ _ (by simp))
  have NX := Lib.hid (HX.out.1.below BW)
  have NY := Lib.hid (HX.out.2.below BW)
  have B2 := Lib.hid (below_seq B1.out BW)
  clear HX B1 BW
  have x0 : W.cell? ⟨w1.heap.size, 0, none⟩ = some (.int .i64 x.n) := cur_cell KA.out 0
  have x1 : W.cell? ⟨w1.heap.size, 1, none⟩ = some (.slice ax x.ws.length kx) := cur_cell KA.out 1
  have y0 : W.cell? ⟨w1.heap.size + 1, 0, none⟩ = some (.int .i64 y.n) := cur_cell KB.out 0
  have y1 : W.cell? ⟨w1.heap.size + 1, 1, none⟩ = some (.slice ay y.ws.length ky) := cur_cell KB.out 1
  go_upto_region 4 with fail
  rw [← hW]
  clear hW
  go_wp2_with fail
  generalize w1.heap.size = TA at *
  refine (uSpecNetJoin (.int .i64 x.n) (.slice ax x.ws.length kx) x (.int .i64 y.n) (.slice ay y.ws.length ky) y W NX.out.now NY.out.now).mono ?_
  rintro e w2 h2
  obtain ⟨aj, kj, rfl, hj, hb⟩ := joinRet h2
  have OB : Obj := .cells #[.int .i64 (joinM x y).n, .slice aj (joinM x y).ws.length kj] 26
  have B3 := below_box hb (.cells #[.int .i64 (joinM x y).n, .slice aj (joinM x y).ws.length kj] 26)
  obtain ⟨W2, hW2⟩ : ∃ W2, W2 = w2.alloc (.cells #[.int .i64 (joinM x y).n, .slice aj (joinM x y).ws.length kj] 26) := ⟨_, rfl⟩
  rw [← hW2] at B3
  replace NX := Lib.hid (NX.out.below B3)
  replace NY := Lib.hid (NY.out.below B3)
  replace KA := Lib.hid (kept_block KA.out B3)
  replace KB := Lib.hid (kept_block KB.out B3)
  replace B2 := Lib.hid (below_seq B2.out B3)
  clear h2 hj hb B3 OB x0 x1 y0 y1
  have x0 : W2.cell? ⟨TA, 0, none⟩ = some (.int .i64 x.n) := cur_cell KA.out 0
  have x1 : W2.cell? ⟨TA, 1, none⟩ = some (.slice ax x.ws.length kx) := cur_cell KA.out 1
  have y0 : W2.cell? ⟨TA + 1, 0, none⟩ = some (.int .i64 y.n) := cur_cell KB.out 0
  have y1 : W2.cell? ⟨TA + 1, 1, none⟩ = some (.slice ay y.ws.length ky) := cur_cell KB.out 1
  go_upto_region 5 with fail
  rw [← hW2]
  clear hW2
  go_wp2_with fail
  refine (uImplNetJoin (.int .i64 x.n) (.slice ax x.ws.length kx) x (.int .i64 y.n) (.slice ay y.ws.length ky) y W2 NX.out.now NY.out.now).mono ?_
  rintro e w3 h3
  obtain ⟨aj, kj, rfl, hj, hb⟩ := joinRet h3
  have B3 := below_box hb (.cells #[.int .i64 (joinM x y).n, .slice aj (joinM x y).ws.length kj] 26)
  obtain ⟨W3, hW3⟩ : ∃ W3, W3 = w3.alloc (.cells #[.int .i64 (joinM x y).n, .slice aj (joinM x y).ws.length kj] 26) := ⟨_, rfl⟩
  rw [← hW3] at B3
  have NJ := Lib.hid (show Lies W3 0 W3.heap.size (NetIn [.int .i64 (joinM x y).n, .slice aj (joinM x y).ws.length kj] (joinM x y)) by rw [hW3]; exact (hj.below (below_box (Below.refl _ w3) _)).lies)
  have KJ := Lib.hid (show W3.heap[w3.heap.size]? = some (.cells #[.int .i64 (joinM x y).n, .slice aj (joinM x y).ws.length kj] 26 (0, 0)) by rw [hW3]; exact alloc_at _ _ _ rfl)
  replace NX := Lib.hid (NX.out.below B3)
  replace NY := Lib.hid (NY.out.below B3)
  replace KA := Lib.hid (kept_block KA.out B3)
  replace KB := Lib.hid (kept_block KB.out B3)
  replace B2 := Lib.hid (below_seq B2.out B3)
  clear h3 hj hb B3 x0 x1 y0 y1
  have E := Lib.hid (fun h : joinB x y = true => And.intro (depth_join h) (And.intro (fun (l : List Int) (hl : (l.length : Int) = x.n) => run_join h hl) (joinB_ok h)))
  have EJ : Hid (joinB x y = true → (joinM x y).n = x.n ∧ (joinM x y).ws.length = x.ws.length + y.ws.length) := Lib.hid (fun h => by unfold joinM; rw [if_pos h]; exact ⟨rfl, by simp⟩)
  cases hjb : joinB x y
  · go_upto_region 6 with fail
    rw [← hW3]
    go_wp2
    go_ret
    exact ⟨rfl, hW3 ▸ B2.out⟩
  · have E := Lib.hid (E.out hjb)
    have EJ := Lib.hid (EJ.out hjb)
    go_upto_region 6 with fail
    rw [← hW3]
    clear hW3
    generalize w3.heap.size = TJ at *
    generalize joinM x y = jn at *
    obtain ⟨jn0, jws⟩ := jn
    obtain rfl : jn0 = x.n := EJ.out.1
    obtain ⟨n, hn, h1, h64, _⟩ := netOkB_ok E.out.2.2.1
    have HN := Lib.hid hn
    generalize x.n = xn at *
    go_wp2_with fail
    have S0 : Hid ((W3.alloc (.cells #[] 3)).ownsRow W3.heap.size 3 1 (.slice (some ⟨W3.heap.size, 0, none⟩) 0 0) 0 (([] : List Int).map ival) ∧ Below W3.heap.size W3 (W3.alloc (.cells #[] 3))) := Lib.hid ⟨lit_made W3 W3.heap.size W3.heap.size (Nat.le_refl _) rfl, below_box (Below.refl _ W3) _⟩
    replace R := Lib.hid (R.out.below B2.out)
    clear hn
    obtain rfl : xn = (n : Int) := HN.out
    go_loopw [9, 10] (fun o i wq => ∃ (q c : Nat) (ad : Option Addr) (L : List Int), q ≤ n ∧ i = .int .i64 q ∧ o = .slice ad q c ∧ Hid (L.length = q) ∧ Hid (wq.ownsRow W3.heap.size 3 1 (.slice ad q c) q (L.map ival) ∧ Below W3.heap.size W3 wq)) (fun _ i _ => n - (intOf i).toNat)
    case atStart => exact ⟨0, 0, _, [], Nat.zero_le _, rfl, rfl, Lib.hid rfl, S0⟩
    case round =>
      clear S0
      obtain ⟨q, c, ad, L, hq, rfl, rfl, HL, HO⟩ := hrel
      have x0 : wr.cell? ⟨TA, 0, none⟩ = some (.int .i64 n) := cur_cell (kept_block KA.out HO.out.2) 0
      by_cases hqn : q < n
      · go_wp2_with fail
        clear x0
        rw [show (7 : Int) * (q : Int) = ((7 * q : Nat) : Int) from by omega]
        refine (lawsPick a0 cap0 l (7 * q) 30 _ hm (by omega) (by omega) (by omega) (R.out.below HO.out.2)).mono ?_
        rintro e w6 ⟨⟨y', rfl, hy'⟩, rfl⟩
        have hsz : W3.heap.size ≤ wr.heap.size := HO.out.2.size
        have X6 := Lib.hid (fun (o : Obj) (w6 : World) (hg : (wr.alloc o).grownBy w6 (Value.ownBlock (.slice ad q c))) => HO.out.2.trans (app_lowS hsz HO.out.1 o hg))
        go_wp2_with (at_builtin; go_must (refine wp_app_row rfl _ _ 28 rfl 3 (.int .i64 0) 8 Try.underlying28 Try.info3 rfl W3.heap.size q (.slice ad q c) (L.map ival) (by rfl) (HO.out.1.alloc _) (some ⟨wr.heap.size, 0, none⟩) 1 1 [.int .i64 y'] (by rfl) rfl (row_one wr (.int .i64 y') 3) (by simp [Value.oneCell']) (by unfold maxLen; omega) (by omega) (by simp; omega) ?_); intro v6 w6 ho6 hg6; have Y6 := Lib.hid (X6.out _ w6 hg6); have O6 := Lib.hid ho6; obtain ⟨a6, c6, rfl⟩ := own_shape ho6; clear ho6 hg6)
        go_roundw
        case rel => exact ⟨q + 1, c6, a6, L ++ [(y' : Int)], by omega, by go_num, rfl, Lib.hid (by simp [HL.out]), Lib.hid ⟨by rw [List.map_append]; exact O6.out, Y6.out⟩⟩
        case measure => simp [intOf]; omega
      · obtain rfl : q = n := by omega
        have HB := Lib.hid HO.out.2
        have LI := Lib.hid ((IntSOwn.mk HO.out.1).read.lies)
        replace NX := Lib.hid (NX.out.below HB.out)
        replace NY := Lib.hid (NY.out.below HB.out)
        replace NJ := Lib.hid (NJ.out.below HB.out)
        replace KA := Lib.hid (kept_block KA.out HB.out)
        replace KB := Lib.hid (kept_block KB.out HB.out)
        replace KJ := Lib.hid (kept_block KJ.out HB.out)
        replace B2 := Lib.hid (below_seq B2.out HB.out)
        have HLL : Hid (L.length = q) := HL
        have ER := Lib.hid (E.out.2.1 L (by rw [HLL.out]))
        have E1 := Lib.hid E.out.1
        clear HO HB R HN HL
        obtain ⟨dj, hdj⟩ : ∃ d, depthZ ⟨(q : Int), jws⟩ = d := ⟨_, rfl⟩
        obtain ⟨dx, hdx⟩ : ∃ d, depthZ x = d := ⟨_, rfl⟩
        obtain ⟨dy, hdy⟩ : ∃ d, depthZ y = d := ⟨_, rfl⟩
        have DX := depthZ_bd x
        have DY := depthZ_bd y
        have D12 := E1.out.2
        rw [hdj, hdx, hdy] at D12
        rw [hdx] at DX
        rw [hdy] at DY
        obtain ⟨D1, D2⟩ := D12
        have LJ := EJ.out.2
        have LX := E.out.2.2.2.2.2
        have S1 := Lib.hid (fun w' (hb : Below wr.heap.size wr w') => (show w'.cell? ⟨TA, 0, none⟩ = some (.int .i64 q) ∧ w'.cell? ⟨TA, 1, none⟩ = some (.slice ax x.ws.length kx) ∧ w'.cell? ⟨TA + 1, 0, none⟩ = some (.int .i64 y.n) ∧ w'.cell? ⟨TA + 1, 1, none⟩ = some (.slice ay y.ws.length ky) ∧ w'.cell? ⟨TJ, 0, none⟩ = some (.int .i64 q) ∧ w'.cell? ⟨TJ, 1, none⟩ = some (.slice aj jws.length kj) from
          ⟨cur_cell (kept_block KA.out hb) 0, cur_cell (kept_block KA.out hb) 1, cur_cell (kept_block KB.out hb) 0, cur_cell (kept_block KB.out hb) 1, cur_cell (kept_block KJ.out hb) 0, cur_cell (kept_block KJ.out hb) 1⟩))
        have T1 := Lib.hid (fun w' (hb : Below wr.heap.size wr w') => uImplNetRun (.int .i64 q) (.slice aj jws.length kj) ⟨q, jws⟩ (.slice ad q c) L w' (NJ.out.below hb).now (LI.out.below hb).now)
        have T2 := Lib.hid (fun w' (hb : Below wr.heap.size wr w') => uImplNetRun (.int .i64 q) (.slice ax x.ws.length kx) x (.slice ad q c) L w' (NX.out.below hb).now (LI.out.below hb).now)
        have T6 := Lib.hid (fun w' (hb : Below wr.heap.size wr w') => uSpecNetRun (.int .i64 q) (.slice aj jws.length kj) ⟨q, jws⟩ (.slice ad q c) L w' (NJ.out.below hb).now (LI.out.below hb).now)
        have T5 := T1
        have T8 : Hid (∀ w', Below wr.heap.size wr w' → Calls Try.prog 34 #[.agg #[.int .i64 q, .slice aj jws.length kj]] w' fun e w'' => e = .returned (.int .i64 dj) ∧ Below w'.heap.size w' w'') := Lib.hid (fun w' hb => by rw [← hdj]; exact uImplNetDepth (.int .i64 q) (.slice aj jws.length kj) ⟨(q : Int), jws⟩ w' (NJ.out.below hb).now)
        have T9 : Hid (∀ w', Below wr.heap.size wr w' → Calls Try.prog 34 #[.agg #[.int .i64 q, .slice ax x.ws.length kx]] w' fun e w'' => e = .returned (.int .i64 dx) ∧ Below w'.heap.size w' w'') := Lib.hid (fun w' hb => by rw [← hdx]; exact uImplNetDepth (.int .i64 q) (.slice ax x.ws.length kx) x w' (NX.out.below hb).now)
        have T10 : Hid (∀ w', Below wr.heap.size wr w' → Calls Try.prog 34 #[.agg #[.int .i64 y.n, .slice ay y.ws.length ky]] w' fun e w'' => e = .returned (.int .i64 dy) ∧ Below w'.heap.size w' w'') := Lib.hid (fun w' hb => by rw [← hdy]; exact uImplNetDepth (.int .i64 y.n) (.slice ay y.ws.length ky) y w' (NY.out.below hb).now)
        have T11 := T8
        have T12 := T9
        have HB := Lib.hid (below_drew (Below.refl wr.heap.size wr))
        have BZ := Lib.hid B2.out
        clear hdj hdx hdy E1 E EJ KA KB KJ LI HLL hjb
        have hw1 : IntKind.i64.wrap (dx + dy) = dx + dy := IntWalk.i64_in _ (by omega)
        have hw2 : IntKind.i64.wrap ((x.ws.length : Int) + (y.ws.length : Int)) = (x.ws.length : Int) + (y.ws.length : Int) := IntWalk.i64_in _ (by omega)
        have hd1 : decide (dj ≤ dx + dy) = true := by simp; omega
        have hd2 : decide (dj ≥ dx) = true := by simp; omega
        have hd3 : ((jws.length : Int) == (x.ws.length : Int) + (y.ws.length : Int)) = true := by simp; omega
        clear LJ LX
        go_upto_region 13 with fail
        clear x0
        go_region_held3 (fun w' => w'.cell? ⟨TA, 0, none⟩ = some (.int .i64 q) ∧ w'.cell? ⟨TA, 1, none⟩ = some (.slice ax x.ws.length kx) ∧ w'.cell? ⟨TA + 1, 0, none⟩ = some (.int .i64 y.n) ∧ w'.cell? ⟨TA + 1, 1, none⟩ = some (.slice ay y.ws.length ky) ∧ w'.cell? ⟨TJ, 0, none⟩ = some (.int .i64 q) ∧ w'.cell? ⟨TJ, 1, none⟩ = some (.slice aj jws.length kj))
          (exact S1.out _ HB.out)
          (first
            | (go_at_call 24; refine (T1.out _ HB.out).mono ?_; rintro e v1 hh; obtain ⟨r1a, r1c, rfl, hr, hb⟩ := intRet hh; have HB := Lib.hid (below_seq HB.out hb); have G1 := Lib.hid hr.lies; clear T1 hh hr hb)
            | (go_at_call 24; refine (T2.out _ HB.out).mono ?_; rintro e v2 hh; obtain ⟨r2a, r2c, rfl, hr, hb⟩ := intRet hh; have HB := Lib.hid (below_seq HB.out hb); have G1 := Lib.hid (G1.out.below hb); have T3 := Lib.hid (uImplNetRun (.int .i64 y.n) (.slice ay y.ws.length ky) y (.slice r2a (netRunM x L).length r2c) (netRunM x L) v2 (NY.out.below HB.out).now hr); clear T2 hh hr hb)
            | (go_at_call 24; refine T3.out.mono ?_; rintro e v3 hh; obtain ⟨r3a, r3c, rfl, hr, hb⟩ := intRet hh; have HB := Lib.hid (below_seq HB.out hb); have T4 := Lib.hid (lawsSame (.slice r1a (netRunM ⟨(q : Int), jws⟩ L).length r1c) (.slice r3a (netRunM y (netRunM x L)).length r3c) (netRunM ⟨(q : Int), jws⟩ L) (netRunM y (netRunM x L)) v3 (G1.out.below hb).now hr); rw [show (netRunM ⟨(q : Int), jws⟩ L == netRunM y (netRunM x L)) = true from (by rw [ER.out]; simp)] at T4; clear T3 hh hr hb G1)
            | (go_at_call 32; refine T4.out.mono ?_; rintro e v4 ⟨rfl, nd, hw4⟩; have hb : Below v3.heap.size v3 v4 := (by rw [hw4]; exact belowN nd); have HB := Lib.hid (below_seq HB.out hb); clear T4 hb hw4)
            | (go_at_call 24; refine (T5.out _ HB.out).mono ?_; rintro e v5 hh; obtain ⟨r5a, r5c, rfl, hr, hb⟩ := intRet hh; have HB := Lib.hid (below_seq HB.out hb); have G5 := Lib.hid hr.lies; clear T5 hh hr hb)
            | (go_at_call 33; refine (T6.out _ HB.out).mono ?_; rintro e v6 hh; obtain ⟨r6a, r6c, rfl, hr, hb⟩ := intRet hh; have HB := Lib.hid (below_seq HB.out hb); have T7 := Lib.hid (lawsSame (.slice r5a (netRunM ⟨(q : Int), jws⟩ L).length r5c) (.slice r6a (netRunM ⟨(q : Int), jws⟩ L).length r6c) (netRunM ⟨(q : Int), jws⟩ L) (netRunM ⟨(q : Int), jws⟩ L) v6 (G5.out.below hb).now hr); rw [show (netRunM ⟨(q : Int), jws⟩ L == netRunM ⟨(q : Int), jws⟩ L) = true from (by simp)] at T7; clear T6 hh hr hb G5)
            | (go_at_call 32; refine T7.out.mono ?_; rintro e v7 ⟨rfl, nd, hw7⟩; have hb : Below v6.heap.size v6 v7 := (by rw [hw7]; exact belowN nd); have HB := Lib.hid (below_seq HB.out hb); clear T7 hb hw7)
            | (go_at_call 34; refine (T8.out _ HB.out).mono ?_; rintro e v8 ⟨rfl, hb⟩; have HB := Lib.hid (below_seq HB.out hb); clear T8 hb)
            | (go_at_call 34; refine (T9.out _ HB.out).mono ?_; rintro e v9 ⟨rfl, hb⟩; have HB := Lib.hid (below_seq HB.out hb); clear T9 hb)
            | (go_at_call 34; refine (T10.out _ HB.out).mono ?_; rintro e v10 ⟨rfl, hb⟩; have HB := Lib.hid (below_seq HB.out hb); clear T10 hb)
            | (go_at_call 34; refine (T11.out _ HB.out).mono ?_; rintro e v11 ⟨rfl, hb⟩; have HB := Lib.hid (below_seq HB.out hb); clear T11 hb)
            | (go_at_call 34; refine (T12.out _ HB.out).mono ?_; rintro e v12 ⟨rfl, hb⟩; have HB := Lib.hid (below_seq HB.out hb); clear T12 hb))
        go_wp2
        go_ret
        exact ⟨rfl, below_seq BZ.out HB.out⟩

end Go.Proofs.Ytkifndcfmmdkpaa.fnNetJoin
