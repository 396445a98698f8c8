/- Nets drawn: what 'badNet' leaves. -/
import Derived.Test.YtkifndcfmmdkpaaNdN
namespace Go.Proofs.Ytkifndcfmmdkpaa
open Go.RowKit
set_option linter.unusedVariables false
set_option maxRecDepth 100000

def i64Lo : Int := -9223372036854775808
def i64Hi : Int := 9223372036854775807
/-- A net that a call has drawn, laid into a box of the caller's. -/
theorem NdSt.laid {w w1 : World} {b : Nat} {a : Option Addr} {l : List UInt8} {cap m : Nat} {z : Int} {ad : Option Addr} {q c : Nat} {ws : List WireM} (hb : b < w.heap.size)
    (hO : w1.ownsRow ((w.alloc (.cells #[.int .i64 0, .slice none 0 0] 26)).heap.size + 1) 63 2 (.slice ad q c) q (flatW ws)) (hl : ws.length = q) (hI : CurI w1 b a l cap m)
    (hg : (w.alloc (.cells #[.int .i64 0, .slice none 0 0] 26)).grownBy w1 (some b)) : NdSt w (w1.alloc (.cells #[.int .i64 z, .slice ad q c] 26)) b w1.heap.size a l cap m z ad q c ws := by
  have hs := hg.size
  simp at hs
  have kr := kept_grown (alloc_at w (.cells #[.int .i64 0, .slice none 0 0] 26) _ rfl) hg (by simp; omega)
  have bb := below_box (Below.refl w1.heap.size w1) (.cells #[.int .i64 z, .slice ad q c] 26)
  exact ⟨alloc_at _ _ _ rfl, kept_block kr bb, (own_below hO bb |> fun h => own_base h (by simp)), hl, ⟨by omega, hb⟩, hI.below bb, grown_trans (grown_trans (World.grownBy_alloc w _ (some b)) hg) (World.grownBy_alloc w1 _ (some b))⟩
theorem lit4_at {x y : Int} (hx : i64Lo ≤ x ∧ x ≤ i64Hi) (hy : i64Lo ≤ y ∧ y ≤ i64Hi) (r : Nat) (h : r < 4) : ∃ z : Int, (i64Lo ≤ z ∧ z ≤ i64Hi) ∧ (#[.int .i64 x, .int .i64 y, .int .i64 64, .int .i64 65] : Array Value)[r]? = some (.int .i64 z) := by
  rcases (show r = 0 ∨ r = 1 ∨ r = 2 ∨ r = 3 from by omega) with rfl | rfl | rfl | rfl
  · exact ⟨x, hx, rfl⟩
  · exact ⟨y, hy, rfl⟩
  · exact ⟨64, by decide, rfl⟩
  · exact ⟨65, by decide, rfl⟩
set_option maxHeartbeats 8000000 in
theorem curBadNet (b : Nat) (a : Option Addr) (l : List UInt8) (cap m : Nat) (w : World) (hl : l.length ≤ 1048576) (hm : m ≤ 10000000000000000) (h : CurI w b a l cap m) :
    Calls Try.prog 51 #[.pointer (some ⟨b, 0, none⟩)] w (DrawnNet b a l cap (m + 4000) 2200 i64Lo i64Hi w) := by
  have hbl := h.lt
  have hb0 : Below w.heap.size w (w.alloc (.cells #[.int .i64 0, .slice none 0 0] 26)) := (Below.refl _ _).alloc (Nat.le_refl _) _
  have I0 := Lib.hid (h.below hb0)
  clear h hb0
  go_enter Try.func51, Try.ntmps51
  go_wp2_with fail
  refine (curNet b a l cap m _ hl (by omega) I0.out).mono ?_
  rintro e w1 ⟨z, ad, q, c, ws, rfl, hO, hlen, hK, hz, hI1, hg1⟩
  have S1 := Lib.hid (NdSt.laid (z := z) hbl hO hlen hI1 hg1)
  clear hI1 hg1 I0 hO hlen
  go_wp2_with fail
  refine (curPick b a l cap _ 12 _ hl (by omega) (by omega) S1.out.I).mono ?_
  rintro e w2 ⟨t, rfl, ht, hI2, hg2⟩
  have S2 := Lib.hid (S1.out.pick hI2 hg2)
  clear hI2 hg2 S1
  generalize w1.heap.size = T at *
  go_upto_block 0 with fail
  go_cut [] (fun wx => ∃ (z : Int) (q c : Nat) (ad : Option Addr) (ws : List WireM), q ≤ 2200 ∧ (i64Lo ≤ z ∧ z ≤ i64Hi) ∧ Hid (NdSt w wx b T a l cap (m + 4000) z ad q c ws))
  case first =>
    by_cases e0 : t = 0
    · subst e0
      have SD := Lib.hid (S2.out.below (belowN 1))
      have RW := Lib.hid (curRaw b a l cap _ w2.drew hl (by omega) SD.out.I)
      have t0 : w2.cell? ⟨T, 0, none⟩ = some (.int .i64 z) := cur_cell S2.out.tb 0
      have hw1 : IntKind.i64.wrap (z - 1) = z - 1 := IntWalk.i64_in _ (by omega)
      go_upto_region 4 with fail
      go_region_law (first
        | (refine step_callW w2.drew rfl (by rfl) 54 _ _ rfl _ (by kernel_rfl) Try.call54 _ RW.out ?_; rintro e w5 ⟨x, rfl, hx, hI5, hg5⟩; refine ⟨_, rfl, ?_⟩; have S5 := Lib.hid (SD.out.pick hI5 hg5); have S5L := Lib.hid (S5.out.below (below_box (Below.refl _ w5) (.cells #[.int .i64 x, .int .i64 (z - 1), .int .i64 64, .int .i64 65] 3))); have u0 : w5.cell? ⟨T, 0, none⟩ = some (.int .i64 z) := cur_cell S5.out.tb 0; have u1 : (w5.alloc (.cells #[.int .i64 x, .int .i64 (z - 1), .int .i64 64, .int .i64 65] 3)).cell? ⟨T, 0, none⟩ = some (.int .i64 z) := cur_cell S5L.out.tb 0; have HX := Lib.hid hx; clear hI5 hg5 hx)
        | (refine step_callW w5 rfl (by rfl) 53 _ _ rfl _ (by kernel_rfl) Try.call53 _ (curPick b a l cap _ 4 w5 hl (by omega) (by omega) S5.out.I) ?_; rintro e w6 ⟨r, rfl, hr, hI6, hg6⟩; refine ⟨_, rfl, ?_⟩; have S6 := Lib.hid (S5.out.pick hI6 hg6); have S7 := Lib.hid (S6.out.below (below_box (Below.refl _ w6) (.cells #[.int .i64 x, .int .i64 (z - 1), .int .i64 64, .int .i64 65] 3))); have hr4 : r < 4 := (by omega); have hr4i : (r : Int) < 4 := (by omega); obtain ⟨y, hy, hyl⟩ := lit4_at HX.out (show i64Lo ≤ z - 1 ∧ z - 1 ≤ i64Hi by unfold i64Lo i64Hi; omega) r hr4; have q1 : (w6.alloc (.cells #[.int .i64 x, .int .i64 (z - 1), .int .i64 64, .int .i64 65] 3)).cell? ⟨w6.heap.size, r, none⟩ = some (.int .i64 y) := (lit_new w6 _ 3 r).trans hyl; have u2 : w6.cell? ⟨T, 0, none⟩ = some (.int .i64 z) := cur_cell S6.out.tb 0; have u3 : (w6.alloc (.cells #[.int .i64 x, .int .i64 (z - 1), .int .i64 64, .int .i64 65] 3)).cell? ⟨T, 0, none⟩ = some (.int .i64 z) := cur_cell S7.out.tb 0; have fr := cur_free S7.out.tb 0; have SZ := Lib.hid (S7.out.set0 y); have HY := Lib.hid hy; clear hI6 hg6 hyl hy hr)
        | (refine step_callW (w5.alloc (.cells #[.int .i64 x, .int .i64 (z - 1), .int .i64 64, .int .i64 65] 3)) rfl (by rfl) 53 _ _ rfl _ (by kernel_rfl) Try.call53 _ (curPick b a l cap _ 4 _ hl (by omega) (by omega) S5L.out.I) ?_; rintro e w6 ⟨r, rfl, hr, hI6, hg6⟩; refine ⟨_, rfl, ?_⟩; have S6 := Lib.hid (S5L.out.pick hI6 hg6); have hr4 : r < 4 := (by omega); have hr4i : (r : Int) < 4 := (by omega); obtain ⟨y, hy, hyl⟩ := lit4_at HX.out (show i64Lo ≤ z - 1 ∧ z - 1 ≤ i64Hi by unfold i64Lo i64Hi; omega) r hr4; have q1 : w6.cell? ⟨w5.heap.size, r, none⟩ = some (.int .i64 y) := hg6.cell ((lit_new w5 _ 3 r).trans hyl) (by have := cur_lt S5.out.rb; have := S5.out.h.2; simp; try omega); have u2 : w6.cell? ⟨T, 0, none⟩ = some (.int .i64 z) := cur_cell S6.out.tb 0; have fr := cur_free S6.out.tb 0; have SZ := Lib.hid (S6.out.set0 y); have HY := Lib.hid hy; clear hI6 hg6 hyl hy hr))
      all_goals (go_wp2_with fail; go_meet)
      all_goals exact ⟨_, _, _, _, _, by omega, HY.out, Lib.hid (SZ.out.more (by omega))⟩
    · have t0B : ((t : Int) == 0) = false := by simp; omega
      by_cases e1 : t = 1
      · subst e1
        have SD := Lib.hid (S2.out.below (belowN 1))
        have RW := Lib.hid (curRaw b a l cap _ w2.drew hl (by omega) SD.out.I)
        have t1 : w2.cell? ⟨T, 1, none⟩ = some (.slice ad q c) := cur_cell S2.out.tb 1
        go_upto_region 6 with fail
        go_region_law (first
          | (refine step_callW w2.drew rfl (by rfl) 54 _ _ rfl _ (by kernel_rfl) Try.call54 _ RW.out ?_; rintro e w5 ⟨x, rfl, hx, hI5, hg5⟩; refine ⟨_, rfl, ?_⟩; have S5 := Lib.hid (SD.out.pick hI5 hg5); have u1 : w5.cell? ⟨T, 1, none⟩ = some (.slice ad q c) := cur_cell S5.out.tb 1; clear hI5 hg5 hx)
          | (refine step_callW w5 rfl (by rfl) 54 _ _ rfl _ (by kernel_rfl) Try.call54 _ (curRaw b a l cap _ w5 hl (by omega) S5.out.I) ?_; rintro e w6 ⟨y, rfl, hy, hI6, hg6⟩; refine ⟨_, rfl, ?_⟩; have S6 := Lib.hid (S5.out.pick hI6 hg6); have u2 : w6.cell? ⟨T, 1, none⟩ = some (.slice ad q c) := cur_cell S6.out.tb 1; have O6 := Lib.hid (S6.out.O.alloc (.cells #[.int .i64 x, .int .i64 y] 63)); have RR := Lib.hid (SBox.row w6 ⟨x, y⟩); have u3 : (w6.alloc (.cells #[.int .i64 x, .int .i64 y] 63)).cell? ⟨T, 1, none⟩ = some (.slice ad q c) := cell_keep u2 (below_box (Below.refl _ w6) _); have hsz := S6.out.low; have FL := Lib.hid S6.out.len; clear hI6 hg6 hy)
          | (refine step_app_rowS (by rfl) _ _ 24 rfl 63 _ 2 16 Try.underlying24 Try.infoWire rfl (by omega) (w.heap.size + 1) q (.slice ad q c) (flatW ws) (by rfl) O6.out (some ⟨w6.heap.size, 0, none⟩) 1 1 (flatW [⟨x, y⟩]) (by rfl) rfl RR.out (flatW_one _) (by unfold maxLen; omega) (by omega) (by simp; omega) ?_; intro v7 w7 ho7 hg7; obtain ⟨a7, c7, rfl⟩ := own_shape ho7; rw [← flatW_app] at ho7; obtain ⟨P1, P2⟩ := S6.out.app ho7 (by rw [List.length_append, FL.out]; rfl) hg7; have PP := Lib.hid P1; have c4 : w7.cell? ⟨T, 1, none⟩ = some (.slice ad q c) := cur_cell P2 1; have f4 := cur_free P2 1; clear ho7 hg7 P1 P2))
        all_goals (go_wp2_with fail; go_meet)
        all_goals exact ⟨_, _, _, _, _, by omega, by unfold i64Lo i64Hi; omega, Lib.hid (PP.out.more (by omega))⟩
      · have t1B : ((t : Int) == 1) = false := by simp; omega
        by_cases e2 : t = 2
        · subst e2
          go_wp2_with fail
          refine (curOnce b a l cap _ 4 _ hl (by omega) (by omega) S2.out.I).mono ?_
          rintro e w3 ⟨f, rfl, hI3, hg3⟩
          have S3 := Lib.hid (S2.out.pick hI3 hg3)
          clear hI3 hg3 S2
          cases f
          · go_wp2_with fail
            go_meet
            case rel => exact ⟨_, _, _, _, _, by omega, by unfold i64Lo i64Hi; omega, Lib.hid (S3.out.more (by omega))⟩
          · go_wp2_with fail
            go_loopg [] (2200 - q) (fun k wr => ∃ (q c : Nat) (ad : Option Addr) (ws : List WireM), q ≤ 2101 ∧ 2200 - q = k ∧ Hid (NdSt w wr b T a l cap (m + 500 + q) z ad q c ws))
            case atStart => exact ⟨q, c, ad, ws, by omega, rfl, Lib.hid (S3.out.more (by omega))⟩
            case round =>
              clear S3
              clear hK
              obtain ⟨q, c, ad, ws, hq, hk, H⟩ := hrel
              have t1 : wr.cell? ⟨T, 1, none⟩ = some (.slice ad q c) := cur_cell H.out.tb 1
              go_upto_region 9 with fail
              go_cut [43] (fun v wx => ∃ r : Nat, r ≤ 1 ∧ v = .bool (decide ((q : Int) < 2100 + (r : Int))) ∧ Hid (NdSt w wx b T a l cap (m + 500 + q + 1) z ad q c ws))
              case first =>
                have SD := Lib.hid (H.out.below (belowN 1))
                have PK := Lib.hid (curPick b a l cap _ 2 wr.drew hl (by omega) (by omega) SD.out.I)
                go_region_law (first
                  | (refine step_callW wr.drew rfl (by rfl) 53 _ _ rfl _ (by kernel_rfl) Try.call53 _ PK.out ?_; rintro e w5 ⟨r, rfl, hr, hI5, hg5⟩; refine ⟨_, rfl, ?_⟩; have S5 := Lib.hid (SD.out.pick hI5 hg5); have u1 : w5.cell? ⟨T, 1, none⟩ = some (.slice ad q c) := cur_cell S5.out.tb 1; have hr1 : r ≤ 1 := (by omega); have hw1 : IntKind.i64.wrap ((2100 : Int) + (r : Int)) = (2100 : Int) + (r : Int) := IntWalk.i64_in _ (by omega); clear hI5 hg5 hr))
                all_goals (go_wp2_with fail; go_meet)
                all_goals exact ⟨r, hr1, rfl, S5⟩
              case rest =>
                clear t1 H
                obtain ⟨r, hr, rfl, S4⟩ := hcut
                by_cases hlt : (q : Int) < 2100 + (r : Int)
                · have hd : decide ((q : Int) < 2100 + (r : Int)) = true := by simp; omega
                  have t1 : wc.cell? ⟨T, 1, none⟩ = some (.slice ad q c) := cur_cell S4.out.tb 1
                  have O6 := Lib.hid (S4.out.O.alloc (.cells #[.int .i64 0, .int .i64 1] 63))
                  have RR := Lib.hid (SBox.row wc ⟨0, 1⟩)
                  have u3 : (wc.alloc (.cells #[.int .i64 0, .int .i64 1] 63)).cell? ⟨T, 1, none⟩ = some (.slice ad q c) := cell_keep t1 (below_box (Below.refl _ wc) _)
                  have hsz := S4.out.low
                  have FL := Lib.hid S4.out.len
                  go_wp2_with (at_builtin; go_must (refine wp_app_rowS rfl _ _ 24 rfl 63 _ 2 16 Try.underlying24 Try.infoWire rfl (by omega) (w.heap.size + 1) q (.slice ad q c) (flatW ws) (by rfl) O6.out (some ⟨wc.heap.size, 0, none⟩) 1 1 (flatW [⟨0, 1⟩]) (by rfl) rfl RR.out (flatW_one _) (by unfold maxLen; omega) (by omega) (by simp; omega) ?_); intro v7 w7 ho7 hg7; obtain ⟨a7, c7, rfl⟩ := own_shape ho7; rw [← flatW_app] at ho7; obtain ⟨P1, P2⟩ := S4.out.app ho7 (by rw [List.length_append, FL.out]; rfl) hg7; have PP := Lib.hid P1; have c4 : w7.cell? ⟨T, 1, none⟩ = some (.slice ad q c) := cur_cell P2 1; have f4 := cur_free P2 1; clear ho7 hg7 P1 P2)
                  go_roundg (2200 - (q + 1))
                  case measure => omega
                  case rel => exact ⟨q + 1, c7, a7, _, by omega, rfl, PP⟩
                · have hd : decide ((q : Int) < 2100 + (r : Int)) = false := by simp; omega
                  go_wp2_with fail
                  go_meet
                  case rel => exact ⟨_, _, _, _, _, by omega, by unfold i64Lo i64Hi; omega, Lib.hid (S4.out.more (by omega))⟩
        · have t2B : ((t : Int) == 2) = false := by simp; omega
          go_wp2_with fail
          go_meet
          case rel => exact ⟨_, _, _, _, _, by omega, by unfold i64Lo i64Hi; omega, Lib.hid (S2.out.more (by omega))⟩
  case rest =>
    clear S2 hz hK
    obtain ⟨z, q, c, ad, ws, hq, hz, S3⟩ := hcut
    have t0 : wc.cell? ⟨T, 0, none⟩ = some (.int .i64 z) := cur_cell S3.out.tb 0
    have t1 : wc.cell? ⟨T, 1, none⟩ = some (.slice ad q c) := cur_cell S3.out.tb 1
    have r0 : wc.cell? ⟨w.heap.size, 0, none⟩ = some (.int .i64 0) := cur_cell S3.out.rb 0
    have r1 : wc.cell? ⟨w.heap.size, 1, none⟩ = some (.slice none 0 0) := cur_cell S3.out.rb 1
    have f0 := cur_free S3.out.rb 0
    have f1 := cur_free S3.out.rb 1
    have hT0 : w.heap.size < T := S3.out.h.1
    have hT1 : ¬ T = w.heap.size := by omega
    have hT2 : ¬ w.heap.size = T := by omega
    have D := Lib.hid (fun y0 y1 => S3.out.done (K := 2200) (lo := i64Lo) (hi := i64Hi) hq hz y0 y1)
    clear S3
    go_wp2
    exact bodyPost_ret (v := .agg #[.int .i64 z, .slice ad q c]) (by simp [results, Try.results51, go_sem, r0, r1]) rfl (D.out _ _)
end Go.Proofs.Ytkifndcfmmdkpaa
