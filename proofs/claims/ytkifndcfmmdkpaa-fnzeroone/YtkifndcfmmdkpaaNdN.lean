/- Nets drawn: what 'net' leaves. -/
import Derived.Test.YtkifndcfmmdkpaaNdS
import Derived.Deep.DeepCutAuto
import Derived.Deep.CutBlock
namespace Go.Proofs.Ytkifndcfmmdkpaa
open Go.RowKit
set_option linter.unusedVariables false
set_option maxRecDepth 100000

theorem bubble_small {n : Nat} (h1 : 1 ≤ n) (h2 : n ≤ 64) : (bubbleM n).n = n ∧ (bubbleM n).ws.length ≤ n * n := by
  have e : bubbleM n = ⟨(n : Int), allW n (bubS (n - 1))⟩ := by unfold bubbleM; rw [if_pos (by omega)]; simp
  rw [e]
  refine ⟨rfl, Nat.le_trans (allW_length n _) ?_⟩
  rw [bubS_length]
  exact Nat.mul_le_mul_right n (by omega)
theorem bitonic_small {n : Nat} (h : twoZ (n : Int) = true) (h2 : n ≤ 10) : (bitonicM n).n = n ∧ (bitonicM n).ws.length ≤ 420 := by
  have e : bitonicM n = ⟨(n : Int), allW n (bitS n)⟩ := by unfold bitonicM; rw [if_pos h]; simp
  rw [e]
  have h3 : (bitS n).length ≤ 42 := ups_length _ _ n 6 2
  exact ⟨rfl, Nat.le_trans (allW_length n _) (Nat.mul_le_mul h3 h2)⟩
theorem oddEven_small {n : Nat} (h : twoZ (n : Int) = true) (h2 : n ≤ 10) : (oddEvenM n).n = n ∧ (oddEvenM n).ws.length ≤ 420 := by
  have e : oddEvenM n = ⟨(n : Int), allW n (oeS n)⟩ := by unfold oddEvenM; rw [if_pos h]; simp
  rw [e]
  have h3 : (oeS n).length ≤ 42 := ups_length _ _ n 6 2
  exact ⟨rfl, Nat.le_trans (allW_length n _) (Nat.mul_le_mul h3 h2)⟩
theorem two_one : twoZ ((1 : Nat) : Int) = true := by decide
/-- Behind the first draws. -/
theorem NdSt.start {w W W' : World} {b : Nat} {a : Option Addr} {l : List UInt8} {cap m : Nat} (n : Nat) (hI : CurI W b a l cap m) (hW : (w.alloc (.cells #[.int .i64 0, .slice none 0 0] 26)).grownBy W (some b)) (hb : b < w.heap.size) : NdSt w (W.alloc (.cells #[.int .i64 n, .slice none 0 0] 26)) b W.heap.size a l cap m n none 0 0 [] := by
  have hs := hW.size
  simp at hs
  have kr := kept_grown (alloc_at w (.cells #[.int .i64 0, .slice none 0 0] 26) _ rfl) hW (by simp; omega)
  have bb := below_box (Below.refl W.heap.size W) (.cells #[.int .i64 n, .slice none 0 0] 26)
  exact ⟨alloc_at _ _ _ rfl, kept_block kr bb, ⟨rfl, .inl ⟨rfl, rfl⟩⟩, rfl, ⟨by omega, hb⟩, hI.below bb, grown_trans (grown_trans (World.grownBy_alloc w _ (some b)) hW) (World.grownBy_alloc W _ (some b))⟩
set_option maxHeartbeats 8000000 in
theorem curNet (b : Nat) (a : Option Addr) (l : List UInt8) (cap m : Nat) (w : World) (hl : l.length ≤ 1048576) (hm : m ≤ 100000000000000000) (h : CurI w b a l cap m) :
    Calls Try.prog 74 #[.pointer (some ⟨b, 0, none⟩), .int .i64 10] w (DrawnNet b a l cap (m + 200) 1000 0 64 w) := by
  have hbl := h.lt
  have hb0 : Below w.heap.size w (w.alloc (.cells #[.int .i64 0, .slice none 0 0] 26)) := (Below.refl _ _).alloc (Nat.le_refl _) _
  have I0 := Lib.hid (h.below hb0)
  clear h hb0
  go_enter Try.func74, Try.ntmps74
  go_wp2_with fail
  refine (curPick b a l cap m 10 _ hl (by omega) (by omega) I0.out).mono ?_
  rintro e w1 ⟨r, rfl, hr, hI1, hg1⟩
  obtain ⟨n, hn, hn1, hn10⟩ : ∃ n : Nat, (1 : Int) + (r : Int) = n ∧ 1 ≤ n ∧ n ≤ 10 := ⟨1 + r, by omega, by omega, by omega⟩
  have S1 := Lib.hid (NdSt.start (W' := w1) n hI1 hg1 hbl)
  clear hI1 hg1 I0 hr
  go_wp2_with fail
  clear hn
  refine (curPick b a l cap _ 4 _ hl (by omega) (by omega) S1.out.I).mono ?_
  rintro e w2 ⟨t, rfl, ht, hI2, hg2⟩
  have S2 := Lib.hid (S1.out.pick hI2 hg2)
  clear hI2 hg2 S1
  generalize w1.heap.size = T at *
  go_upto_block 0 with fail
  go_cut [] (fun wx => ∃ (q c : Nat) (ad : Option Addr) (ws : List WireM), q ≤ 100 ∧ Hid (NdSt w wx b T a l cap (m + 1 + 1) n ad q c ws))
  case first =>
    by_cases e0 : t = 0
    · subst e0
      obtain ⟨bn, bl⟩ := bubble_small hn1 (show n ≤ 64 by omega)
      have bl2 : (bubbleM n).ws.length ≤ 100 := Nat.le_trans bl (Nat.mul_le_mul hn10 hn10)
      clear bl
      go_wp2_with fail
      refine (uSpecBubble n _ ⟨by omega, by omega⟩).mono ?_
      rintro e w3 ⟨c0, c1, rfl, ho, hb⟩
      obtain ⟨rfl, hw⟩ := netOwn_parts ho
      obtain ⟨ad, c, e1, how, _⟩ := hw
      simp at e1
      subst e1
      rw [bn]
      have SS := S2.out.below hb
      have hO := own_base how S2.out.low
      generalize (bubbleM n).ws = ws at *
      obtain ⟨q, hq⟩ : ∃ q, ws.length = q := ⟨_, rfl⟩
      rw [hq] at hO bl2 ⊢
      have c0 : w3.cell? ⟨T, 0, none⟩ = some (.int .i64 n) := cur_cell SS.tb 0
      have c1 : w3.cell? ⟨T, 1, none⟩ = some (.slice none 0 0) := cur_cell SS.tb 1
      have f0 := cur_free SS.tb 0
      have f1 := cur_free SS.tb 1
      have S3 := Lib.hid ((SS.set0 n).set1 (hO.kept (set_grown w3 T 0 (.int .i64 n)) (.inr (own_other hO SS.tb (by decide)))) hq)
      clear SS hO how ho hb S2 hq bn
      have hq : q ≤ 100 := bl2
      clear bl2
      go_wp2_with fail
      go_meet
      case rel => exact ⟨_, _, _, _, hq, S3⟩
    · have t0B : ((t : Int) == 0) = false := by simp; omega
      by_cases e1 : t = 1
      · subst e1
        go_wp2_with fail
        go_loopg [] n (fun k wr => ∃ z : Nat, z = k ∧ 1 ≤ z ∧ z ≤ 10 ∧ Hid (NdSt w wr b T a l cap (m + 1 + 1) z none 0 0 []))
        case atStart => exact ⟨n, rfl, hn1, hn10, S2⟩
        case round =>
          clear S2
          obtain ⟨z, rfl, hz1, hz10, H⟩ := hrel
          have t0 : wr.cell? ⟨T, 0, none⟩ = some (.int .i64 z) := cur_cell H.out.tb 0
          have g0 := cur_free H.out.tb 0
          have TW := Lib.hid (specTwo (z : Int) wr)
          cases hz : twoZ (z : Int)
          · rw [hz] at TW
            have hz2 : 2 ≤ z := by
              rcases Nat.lt_or_ge z 2 with h | h
              · obtain rfl : z = 1 := by omega
                rw [two_one] at hz; cases hz
              · exact h
            have HZ := Lib.hid hz
            clear hz
            go_wp2_with fail
            refine TW.out.mono ?_
            rintro e w3 ⟨rfl, rfl⟩
            have hw1 : IntKind.i64.wrap ((z : Int) - 1) = ((z - 1 : Nat) : Int) := by rw [IntWalk.i64_in _ (by omega)]; omega
            have S3 := Lib.hid (H.out.set0 ((z - 1 : Nat) : Int))
            clear TW
            go_wp2
            go_roundg (z - 1)
            case measure => omega
            case rel => exact ⟨z - 1, rfl, by omega, by omega, S3⟩
          · rw [hz] at TW
            have HZ := Lib.hid hz
            clear hz
            go_wp2_with fail
            refine TW.out.mono ?_
            rintro e w3 ⟨rfl, rfl⟩
            clear TW t0 g0
            go_wp2_with fail
            refine (curOnce b a l cap _ 2 _ hl (by omega) (by omega) H.out.I).mono ?_
            rintro e w4 ⟨f, rfl, hI4, hg4⟩
            have S4 := Lib.hid (H.out.pick hI4 hg4)
            clear hI4 hg4 H
            have t0 : w4.cell? ⟨T, 0, none⟩ = some (.int .i64 z) := cur_cell S4.out.tb 0
            cases f
            · obtain ⟨bn, bl⟩ := oddEven_small HZ.out hz10
              have BL := Lib.hid bl
              clear bl
              go_wp2_with fail
              refine (uSpecOddEven z _ ⟨by omega, by omega⟩).mono ?_
              rintro e w5 ⟨c0, c1, rfl, ho, hb⟩
              obtain ⟨rfl, ad, c, e1, _⟩ := netOwn_parts ho
              simp at e1
              subst e1
              have S5 := S4.out.below hb
              have r0 : w5.cell? ⟨w.heap.size, 0, none⟩ = some (.int .i64 0) := cur_cell S5.rb 0
              have r1 : w5.cell? ⟨w.heap.size, 1, none⟩ = some (.slice none 0 0) := cur_cell S5.rb 1
              have f0 := cur_free S5.rb 0
              have f1 := cur_free S5.rb 1
              have D := Lib.hid (fun y0 y1 => (S4.out.more (m' := m + 200) (by omega)).give (K := 1000) (lo := 0) (hi := 64) ho hb (by have := BL.out; omega) (by rw [bn]; omega) y0 y1)
              clear S5 ho hb S4
              generalize (oddEvenM z).ws.length = q at *
              rw [bn] at D ⊢
              go_wp2
              exact bodyPost_ret (v := .agg #[.int .i64 z, .slice ad q c]) (by simp [results, Try.results74, go_sem, r0, r1]) rfl (D.out _ _)
            · obtain ⟨bn, bl⟩ := bitonic_small HZ.out hz10
              have BL := Lib.hid bl
              clear bl
              go_wp2_with fail
              refine (uSpecBitonic z _ ⟨by omega, by omega⟩).mono ?_
              rintro e w5 ⟨c0, c1, rfl, ho, hb⟩
              obtain ⟨rfl, ad, c, e1, _⟩ := netOwn_parts ho
              simp at e1
              subst e1
              have S5 := S4.out.below hb
              have r0 : w5.cell? ⟨w.heap.size, 0, none⟩ = some (.int .i64 0) := cur_cell S5.rb 0
              have r1 : w5.cell? ⟨w.heap.size, 1, none⟩ = some (.slice none 0 0) := cur_cell S5.rb 1
              have f0 := cur_free S5.rb 0
              have f1 := cur_free S5.rb 1
              have D := Lib.hid (fun y0 y1 => (S4.out.more (m' := m + 200) (by omega)).give (K := 1000) (lo := 0) (hi := 64) ho hb (by have := BL.out; omega) (by rw [bn]; omega) y0 y1)
              clear S5 ho hb S4
              generalize (bitonicM z).ws.length = q at *
              rw [bn] at D ⊢
              go_wp2
              exact bodyPost_ret (v := .agg #[.int .i64 z, .slice ad q c]) (by simp [results, Try.results74, go_sem, r0, r1]) rfl (D.out _ _)
      · have t1B : ((t : Int) == 1) = false := by simp; omega
        go_wp2_with fail
        go_meet
        case rel => exact ⟨_, _, _, _, by omega, S2⟩
  case rest =>
    obtain ⟨q, c, ad, ws, hq, S3⟩ := hcut
    clear S2
    go_wp2_with fail
    refine (curSize b a l cap _ 20 _ hl (by omega) (by omega) S3.out.I).mono ?_
    rintro e w4 ⟨k0, rfl, hk0, hI4, hg4⟩
    have S4 := Lib.hid (S3.out.pick hI4 hg4)
    have hk20 : k0 ≤ 20 := by omega
    clear hI4 hg4 S3 hk0
    go_upto_block 3 with fail
    go_cut [7, 8] (fun _ _ wx => ∃ (q c : Nat) (ad : Option Addr) (ws : List WireM), q ≤ 120 ∧ Hid (NdSt w wx b T a l cap (m + 50) n ad q c ws))
    case first =>
      go_wp2_with fail
      go_loopw [7, 8] (fun kk _ wr => ∃ (j q c : Nat) (ad : Option Addr) (ws : List WireM), j ≤ 20 ∧ kk = .int .i64 j ∧ Hid (q + j ≤ 120) ∧ Hid (NdSt w wr b T a l cap (m + 50 - 2 * j) n ad q c ws)) (fun kk _ _ => (intOf kk).toNat)
      case atStart => exact ⟨k0, _, _, _, _, hk20, rfl, Lib.hid (by omega), Lib.hid (S4.out.more (by omega))⟩
      case round =>
        clear S4 hq
        obtain ⟨j, q, c, ad, ws, hj, rfl, HQ, H⟩ := hrel
        have hq : q ≤ 120 := by have := HQ.out; omega
        by_cases hj0 : 0 < j
        · by_cases hn2 : 1 < n
          · obtain ⟨j, rfl⟩ : ∃ j', j = j' + 1 := ⟨j - 1, by omega⟩
            go_wp2_with fail
            rw [show (n : Int) - 1 = ((n - 1 : Nat) : Int) from by omega]
            refine (curPick b a l cap _ (n - 1) _ hl (by omega) (by omega) H.out.I).mono ?_
            rintro e w5 ⟨r1, rfl, hr1, hI5, hg5⟩
            have S5 := Lib.hid (H.out.pick hI5 hg5)
            have hr1' : r1 + 1 < n := by omega
            clear hI5 hg5 H hr1
            have SD := Lib.hid (S5.out.below (belowN 1))
            have PK : Hid (Calls Try.prog 53 #[.pointer (some ⟨b, 0, none⟩), .int .i64 ((n : Int) - 1 - (r1 : Int))] w5.drew (PickPost b a l cap (m + 50 - 2 * (j + 1) + 1) (n - 1 - r1) w5.drew)) := Lib.hid (by rw [show (n : Int) - 1 - (r1 : Int) = ((n - 1 - r1 : Nat) : Int) from by omega]; exact curPick b a l cap _ (n - 1 - r1) w5.drew hl (by omega) (by omega) SD.out.I)
            have c1 : w5.cell? ⟨T, 1, none⟩ = some (.slice ad q c) := cur_cell S5.out.tb 1
            have hw1 : IntKind.i64.wrap ((n : Int) - 1) = (n : Int) - 1 := IntWalk.i64_in _ (by omega)
            have hw2 : IntKind.i64.wrap ((n : Int) - 1 - (r1 : Int)) = (n : Int) - 1 - (r1 : Int) := IntWalk.i64_in _ (by omega)
            have hw3 : IntKind.i64.wrap ((r1 : Int) + 1) = (r1 : Int) + 1 := IntWalk.i64_in _ (by omega)
            go_wp2_with fail
            go_region_law (first
              | (refine step_callW w5.drew rfl (by rfl) 53 _ _ rfl _ (by kernel_rfl) Try.call53 _ PK.out ?_; rintro e w6 ⟨r2, rfl, hr2, hI6, hg6⟩; refine ⟨_, rfl, ?_⟩; have S6 := Lib.hid (SD.out.pick hI6 hg6); have hw4 : IntKind.i64.wrap ((r1 : Int) + 1 + (r2 : Int)) = (r1 : Int) + 1 + (r2 : Int) := IntWalk.i64_in _ (by omega); have c2 : w6.cell? ⟨T, 1, none⟩ = some (.slice ad q c) := cur_cell S6.out.tb 1; have O6 := Lib.hid (S6.out.O.alloc (.cells #[.int .i64 (r1 : Int), .int .i64 ((r1 : Int) + 1 + (r2 : Int))] 63)); have RW := Lib.hid (SBox.row w6 ⟨(r1 : Int), (r1 : Int) + 1 + (r2 : Int)⟩); have c3 : (w6.alloc (.cells #[.int .i64 (r1 : Int), .int .i64 ((r1 : Int) + 1 + (r2 : Int))] 63)).cell? ⟨T, 1, none⟩ = some (.slice ad q c) := cell_keep c2 (below_box (Below.refl _ w6) _); have hsz := S6.out.low; have FL := Lib.hid S6.out.len; clear hI6 hg6)
              | (refine step_app_rowS (by rfl) _ _ 24 rfl 63 _ 2 16 Try.underlying24 Try.infoWire rfl (by omega) (w.heap.size + 1) q (.slice ad q c) (flatW ws) (by rfl) O6.out (some ⟨w6.heap.size, 0, none⟩) 1 1 (flatW [⟨(r1 : Int), (r1 : Int) + 1 + (r2 : Int)⟩]) (by rfl) rfl RW.out (flatW_one _) (by unfold maxLen; omega) (by omega) (by simp; omega) ?_; intro v7 w7 ho7 hg7; obtain ⟨a7, c7, rfl⟩ := own_shape ho7; rw [← flatW_app] at ho7; obtain ⟨P1, P2⟩ := S6.out.app ho7 (by rw [List.length_append, FL.out]; rfl) hg7; have PP := Lib.hid P1; have c4 : w7.cell? ⟨T, 1, none⟩ = some (.slice ad q c) := cur_cell P2 1; have f4 := cur_free P2 1; clear ho7 hg7 P1 P2))
            all_goals
              go_wp2
              go_roundw
              case rel => exact ⟨j, q + 1, c7, a7, _, by omega, by go_num, Lib.hid (by have := HQ.out; omega), Lib.hid (PP.out.more (by omega))⟩
              case measure => simp [intOf]
          · clear HQ
            go_wp2
            go_meet
            case rel => exact ⟨_, _, _, _, hq, Lib.hid (H.out.more (by omega))⟩
        · clear HQ
          go_wp2
          go_meet
          case rel => exact ⟨_, _, _, _, hq, Lib.hid (H.out.more (by omega))⟩
    case rest =>
      clear S4 hq
      obtain ⟨q, c, ad, ws, hq, H⟩ := hcut
      have t1 : wc.cell? ⟨T, 1, none⟩ = some (.slice ad q c) := cur_cell H.out.tb 1
      by_cases hq0 : 0 < q
      · go_wp2_with fail
        clear t1
        refine (curOnce b a l cap _ 3 _ hl (by omega) (by omega) H.out.I).mono ?_
        rintro e w6 ⟨f, rfl, hI6, hg6⟩
        have S6 := Lib.hid (H.out.pick hI6 hg6)
        clear hI6 hg6 H
        cases f
        · have t0 : w6.cell? ⟨T, 0, none⟩ = some (.int .i64 n) := cur_cell S6.out.tb 0
          have t1 : w6.cell? ⟨T, 1, none⟩ = some (.slice ad q c) := cur_cell S6.out.tb 1
          have r0 : w6.cell? ⟨w.heap.size, 0, none⟩ = some (.int .i64 0) := cur_cell S6.out.rb 0
          have r1 : w6.cell? ⟨w.heap.size, 1, none⟩ = some (.slice none 0 0) := cur_cell S6.out.rb 1
          have f0 := cur_free S6.out.rb 0
          have f1 := cur_free S6.out.rb 1
          have hT0 : w.heap.size < T := S6.out.h.1
          have hT1 : ¬ T = w.heap.size := by omega
          have hT2 : ¬ w.heap.size = T := by omega
          have D := Lib.hid (fun y0 y1 => (S6.out.more (m' := m + 200) (by omega)).done (K := 1000) (lo := 0) (hi := 64) (by omega) (by omega) y0 y1)
          clear S6
          go_wp2
          exact bodyPost_ret (v := .agg #[.int .i64 n, .slice ad q c]) (by simp [results, Try.results74, go_sem, r0, r1]) rfl (D.out _ _)
        · have t1 : w6.cell? ⟨T, 1, none⟩ = some (.slice ad q c) := cur_cell S6.out.tb 1
          go_wp2_with fail
          clear t1
          refine (curPick b a l cap _ q _ hl (by omega) (by omega) S6.out.I).mono ?_
          rintro e w7 ⟨i, rfl, hi, hI7, hg7⟩
          have S7 := Lib.hid (S6.out.pick hI7 hg7)
          have hi : i < q := by omega
          clear hI7 hg7 S6
          have O7 := Lib.hid S7.out.O
          have F7 := Lib.hid S7.out.len
          obtain ⟨g, rfl, hg⟩ := own_some O7.out hq0
          have hcap := own_cap O7.out
          have hcm : q ≤ maxLen := own_maxW O7.out
          unfold maxLen at hcm
          have hic : i ≤ c := by omega
          have hj0 : (0 : Int) ≤ (i : Int) + 1 := by omega
          have hj1 : (i : Int) + 1 ≤ (q : Int) := by omega
          have hj2 : ((i : Int) + 1).toNat = i + 1 := by omega
          have hj3 : i + 1 ≤ q := by omega
          have t1 : w7.cell? ⟨T, 1, none⟩ = some (.slice (some ⟨g, 0, none⟩) q c) := cur_cell S7.out.tb 1
          have hw3 : IntKind.i64.wrap ((i : Int) + 1) = (i : Int) + 1 := IntWalk.i64_in _ (by omega)
          have OE : Hid ((w7.alloc (.cells #[] 63)).drew.ownsRow w7.heap.size 63 2 (.slice (some ⟨w7.heap.size, 0, none⟩) 0 0) 0 []) := Lib.hid (World.ownsRow_made w7 #[] 0 (Nat.le_refl _) (by unfold maxLen; omega) rfl)
          have BE := Lib.hid (below_drew (below_box (Below.refl w7.heap.size w7) (.cells #[] 63)))
          have R7 := Lib.hid (Row.of_own O7.out)
          have RX : Hid (Row (w7.alloc (.cells #[] 63)).drew (some ⟨g, 0, none⟩) (flatW (ws.take i))) := Lib.hid (by
            have := (R7.out.below BE.out).map_cut 0 (i * 2) (by rw [flatW_len, F7.out]; omega)
            rw [flatW_take]; simpa [Addr.add] using this)
          have FX : Hid ((flatW (ws.take i)).length = i * 2) := Lib.hid (by rw [flatW_len, List.length_take, F7.out]; omega)
          have FY : Hid ((flatW (ws.drop (i + 1))).length = (q - (i + 1)) * 2) := Lib.hid (by rw [flatW_len, List.length_drop, F7.out])
          have x1 : (w7.alloc (.cells #[] 63)).cell? ⟨T, 1, none⟩ = some (.slice (some ⟨g, 0, none⟩) q c) := cell_keep t1 (below_box (Below.refl _ w7) _)
          have RY : Hid (∀ w', Below w7.heap.size w7 w' → Row w' (if c = i + 1 then some ⟨g, 0, none⟩ else some ⟨g, (i + 1) * 2, none⟩) (flatW (ws.drop (i + 1)))) := Lib.hid (fun w' hb => by
            by_cases hci : c = i + 1
            · exact .inl (by rw [List.drop_eq_nil_of_le (by rw [F7.out]; omega)]; rfl)
            · rw [if_neg hci]
              have := (R7.out.below hb).map_cut ((i + 1) * 2) ((q - (i + 1)) * 2) (by rw [flatW_len, F7.out]; omega)
              rw [flatW_drop, ← List.take_of_length_le (l := (flatW ws).drop ((i + 1) * 2)) (i := (q - (i + 1)) * 2) (by rw [List.length_drop, flatW_len, F7.out]; omega)]
              simpa [Addr.add] using this)
          have HL := Lib.hid S7.out.low
          go_wp2_with fail
          go_region_law (first
              | (refine step_app_rowS (by rfl) _ _ _ (by rfl) 63 _ 2 16 Try.underlying24 Try.infoWire rfl (by omega) w7.heap.size 0 (.slice (some ⟨w7.heap.size, 0, none⟩) 0 0) [] (by rfl) OE.out (some ⟨g, 0, none⟩) i c (flatW (ws.take i)) (by rfl) FX.out RX.out (flatW_one _) (by unfold maxLen; omega) (by omega) (by simp) ?_; intro v8 w8 ho8 hg8; simp only [Nat.zero_add, List.nil_append] at ho8; obtain ⟨e8, f8, rfl⟩ := own_shape ho8; have B8 := Lib.hid (BE.out.grown hg8 (by simp) (fun g hg => (OE.out.lt g hg).1)); have O8 := Lib.hid ho8; have RZ := Lib.hid (RY.out _ B8.out); have S8 : Hid (w7.heap.size ≤ w8.heap.size) := Lib.hid B8.out.size; have y1 : w8.cell? ⟨T, 1, none⟩ = some (.slice (some ⟨g, 0, none⟩) q c) := cell_keep t1 B8.out; clear ho8 hg8)
              | (refine step_app_rowS (by rfl) _ _ _ (by rfl) 63 _ 2 16 Try.underlying24 Try.infoWire rfl (by omega) w7.heap.size i (.slice e8 i f8) (flatW (ws.take i)) (by rfl) O8.out (if c = i + 1 then some ⟨g, 0, none⟩ else some ⟨g, (i + 1) * 2, none⟩) (q - (i + 1)) (c - (i + 1)) (flatW (ws.drop (i + 1))) (by rfl) FY.out RZ.out (flatW_one _) (by unfold maxLen; omega) (by omega) S8.out ?_; intro v9 w9 ho9 hg9; rw [← flatW_app] at ho9; obtain ⟨e9, f9, rfl⟩ := own_shape ho9; have B9 := Lib.hid (B8.out.grown hg9 S8.out (fun g hg => (O8.out.lt g hg).1)); have S9 := Lib.hid (S7.out.below B9.out); have O9 := Lib.hid (own_base ho9 HL.out); have z1 : w9.cell? ⟨T, 1, none⟩ = some (.slice (some ⟨g, 0, none⟩) q c) := cell_keep t1 B9.out; have h1 := cur_free S9.out.tb 1; clear ho9 hg9))
          all_goals
            have SZ := Lib.hid (S9.out.set1 O9.out (by rw [List.length_append, List.length_take, List.length_drop, F7.out]; omega))
            clear z1 h1 x1 t1 O9 S9 B9 RZ S8 O8 B8 RY RX OE BE R7 FX FY
            have hq' : i + (q - (i + 1)) ≤ 120 := by omega
            clear hj0 hj1 hj2 hj3 hic hcap hw3 hcm
            generalize i + (q - (i + 1)) = q' at *
            generalize w9.setCell ⟨T, 1, none⟩ (.slice e9 q' f9) = w10 at *
            have t0 : w10.cell? ⟨T, 0, none⟩ = some (.int .i64 n) := cur_cell SZ.out.tb 0
            have t1 : w10.cell? ⟨T, 1, none⟩ = some (.slice e9 q' f9) := cur_cell SZ.out.tb 1
            have r0 : w10.cell? ⟨w.heap.size, 0, none⟩ = some (.int .i64 0) := cur_cell SZ.out.rb 0
            have r1 : w10.cell? ⟨w.heap.size, 1, none⟩ = some (.slice none 0 0) := cur_cell SZ.out.rb 1
            have f0 := cur_free SZ.out.rb 0
            have f1 := cur_free SZ.out.rb 1
            have hT0 : w.heap.size < T := SZ.out.h.1
            have hT1 : ¬ T = w.heap.size := by omega
            have hT2 : ¬ w.heap.size = T := by omega
            have D := Lib.hid (fun y0 y1 => (SZ.out.more (m' := m + 200) (by omega)).done (K := 1000) (lo := 0) (hi := 64) (by omega) (by omega) y0 y1)
            clear SZ
            go_wp2
            all_goals exact bodyPost_ret (v := .agg #[.int .i64 n, .slice e9 q' f9]) (by simp [results, Try.results74, go_sem, r0, r1]) rfl (D.out _ _)
      · have t0 : wc.cell? ⟨T, 0, none⟩ = some (.int .i64 n) := cur_cell H.out.tb 0
        have r0 : wc.cell? ⟨w.heap.size, 0, none⟩ = some (.int .i64 0) := cur_cell H.out.rb 0
        have r1 : wc.cell? ⟨w.heap.size, 1, none⟩ = some (.slice none 0 0) := cur_cell H.out.rb 1
        have f0 := cur_free H.out.rb 0
        have f1 := cur_free H.out.rb 1
        have hT0 : w.heap.size < T := H.out.h.1
        have hT1 : ¬ T = w.heap.size := by omega
        have hT2 : ¬ w.heap.size = T := by omega
        have D := Lib.hid (fun y0 y1 => (H.out.more (m' := m + 200) (by omega)).done (K := 1000) (lo := 0) (hi := 64) (by omega) (by omega) y0 y1)
        clear H
        go_wp2
        exact bodyPost_ret (v := .agg #[.int .i64 n, .slice ad q c]) (by simp [results, Try.results74, go_sem, r0, r1]) rfl (D.out _ _)
end Go.Proofs.Ytkifndcfmmdkpaa
