/- A net and a list drawn for the laws: DrawNetRun. -/
import Derived.Test.YtkifndcfmmdkpaaNdD
import Derived.Test.YtkifndcfmmdkpaaNeR
namespace Go.Proofs.Ytkifndcfmmdkpaa
open Go.RowKit
set_option linter.unusedVariables false
set_option maxRecDepth 100000

/-- While the list is drawn: the cursor, the net's box, the answer's box, the list in memory of the call's own. -/
structure RunSt (w W : World) (b T : Nat) (a : Option Addr) (l : List UInt8) (cap m : Nat) (z : Int) (ad : Option Addr) (q1 k1 : Nat) (lv : Value) (q : Nat) (L : List Int) : Prop where
  D : Drew w W b a l cap m
  tb : W.heap[T]? = some (.cells #[.int .i64 z, .slice ad q1 k1] 26 (0, 0))
  rb : W.heap[w.heap.size]? = some (.cells #[.int .i64 0, .slice none 0 0] 26 (0, 0))
  O : W.ownsRow (b + 1) 3 1 lv q (L.map ival)
  lt : w.heap.size < b ∧ b < T
section
variable {w W W' : World} {b T : Nat} {a : Option Addr} {l : List UInt8} {cap m m' : Nat} {z : Int} {ad : Option Addr} {q1 k1 : Nat} {lv : Value} {q : Nat} {L : List Int}
theorem RunSt.pick (s : RunSt w W b T a l cap m z ad q1 k1 lv q L) (hI : CurI W' b a l cap m') (hg : W.grownBy W' (some b)) : RunSt w W' b T a l cap m' z ad q1 k1 lv q L := by
  obtain ⟨h1, h2⟩ := s.lt
  exact ⟨s.D.pick hI hg, kept_grown s.tb hg (by simp; omega), kept_grown s.rb hg (by simp; omega), s.O.kept hg (own_apart s.O (by omega)), s.lt⟩
theorem RunSt.below (s : RunSt w W b T a l cap m z ad q1 k1 lv q L) (hb : Below W.heap.size W W') : RunSt w W' b T a l cap m z ad q1 k1 lv q L :=
  ⟨s.D.below hb, kept_block s.tb hb, kept_block s.rb hb, own_below s.O hb, s.lt⟩
theorem RunSt.more (s : RunSt w W b T a l cap m z ad q1 k1 lv q L) (h : m ≤ m') : RunSt w W b T a l cap m' z ad q1 k1 lv q L := ⟨s.D.more h, s.tb, s.rb, s.O, s.lt⟩
theorem RunSt.low (s : RunSt w W b T a l cap m z ad q1 k1 lv q L) : b + 1 ≤ W.heap.size := s.D.I.lt
theorem RunSt.app {o : Obj} {v' : Value} {y : Int} {q' : Nat} (s : RunSt w W b T a l cap m z ad q1 k1 lv q L) (hO : W'.ownsRow (b + 1) 3 1 v' q' (L.map ival ++ [.int .i64 y])) (hg : (W.alloc o).grownBy W' lv.ownBlock) : RunSt w W' b T a l cap m z ad q1 k1 v' q' (L ++ [y]) := by
  have B1 : Below (b + 1) W W' := ((Below.refl _ W).alloc s.low o).grown hg (by have := s.low; simp; omega) (fun i hi => (s.O.lt i hi).1)
  have s1 := s.below (below_box (Below.refl _ W) o)
  exact ⟨⟨s.D.I.low B1 (by omega), s.D.B.trans (B1.mono (by have := s.lt; omega)), s.D.lo⟩, kept_grown s1.tb hg (own_other s1.O s1.tb (by decide)), kept_grown s1.rb hg (own_other s1.O s1.rb (by decide)), by rw [List.map_append]; exact hO, s.lt⟩
end
def DrawnRun (w : World) (e : Ending) (w' : World) : Prop :=
  ∃ (z : Int) (a1 : Option Addr) (q1 k1 : Nat) (a2 : Option Addr) (q k2 : Nat) (L : List Int), e = .returned (.tuple #[.agg #[.int .i64 z, .slice a1 q1 k1], .slice a2 q k2]) ∧ w'.ownsRow w.heap.size 3 1 (.slice a2 q k2) q (L.map ival) ∧ q ≤ 71 ∧ Below w.heap.size w w'
theorem RunSt.give {w W W' : World} {b T : Nat} {a : Option Addr} {l : List UInt8} {cap m : Nat} {z : Int} {ad : Option Addr} {q1 k1 : Nat} {a2 : Option Addr} {k2 : Nat} {q : Nat} {L : List Int} (s : RunSt w W b T a l cap m z ad q1 k1 (.slice a2 q k2) q L) (hq : q ≤ 71) (C : Chg w.heap.size (w.heap.size + 1) W W') :
    DrawnRun w (.returned (.tuple #[.agg #[.int .i64 z, .slice ad q1 k1], .slice a2 q k2])) W' := by
  obtain ⟨h1, h2⟩ := s.lt
  exact ⟨z, ad, q1, k1, a2, q, k2, L, rfl, own_base ((lies_made s.O).chg C (.inr (by omega))).now (by omega), hq, Chg.below s.D.B C (Nat.le_refl _)⟩
theorem lit3_at (x y z : Int) (r : Nat) (h : r < 3) : ∃ u : Int, (#[.int .i64 x, .int .i64 y, .int .i64 z] : Array Value)[r]? = some (.int .i64 u) := by
  rcases (show r = 0 ∨ r = 1 ∨ r = 2 from by omega) with rfl | rfl | rfl
  · exact ⟨x, rfl⟩
  · exact ⟨y, rfl⟩
  · exact ⟨z, rfl⟩
theorem clamp70 (z : Int) : ∃ M : Nat, M ≤ 70 ∧ max 0 (min 70 z) = (M : Int) := ⟨(max 0 (min 70 z)).toNat, by omega, by omega⟩
set_option maxHeartbeats 8000000 in
theorem drawRun (a : Option Addr) (l : List UInt8) (cap : Nat) (w : World) (hl : l.length ≤ 1048576) (r : Row w a (l.map bval)) : Calls Try.prog 17 #[.slice a l.length cap] w (DrawnRun w) := by
  obtain ⟨w0, hw0⟩ : ∃ w0, w0 = w.alloc (.cells #[.int .i64 0, .slice none 0 0] 26) := ⟨_, rfl⟩
  have B0 : Below w.heap.size w w0 := by rw [hw0]; exact below_box (Below.refl _ w) _
  have z0 : w0.heap[w.heap.size]? = some (.cells #[.int .i64 0, .slice none 0 0] 26 (0, 0)) := by rw [hw0]; exact alloc_at _ _ _ rfl
  have Z0 := Lib.hid z0
  have BB := Lib.hid B0
  have R0 := Lib.hid (r.below B0)
  clear r B0 z0
  go_enter Try.func17, Try.ntmps17
  go_wp2_with fail
  rw [← hw0]
  clear hw0
  refine (curOpen a l cap w0 hl R0.out).mono ?_
  rintro e w1 ⟨rfl, hI, hb⟩
  have D1 := Lib.hid (Drew.mk hI (below_seq BB.out hb) BB.out.size)
  have Y0 := Lib.hid (kept_block Z0.out hb)
  have hbR : w.heap.size < w0.heap.size := cur_lt Z0.out
  clear hI hb Z0 BB R0
  generalize w0.heap.size = b at *
  go_wp2_with fail
  refine (curBadNet b a l cap 0 _ hl (by omega) D1.out.I).mono ?_
  rintro e w2 ⟨zx, ax, qx, kx, wx, rfl, hO, hlen, hKx, hzx, hI, hg⟩
  have D2 := ((D1.out.pick hI hg).below (below_box (Below.refl _ _) (.cells #[.int .i64 zx, .slice ax qx kx] 26)))
  have V0 := (kept_block (kept_grown Y0.out hg (by simp; omega)) (below_box (Below.refl _ _) (.cells #[.int .i64 zx, .slice ax qx kx] 26)))
  have hbT : b < w2.heap.size := hI.lt
  have V1 := alloc_at w2 (.cells #[.int .i64 zx, .slice ax qx kx] 26) _ rfl
  have LM := lit_made (w2.alloc (.cells #[.int .i64 zx, .slice ax qx kx] 26)) (b + 1) (w2.heap.size + 1) (show b + 1 ≤ (w2.alloc (.cells #[.int .i64 zx, .slice ax qx kx] 26)).heap.size by simp; omega) (by simp)
  have S0 := Lib.hid (RunSt.mk (D2.below (below_box (Below.refl _ _) (.cells #[] 3))) (kept_block V1 (below_box (Below.refl _ _) (.cells #[] 3))) (kept_block V0 (below_box (Below.refl _ _) (.cells #[] 3))) (L := []) LM ⟨hbR, hbT⟩)
  clear hI hg hO hlen Y0 D1 D2 V0 V1 LM
  go_wp2_with fail
  generalize w2.heap.size = T at *
  obtain ⟨M, hM, hMz⟩ := clamp70 zx
  have HMZ := Lib.hid hMz
  clear hMz
  go_loopg [6] 70 (fun k o wr => ∃ (q c : Nat) (a2 : Option Addr) (L : List Int), q ≤ 70 ∧ 70 - q = k ∧ o = .slice a2 q c ∧ Hid (RunSt w wr b T a l cap (4000 + 10 * q) zx ax qx kx (.slice a2 q c) q L))
  case atStart => exact ⟨0, 0, _, [], by omega, rfl, rfl, Lib.hid (S0.out.more (by omega))⟩
  case round =>
    clear S0
    obtain ⟨q, c, a2, L, hq, hk, rfl, H⟩ := hrel
    have x0 : wr.cell? ⟨T, 0, none⟩ = some (.int .i64 zx) := cur_cell H.out.tb 0
    go_upto_region 4 with fail
    go_cut [18] (fun v wx => v = .bool (decide ((q : Int) < (M : Int))) ∧ wr = wx)
    case first =>
      go_wp2_with fail
      all_goals (go_meet; exact ⟨congrArg Value.bool (decide_eq_decide.2 (by have := HMZ.out; omega)), rfl⟩)
    case rest =>
      obtain ⟨rfl, rfl⟩ := hcut
      clear x0
      by_cases hqM : q < M
      · have hd : decide ((q : Int) < (M : Int)) = true := by simp; omega
        go_wp2_with fail
        refine (curPick b a l cap _ 9 _ hl (by omega) (by omega) H.out.D.I).mono ?_
        rintro e w3 ⟨p1, rfl, _, hI, hg⟩
        have H3 := Lib.hid (H.out.pick hI hg)
        clear hI hg H
        go_wp2_with fail
        refine (curPick b a l cap _ 256 _ hl (by omega) (by omega) H3.out.D.I).mono ?_
        rintro e w4 ⟨p2, rfl, _, hI, hg⟩
        have H4 := Lib.hid (H3.out.pick hI hg)
        clear hI hg H3
        go_wp2_with fail
        refine (curRaw b a l cap _ _ hl (by omega) H4.out.D.I).mono ?_
        rintro e w5 ⟨p3, rfl, _, hI, hg⟩
        have H5 := Lib.hid ((H4.out.pick hI hg).below (below_box (Below.refl _ w5) (.cells #[.int .i64 (p1 : Int), .int .i64 (p2 : Int), .int .i64 p3] 3)))
        clear hI hg H4
        go_wp2_with fail
        refine (curPick b a l cap _ 3 _ hl (by omega) (by omega) H5.out.D.I).mono ?_
        rintro e w6 ⟨r, rfl, hr, hI, hg⟩
        have hr3 : r < 3 := by omega
        have hr3i : (r : Int) < 3 := by omega
        obtain ⟨u, hu⟩ := lit3_at (p1 : Int) (p2 : Int) p3 r hr3
        have hbs : b < w5.heap.size := by have := cur_lt H5.out.D.I.blk.choose_spec.choose_spec.1; have h2 := H5.out.lt; have h3 := H5.out.low; simp at h3; have h4 := cur_lt H5.out.tb; simp at h4; omega
        have q1 : w6.cell? ⟨w5.heap.size, r, none⟩ = some (.int .i64 u) := hg.cell ((lit_new w5 _ 3 r).trans hu) (by simp; omega)
        have H6 := Lib.hid (H5.out.pick hI hg)
        clear hI hg H5 hr hu
        have hsz := H6.out.low
        go_wp2_with (at_builtin; go_must (refine wp_app_row rfl _ _ 28 rfl 3 (.int .i64 0) 8 Try.underlying28 Try.info3 rfl (b + 1) q (.slice a2 q c) (L.map ival) (by rfl) (H6.out.O.alloc _) (some ⟨w6.heap.size, 0, none⟩) 1 1 [.int .i64 u] (by rfl) rfl (row_one w6 (.int .i64 u) 3) (by simp [Value.oneCell']) (by unfold maxLen; omega) (by omega) (by simp; omega) ?_); intro v7 w7 ho7 hg7; have H7 := Lib.hid (H6.out.app ho7 hg7); obtain ⟨a7, c7, rfl⟩ := own_shape ho7; clear ho7 hg7)
        go_roundg (70 - (q + 1))
        case measure => omega
        case rel => exact ⟨q + 1, c7, a7, _, by omega, rfl, rfl, Lib.hid (H7.out.more (by omega))⟩
      · have hd : decide ((q : Int) < (M : Int)) = false := by simp; omega
        go_wp2_with fail
        refine (curOnce b a l cap _ 9 _ hl (by omega) (by omega) H.out.D.I).mono ?_
        rintro e w3 ⟨f, rfl, hI, hg⟩
        have H3 := Lib.hid (H.out.pick hI hg)
        clear hI hg H
        cases f
        · have x0 : w3.cell? ⟨T, 0, none⟩ = some (.int .i64 zx) := cur_cell H3.out.tb 0
          have x1 : w3.cell? ⟨T, 1, none⟩ = some (.slice ax qx kx) := cur_cell H3.out.tb 1
          have r0 : w3.cell? ⟨w.heap.size, 0, none⟩ = some (.int .i64 0) := cur_cell H3.out.rb 0
          have r1 : w3.cell? ⟨w.heap.size, 1, none⟩ = some (.slice none 0 0) := cur_cell H3.out.rb 1
          have f0 := cur_free H3.out.rb 0
          have f1 := cur_free H3.out.rb 1
          have n1 : ¬ T = w.heap.size := by omega
          have n2 : ¬ w.heap.size = T := by omega
          have GV := Lib.hid (fun W' (C : Chg w.heap.size (w.heap.size + 1) w3 W') => H3.out.give (by omega) C)
          clear H3
          go_wp2
          exact bodyPost_ret (v := .tuple #[.agg #[.int .i64 zx, .slice ax qx kx], .slice a2 q c]) (by simp [results, Try.results17, go_sem, r0, r1]) rfl (GV.out _ (chg_set (chg_set (Chg.refl _ _ w3) (Nat.le_refl _) (by omega) 0 _) (Nat.le_refl _) (by omega) 1 _))
        · have hsz := H3.out.low
          go_wp2_with (at_builtin; go_must (refine wp_app_row rfl _ _ 28 rfl 3 (.int .i64 0) 8 Try.underlying28 Try.info3 rfl (b + 1) q (.slice a2 q c) (L.map ival) (by rfl) (H3.out.O.alloc _) (some ⟨w3.heap.size, 0, none⟩) 1 1 [.int .i64 1] (by rfl) rfl (row_one w3 (.int .i64 1) 3) (by simp [Value.oneCell']) (by unfold maxLen; omega) (by omega) (by simp; omega) ?_); intro v7 w7 ho7 hg7; have H7 := Lib.hid (H3.out.app ho7 hg7); obtain ⟨a7, c7, rfl⟩ := own_shape ho7; clear ho7 hg7; have x0 : w7.cell? ⟨T, 0, none⟩ = some (.int .i64 zx) := cur_cell H7.out.tb 0; have x1 : w7.cell? ⟨T, 1, none⟩ = some (.slice ax qx kx) := cur_cell H7.out.tb 1; have r0 : w7.cell? ⟨w.heap.size, 0, none⟩ = some (.int .i64 0) := cur_cell H7.out.rb 0; have r1 : w7.cell? ⟨w.heap.size, 1, none⟩ = some (.slice none 0 0) := cur_cell H7.out.rb 1; have f0 := cur_free H7.out.rb 0; have f1 := cur_free H7.out.rb 1; have n1 : ¬ T = w.heap.size := (by omega); have n2 : ¬ w.heap.size = T := (by omega); have GV := Lib.hid (fun W' (C : Chg w.heap.size (w.heap.size + 1) w7 W') => H7.out.give (by omega) C); clear H7 H3)
          exact bodyPost_ret (v := .tuple #[.agg #[.int .i64 zx, .slice ax qx kx], .slice a7 (q + 1) c7]) (by simp [results, Try.results17, go_sem, r0, r1]) rfl (GV.out _ (chg_set (chg_set (Chg.refl _ _ w7) (Nat.le_refl _) (by omega) 0 _) (Nat.le_refl _) (by omega) 1 _))
end Go.Proofs.Ytkifndcfmmdkpaa
