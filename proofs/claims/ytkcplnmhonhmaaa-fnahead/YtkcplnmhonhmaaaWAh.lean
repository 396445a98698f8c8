/- FnAhead: the walk. -/
import Derived.Test.YtkcplnmhonhmaaaBase
import Derived.Test.YtkcplnmhonhmaaaRecB
import Derived.Test.YtkcplnmhonhmaaaRecQ
import Derived.Test.YtkcplnmhonhmaaaRecZ
import Derived.Deep.RegionHeld3
import Derived.Deep.DeepCutAuto
namespace Go.Proofs.Ytkcplnmhonhmaaa.fnAhead
open Go.ChangeShapes Go.WideShapes Go.ChangeAt Go.RowKit
open Go.ChangeMaps (open_string shut_string)
set_option linter.unusedVariables false
set_option linter.unusedSimpArgs false

set_option maxRecDepth 100000 in
set_option maxHeartbeats 8000000 in
theorem walk (a0 : Option Addr) (len0 cap0 : Nat) (z0 : List Int) (w : World) (w0 : IsRow .u8 w a0 len0 cap0 z0) :
    Calls Try.prog 4 #[.slice a0 len0 cap0] w fun e w' => e = .returned (.bool true) ∧ Below w.heap.size w w' := by
  obtain ⟨l, hl, hcap, hmax, hr⟩ := row_of_isRow w0
  clear w0
  subst hl
  have R := Lib.hid hr
  clear hr
  have hm : l.length ≤ maxLen := Nat.le_trans hcap hmax
  by_cases hbig : 1048576 < l.length
  · have hB : decide (1048576 < l.length) = true := by simp [hbig]
    go_enter Try.func4, Try.ntmps4
    go_wp2_with fail
    refine (bigIs a0 l.length cap0 _ hm).mono ?_
    rintro e w1 ⟨rfl, rfl⟩
    rw [hB]
    go_wp2
    go_ret
    exact ⟨rfl, Below.refl _ _⟩
  have hB : decide (1048576 < l.length) = false := by simp; omega
  have hl2 : l.length ≤ 1048576 := by omega
  obtain ⟨h, hh⟩ : ∃ h : Nat, l.length / 3 = h := ⟨_, rfl⟩
  have hhl : h ≤ l.length := by omega
  have td : (l.length : Int).tdiv 3 = (h : Int) := by rw [Int.tdiv_eq_ediv_of_nonneg (by omega)]; omega
  obtain ⟨a1, c1, K1, K2, D2⟩ : ∃ (a1 : Option Addr) (c1 : Nat), Hid (h < cap0 → a1 = Option.map (fun x => x.add h) a0 ∧ c1 = cap0 - h) ∧ Hid (cap0 = h → a1 = a0 ∧ c1 = 0) ∧ Hid (∀ w', Below w.heap.size w w' → Calls Try.prog 17 #[.slice a1 (l.length - h) c1] w' (DrawnRR w')) := by
    by_cases hc : h < cap0
    · refine ⟨_, _, Lib.hid (fun _ => ⟨rfl, rfl⟩), Lib.hid (fun e => by omega), Lib.hid (fun w' hb' => ?_)⟩
      have := drawRecs2 (Option.map (fun x => x.add h) a0) (l.drop h) (cap0 - h) w' (by rw [List.length_drop]; omega) (by
        have := (R.out.below hb').map_cut h (l.length - h) (by simp; omega)
        rw [← List.map_drop, ← List.map_take, List.take_of_length_le (by rw [List.length_drop]; omega)] at this
        exact this)
      rw [List.length_drop] at this
      exact this
    · refine ⟨_, _, Lib.hid (fun e => absurd e hc), Lib.hid (fun _ => ⟨rfl, rfl⟩), Lib.hid (fun w' hb' => ?_)⟩
      have := drawRecs2 a0 [] 0 w' (by simp) (.inl rfl)
      rw [show l.length - h = ([] : List UInt8).length from by simp; omega]
      exact this
  have hc2 : h < cap0 ∨ cap0 = h := by omega
  clear hh
  go_enter Try.func4, Try.ntmps4
  go_wp2_with fail
  refine (bigIs a0 l.length cap0 _ hm).mono ?_
  rintro e w1 ⟨rfl, rfl⟩
  rw [hB]
  clear hB
  go_wp2_with fail
  refine (drawRecs2 a0 l cap0 w hl2 R.out).mono ?_
  rintro e w1 ⟨x, y, rfl, hx, hy, hb⟩
  obtain ⟨W1, hW1⟩ : ∃ W1, W1 = (w1.alloc (.cells #[.bool x.live, .int .i64 x.dist, .int .i64 x.weight, .string x.word] 25)).alloc (.cells #[.bool y.live, .int .i64 y.dist, .int .i64 y.weight, .string y.word] 25) := ⟨_, rfl⟩
  have KA := Lib.hid (show W1.heap[w1.heap.size]? = some (.cells #[.bool x.live, .int .i64 x.dist, .int .i64 x.weight, .string x.word] 25 (0, 0)) by rw [hW1]; exact (alloc_old _ _ _ (by simp)).trans (alloc_at _ _ _ rfl))
  have KB := Lib.hid (show W1.heap[w1.heap.size + 1]? = some (.cells #[.bool y.live, .int .i64 y.dist, .int .i64 y.weight, .string y.word] 25 (0, 0)) by rw [hW1]; exact alloc_at _ _ _ (by simp))
  have B1 := Lib.hid (show Below w.heap.size w W1 by rw [hW1]; exact below_box (below_box hb _) _)
  have HX := Lib.hid (And.intro hx hy)
  clear hb hx hy R
  go_upto_region 4 with fail
  rw [← hW1]
  clear hW1
  generalize w1.heap.size = T at *
  go_cut [5, 6] (fun pc pd wx => ∃ (U : Nat) (z : RecM), pc = .pointer (some ⟨U, 0, none⟩) ∧ recBd z ∧ Hid (wx.heap[U]? = some (.cells #[.bool z.live, .int .i64 z.dist, .int .i64 z.weight, .string z.word] 25 (0, 0)) ∧ Below W1.heap.size W1 wx))
  case first =>
    rcases hc2 with hc | hc
    · obtain ⟨rfl, rfl⟩ := K1.out hc
      clear K1 K2
      go_wp2_with fail
      refine (D2.out _ B1.out).mono ?_
      rintro e w2 ⟨z, zz, rfl, hz, _, hb⟩
      have BB := below_box (below_box (Below.refl w2.heap.size w2) (.cells #[.bool z.live, .int .i64 z.dist, .int .i64 z.weight, .string z.word] 25)) (.cells #[.bool zz.live, .int .i64 zz.dist, .int .i64 zz.weight, .string zz.word] 25)
      have HW := Lib.hid (And.intro ((alloc_old (w2.alloc (.cells #[.bool z.live, .int .i64 z.dist, .int .i64 z.weight, .string z.word] 25)) (.cells #[.bool zz.live, .int .i64 zz.dist, .int .i64 zz.weight, .string zz.word] 25) w2.heap.size (by simp)).trans (alloc_at w2 _ _ rfl)) (below_seq hb BB))
      clear hb BB D2
      go_wp2_with fail
      go_meet
      case rel => exact ⟨_, z, rfl, hz, HW⟩
    · subst hc
      obtain ⟨rfl, rfl⟩ := K2.out rfl
      have e0 : l.length - cap0 = 0 := (by omega)
      rw [e0] at D2
      clear e0
      clear K1 K2
      go_wp2_with fail
      refine (D2.out _ B1.out).mono ?_
      rintro e w2 ⟨z, zz, rfl, hz, _, hb⟩
      have BB := below_box (below_box (Below.refl w2.heap.size w2) (.cells #[.bool z.live, .int .i64 z.dist, .int .i64 z.weight, .string z.word] 25)) (.cells #[.bool zz.live, .int .i64 zz.dist, .int .i64 zz.weight, .string zz.word] 25)
      have HW := Lib.hid (And.intro ((alloc_old (w2.alloc (.cells #[.bool z.live, .int .i64 z.dist, .int .i64 z.weight, .string z.word] 25)) (.cells #[.bool zz.live, .int .i64 zz.dist, .int .i64 zz.weight, .string zz.word] 25) w2.heap.size (by simp)).trans (alloc_at w2 _ _ rfl)) (below_seq hb BB))
      clear hb BB D2
      go_wp2_with fail
      go_meet
      case rel => exact ⟨_, z, rfl, hz, HW⟩
  case rest =>
    obtain ⟨U, z, rfl, hz, H⟩ := hcut
    have HZ := Lib.hid hz
    have KC := Lib.hid H.out.1
    replace KA := Lib.hid (kept_block KA.out H.out.2)
    replace KB := Lib.hid (kept_block KB.out H.out.2)
    replace B1 := Lib.hid (below_seq B1.out H.out.2)
    clear hz H D2 K1 K2 td hc2
    generalize wc = W2 at *
    go_upto_region 5 with fail
    obtain ⟨oa, hoa⟩ : ∃ o, recOkB x = o := ⟨_, rfl⟩
    obtain ⟨ob, hob⟩ : ∃ o, recOkB y = o := ⟨_, rfl⟩
    obtain ⟨oc, hoc⟩ : ∃ o, recOkB z = o := ⟨_, rfl⟩
    have OA := Lib.hid (fun w' => specRecOk x w' HX.out.1.2.2)
    have OB := Lib.hid (fun w' => specRecOk y w' HX.out.2.2.2)
    have OC := Lib.hid (fun w' => specRecOk z w' HZ.out.2.2)
    rw [hoa] at OA
    rw [hob] at OB
    rw [hoc] at OC
    unfold RecM.cells at OA OB OC
    have HO := Lib.hid (And.intro hoa (And.intro hob hoc))
    clear hoa hob hoc
    go_cut [39] (fun v wx => v = .bool (!(oa && (ob && oc))) ∧ Hid (Below W2.heap.size W2 wx))
    case first =>
      have g0 := cur_cell KA.out 0
      have g1 := cur_cell KA.out 1
      have g2 := cur_cell KA.out 2
      have g3 := cur_cell KA.out 3
      simp at g0 g1 g2 g3
      go_wp2_with fail
      clear g0 g1 g2 g3
      refine (OA.out _).mono ?_
      rintro e w3 ⟨rfl, hb⟩
      have BW := Lib.hid hb
      clear hb
      cases oa
      · go_wp2_with fail
        go_meet
        case rel => exact ⟨rfl, BW⟩
      · have g0 := cur_cell (kept_block KB.out BW.out) 0
        have g1 := cur_cell (kept_block KB.out BW.out) 1
        have g2 := cur_cell (kept_block KB.out BW.out) 2
        have g3 := cur_cell (kept_block KB.out BW.out) 3
        simp at g0 g1 g2 g3
        go_wp2_with fail
        clear g0 g1 g2 g3
        refine (OB.out _).mono ?_
        rintro e w4 ⟨rfl, hb⟩
        replace BW := Lib.hid (below_seq BW.out hb)
        clear hb
        cases ob
        · go_wp2_with fail
          go_meet
          case rel => exact ⟨rfl, BW⟩
        · have g0 := cur_cell (kept_block KC.out BW.out) 0
          have g1 := cur_cell (kept_block KC.out BW.out) 1
          have g2 := cur_cell (kept_block KC.out BW.out) 2
          have g3 := cur_cell (kept_block KC.out BW.out) 3
          simp at g0 g1 g2 g3
          go_wp2_with fail
          clear g0 g1 g2 g3
          refine (OC.out _).mono ?_
          rintro e w5 ⟨rfl, hb⟩
          replace BW := Lib.hid (below_seq BW.out hb)
          clear hb
          go_wp2_with fail
          all_goals go_meet
          all_goals first | exact ⟨rfl, BW⟩ | (cases oc <;> exact ⟨rfl, BW⟩)
    case rest =>
      obtain ⟨rfl, HC⟩ := hcut
      replace KA := Lib.hid (kept_block KA.out HC.out)
      replace KB := Lib.hid (kept_block KB.out HC.out)
      replace KC := Lib.hid (kept_block KC.out HC.out)
      replace B1 := Lib.hid (below_seq B1.out HC.out)
      clear HC OA OB OC
      have AI := Lib.hid (fun (p q : RecM) (hp : recBd p) (hq : recBd q) w' => implRecAheadR p q w' hp.2.2 hq.2.2)
      have AS := Lib.hid (fun (p q : RecM) (hp : recBd p) (hq : recBd q) w' => specRecAheadR p q w' hp.2.2 hq.2.2)
      unfold RecM.cells at AI AS
      have AXY := Lib.hid (AI.out x y HX.out.1 HX.out.2)
      have SXY := Lib.hid (AS.out x y HX.out.1 HX.out.2)
      cases hok : (oa && (ob && oc))
      · have nok : (!(oa && (ob && oc))) = true := by rw [hok]; rfl
        have KP := Lib.hid (fun w' (hb : Below wc.heap.size wc w') => (show w'.cell? ⟨T, 0, none⟩ = some (.bool x.live) ∧ w'.cell? ⟨T, 1, none⟩ = some (.int .i64 x.dist) ∧ w'.cell? ⟨T, 2, none⟩ = some (.int .i64 x.weight) ∧ w'.cell? ⟨T, 3, none⟩ = some (.string x.word) ∧ w'.cell? ⟨T + 1, 0, none⟩ = some (.bool y.live) ∧ w'.cell? ⟨T + 1, 1, none⟩ = some (.int .i64 y.dist) ∧ w'.cell? ⟨T + 1, 2, none⟩ = some (.int .i64 y.weight) ∧ w'.cell? ⟨T + 1, 3, none⟩ = some (.string y.word) from ⟨cur_cell (kept_block KA.out hb) 0, cur_cell (kept_block KA.out hb) 1, cur_cell (kept_block KA.out hb) 2, cur_cell (kept_block KA.out hb) 3, cur_cell (kept_block KB.out hb) 0, cur_cell (kept_block KB.out hb) 1, cur_cell (kept_block KB.out hb) 2, cur_cell (kept_block KB.out hb) 3⟩))
        have HD := Lib.hid (below_drew (Below.refl wc.heap.size wc))
        go_upto_region 6 with fail
        go_region_held3 (fun w' => w'.cell? ⟨T, 0, none⟩ = some (.bool x.live) ∧ w'.cell? ⟨T, 1, none⟩ = some (.int .i64 x.dist) ∧ w'.cell? ⟨T, 2, none⟩ = some (.int .i64 x.weight) ∧ w'.cell? ⟨T, 3, none⟩ = some (.string x.word) ∧ w'.cell? ⟨T + 1, 0, none⟩ = some (.bool y.live) ∧ w'.cell? ⟨T + 1, 1, none⟩ = some (.int .i64 y.dist) ∧ w'.cell? ⟨T + 1, 2, none⟩ = some (.int .i64 y.weight) ∧ w'.cell? ⟨T + 1, 3, none⟩ = some (.string y.word))
          (exact KP.out _ HD.out)
          (first
            | (go_at_call 18; refine (AXY.out _).mono ?_; rintro e wn ⟨rfl, hb⟩; have HD := Lib.hid (below_seq HD.out hb); clear hb AXY)
            | (go_at_call 19; refine (SXY.out _).mono ?_; rintro e wn ⟨rfl, hb⟩; have HD := Lib.hid (below_seq HD.out hb); clear hb SXY))
        have BE := Lib.hid (below_seq B1.out HD.out)
        clear KP HD
        go_wp2
        go_ret
        exact ⟨ret_bool (by simp), BE.out⟩
      · have nok : (!(oa && (ob && oc))) = false := by rw [hok]; rfl
        have g0 := cur_cell KA.out 0
        have g1 := cur_cell KA.out 1
        have g2 := cur_cell KA.out 2
        have g3 := cur_cell KA.out 3
        have e0 := cur_cell KB.out 0
        have e1 := cur_cell KB.out 1
        have e2 := cur_cell KB.out 2
        have e3 := cur_cell KB.out 3
        simp at g0 g1 g2 g3 e0 e1 e2 e3
        go_wp2_with fail
        clear g0 g1 g2 g3 e0 e1 e2 e3
        refine (AXY.out _).mono ?_
        rintro e w4 ⟨rfl, hb⟩
        replace KA := Lib.hid (kept_block KA.out hb)
        replace KB := Lib.hid (kept_block KB.out hb)
        replace KC := Lib.hid (kept_block KC.out hb)
        replace B1 := Lib.hid (below_seq B1.out hb)
        clear hb
        have g0 := cur_cell KA.out 0
        have g1 := cur_cell KA.out 1
        have g2 := cur_cell KA.out 2
        have g3 := cur_cell KA.out 3
        have e0 := cur_cell KB.out 0
        have e1 := cur_cell KB.out 1
        have e2 := cur_cell KB.out 2
        have e3 := cur_cell KB.out 3
        simp at g0 g1 g2 g3 e0 e1 e2 e3
        go_wp2_with fail
        clear g0 g1 g2 g3 e0 e1 e2 e3
        refine (AI.out y x HX.out.2 HX.out.1 _).mono ?_
        rintro e w5 ⟨rfl, hb⟩
        replace KA := Lib.hid (kept_block KA.out hb)
        replace KB := Lib.hid (kept_block KB.out hb)
        replace KC := Lib.hid (kept_block KC.out hb)
        replace B1 := Lib.hid (below_seq B1.out hb)
        clear hb
        have hok2 : oa = true ∧ ob = true ∧ oc = true := by simpa using hok
        have TRI := Lib.hid (ahead_tri (HO.out.1.trans hok2.1) (HO.out.2.1.trans hok2.2.1))
        have TR := Lib.hid (fun (h : aheadB x y = true) (k : aheadB y z = true) => ahead_trans h k)
        clear hok2
        have PP := Lib.hid (fun w' => implPairP x y w' HX.out.1 HX.out.2)
        obtain ⟨p, hp⟩ : ∃ p, pairA x y = p := ⟨_, rfl⟩
        obtain ⟨q, hq⟩ : ∃ q, pairB x y = q := ⟨_, rfl⟩
        rw [hp, hq] at PP
        have HPQ : Hid ((x = p ∧ y = q ∧ aheadB y x = false) ∨ (y = p ∧ x = q ∧ aheadB y x = true)) := Lib.hid (by
          subst hp hq
          unfold pairA pairB
          cases h : aheadB y x
          · exact .inl ⟨rfl, rfl, rfl⟩
          · exact .inr ⟨rfl, rfl, rfl⟩)
        clear hp hq
        obtain ⟨q1, hq1⟩ : ∃ q, aheadB x y = q := ⟨_, rfl⟩
        obtain ⟨q2, hq2⟩ : ∃ q, aheadB y x = q := ⟨_, rfl⟩
        rw [hq1] at SXY TRI TR
        rw [hq2] at TRI HPQ
        rw [hq1, hq2]
        have HQ := Lib.hid (And.intro hq1 hq2)
        clear hq1 hq2
        go_upto_region 9 with fail
        go_cut [73] (fun v wx => v = .bool false ∧ Hid (Below w5.heap.size w5 wx))
        case first =>
          have g0 := cur_cell KA.out 0
          have g1 := cur_cell KA.out 1
          have g2 := cur_cell KA.out 2
          have g3 := cur_cell KA.out 3
          have e0 := cur_cell KB.out 0
          have e1 := cur_cell KB.out 1
          have e2 := cur_cell KB.out 2
          have e3 := cur_cell KB.out 3
          have TT := TRI.out
          simp at g0 g1 g2 g3 e0 e1 e2 e3
          clear TRI TR HPQ PP HQ KA KB KC B1 HX HZ AI AS AXY HO
          obtain ⟨x0, x1, x2, x3⟩ := x
          obtain ⟨y0, y1, y2, y3⟩ := y
          unfold DiffR at TT
          simp only [RecM.mk.injEq] at TT g0 g1 g2 g3 e0 e1 e2 e3 SXY
          rcases TT with ⟨⟨rfl, rfl, rfl, rfl⟩, rfl, rfl⟩ | ⟨hd, rfl, rfl⟩ | ⟨hd, rfl, rfl⟩
          · go_wp2_with fail
            refine (SXY.out _).mono ?_
            rintro e w6 ⟨rfl, hb⟩
            go_wp2_with fail
            go_meet
            case rel => exact ⟨rfl, Lib.hid hb⟩
          all_goals
            rcases hd with hd | ⟨rfl, hd⟩ | ⟨rfl, rfl, hd⟩ | ⟨rfl, rfl, rfl, hd⟩
            all_goals
              go_wp2_with fail
              refine (SXY.out _).mono ?_
              rintro e w6 ⟨rfl, hb⟩
              go_wp2_with fail
              go_meet
              exact ⟨rfl, Lib.hid hb⟩
        case rest =>
          obtain ⟨rfl, HC⟩ := hcut
          replace KA := Lib.hid (kept_block KA.out HC.out)
          replace KB := Lib.hid (kept_block KB.out HC.out)
          replace KC := Lib.hid (kept_block KC.out HC.out)
          replace B1 := Lib.hid (below_seq B1.out HC.out)
          clear HC SXY AS AXY
          have EQP : Hid (aheadB q p = false ∧ recBd p ∧ recBd q) := Lib.hid (by
            have TT := TRI.out
            rcases HPQ.out with ⟨rfl, rfl, k⟩ | ⟨rfl, rfl, k⟩
            · exact ⟨HQ.out.2.trans k, HX.out.1, HX.out.2⟩
            · refine ⟨HQ.out.1.trans ?_, HX.out.2, HX.out.1⟩
              rcases TT with ⟨_, h, _⟩ | ⟨_, _, h⟩ | ⟨_, h, _⟩
              · exact h
              · rw [h] at k; cases k
              · exact h)
          have AQP := Lib.hid (AI.out q p EQP.out.2.2 EQP.out.2.1)
          rw [EQP.out.1] at AQP
          clear EQP
          have g0 := cur_cell KA.out 0
          have g1 := cur_cell KA.out 1
          have g2 := cur_cell KA.out 2
          have g3 := cur_cell KA.out 3
          have e0 := cur_cell KB.out 0
          have e1 := cur_cell KB.out 1
          have e2 := cur_cell KB.out 2
          have e3 := cur_cell KB.out 3
          simp at g0 g1 g2 g3 e0 e1 e2 e3
          go_wp2_with fail
          clear g0 g1 g2 g3 e0 e1 e2 e3
          refine (PP.out _).mono ?_
          rintro e w7 ⟨rfl, hb⟩
          obtain ⟨W3, hW3⟩ : ∃ W3, W3 = (w7.alloc (.cells #[.bool p.live, .int .i64 p.dist, .int .i64 p.weight, .string p.word] 25)).alloc (.cells #[.bool q.live, .int .i64 q.dist, .int .i64 q.weight, .string q.word] 25) := ⟨_, rfl⟩
          have BB := below_box (below_box (Below.refl w7.heap.size w7) (.cells #[.bool p.live, .int .i64 p.dist, .int .i64 p.weight, .string p.word] 25)) (.cells #[.bool q.live, .int .i64 q.dist, .int .i64 q.weight, .string q.word] 25)
          rw [← hW3] at BB
          replace KA := Lib.hid (kept_block (kept_block KA.out hb) BB)
          replace KB := Lib.hid (kept_block (kept_block KB.out hb) BB)
          replace KC := Lib.hid (kept_block (kept_block KC.out hb) BB)
          replace B1 := Lib.hid (below_seq (below_seq B1.out hb) BB)
          have KP := Lib.hid (show W3.heap[w7.heap.size]? = some (.cells #[.bool p.live, .int .i64 p.dist, .int .i64 p.weight, .string p.word] 25 (0, 0)) by rw [hW3]; exact (alloc_old _ _ _ (by simp)).trans (alloc_at _ _ _ rfl))
          have KQ := Lib.hid (show W3.heap[w7.heap.size + 1]? = some (.cells #[.bool q.live, .int .i64 q.dist, .int .i64 q.weight, .string q.word] 25 (0, 0)) by rw [hW3]; exact alloc_at _ _ _ (by simp))
          clear hb BB PP
          go_upto_region 12 with fail
          rw [← hW3]
          clear hW3
          generalize w7.heap.size = X at *
          go_cut [111] (fun v wx => v = .bool false ∧ Hid (Below W3.heap.size W3 wx))
          case first =>
            have TT := TRI.out
            have HH := HPQ.out
            have KS := Lib.hid (fun w' (hb : Below W3.heap.size W3 w') => (show w'.cell? ⟨T, 0, none⟩ = some (.bool x.live) ∧ w'.cell? ⟨T, 1, none⟩ = some (.int .i64 x.dist) ∧ w'.cell? ⟨T, 2, none⟩ = some (.int .i64 x.weight) ∧ w'.cell? ⟨T, 3, none⟩ = some (.string x.word) ∧ w'.cell? ⟨T + 1, 0, none⟩ = some (.bool y.live) ∧ w'.cell? ⟨T + 1, 1, none⟩ = some (.int .i64 y.dist) ∧ w'.cell? ⟨T + 1, 2, none⟩ = some (.int .i64 y.weight) ∧ w'.cell? ⟨T + 1, 3, none⟩ = some (.string y.word) ∧ w'.cell? ⟨X, 0, none⟩ = some (.bool p.live) ∧ w'.cell? ⟨X, 1, none⟩ = some (.int .i64 p.dist) ∧ w'.cell? ⟨X, 2, none⟩ = some (.int .i64 p.weight) ∧ w'.cell? ⟨X, 3, none⟩ = some (.string p.word) ∧ w'.cell? ⟨X + 1, 0, none⟩ = some (.bool q.live) ∧ w'.cell? ⟨X + 1, 1, none⟩ = some (.int .i64 q.dist) ∧ w'.cell? ⟨X + 1, 2, none⟩ = some (.int .i64 q.weight) ∧ w'.cell? ⟨X + 1, 3, none⟩ = some (.string q.word) from ⟨cur_cell (kept_block KA.out hb) 0, cur_cell (kept_block KA.out hb) 1, cur_cell (kept_block KA.out hb) 2, cur_cell (kept_block KA.out hb) 3, cur_cell (kept_block KB.out hb) 0, cur_cell (kept_block KB.out hb) 1, cur_cell (kept_block KB.out hb) 2, cur_cell (kept_block KB.out hb) 3, cur_cell (kept_block KP.out hb) 0, cur_cell (kept_block KP.out hb) 1, cur_cell (kept_block KP.out hb) 2, cur_cell (kept_block KP.out hb) 3, cur_cell (kept_block KQ.out hb) 0, cur_cell (kept_block KQ.out hb) 1, cur_cell (kept_block KQ.out hb) 2, cur_cell (kept_block KQ.out hb) 3⟩))
            have HD := Lib.hid (below_drew (Below.refl W3.heap.size W3))
            clear TRI TR HPQ HQ KA KB KC KP KQ B1 HX HZ AI HO
            obtain ⟨x0, x1, x2, x3⟩ := x
            obtain ⟨y0, y1, y2, y3⟩ := y
            unfold DiffR at TT
            rcases HH with ⟨rfl, rfl, k⟩ | ⟨rfl, rfl, k⟩
            · simp only [RecM.mk.injEq] at TT KS AQP
              rcases TT with ⟨⟨rfl, rfl, rfl, rfl⟩, rfl, rfl⟩ | ⟨hd, rfl, rfl⟩ | ⟨hd, rfl, rfl⟩
              · refine wp_region_held_drew (S := (fun w' => w'.cell? ⟨T, 0, none⟩ = some (.bool x0) ∧ w'.cell? ⟨T, 1, none⟩ = some (.int .i64 x1) ∧ w'.cell? ⟨T, 2, none⟩ = some (.int .i64 x2) ∧ w'.cell? ⟨T, 3, none⟩ = some (.string x3) ∧ w'.cell? ⟨T + 1, 0, none⟩ = some (.bool x0) ∧ w'.cell? ⟨T + 1, 1, none⟩ = some (.int .i64 x1) ∧ w'.cell? ⟨T + 1, 2, none⟩ = some (.int .i64 x2) ∧ w'.cell? ⟨T + 1, 3, none⟩ = some (.string x3) ∧ w'.cell? ⟨X, 0, none⟩ = some (.bool x0) ∧ w'.cell? ⟨X, 1, none⟩ = some (.int .i64 x1) ∧ w'.cell? ⟨X, 2, none⟩ = some (.int .i64 x2) ∧ w'.cell? ⟨X, 3, none⟩ = some (.string x3) ∧ w'.cell? ⟨X + 1, 0, none⟩ = some (.bool x0) ∧ w'.cell? ⟨X + 1, 1, none⟩ = some (.int .i64 x1) ∧ w'.cell? ⟨X + 1, 2, none⟩ = some (.int .i64 x2) ∧ w'.cell? ⟨X + 1, 3, none⟩ = some (.string x3))) (by kernel_rfl) (KS.out _ HD.out) (fun hHeld => ?_)
                refine wpAnyH_take (i := 0) (oi := ?o1) (v := ?v1) ?hi1 (by kernel_rfl) (by kernel_rfl) (by kernel_rfl) ?hq1 ?hy1 (by assumption) ?r1
                case hi1 => (simp only [List.getElem?_toArray, List.getElem?_cons_succ, List.getElem?_cons_zero]; rfl)
                case hq1 => exact fun _ _ _ h => h
                case hy1 =>
                  first
                    | (refine Or.inl ⟨by rfl, ?_⟩; intro wq hSw; (try dsimp only at hSw); go_simp; (try with_reducible rfl); done)
                    | (refine Or.inr ⟨by rfl, ?_⟩; with_reducible rfl)
                try simp only [Act.put, List.setIfInBounds_toArray, List.set_cons_zero, List.set_cons_succ]
                refine wpAnyH_take (i := 1) (oi := ?o2) (v := ?v2) ?hi2 (by kernel_rfl) (by kernel_rfl) (by kernel_rfl) ?hq2 ?hy2 (by assumption) ?r2
                case hi2 => (simp only [List.getElem?_toArray, List.getElem?_cons_succ, List.getElem?_cons_zero]; rfl)
                case hq2 => exact fun _ _ _ h => h
                case hy2 =>
                  first
                    | (refine Or.inl ⟨by rfl, ?_⟩; intro wq hSw; (try dsimp only at hSw); go_simp; (try with_reducible rfl); done)
                    | (refine Or.inr ⟨by rfl, ?_⟩; with_reducible rfl)
                try simp only [Act.put, List.setIfInBounds_toArray, List.set_cons_zero, List.set_cons_succ]
                refine wpAnyH_ready (rs := [2]) (by kernel_rfl) (by simp) ?_
                refine AllReadyH.cons (by simp only [List.getElem?_toArray, List.getElem?_cons_succ, List.getElem?_cons_zero]; rfl) (fun K hK => ?_) AllReadyH.nil
                go_simp
                go_at_call 18
                refine (AQP.out _).mono ?_
                rintro e wn ⟨rfl, hb⟩
                replace HD := Lib.hid (below_seq HD.out hb)
                clear hb AQP
                refine hK.out _ _ (KS.out _ HD.out) (fun hHeld2 => ?_)
                clear hK K hHeld
                try simp only [Act.put, List.setIfInBounds_toArray, List.set_cons_zero, List.set_cons_succ]
                refine wpAnyH_take (i := 3) (oi := ?o3) (v := ?v3) ?hi3 (by kernel_rfl) (by kernel_rfl) (by kernel_rfl) ?hq3 ?hy3 (by assumption) ?r3
                case hi3 => (simp only [List.getElem?_toArray, List.getElem?_cons_succ, List.getElem?_cons_zero]; rfl)
                case hq3 => exact fun _ _ _ h => h
                case hy3 =>
                  first
                    | (refine Or.inl ⟨by rfl, ?_⟩; intro wq hSw; (try dsimp only at hSw); go_simp; (try with_reducible rfl); done)
                    | (refine Or.inr ⟨by rfl, ?_⟩; with_reducible rfl)
                try simp only [Act.put, List.setIfInBounds_toArray, List.set_cons_zero, List.set_cons_succ]
                refine wpAnyH_take (i := 4) (oi := ?o4) (v := ?v4) ?hi4 (by kernel_rfl) (by kernel_rfl) (by kernel_rfl) ?hq4 ?hy4 (by assumption) ?r4
                case hi4 => (simp only [List.getElem?_toArray, List.getElem?_cons_succ, List.getElem?_cons_zero]; rfl)
                case hq4 => exact fun _ _ _ h => h
                case hy4 =>
                  first
                    | (refine Or.inl ⟨by rfl, ?_⟩; intro wq hSw; (try dsimp only at hSw); go_simp; (try with_reducible rfl); done)
                    | (refine Or.inr ⟨by rfl, ?_⟩; with_reducible rfl)
                try simp only [Act.put, List.setIfInBounds_toArray, List.set_cons_zero, List.set_cons_succ]
                refine wpAnyH_take (i := 5) (oi := ?o5) (v := ?v5) ?hi5 (by kernel_rfl) (by kernel_rfl) (by kernel_rfl) ?hq5 ?hy5 (by assumption) ?r5
                case hi5 => (simp only [List.getElem?_toArray, List.getElem?_cons_succ, List.getElem?_cons_zero]; rfl)
                case hq5 => exact fun _ _ _ h => h
                case hy5 =>
                  first
                    | (refine Or.inl ⟨by rfl, ?_⟩; intro wq hSw; (try dsimp only at hSw); go_simp; (try with_reducible rfl); done)
                    | (refine Or.inr ⟨by rfl, ?_⟩; with_reducible rfl)
                try simp only [Act.put, List.setIfInBounds_toArray, List.set_cons_zero, List.set_cons_succ]
                refine wpAnyH_take (i := 6) (oi := ?o6) (v := ?v6) ?hi6 (by kernel_rfl) (by kernel_rfl) (by kernel_rfl) ?hq6 ?hy6 (by assumption) ?r6
                case hi6 => (simp only [List.getElem?_toArray, List.getElem?_cons_succ, List.getElem?_cons_zero]; rfl)
                case hq6 => exact fun _ _ _ h => h
                case hy6 =>
                  first
                    | (refine Or.inl ⟨by rfl, ?_⟩; intro wq hSw; (try dsimp only at hSw); go_simp; (try with_reducible rfl); done)
                    | (refine Or.inr ⟨by rfl, ?_⟩; with_reducible rfl)
                try simp only [Act.put, List.setIfInBounds_toArray, List.set_cons_zero, List.set_cons_succ]
                refine wpAnyH_take (i := 7) (oi := ?o7) (v := ?v7) ?hi7 (by kernel_rfl) (by kernel_rfl) (by kernel_rfl) ?hq7 ?hy7 (by assumption) ?r7
                case hi7 => (simp only [List.getElem?_toArray, List.getElem?_cons_succ, List.getElem?_cons_zero]; rfl)
                case hq7 => exact fun _ _ _ h => h
                case hy7 =>
                  first
                    | (refine Or.inl ⟨by rfl, ?_⟩; intro wq hSw; (try dsimp only at hSw); go_simp; (try with_reducible rfl); done)
                    | (refine Or.inr ⟨by rfl, ?_⟩; with_reducible rfl)
                try simp only [Act.put, List.setIfInBounds_toArray, List.set_cons_zero, List.set_cons_succ]
                refine wpAnyH_take (i := 8) (oi := ?o8) (v := ?v8) ?hi8 (by kernel_rfl) (by kernel_rfl) (by kernel_rfl) ?hq8 ?hy8 (by assumption) ?r8
                case hi8 => (simp only [List.getElem?_toArray, List.getElem?_cons_succ, List.getElem?_cons_zero]; rfl)
                case hq8 => exact fun _ _ _ h => h
                case hy8 =>
                  first
                    | (refine Or.inl ⟨by rfl, ?_⟩; intro wq hSw; (try dsimp only at hSw); go_simp; (try with_reducible rfl); done)
                    | (refine Or.inr ⟨by rfl, ?_⟩; with_reducible rfl)
                try simp only [Act.put, List.setIfInBounds_toArray, List.set_cons_zero, List.set_cons_succ]
                refine wpAnyH_take (i := 9) (oi := ?o9) (v := ?v9) ?hi9 (by kernel_rfl) (by kernel_rfl) (by kernel_rfl) ?hq9 ?hy9 (by assumption) ?r9
                case hi9 => (simp only [List.getElem?_toArray, List.getElem?_cons_succ, List.getElem?_cons_zero]; rfl)
                case hq9 => exact fun _ _ _ h => h
                case hy9 =>
                  first
                    | (refine Or.inl ⟨by rfl, ?_⟩; intro wq hSw; (try dsimp only at hSw); go_simp; (try with_reducible rfl); done)
                    | (refine Or.inr ⟨by rfl, ?_⟩; with_reducible rfl)
                try simp only [Act.put, List.setIfInBounds_toArray, List.set_cons_zero, List.set_cons_succ]
                refine wpAnyH_take (i := 10) (oi := ?o10) (v := ?v10) ?hi10 (by kernel_rfl) (by kernel_rfl) (by kernel_rfl) ?hq10 ?hy10 (by assumption) ?r10
                case hi10 => (simp only [List.getElem?_toArray, List.getElem?_cons_succ, List.getElem?_cons_zero]; rfl)
                case hq10 => exact fun _ _ _ h => h
                case hy10 =>
                  first
                    | (refine Or.inl ⟨by rfl, ?_⟩; intro wq hSw; (try dsimp only at hSw); go_simp; (try with_reducible rfl); done)
                    | (refine Or.inr ⟨by rfl, ?_⟩; with_reducible rfl)
                try simp only [Act.put, List.setIfInBounds_toArray, List.set_cons_zero, List.set_cons_succ]
                refine wpAnyH_take (i := 11) (oi := ?o11) (v := ?v11) ?hi11 (by kernel_rfl) (by kernel_rfl) (by kernel_rfl) ?hq11 ?hy11 (by assumption) ?r11
                case hi11 => (simp only [List.getElem?_toArray, List.getElem?_cons_succ, List.getElem?_cons_zero]; rfl)
                case hq11 => exact fun _ _ _ h => h
                case hy11 =>
                  first
                    | (refine Or.inl ⟨by rfl, ?_⟩; intro wq hSw; (try dsimp only at hSw); go_simp; (try with_reducible rfl); done)
                    | (refine Or.inr ⟨by rfl, ?_⟩; with_reducible rfl)
                try simp only [Act.put, List.setIfInBounds_toArray, List.set_cons_zero, List.set_cons_succ]
                refine wpAnyH_take (i := 12) (oi := ?o12) (v := ?v12) ?hi12 (by kernel_rfl) (by kernel_rfl) (by kernel_rfl) ?hq12 ?hy12 (by assumption) ?r12
                case hi12 => (simp only [List.getElem?_toArray, List.getElem?_cons_succ, List.getElem?_cons_zero]; rfl)
                case hq12 => exact fun _ _ _ h => h
                case hy12 =>
                  first
                    | (refine Or.inl ⟨by rfl, ?_⟩; intro wq hSw; (try dsimp only at hSw); go_simp; (try with_reducible rfl); done)
                    | (refine Or.inr ⟨by rfl, ?_⟩; with_reducible rfl)
                try simp only [Act.put, List.setIfInBounds_toArray, List.set_cons_zero, List.set_cons_succ]
                refine wpAnyH_take (i := 13) (oi := ?o13) (v := ?v13) ?hi13 (by kernel_rfl) (by kernel_rfl) (by kernel_rfl) ?hq13 ?hy13 (by assumption) ?r13
                case hi13 => (simp only [List.getElem?_toArray, List.getElem?_cons_succ, List.getElem?_cons_zero]; rfl)
                case hq13 => exact fun _ _ _ h => h
                case hy13 =>
                  first
                    | (refine Or.inl ⟨by rfl, ?_⟩; intro wq hSw; (try dsimp only at hSw); go_simp; (try with_reducible rfl); done)
                    | (refine Or.inr ⟨by rfl, ?_⟩; with_reducible rfl)
                try simp only [Act.put, List.setIfInBounds_toArray, List.set_cons_zero, List.set_cons_succ]
                refine wpAnyH_take (i := 14) (oi := ?o14) (v := ?v14) ?hi14 (by kernel_rfl) (by kernel_rfl) (by kernel_rfl) ?hq14 ?hy14 (by assumption) ?r14
                case hi14 => (simp only [List.getElem?_toArray, List.getElem?_cons_succ, List.getElem?_cons_zero]; rfl)
                case hq14 => exact fun _ _ _ h => h
                case hy14 =>
                  first
                    | (refine Or.inl ⟨by rfl, ?_⟩; intro wq hSw; (try dsimp only at hSw); go_simp; (try with_reducible rfl); done)
                    | (refine Or.inr ⟨by rfl, ?_⟩; with_reducible rfl)
                try simp only [Act.put, List.setIfInBounds_toArray, List.set_cons_zero, List.set_cons_succ]
                refine wpAnyH_take (i := 15) (oi := ?o15) (v := ?v15) ?hi15 (by kernel_rfl) (by kernel_rfl) (by kernel_rfl) ?hq15 ?hy15 (by assumption) ?r15
                case hi15 => (simp only [List.getElem?_toArray, List.getElem?_cons_succ, List.getElem?_cons_zero]; rfl)
                case hq15 => exact fun _ _ _ h => h
                case hy15 =>
                  first
                    | (refine Or.inl ⟨by rfl, ?_⟩; intro wq hSw; (try dsimp only at hSw); go_simp; (try with_reducible rfl); done)
                    | (refine Or.inr ⟨by rfl, ?_⟩; with_reducible rfl)
                try simp only [Act.put, List.setIfInBounds_toArray, List.set_cons_zero, List.set_cons_succ]
                refine wpAnyH_take (i := 16) (oi := ?o16) (v := ?v16) ?hi16 (by kernel_rfl) (by kernel_rfl) (by kernel_rfl) ?hq16 ?hy16 (by assumption) ?r16
                case hi16 => (simp only [List.getElem?_toArray, List.getElem?_cons_succ, List.getElem?_cons_zero]; rfl)
                case hq16 => exact fun _ _ _ h => h
                case hy16 =>
                  first
                    | (refine Or.inl ⟨by rfl, ?_⟩; intro wq hSw; (try dsimp only at hSw); go_simp; (try with_reducible rfl); done)
                    | (refine Or.inr ⟨by rfl, ?_⟩; with_reducible rfl)
                try simp only [Act.put, List.setIfInBounds_toArray, List.set_cons_zero, List.set_cons_succ]
                refine wpAnyH_take (i := 17) (oi := ?o17) (v := ?v17) ?hi17 (by kernel_rfl) (by kernel_rfl) (by kernel_rfl) ?hq17 ?hy17 (by assumption) ?r17
                case hi17 => (simp only [List.getElem?_toArray, List.getElem?_cons_succ, List.getElem?_cons_zero]; rfl)
                case hq17 => exact fun _ _ _ h => h
                case hy17 =>
                  first
                    | (refine Or.inl ⟨by rfl, ?_⟩; intro wq hSw; (try dsimp only at hSw); go_simp; (try with_reducible rfl); done)
                    | (refine Or.inr ⟨by rfl, ?_⟩; with_reducible rfl)
                try simp only [Act.put, List.setIfInBounds_toArray, List.set_cons_zero, List.set_cons_succ]
                refine wpAnyH_take (i := 18) (oi := ?o18) (v := ?v18) ?hi18 (by kernel_rfl) (by kernel_rfl) (by kernel_rfl) ?hq18 ?hy18 (by assumption) ?r18
                case hi18 => (simp only [List.getElem?_toArray, List.getElem?_cons_succ, List.getElem?_cons_zero]; rfl)
                case hq18 => exact fun _ _ _ h => h
                case hy18 =>
                  first
                    | (refine Or.inl ⟨by rfl, ?_⟩; intro wq hSw; (try dsimp only at hSw); go_simp; (try with_reducible rfl); done)
                    | (refine Or.inr ⟨by rfl, ?_⟩; with_reducible rfl)
                try simp only [Act.put, List.setIfInBounds_toArray, List.set_cons_zero, List.set_cons_succ]
                refine wpAnyH_take (i := 19) (oi := ?o19) (v := ?v19) ?hi19 (by kernel_rfl) (by kernel_rfl) (by kernel_rfl) ?hq19 ?hy19 (by assumption) ?r19
                case hi19 => (simp only [List.getElem?_toArray, List.getElem?_cons_succ, List.getElem?_cons_zero]; rfl)
                case hq19 => exact fun _ _ _ h => h
                case hy19 =>
                  first
                    | (refine Or.inl ⟨by rfl, ?_⟩; intro wq hSw; (try dsimp only at hSw); go_simp; (try with_reducible rfl); done)
                    | (refine Or.inr ⟨by rfl, ?_⟩; with_reducible rfl)
                try simp only [Act.put, List.setIfInBounds_toArray, List.set_cons_zero, List.set_cons_succ]
                refine wpAnyH_take (i := 20) (oi := ?o20) (v := ?v20) ?hi20 (by kernel_rfl) (by kernel_rfl) (by kernel_rfl) ?hq20 ?hy20 (by assumption) ?r20
                case hi20 => (simp only [List.getElem?_toArray, List.getElem?_cons_succ, List.getElem?_cons_zero]; rfl)
                case hq20 => exact fun _ _ _ h => h
                case hy20 =>
                  first
                    | (refine Or.inl ⟨by rfl, ?_⟩; intro wq hSw; (try dsimp only at hSw); go_simp; (try with_reducible rfl); done)
                    | (refine Or.inr ⟨by rfl, ?_⟩; with_reducible rfl)
                try simp only [Act.put, List.setIfInBounds_toArray, List.set_cons_zero, List.set_cons_succ]
                refine wpAnyH_take (i := 21) (oi := ?o21) (v := ?v21) ?hi21 (by kernel_rfl) (by kernel_rfl) (by kernel_rfl) ?hq21 ?hy21 (by assumption) ?r21
                case hi21 => (simp only [List.getElem?_toArray, List.getElem?_cons_succ, List.getElem?_cons_zero]; rfl)
                case hq21 => exact fun _ _ _ h => h
                case hy21 =>
                  first
                    | (refine Or.inl ⟨by rfl, ?_⟩; intro wq hSw; (try dsimp only at hSw); go_simp; (try with_reducible rfl); done)
                    | (refine Or.inr ⟨by rfl, ?_⟩; with_reducible rfl)
                try simp only [Act.put, List.setIfInBounds_toArray, List.set_cons_zero, List.set_cons_succ]
                refine wpAnyH_take (i := 22) (oi := ?o22) (v := ?v22) ?hi22 (by kernel_rfl) (by kernel_rfl) (by kernel_rfl) ?hq22 ?hy22 (by assumption) ?r22
                case hi22 => (simp only [List.getElem?_toArray, List.getElem?_cons_succ, List.getElem?_cons_zero]; rfl)
                case hq22 => exact fun _ _ _ h => h
                case hy22 =>
                  first
                    | (refine Or.inl ⟨by rfl, ?_⟩; intro wq hSw; (try dsimp only at hSw); go_simp; (try with_reducible rfl); done)
                    | (refine Or.inr ⟨by rfl, ?_⟩; with_reducible rfl)
                try simp only [Act.put, List.setIfInBounds_toArray, List.set_cons_zero, List.set_cons_succ]
                refine wpAnyH_take (i := 23) (oi := ?o23) (v := ?v23) ?hi23 (by kernel_rfl) (by kernel_rfl) (by kernel_rfl) ?hq23 ?hy23 (by assumption) ?r23
                case hi23 => (simp only [List.getElem?_toArray, List.getElem?_cons_succ, List.getElem?_cons_zero]; rfl)
                case hq23 => exact fun _ _ _ h => h
                case hy23 =>
                  first
                    | (refine Or.inl ⟨by rfl, ?_⟩; intro wq hSw; (try dsimp only at hSw); go_simp; (try with_reducible rfl); done)
                    | (refine Or.inr ⟨by rfl, ?_⟩; with_reducible rfl)
                try simp only [Act.put, List.setIfInBounds_toArray, List.set_cons_zero, List.set_cons_succ]
                refine wpAnyH_take (i := 24) (oi := ?o24) (v := ?v24) ?hi24 (by kernel_rfl) (by kernel_rfl) (by kernel_rfl) ?hq24 ?hy24 (by assumption) ?r24
                case hi24 => (simp only [List.getElem?_toArray, List.getElem?_cons_succ, List.getElem?_cons_zero]; rfl)
                case hq24 => exact fun _ _ _ h => h
                case hy24 =>
                  first
                    | (refine Or.inl ⟨by rfl, ?_⟩; intro wq hSw; (try dsimp only at hSw); go_simp; (try with_reducible rfl); done)
                    | (refine Or.inr ⟨by rfl, ?_⟩; with_reducible rfl)
                try simp only [Act.put, List.setIfInBounds_toArray, List.set_cons_zero, List.set_cons_succ]
                refine wpAnyH_take (i := 25) (oi := ?o25) (v := ?v25) ?hi25 (by kernel_rfl) (by kernel_rfl) (by kernel_rfl) ?hq25 ?hy25 (by assumption) ?r25
                case hi25 => (simp only [List.getElem?_toArray, List.getElem?_cons_succ, List.getElem?_cons_zero]; rfl)
                case hq25 => exact fun _ _ _ h => h
                case hy25 =>
                  first
                    | (refine Or.inl ⟨by rfl, ?_⟩; intro wq hSw; (try dsimp only at hSw); go_simp; (try with_reducible rfl); done)
                    | (refine Or.inr ⟨by rfl, ?_⟩; with_reducible rfl)
                try simp only [Act.put, List.setIfInBounds_toArray, List.set_cons_zero, List.set_cons_succ]
                refine wpAnyH_take (i := 26) (oi := ?o26) (v := ?v26) ?hi26 (by kernel_rfl) (by kernel_rfl) (by kernel_rfl) ?hq26 ?hy26 (by assumption) ?r26
                case hi26 => (simp only [List.getElem?_toArray, List.getElem?_cons_succ, List.getElem?_cons_zero]; rfl)
                case hq26 => exact fun _ _ _ h => h
                case hy26 =>
                  first
                    | (refine Or.inl ⟨by rfl, ?_⟩; intro wq hSw; (try dsimp only at hSw); go_simp; (try with_reducible rfl); done)
                    | (refine Or.inr ⟨by rfl, ?_⟩; with_reducible rfl)
                try simp only [Act.put, List.setIfInBounds_toArray, List.set_cons_zero, List.set_cons_succ]
                refine wpAnyH_take (i := 27) (oi := ?o27) (v := ?v27) ?hi27 (by kernel_rfl) (by kernel_rfl) (by kernel_rfl) ?hq27 ?hy27 (by assumption) ?r27
                case hi27 => (simp only [List.getElem?_toArray, List.getElem?_cons_succ, List.getElem?_cons_zero]; rfl)
                case hq27 => exact fun _ _ _ h => h
                case hy27 =>
                  first
                    | (refine Or.inl ⟨by rfl, ?_⟩; intro wq hSw; (try dsimp only at hSw); go_simp; (try with_reducible rfl); done)
                    | (refine Or.inr ⟨by rfl, ?_⟩; with_reducible rfl)
                try simp only [Act.put, List.setIfInBounds_toArray, List.set_cons_zero, List.set_cons_succ]
                refine wpAnyH_take (i := 28) (oi := ?o28) (v := ?v28) ?hi28 (by kernel_rfl) (by kernel_rfl) (by kernel_rfl) ?hq28 ?hy28 (by assumption) ?r28
                case hi28 => (simp only [List.getElem?_toArray, List.getElem?_cons_succ, List.getElem?_cons_zero]; rfl)
                case hq28 => exact fun _ _ _ h => h
                case hy28 =>
                  first
                    | (refine Or.inl ⟨by rfl, ?_⟩; intro wq hSw; (try dsimp only at hSw); go_simp; (try with_reducible rfl); done)
                    | (refine Or.inr ⟨by rfl, ?_⟩; with_reducible rfl)
                try simp only [Act.put, List.setIfInBounds_toArray, List.set_cons_zero, List.set_cons_succ]
                refine wpAnyH_take (i := 29) (oi := ?o29) (v := ?v29) ?hi29 (by kernel_rfl) (by kernel_rfl) (by kernel_rfl) ?hq29 ?hy29 (by assumption) ?r29
                case hi29 => (simp only [List.getElem?_toArray, List.getElem?_cons_succ, List.getElem?_cons_zero]; rfl)
                case hq29 => exact fun _ _ _ h => h
                case hy29 =>
                  first
                    | (refine Or.inl ⟨by rfl, ?_⟩; intro wq hSw; (try dsimp only at hSw); go_simp; (try with_reducible rfl); done)
                    | (refine Or.inr ⟨by rfl, ?_⟩; with_reducible rfl)
                try simp only [Act.put, List.setIfInBounds_toArray, List.set_cons_zero, List.set_cons_succ]
                refine wpAnyH_take (i := 30) (oi := ?o30) (v := ?v30) ?hi30 (by kernel_rfl) (by kernel_rfl) (by kernel_rfl) ?hq30 ?hy30 (by assumption) ?r30
                case hi30 => (simp only [List.getElem?_toArray, List.getElem?_cons_succ, List.getElem?_cons_zero]; rfl)
                case hq30 => exact fun _ _ _ h => h
                case hy30 =>
                  first
                    | (refine Or.inl ⟨by rfl, ?_⟩; intro wq hSw; (try dsimp only at hSw); go_simp; (try with_reducible rfl); done)
                    | (refine Or.inr ⟨by rfl, ?_⟩; with_reducible rfl)
                try simp only [Act.put, List.setIfInBounds_toArray, List.set_cons_zero, List.set_cons_succ]
                refine wpAnyH_take (i := 31) (oi := ?o31) (v := ?v31) ?hi31 (by kernel_rfl) (by kernel_rfl) (by kernel_rfl) ?hq31 ?hy31 (by assumption) ?r31
                case hi31 => (simp only [List.getElem?_toArray, List.getElem?_cons_succ, List.getElem?_cons_zero]; rfl)
                case hq31 => exact fun _ _ _ h => h
                case hy31 =>
                  first
                    | (refine Or.inl ⟨by rfl, ?_⟩; intro wq hSw; (try dsimp only at hSw); go_simp; (try with_reducible rfl); done)
                    | (refine Or.inr ⟨by rfl, ?_⟩; with_reducible rfl)
                try simp only [Act.put, List.setIfInBounds_toArray, List.set_cons_zero, List.set_cons_succ]
                refine wpAnyH_done (by kernel_rfl) ?_ _
                go_wp2_with fail
                go_meet
                case rel => exact ⟨rfl, HD⟩
              · rcases hd with hd | ⟨rfl, hd⟩ | ⟨rfl, rfl, hd⟩ | ⟨rfl, rfl, rfl, hd⟩
                · have hd2 : ¬ y0 = x0 := fun e => hd e.symm
                  have hd3 : (x0 == y0) = false := by simpa using hd
                  have hd4 : (y0 == x0) = false := by simpa using hd2
                  refine wp_region_held_drew (S := (fun w' => w'.cell? ⟨T, 0, none⟩ = some (.bool x0) ∧ w'.cell? ⟨T, 1, none⟩ = some (.int .i64 x1) ∧ w'.cell? ⟨T, 2, none⟩ = some (.int .i64 x2) ∧ w'.cell? ⟨T, 3, none⟩ = some (.string x3) ∧ w'.cell? ⟨T + 1, 0, none⟩ = some (.bool y0) ∧ w'.cell? ⟨T + 1, 1, none⟩ = some (.int .i64 y1) ∧ w'.cell? ⟨T + 1, 2, none⟩ = some (.int .i64 y2) ∧ w'.cell? ⟨T + 1, 3, none⟩ = some (.string y3) ∧ w'.cell? ⟨X, 0, none⟩ = some (.bool x0) ∧ w'.cell? ⟨X, 1, none⟩ = some (.int .i64 x1) ∧ w'.cell? ⟨X, 2, none⟩ = some (.int .i64 x2) ∧ w'.cell? ⟨X, 3, none⟩ = some (.string x3) ∧ w'.cell? ⟨X + 1, 0, none⟩ = some (.bool y0) ∧ w'.cell? ⟨X + 1, 1, none⟩ = some (.int .i64 y1) ∧ w'.cell? ⟨X + 1, 2, none⟩ = some (.int .i64 y2) ∧ w'.cell? ⟨X + 1, 3, none⟩ = some (.string y3))) (by kernel_rfl) (KS.out _ HD.out) (fun hHeld => ?_)
                  refine wpAnyH_take (i := 0) (oi := ?o32) (v := ?v32) ?hi32 (by kernel_rfl) (by kernel_rfl) (by kernel_rfl) ?hq32 ?hy32 (by assumption) ?r32
                  case hi32 => (simp only [List.getElem?_toArray, List.getElem?_cons_succ, List.getElem?_cons_zero]; rfl)
                  case hq32 => exact fun _ _ _ h => h
                  case hy32 =>
                    first
                      | (refine Or.inl ⟨by rfl, ?_⟩; intro wq hSw; (try dsimp only at hSw); go_simp; (try with_reducible rfl); done)
                      | (refine Or.inr ⟨by rfl, ?_⟩; with_reducible rfl)
                  try simp only [Act.put, List.setIfInBounds_toArray, List.set_cons_zero, List.set_cons_succ]
                  refine wpAnyH_take (i := 1) (oi := ?o33) (v := ?v33) ?hi33 (by kernel_rfl) (by kernel_rfl) (by kernel_rfl) ?hq33 ?hy33 (by assumption) ?r33
                  case hi33 => (simp only [List.getElem?_toArray, List.getElem?_cons_succ, List.getElem?_cons_zero]; rfl)
                  case hq33 => exact fun _ _ _ h => h
                  case hy33 =>
                    first
                      | (refine Or.inl ⟨by rfl, ?_⟩; intro wq hSw; (try dsimp only at hSw); go_simp; (try with_reducible rfl); done)
                      | (refine Or.inr ⟨by rfl, ?_⟩; with_reducible rfl)
                  try simp only [Act.put, List.setIfInBounds_toArray, List.set_cons_zero, List.set_cons_succ]
                  refine wpAnyH_ready (rs := [2]) (by kernel_rfl) (by simp) ?_
                  refine AllReadyH.cons (by simp only [List.getElem?_toArray, List.getElem?_cons_succ, List.getElem?_cons_zero]; rfl) (fun K hK => ?_) AllReadyH.nil
                  go_simp
                  go_at_call 18
                  refine (AQP.out _).mono ?_
                  rintro e wn ⟨rfl, hb⟩
                  replace HD := Lib.hid (below_seq HD.out hb)
                  clear hb AQP
                  refine hK.out _ _ (KS.out _ HD.out) (fun hHeld2 => ?_)
                  clear hK K hHeld
                  try simp only [Act.put, List.setIfInBounds_toArray, List.set_cons_zero, List.set_cons_succ]
                  refine wpAnyH_take (i := 3) (oi := ?o34) (v := ?v34) ?hi34 (by kernel_rfl) (by kernel_rfl) (by kernel_rfl) ?hq34 ?hy34 (by assumption) ?r34
                  case hi34 => (simp only [List.getElem?_toArray, List.getElem?_cons_succ, List.getElem?_cons_zero]; rfl)
                  case hq34 => exact fun _ _ _ h => h
                  case hy34 =>
                    first
                      | (refine Or.inl ⟨by rfl, ?_⟩; intro wq hSw; (try dsimp only at hSw); go_simp; (try with_reducible rfl); done)
                      | (refine Or.inr ⟨by rfl, ?_⟩; with_reducible rfl)
                  try simp only [Act.put, List.setIfInBounds_toArray, List.set_cons_zero, List.set_cons_succ]
                  refine wpAnyH_take (i := 4) (oi := ?o35) (v := ?v35) ?hi35 (by kernel_rfl) (by kernel_rfl) (by kernel_rfl) ?hq35 ?hy35 (by assumption) ?r35
                  case hi35 => (simp only [List.getElem?_toArray, List.getElem?_cons_succ, List.getElem?_cons_zero]; rfl)
                  case hq35 => exact fun _ _ _ h => h
                  case hy35 =>
                    first
                      | (refine Or.inl ⟨by rfl, ?_⟩; intro wq hSw; (try dsimp only at hSw); go_simp; (try with_reducible rfl); done)
                      | (refine Or.inr ⟨by rfl, ?_⟩; with_reducible rfl)
                  try simp only [Act.put, List.setIfInBounds_toArray, List.set_cons_zero, List.set_cons_succ]
                  refine wpAnyH_take (i := 5) (oi := ?o36) (v := ?v36) ?hi36 (by kernel_rfl) (by kernel_rfl) (by kernel_rfl) ?hq36 ?hy36 (by assumption) ?r36
                  case hi36 => (simp only [List.getElem?_toArray, List.getElem?_cons_succ, List.getElem?_cons_zero]; rfl)
                  case hq36 => exact fun _ _ _ h => h
                  case hy36 =>
                    first
                      | (refine Or.inl ⟨by rfl, ?_⟩; intro wq hSw; (try dsimp only at hSw); go_simp; (try with_reducible rfl); done)
                      | (refine Or.inr ⟨by rfl, ?_⟩; with_reducible rfl)
                  try simp only [Act.put, List.setIfInBounds_toArray, List.set_cons_zero, List.set_cons_succ]
                  refine wpAnyH_take (i := 6) (oi := ?o37) (v := ?v37) ?hi37 (by kernel_rfl) (by kernel_rfl) (by kernel_rfl) ?hq37 ?hy37 (by assumption) ?r37
                  case hi37 => (simp only [List.getElem?_toArray, List.getElem?_cons_succ, List.getElem?_cons_zero]; rfl)
                  case hq37 => exact fun _ _ _ h => h
                  case hy37 =>
                    first
                      | (refine Or.inl ⟨by rfl, ?_⟩; intro wq hSw; (try dsimp only at hSw); go_simp; (try with_reducible rfl); done)
                      | (refine Or.inr ⟨by rfl, ?_⟩; with_reducible rfl)
                  try simp only [Act.put, List.setIfInBounds_toArray, List.set_cons_zero, List.set_cons_succ]
                  refine wpAnyH_take (i := 7) (oi := ?o38) (v := ?v38) ?hi38 (by kernel_rfl) (by kernel_rfl) (by kernel_rfl) ?hq38 ?hy38 (by assumption) ?r38
                  case hi38 => (simp only [List.getElem?_toArray, List.getElem?_cons_succ, List.getElem?_cons_zero]; rfl)
                  case hq38 => exact fun _ _ _ h => h
                  case hy38 =>
                    first
                      | (refine Or.inl ⟨by rfl, ?_⟩; intro wq hSw; (try dsimp only at hSw); go_simp; (try with_reducible rfl); done)
                      | (refine Or.inr ⟨by rfl, ?_⟩; with_reducible rfl)
                  try simp only [Act.put, List.setIfInBounds_toArray, List.set_cons_zero, List.set_cons_succ]
                  refine wpAnyH_take (i := 8) (oi := ?o39) (v := ?v39) ?hi39 (by kernel_rfl) (by kernel_rfl) (by kernel_rfl) ?hq39 ?hy39 (by assumption) ?r39
                  case hi39 => (simp only [List.getElem?_toArray, List.getElem?_cons_succ, List.getElem?_cons_zero]; rfl)
                  case hq39 => exact fun _ _ _ h => h
                  case hy39 =>
                    first
                      | (refine Or.inl ⟨by rfl, ?_⟩; intro wq hSw; (try dsimp only at hSw); go_simp; (try with_reducible rfl); done)
                      | (refine Or.inr ⟨by rfl, ?_⟩; with_reducible rfl)
                  try simp only [Act.put, List.setIfInBounds_toArray, List.set_cons_zero, List.set_cons_succ]
                  refine wpAnyH_take (i := 9) (oi := ?o40) (v := ?v40) ?hi40 (by kernel_rfl) (by kernel_rfl) (by kernel_rfl) ?hq40 ?hy40 (by assumption) ?r40
                  case hi40 => (simp only [List.getElem?_toArray, List.getElem?_cons_succ, List.getElem?_cons_zero]; rfl)
                  case hq40 => exact fun _ _ _ h => h
                  case hy40 =>
                    first
                      | (refine Or.inl ⟨by rfl, ?_⟩; intro wq hSw; (try dsimp only at hSw); go_simp; (try with_reducible rfl); done)
                      | (refine Or.inr ⟨by rfl, ?_⟩; with_reducible rfl)
                  try simp only [Act.put, List.setIfInBounds_toArray, List.set_cons_zero, List.set_cons_succ]
                  refine wpAnyH_take (i := 10) (oi := ?o41) (v := ?v41) ?hi41 (by kernel_rfl) (by kernel_rfl) (by kernel_rfl) ?hq41 ?hy41 (by assumption) ?r41
                  case hi41 => (simp only [List.getElem?_toArray, List.getElem?_cons_succ, List.getElem?_cons_zero]; rfl)
                  case hq41 => exact fun _ _ _ h => h
                  case hy41 =>
                    first
                      | (refine Or.inl ⟨by rfl, ?_⟩; intro wq hSw; (try dsimp only at hSw); go_simp; (try with_reducible rfl); done)
                      | (refine Or.inr ⟨by rfl, ?_⟩; with_reducible rfl)
                  try simp only [Act.put, List.setIfInBounds_toArray, List.set_cons_zero, List.set_cons_succ]
                  refine wpAnyH_take (i := 11) (oi := ?o42) (v := ?v42) ?hi42 (by kernel_rfl) (by kernel_rfl) (by kernel_rfl) ?hq42 ?hy42 (by assumption) ?r42
                  case hi42 => (simp only [List.getElem?_toArray, List.getElem?_cons_succ, List.getElem?_cons_zero]; rfl)
                  case hq42 => exact fun _ _ _ h => h
                  case hy42 =>
                    first
                      | (refine Or.inl ⟨by rfl, ?_⟩; intro wq hSw; (try dsimp only at hSw); go_simp; (try with_reducible rfl); done)
                      | (refine Or.inr ⟨by rfl, ?_⟩; with_reducible rfl)
                  try simp only [Act.put, List.setIfInBounds_toArray, List.set_cons_zero, List.set_cons_succ]
                  refine wpAnyH_take (i := 12) (oi := ?o43) (v := ?v43) ?hi43 (by kernel_rfl) (by kernel_rfl) (by kernel_rfl) ?hq43 ?hy43 (by assumption) ?r43
                  case hi43 => (simp only [List.getElem?_toArray, List.getElem?_cons_succ, List.getElem?_cons_zero]; rfl)
                  case hq43 => exact fun _ _ _ h => h
                  case hy43 =>
                    first
                      | (refine Or.inl ⟨by rfl, ?_⟩; intro wq hSw; (try dsimp only at hSw); go_simp; (try with_reducible rfl); done)
                      | (refine Or.inr ⟨by rfl, ?_⟩; with_reducible rfl)
                  try simp only [Act.put, List.setIfInBounds_toArray, List.set_cons_zero, List.set_cons_succ]
                  refine wpAnyH_take (i := 13) (oi := ?o44) (v := ?v44) ?hi44 (by kernel_rfl) (by kernel_rfl) (by kernel_rfl) ?hq44 ?hy44 (by assumption) ?r44
                  case hi44 => (simp only [List.getElem?_toArray, List.getElem?_cons_succ, List.getElem?_cons_zero]; rfl)
                  case hq44 => exact fun _ _ _ h => h
                  case hy44 =>
                    first
                      | (refine Or.inl ⟨by rfl, ?_⟩; intro wq hSw; (try dsimp only at hSw); go_simp; (try with_reducible rfl); done)
                      | (refine Or.inr ⟨by rfl, ?_⟩; with_reducible rfl)
                  try simp only [Act.put, List.setIfInBounds_toArray, List.set_cons_zero, List.set_cons_succ]
                  refine wpAnyH_take (i := 14) (oi := ?o45) (v := ?v45) ?hi45 (by kernel_rfl) (by kernel_rfl) (by kernel_rfl) ?hq45 ?hy45 (by assumption) ?r45
                  case hi45 => (simp only [List.getElem?_toArray, List.getElem?_cons_succ, List.getElem?_cons_zero]; rfl)
                  case hq45 => exact fun _ _ _ h => h
                  case hy45 =>
                    first
                      | (refine Or.inl ⟨by rfl, ?_⟩; intro wq hSw; (try dsimp only at hSw); go_simp; (try with_reducible rfl); done)
                      | (refine Or.inr ⟨by rfl, ?_⟩; with_reducible rfl)
                  try simp only [Act.put, List.setIfInBounds_toArray, List.set_cons_zero, List.set_cons_succ]
                  refine wpAnyH_take (i := 15) (oi := ?o46) (v := ?v46) ?hi46 (by kernel_rfl) (by kernel_rfl) (by kernel_rfl) ?hq46 ?hy46 (by assumption) ?r46
                  case hi46 => (simp only [List.getElem?_toArray, List.getElem?_cons_succ, List.getElem?_cons_zero]; rfl)
                  case hq46 => exact fun _ _ _ h => h
                  case hy46 =>
                    first
                      | (refine Or.inl ⟨by rfl, ?_⟩; intro wq hSw; (try dsimp only at hSw); go_simp; (try with_reducible rfl); done)
                      | (refine Or.inr ⟨by rfl, ?_⟩; with_reducible rfl)
                  try simp only [Act.put, List.setIfInBounds_toArray, List.set_cons_zero, List.set_cons_succ]
                  refine wpAnyH_take (i := 16) (oi := ?o47) (v := ?v47) ?hi47 (by kernel_rfl) (by kernel_rfl) (by kernel_rfl) ?hq47 ?hy47 (by assumption) ?r47
                  case hi47 => (simp only [List.getElem?_toArray, List.getElem?_cons_succ, List.getElem?_cons_zero]; rfl)
                  case hq47 => exact fun _ _ _ h => h
                  case hy47 =>
                    first
                      | (refine Or.inl ⟨by rfl, ?_⟩; intro wq hSw; (try dsimp only at hSw); go_simp; (try with_reducible rfl); done)
                      | (refine Or.inr ⟨by rfl, ?_⟩; with_reducible rfl)
                  try simp only [Act.put, List.setIfInBounds_toArray, List.set_cons_zero, List.set_cons_succ]
                  refine wpAnyH_take (i := 17) (oi := ?o48) (v := ?v48) ?hi48 (by kernel_rfl) (by kernel_rfl) (by kernel_rfl) ?hq48 ?hy48 (by assumption) ?r48
                  case hi48 => (simp only [List.getElem?_toArray, List.getElem?_cons_succ, List.getElem?_cons_zero]; rfl)
                  case hq48 => exact fun _ _ _ h => h
                  case hy48 =>
                    first
                      | (refine Or.inl ⟨by rfl, ?_⟩; intro wq hSw; (try dsimp only at hSw); go_simp; (try with_reducible rfl); done)
                      | (refine Or.inr ⟨by rfl, ?_⟩; with_reducible rfl)
                  try simp only [Act.put, List.setIfInBounds_toArray, List.set_cons_zero, List.set_cons_succ]
                  refine wpAnyH_take (i := 18) (oi := ?o49) (v := ?v49) ?hi49 (by kernel_rfl) (by kernel_rfl) (by kernel_rfl) ?hq49 ?hy49 (by assumption) ?r49
                  case hi49 => (simp only [List.getElem?_toArray, List.getElem?_cons_succ, List.getElem?_cons_zero]; rfl)
                  case hq49 => exact fun _ _ _ h => h
                  case hy49 =>
                    first
                      | (refine Or.inl ⟨by rfl, ?_⟩; intro wq hSw; (try dsimp only at hSw); go_simp; (try with_reducible rfl); done)
                      | (refine Or.inr ⟨by rfl, ?_⟩; with_reducible rfl)
                  try simp only [Act.put, List.setIfInBounds_toArray, List.set_cons_zero, List.set_cons_succ]
                  refine wpAnyH_take (i := 19) (oi := ?o50) (v := ?v50) ?hi50 (by kernel_rfl) (by kernel_rfl) (by kernel_rfl) ?hq50 ?hy50 (by assumption) ?r50
                  case hi50 => (simp only [List.getElem?_toArray, List.getElem?_cons_succ, List.getElem?_cons_zero]; rfl)
                  case hq50 => exact fun _ _ _ h => h
                  case hy50 =>
                    first
                      | (refine Or.inl ⟨by rfl, ?_⟩; intro wq hSw; (try dsimp only at hSw); go_simp; (try with_reducible rfl); done)
                      | (refine Or.inr ⟨by rfl, ?_⟩; with_reducible rfl)
                  try simp only [Act.put, List.setIfInBounds_toArray, List.set_cons_zero, List.set_cons_succ]
                  refine wpAnyH_take (i := 20) (oi := ?o51) (v := ?v51) ?hi51 (by kernel_rfl) (by kernel_rfl) (by kernel_rfl) ?hq51 ?hy51 (by assumption) ?r51
                  case hi51 => (simp only [List.getElem?_toArray, List.getElem?_cons_succ, List.getElem?_cons_zero]; rfl)
                  case hq51 => exact fun _ _ _ h => h
                  case hy51 =>
                    first
                      | (refine Or.inl ⟨by rfl, ?_⟩; intro wq hSw; (try dsimp only at hSw); go_simp; (try with_reducible rfl); done)
                      | (refine Or.inr ⟨by rfl, ?_⟩; with_reducible rfl)
                  try simp only [Act.put, List.setIfInBounds_toArray, List.set_cons_zero, List.set_cons_succ]
                  refine wpAnyH_take (i := 21) (oi := ?o52) (v := ?v52) ?hi52 (by kernel_rfl) (by kernel_rfl) (by kernel_rfl) ?hq52 ?hy52 (by assumption) ?r52
                  case hi52 => (simp only [List.getElem?_toArray, List.getElem?_cons_succ, List.getElem?_cons_zero]; rfl)
                  case hq52 => exact fun _ _ _ h => h
                  case hy52 =>
                    first
                      | (refine Or.inl ⟨by rfl, ?_⟩; intro wq hSw; (try dsimp only at hSw); go_simp; (try with_reducible rfl); done)
                      | (refine Or.inr ⟨by rfl, ?_⟩; with_reducible rfl)
                  try simp only [Act.put, List.setIfInBounds_toArray, List.set_cons_zero, List.set_cons_succ]
                  refine wpAnyH_take (i := 22) (oi := ?o53) (v := ?v53) ?hi53 (by kernel_rfl) (by kernel_rfl) (by kernel_rfl) ?hq53 ?hy53 (by assumption) ?r53
                  case hi53 => (simp only [List.getElem?_toArray, List.getElem?_cons_succ, List.getElem?_cons_zero]; rfl)
                  case hq53 => exact fun _ _ _ h => h
                  case hy53 =>
                    first
                      | (refine Or.inl ⟨by rfl, ?_⟩; intro wq hSw; (try dsimp only at hSw); go_simp; (try with_reducible rfl); done)
                      | (refine Or.inr ⟨by rfl, ?_⟩; with_reducible rfl)
                  try simp only [Act.put, List.setIfInBounds_toArray, List.set_cons_zero, List.set_cons_succ]
                  refine wpAnyH_take (i := 23) (oi := ?o54) (v := ?v54) ?hi54 (by kernel_rfl) (by kernel_rfl) (by kernel_rfl) ?hq54 ?hy54 (by assumption) ?r54
                  case hi54 => (simp only [List.getElem?_toArray, List.getElem?_cons_succ, List.getElem?_cons_zero]; rfl)
                  case hq54 => exact fun _ _ _ h => h
                  case hy54 =>
                    first
                      | (refine Or.inl ⟨by rfl, ?_⟩; intro wq hSw; (try dsimp only at hSw); go_simp; (try with_reducible rfl); done)
                      | (refine Or.inr ⟨by rfl, ?_⟩; with_reducible rfl)
                  try simp only [Act.put, List.setIfInBounds_toArray, List.set_cons_zero, List.set_cons_succ]
                  refine wpAnyH_take (i := 24) (oi := ?o55) (v := ?v55) ?hi55 (by kernel_rfl) (by kernel_rfl) (by kernel_rfl) ?hq55 ?hy55 (by assumption) ?r55
                  case hi55 => (simp only [List.getElem?_toArray, List.getElem?_cons_succ, List.getElem?_cons_zero]; rfl)
                  case hq55 => exact fun _ _ _ h => h
                  case hy55 =>
                    first
                      | (refine Or.inl ⟨by rfl, ?_⟩; intro wq hSw; (try dsimp only at hSw); go_simp; (try with_reducible rfl); done)
                      | (refine Or.inr ⟨by rfl, ?_⟩; with_reducible rfl)
                  try simp only [Act.put, List.setIfInBounds_toArray, List.set_cons_zero, List.set_cons_succ]
                  refine wpAnyH_take (i := 25) (oi := ?o56) (v := ?v56) ?hi56 (by kernel_rfl) (by kernel_rfl) (by kernel_rfl) ?hq56 ?hy56 (by assumption) ?r56
                  case hi56 => (simp only [List.getElem?_toArray, List.getElem?_cons_succ, List.getElem?_cons_zero]; rfl)
                  case hq56 => exact fun _ _ _ h => h
                  case hy56 =>
                    first
                      | (refine Or.inl ⟨by rfl, ?_⟩; intro wq hSw; (try dsimp only at hSw); go_simp; (try with_reducible rfl); done)
                      | (refine Or.inr ⟨by rfl, ?_⟩; with_reducible rfl)
                  try simp only [Act.put, List.setIfInBounds_toArray, List.set_cons_zero, List.set_cons_succ]
                  refine wpAnyH_take (i := 26) (oi := ?o57) (v := ?v57) ?hi57 (by kernel_rfl) (by kernel_rfl) (by kernel_rfl) ?hq57 ?hy57 (by assumption) ?r57
                  case hi57 => (simp only [List.getElem?_toArray, List.getElem?_cons_succ, List.getElem?_cons_zero]; rfl)
                  case hq57 => exact fun _ _ _ h => h
                  case hy57 =>
                    first
                      | (refine Or.inl ⟨by rfl, ?_⟩; intro wq hSw; (try dsimp only at hSw); go_simp; (try with_reducible rfl); done)
                      | (refine Or.inr ⟨by rfl, ?_⟩; with_reducible rfl)
                  try simp only [Act.put, List.setIfInBounds_toArray, List.set_cons_zero, List.set_cons_succ]
                  refine wpAnyH_take (i := 27) (oi := ?o58) (v := ?v58) ?hi58 (by kernel_rfl) (by kernel_rfl) (by kernel_rfl) ?hq58 ?hy58 (by assumption) ?r58
                  case hi58 => (simp only [List.getElem?_toArray, List.getElem?_cons_succ, List.getElem?_cons_zero]; rfl)
                  case hq58 => exact fun _ _ _ h => h
                  case hy58 =>
                    first
                      | (refine Or.inl ⟨by rfl, ?_⟩; intro wq hSw; (try dsimp only at hSw); go_simp; (try with_reducible rfl); done)
                      | (refine Or.inr ⟨by rfl, ?_⟩; with_reducible rfl)
                  try simp only [Act.put, List.setIfInBounds_toArray, List.set_cons_zero, List.set_cons_succ]
                  refine wpAnyH_take (i := 28) (oi := ?o59) (v := ?v59) ?hi59 (by kernel_rfl) (by kernel_rfl) (by kernel_rfl) ?hq59 ?hy59 (by assumption) ?r59
                  case hi59 => (simp only [List.getElem?_toArray, List.getElem?_cons_succ, List.getElem?_cons_zero]; rfl)
                  case hq59 => exact fun _ _ _ h => h
                  case hy59 =>
                    first
                      | (refine Or.inl ⟨by rfl, ?_⟩; intro wq hSw; (try dsimp only at hSw); go_simp; (try with_reducible rfl); done)
                      | (refine Or.inr ⟨by rfl, ?_⟩; with_reducible rfl)
                  try simp only [Act.put, List.setIfInBounds_toArray, List.set_cons_zero, List.set_cons_succ]
                  refine wpAnyH_take (i := 29) (oi := ?o60) (v := ?v60) ?hi60 (by kernel_rfl) (by kernel_rfl) (by kernel_rfl) ?hq60 ?hy60 (by assumption) ?r60
                  case hi60 => (simp only [List.getElem?_toArray, List.getElem?_cons_succ, List.getElem?_cons_zero]; rfl)
                  case hq60 => exact fun _ _ _ h => h
                  case hy60 =>
                    first
                      | (refine Or.inl ⟨by rfl, ?_⟩; intro wq hSw; (try dsimp only at hSw); go_simp; (try with_reducible rfl); done)
                      | (refine Or.inr ⟨by rfl, ?_⟩; with_reducible rfl)
                  try simp only [Act.put, List.setIfInBounds_toArray, List.set_cons_zero, List.set_cons_succ]
                  refine wpAnyH_take (i := 30) (oi := ?o61) (v := ?v61) ?hi61 (by kernel_rfl) (by kernel_rfl) (by kernel_rfl) ?hq61 ?hy61 (by assumption) ?r61
                  case hi61 => (simp only [List.getElem?_toArray, List.getElem?_cons_succ, List.getElem?_cons_zero]; rfl)
                  case hq61 => exact fun _ _ _ h => h
                  case hy61 =>
                    first
                      | (refine Or.inl ⟨by rfl, ?_⟩; intro wq hSw; (try dsimp only at hSw); go_simp; (try with_reducible rfl); done)
                      | (refine Or.inr ⟨by rfl, ?_⟩; with_reducible rfl)
                  try simp only [Act.put, List.setIfInBounds_toArray, List.set_cons_zero, List.set_cons_succ]
                  refine wpAnyH_take (i := 31) (oi := ?o62) (v := ?v62) ?hi62 (by kernel_rfl) (by kernel_rfl) (by kernel_rfl) ?hq62 ?hy62 (by assumption) ?r62
                  case hi62 => (simp only [List.getElem?_toArray, List.getElem?_cons_succ, List.getElem?_cons_zero]; rfl)
                  case hq62 => exact fun _ _ _ h => h
                  case hy62 =>
                    first
                      | (refine Or.inl ⟨by rfl, ?_⟩; intro wq hSw; (try dsimp only at hSw); go_simp; (try with_reducible rfl); done)
                      | (refine Or.inr ⟨by rfl, ?_⟩; with_reducible rfl)
                  try simp only [Act.put, List.setIfInBounds_toArray, List.set_cons_zero, List.set_cons_succ]
                  refine wpAnyH_done (by kernel_rfl) ?_ _
                  go_wp2_with fail
                  go_meet
                  case rel => exact ⟨rfl, HD⟩
                · have hd2 : ¬ y1 = x1 := fun e => hd e.symm
                  have hd3 : (x1 == y1) = false := by simpa using hd
                  have hd4 : (y1 == x1) = false := by simpa using hd2
                  refine wp_region_held_drew (S := (fun w' => w'.cell? ⟨T, 0, none⟩ = some (.bool x0) ∧ w'.cell? ⟨T, 1, none⟩ = some (.int .i64 x1) ∧ w'.cell? ⟨T, 2, none⟩ = some (.int .i64 x2) ∧ w'.cell? ⟨T, 3, none⟩ = some (.string x3) ∧ w'.cell? ⟨T + 1, 0, none⟩ = some (.bool x0) ∧ w'.cell? ⟨T + 1, 1, none⟩ = some (.int .i64 y1) ∧ w'.cell? ⟨T + 1, 2, none⟩ = some (.int .i64 y2) ∧ w'.cell? ⟨T + 1, 3, none⟩ = some (.string y3) ∧ w'.cell? ⟨X, 0, none⟩ = some (.bool x0) ∧ w'.cell? ⟨X, 1, none⟩ = some (.int .i64 x1) ∧ w'.cell? ⟨X, 2, none⟩ = some (.int .i64 x2) ∧ w'.cell? ⟨X, 3, none⟩ = some (.string x3) ∧ w'.cell? ⟨X + 1, 0, none⟩ = some (.bool x0) ∧ w'.cell? ⟨X + 1, 1, none⟩ = some (.int .i64 y1) ∧ w'.cell? ⟨X + 1, 2, none⟩ = some (.int .i64 y2) ∧ w'.cell? ⟨X + 1, 3, none⟩ = some (.string y3))) (by kernel_rfl) (KS.out _ HD.out) (fun hHeld => ?_)
                  refine wpAnyH_take (i := 0) (oi := ?o63) (v := ?v63) ?hi63 (by kernel_rfl) (by kernel_rfl) (by kernel_rfl) ?hq63 ?hy63 (by assumption) ?r63
                  case hi63 => (simp only [List.getElem?_toArray, List.getElem?_cons_succ, List.getElem?_cons_zero]; rfl)
                  case hq63 => exact fun _ _ _ h => h
                  case hy63 =>
                    first
                      | (refine Or.inl ⟨by rfl, ?_⟩; intro wq hSw; (try dsimp only at hSw); go_simp; (try with_reducible rfl); done)
                      | (refine Or.inr ⟨by rfl, ?_⟩; with_reducible rfl)
                  try simp only [Act.put, List.setIfInBounds_toArray, List.set_cons_zero, List.set_cons_succ]
                  refine wpAnyH_take (i := 1) (oi := ?o64) (v := ?v64) ?hi64 (by kernel_rfl) (by kernel_rfl) (by kernel_rfl) ?hq64 ?hy64 (by assumption) ?r64
                  case hi64 => (simp only [List.getElem?_toArray, List.getElem?_cons_succ, List.getElem?_cons_zero]; rfl)
                  case hq64 => exact fun _ _ _ h => h
                  case hy64 =>
                    first
                      | (refine Or.inl ⟨by rfl, ?_⟩; intro wq hSw; (try dsimp only at hSw); go_simp; (try with_reducible rfl); done)
                      | (refine Or.inr ⟨by rfl, ?_⟩; with_reducible rfl)
                  try simp only [Act.put, List.setIfInBounds_toArray, List.set_cons_zero, List.set_cons_succ]
                  refine wpAnyH_ready (rs := [2]) (by kernel_rfl) (by simp) ?_
                  refine AllReadyH.cons (by simp only [List.getElem?_toArray, List.getElem?_cons_succ, List.getElem?_cons_zero]; rfl) (fun K hK => ?_) AllReadyH.nil
                  go_simp
                  go_at_call 18
                  refine (AQP.out _).mono ?_
                  rintro e wn ⟨rfl, hb⟩
                  replace HD := Lib.hid (below_seq HD.out hb)
                  clear hb AQP
                  refine hK.out _ _ (KS.out _ HD.out) (fun hHeld2 => ?_)
                  clear hK K hHeld
                  try simp only [Act.put, List.setIfInBounds_toArray, List.set_cons_zero, List.set_cons_succ]
                  refine wpAnyH_take (i := 3) (oi := ?o65) (v := ?v65) ?hi65 (by kernel_rfl) (by kernel_rfl) (by kernel_rfl) ?hq65 ?hy65 (by assumption) ?r65
                  case hi65 => (simp only [List.getElem?_toArray, List.getElem?_cons_succ, List.getElem?_cons_zero]; rfl)
                  case hq65 => exact fun _ _ _ h => h
                  case hy65 =>
                    first
                      | (refine Or.inl ⟨by rfl, ?_⟩; intro wq hSw; (try dsimp only at hSw); go_simp; (try with_reducible rfl); done)
                      | (refine Or.inr ⟨by rfl, ?_⟩; with_reducible rfl)
                  try simp only [Act.put, List.setIfInBounds_toArray, List.set_cons_zero, List.set_cons_succ]
                  refine wpAnyH_take (i := 4) (oi := ?o66) (v := ?v66) ?hi66 (by kernel_rfl) (by kernel_rfl) (by kernel_rfl) ?hq66 ?hy66 (by assumption) ?r66
                  case hi66 => (simp only [List.getElem?_toArray, List.getElem?_cons_succ, List.getElem?_cons_zero]; rfl)
                  case hq66 => exact fun _ _ _ h => h
                  case hy66 =>
                    first
                      | (refine Or.inl ⟨by rfl, ?_⟩; intro wq hSw; (try dsimp only at hSw); go_simp; (try with_reducible rfl); done)
                      | (refine Or.inr ⟨by rfl, ?_⟩; with_reducible rfl)
                  try simp only [Act.put, List.setIfInBounds_toArray, List.set_cons_zero, List.set_cons_succ]
                  refine wpAnyH_take (i := 5) (oi := ?o67) (v := ?v67) ?hi67 (by kernel_rfl) (by kernel_rfl) (by kernel_rfl) ?hq67 ?hy67 (by assumption) ?r67
                  case hi67 => (simp only [List.getElem?_toArray, List.getElem?_cons_succ, List.getElem?_cons_zero]; rfl)
                  case hq67 => exact fun _ _ _ h => h
                  case hy67 =>
                    first
                      | (refine Or.inl ⟨by rfl, ?_⟩; intro wq hSw; (try dsimp only at hSw); go_simp; (try with_reducible rfl); done)
                      | (refine Or.inr ⟨by rfl, ?_⟩; with_reducible rfl)
                  try simp only [Act.put, List.setIfInBounds_toArray, List.set_cons_zero, List.set_cons_succ]
                  refine wpAnyH_take (i := 6) (oi := ?o68) (v := ?v68) ?hi68 (by kernel_rfl) (by kernel_rfl) (by kernel_rfl) ?hq68 ?hy68 (by assumption) ?r68
                  case hi68 => (simp only [List.getElem?_toArray, List.getElem?_cons_succ, List.getElem?_cons_zero]; rfl)
                  case hq68 => exact fun _ _ _ h => h
                  case hy68 =>
                    first
                      | (refine Or.inl ⟨by rfl, ?_⟩; intro wq hSw; (try dsimp only at hSw); go_simp; (try with_reducible rfl); done)
                      | (refine Or.inr ⟨by rfl, ?_⟩; with_reducible rfl)
                  try simp only [Act.put, List.setIfInBounds_toArray, List.set_cons_zero, List.set_cons_succ]
                  refine wpAnyH_take (i := 7) (oi := ?o69) (v := ?v69) ?hi69 (by kernel_rfl) (by kernel_rfl) (by kernel_rfl) ?hq69 ?hy69 (by assumption) ?r69
                  case hi69 => (simp only [List.getElem?_toArray, List.getElem?_cons_succ, List.getElem?_cons_zero]; rfl)
                  case hq69 => exact fun _ _ _ h => h
                  case hy69 =>
                    first
                      | (refine Or.inl ⟨by rfl, ?_⟩; intro wq hSw; (try dsimp only at hSw); go_simp; (try with_reducible rfl); done)
                      | (refine Or.inr ⟨by rfl, ?_⟩; with_reducible rfl)
                  try simp only [Act.put, List.setIfInBounds_toArray, List.set_cons_zero, List.set_cons_succ]
                  refine wpAnyH_take (i := 8) (oi := ?o70) (v := ?v70) ?hi70 (by kernel_rfl) (by kernel_rfl) (by kernel_rfl) ?hq70 ?hy70 (by assumption) ?r70
                  case hi70 => (simp only [List.getElem?_toArray, List.getElem?_cons_succ, List.getElem?_cons_zero]; rfl)
                  case hq70 => exact fun _ _ _ h => h
                  case hy70 =>
                    first
                      | (refine Or.inl ⟨by rfl, ?_⟩; intro wq hSw; (try dsimp only at hSw); go_simp; (try with_reducible rfl); done)
                      | (refine Or.inr ⟨by rfl, ?_⟩; with_reducible rfl)
                  try simp only [Act.put, List.setIfInBounds_toArray, List.set_cons_zero, List.set_cons_succ]
                  refine wpAnyH_take (i := 9) (oi := ?o71) (v := ?v71) ?hi71 (by kernel_rfl) (by kernel_rfl) (by kernel_rfl) ?hq71 ?hy71 (by assumption) ?r71
                  case hi71 => (simp only [List.getElem?_toArray, List.getElem?_cons_succ, List.getElem?_cons_zero]; rfl)
                  case hq71 => exact fun _ _ _ h => h
                  case hy71 =>
                    first
                      | (refine Or.inl ⟨by rfl, ?_⟩; intro wq hSw; (try dsimp only at hSw); go_simp; (try with_reducible rfl); done)
                      | (refine Or.inr ⟨by rfl, ?_⟩; with_reducible rfl)
                  try simp only [Act.put, List.setIfInBounds_toArray, List.set_cons_zero, List.set_cons_succ]
                  refine wpAnyH_take (i := 10) (oi := ?o72) (v := ?v72) ?hi72 (by kernel_rfl) (by kernel_rfl) (by kernel_rfl) ?hq72 ?hy72 (by assumption) ?r72
                  case hi72 => (simp only [List.getElem?_toArray, List.getElem?_cons_succ, List.getElem?_cons_zero]; rfl)
                  case hq72 => exact fun _ _ _ h => h
                  case hy72 =>
                    first
                      | (refine Or.inl ⟨by rfl, ?_⟩; intro wq hSw; (try dsimp only at hSw); go_simp; (try with_reducible rfl); done)
                      | (refine Or.inr ⟨by rfl, ?_⟩; with_reducible rfl)
                  try simp only [Act.put, List.setIfInBounds_toArray, List.set_cons_zero, List.set_cons_succ]
                  refine wpAnyH_take (i := 11) (oi := ?o73) (v := ?v73) ?hi73 (by kernel_rfl) (by kernel_rfl) (by kernel_rfl) ?hq73 ?hy73 (by assumption) ?r73
                  case hi73 => (simp only [List.getElem?_toArray, List.getElem?_cons_succ, List.getElem?_cons_zero]; rfl)
                  case hq73 => exact fun _ _ _ h => h
                  case hy73 =>
                    first
                      | (refine Or.inl ⟨by rfl, ?_⟩; intro wq hSw; (try dsimp only at hSw); go_simp; (try with_reducible rfl); done)
                      | (refine Or.inr ⟨by rfl, ?_⟩; with_reducible rfl)
                  try simp only [Act.put, List.setIfInBounds_toArray, List.set_cons_zero, List.set_cons_succ]
                  refine wpAnyH_take (i := 12) (oi := ?o74) (v := ?v74) ?hi74 (by kernel_rfl) (by kernel_rfl) (by kernel_rfl) ?hq74 ?hy74 (by assumption) ?r74
                  case hi74 => (simp only [List.getElem?_toArray, List.getElem?_cons_succ, List.getElem?_cons_zero]; rfl)
                  case hq74 => exact fun _ _ _ h => h
                  case hy74 =>
                    first
                      | (refine Or.inl ⟨by rfl, ?_⟩; intro wq hSw; (try dsimp only at hSw); go_simp; (try with_reducible rfl); done)
                      | (refine Or.inr ⟨by rfl, ?_⟩; with_reducible rfl)
                  try simp only [Act.put, List.setIfInBounds_toArray, List.set_cons_zero, List.set_cons_succ]
                  refine wpAnyH_take (i := 13) (oi := ?o75) (v := ?v75) ?hi75 (by kernel_rfl) (by kernel_rfl) (by kernel_rfl) ?hq75 ?hy75 (by assumption) ?r75
                  case hi75 => (simp only [List.getElem?_toArray, List.getElem?_cons_succ, List.getElem?_cons_zero]; rfl)
                  case hq75 => exact fun _ _ _ h => h
                  case hy75 =>
                    first
                      | (refine Or.inl ⟨by rfl, ?_⟩; intro wq hSw; (try dsimp only at hSw); go_simp; (try with_reducible rfl); done)
                      | (refine Or.inr ⟨by rfl, ?_⟩; with_reducible rfl)
                  try simp only [Act.put, List.setIfInBounds_toArray, List.set_cons_zero, List.set_cons_succ]
                  refine wpAnyH_take (i := 14) (oi := ?o76) (v := ?v76) ?hi76 (by kernel_rfl) (by kernel_rfl) (by kernel_rfl) ?hq76 ?hy76 (by assumption) ?r76
                  case hi76 => (simp only [List.getElem?_toArray, List.getElem?_cons_succ, List.getElem?_cons_zero]; rfl)
                  case hq76 => exact fun _ _ _ h => h
                  case hy76 =>
                    first
                      | (refine Or.inl ⟨by rfl, ?_⟩; intro wq hSw; (try dsimp only at hSw); go_simp; (try with_reducible rfl); done)
                      | (refine Or.inr ⟨by rfl, ?_⟩; with_reducible rfl)
                  try simp only [Act.put, List.setIfInBounds_toArray, List.set_cons_zero, List.set_cons_succ]
                  refine wpAnyH_take (i := 15) (oi := ?o77) (v := ?v77) ?hi77 (by kernel_rfl) (by kernel_rfl) (by kernel_rfl) ?hq77 ?hy77 (by assumption) ?r77
                  case hi77 => (simp only [List.getElem?_toArray, List.getElem?_cons_succ, List.getElem?_cons_zero]; rfl)
                  case hq77 => exact fun _ _ _ h => h
                  case hy77 =>
                    first
                      | (refine Or.inl ⟨by rfl, ?_⟩; intro wq hSw; (try dsimp only at hSw); go_simp; (try with_reducible rfl); done)
                      | (refine Or.inr ⟨by rfl, ?_⟩; with_reducible rfl)
                  try simp only [Act.put, List.setIfInBounds_toArray, List.set_cons_zero, List.set_cons_succ]
                  refine wpAnyH_take (i := 16) (oi := ?o78) (v := ?v78) ?hi78 (by kernel_rfl) (by kernel_rfl) (by kernel_rfl) ?hq78 ?hy78 (by assumption) ?r78
                  case hi78 => (simp only [List.getElem?_toArray, List.getElem?_cons_succ, List.getElem?_cons_zero]; rfl)
                  case hq78 => exact fun _ _ _ h => h
                  case hy78 =>
                    first
                      | (refine Or.inl ⟨by rfl, ?_⟩; intro wq hSw; (try dsimp only at hSw); go_simp; (try with_reducible rfl); done)
                      | (refine Or.inr ⟨by rfl, ?_⟩; with_reducible rfl)
                  try simp only [Act.put, List.setIfInBounds_toArray, List.set_cons_zero, List.set_cons_succ]
                  refine wpAnyH_take (i := 17) (oi := ?o79) (v := ?v79) ?hi79 (by kernel_rfl) (by kernel_rfl) (by kernel_rfl) ?hq79 ?hy79 (by assumption) ?r79
                  case hi79 => (simp only [List.getElem?_toArray, List.getElem?_cons_succ, List.getElem?_cons_zero]; rfl)
                  case hq79 => exact fun _ _ _ h => h
                  case hy79 =>
                    first
                      | (refine Or.inl ⟨by rfl, ?_⟩; intro wq hSw; (try dsimp only at hSw); go_simp; (try with_reducible rfl); done)
                      | (refine Or.inr ⟨by rfl, ?_⟩; with_reducible rfl)
                  try simp only [Act.put, List.setIfInBounds_toArray, List.set_cons_zero, List.set_cons_succ]
                  refine wpAnyH_take (i := 18) (oi := ?o80) (v := ?v80) ?hi80 (by kernel_rfl) (by kernel_rfl) (by kernel_rfl) ?hq80 ?hy80 (by assumption) ?r80
                  case hi80 => (simp only [List.getElem?_toArray, List.getElem?_cons_succ, List.getElem?_cons_zero]; rfl)
                  case hq80 => exact fun _ _ _ h => h
                  case hy80 =>
                    first
                      | (refine Or.inl ⟨by rfl, ?_⟩; intro wq hSw; (try dsimp only at hSw); go_simp; (try with_reducible rfl); done)
                      | (refine Or.inr ⟨by rfl, ?_⟩; with_reducible rfl)
                  try simp only [Act.put, List.setIfInBounds_toArray, List.set_cons_zero, List.set_cons_succ]
                  refine wpAnyH_take (i := 19) (oi := ?o81) (v := ?v81) ?hi81 (by kernel_rfl) (by kernel_rfl) (by kernel_rfl) ?hq81 ?hy81 (by assumption) ?r81
                  case hi81 => (simp only [List.getElem?_toArray, List.getElem?_cons_succ, List.getElem?_cons_zero]; rfl)
                  case hq81 => exact fun _ _ _ h => h
                  case hy81 =>
                    first
                      | (refine Or.inl ⟨by rfl, ?_⟩; intro wq hSw; (try dsimp only at hSw); go_simp; (try with_reducible rfl); done)
                      | (refine Or.inr ⟨by rfl, ?_⟩; with_reducible rfl)
                  try simp only [Act.put, List.setIfInBounds_toArray, List.set_cons_zero, List.set_cons_succ]
                  refine wpAnyH_take (i := 20) (oi := ?o82) (v := ?v82) ?hi82 (by kernel_rfl) (by kernel_rfl) (by kernel_rfl) ?hq82 ?hy82 (by assumption) ?r82
                  case hi82 => (simp only [List.getElem?_toArray, List.getElem?_cons_succ, List.getElem?_cons_zero]; rfl)
                  case hq82 => exact fun _ _ _ h => h
                  case hy82 =>
                    first
                      | (refine Or.inl ⟨by rfl, ?_⟩; intro wq hSw; (try dsimp only at hSw); go_simp; (try with_reducible rfl); done)
                      | (refine Or.inr ⟨by rfl, ?_⟩; with_reducible rfl)
                  try simp only [Act.put, List.setIfInBounds_toArray, List.set_cons_zero, List.set_cons_succ]
                  refine wpAnyH_take (i := 21) (oi := ?o83) (v := ?v83) ?hi83 (by kernel_rfl) (by kernel_rfl) (by kernel_rfl) ?hq83 ?hy83 (by assumption) ?r83
                  case hi83 => (simp only [List.getElem?_toArray, List.getElem?_cons_succ, List.getElem?_cons_zero]; rfl)
                  case hq83 => exact fun _ _ _ h => h
                  case hy83 =>
                    first
                      | (refine Or.inl ⟨by rfl, ?_⟩; intro wq hSw; (try dsimp only at hSw); go_simp; (try with_reducible rfl); done)
                      | (refine Or.inr ⟨by rfl, ?_⟩; with_reducible rfl)
                  try simp only [Act.put, List.setIfInBounds_toArray, List.set_cons_zero, List.set_cons_succ]
                  refine wpAnyH_take (i := 22) (oi := ?o84) (v := ?v84) ?hi84 (by kernel_rfl) (by kernel_rfl) (by kernel_rfl) ?hq84 ?hy84 (by assumption) ?r84
                  case hi84 => (simp only [List.getElem?_toArray, List.getElem?_cons_succ, List.getElem?_cons_zero]; rfl)
                  case hq84 => exact fun _ _ _ h => h
                  case hy84 =>
                    first
                      | (refine Or.inl ⟨by rfl, ?_⟩; intro wq hSw; (try dsimp only at hSw); go_simp; (try with_reducible rfl); done)
                      | (refine Or.inr ⟨by rfl, ?_⟩; with_reducible rfl)
                  try simp only [Act.put, List.setIfInBounds_toArray, List.set_cons_zero, List.set_cons_succ]
                  refine wpAnyH_take (i := 23) (oi := ?o85) (v := ?v85) ?hi85 (by kernel_rfl) (by kernel_rfl) (by kernel_rfl) ?hq85 ?hy85 (by assumption) ?r85
                  case hi85 => (simp only [List.getElem?_toArray, List.getElem?_cons_succ, List.getElem?_cons_zero]; rfl)
                  case hq85 => exact fun _ _ _ h => h
                  case hy85 =>
                    first
                      | (refine Or.inl ⟨by rfl, ?_⟩; intro wq hSw; (try dsimp only at hSw); go_simp; (try with_reducible rfl); done)
                      | (refine Or.inr ⟨by rfl, ?_⟩; with_reducible rfl)
                  try simp only [Act.put, List.setIfInBounds_toArray, List.set_cons_zero, List.set_cons_succ]
                  refine wpAnyH_take (i := 24) (oi := ?o86) (v := ?v86) ?hi86 (by kernel_rfl) (by kernel_rfl) (by kernel_rfl) ?hq86 ?hy86 (by assumption) ?r86
                  case hi86 => (simp only [List.getElem?_toArray, List.getElem?_cons_succ, List.getElem?_cons_zero]; rfl)
                  case hq86 => exact fun _ _ _ h => h
                  case hy86 =>
                    first
                      | (refine Or.inl ⟨by rfl, ?_⟩; intro wq hSw; (try dsimp only at hSw); go_simp; (try with_reducible rfl); done)
                      | (refine Or.inr ⟨by rfl, ?_⟩; with_reducible rfl)
                  try simp only [Act.put, List.setIfInBounds_toArray, List.set_cons_zero, List.set_cons_succ]
                  refine wpAnyH_take (i := 25) (oi := ?o87) (v := ?v87) ?hi87 (by kernel_rfl) (by kernel_rfl) (by kernel_rfl) ?hq87 ?hy87 (by assumption) ?r87
                  case hi87 => (simp only [List.getElem?_toArray, List.getElem?_cons_succ, List.getElem?_cons_zero]; rfl)
                  case hq87 => exact fun _ _ _ h => h
                  case hy87 =>
                    first
                      | (refine Or.inl ⟨by rfl, ?_⟩; intro wq hSw; (try dsimp only at hSw); go_simp; (try with_reducible rfl); done)
                      | (refine Or.inr ⟨by rfl, ?_⟩; with_reducible rfl)
                  try simp only [Act.put, List.setIfInBounds_toArray, List.set_cons_zero, List.set_cons_succ]
                  refine wpAnyH_take (i := 26) (oi := ?o88) (v := ?v88) ?hi88 (by kernel_rfl) (by kernel_rfl) (by kernel_rfl) ?hq88 ?hy88 (by assumption) ?r88
                  case hi88 => (simp only [List.getElem?_toArray, List.getElem?_cons_succ, List.getElem?_cons_zero]; rfl)
                  case hq88 => exact fun _ _ _ h => h
                  case hy88 =>
                    first
                      | (refine Or.inl ⟨by rfl, ?_⟩; intro wq hSw; (try dsimp only at hSw); go_simp; (try with_reducible rfl); done)
                      | (refine Or.inr ⟨by rfl, ?_⟩; with_reducible rfl)
                  try simp only [Act.put, List.setIfInBounds_toArray, List.set_cons_zero, List.set_cons_succ]
                  refine wpAnyH_take (i := 27) (oi := ?o89) (v := ?v89) ?hi89 (by kernel_rfl) (by kernel_rfl) (by kernel_rfl) ?hq89 ?hy89 (by assumption) ?r89
                  case hi89 => (simp only [List.getElem?_toArray, List.getElem?_cons_succ, List.getElem?_cons_zero]; rfl)
                  case hq89 => exact fun _ _ _ h => h
                  case hy89 =>
                    first
                      | (refine Or.inl ⟨by rfl, ?_⟩; intro wq hSw; (try dsimp only at hSw); go_simp; (try with_reducible rfl); done)
                      | (refine Or.inr ⟨by rfl, ?_⟩; with_reducible rfl)
                  try simp only [Act.put, List.setIfInBounds_toArray, List.set_cons_zero, List.set_cons_succ]
                  refine wpAnyH_take (i := 28) (oi := ?o90) (v := ?v90) ?hi90 (by kernel_rfl) (by kernel_rfl) (by kernel_rfl) ?hq90 ?hy90 (by assumption) ?r90
                  case hi90 => (simp only [List.getElem?_toArray, List.getElem?_cons_succ, List.getElem?_cons_zero]; rfl)
                  case hq90 => exact fun _ _ _ h => h
                  case hy90 =>
                    first
                      | (refine Or.inl ⟨by rfl, ?_⟩; intro wq hSw; (try dsimp only at hSw); go_simp; (try with_reducible rfl); done)
                      | (refine Or.inr ⟨by rfl, ?_⟩; with_reducible rfl)
                  try simp only [Act.put, List.setIfInBounds_toArray, List.set_cons_zero, List.set_cons_succ]
                  refine wpAnyH_take (i := 29) (oi := ?o91) (v := ?v91) ?hi91 (by kernel_rfl) (by kernel_rfl) (by kernel_rfl) ?hq91 ?hy91 (by assumption) ?r91
                  case hi91 => (simp only [List.getElem?_toArray, List.getElem?_cons_succ, List.getElem?_cons_zero]; rfl)
                  case hq91 => exact fun _ _ _ h => h
                  case hy91 =>
                    first
                      | (refine Or.inl ⟨by rfl, ?_⟩; intro wq hSw; (try dsimp only at hSw); go_simp; (try with_reducible rfl); done)
                      | (refine Or.inr ⟨by rfl, ?_⟩; with_reducible rfl)
                  try simp only [Act.put, List.setIfInBounds_toArray, List.set_cons_zero, List.set_cons_succ]
                  refine wpAnyH_take (i := 30) (oi := ?o92) (v := ?v92) ?hi92 (by kernel_rfl) (by kernel_rfl) (by kernel_rfl) ?hq92 ?hy92 (by assumption) ?r92
                  case hi92 => (simp only [List.getElem?_toArray, List.getElem?_cons_succ, List.getElem?_cons_zero]; rfl)
                  case hq92 => exact fun _ _ _ h => h
                  case hy92 =>
                    first
                      | (refine Or.inl ⟨by rfl, ?_⟩; intro wq hSw; (try dsimp only at hSw); go_simp; (try with_reducible rfl); done)
                      | (refine Or.inr ⟨by rfl, ?_⟩; with_reducible rfl)
                  try simp only [Act.put, List.setIfInBounds_toArray, List.set_cons_zero, List.set_cons_succ]
                  refine wpAnyH_take (i := 31) (oi := ?o93) (v := ?v93) ?hi93 (by kernel_rfl) (by kernel_rfl) (by kernel_rfl) ?hq93 ?hy93 (by assumption) ?r93
                  case hi93 => (simp only [List.getElem?_toArray, List.getElem?_cons_succ, List.getElem?_cons_zero]; rfl)
                  case hq93 => exact fun _ _ _ h => h
                  case hy93 =>
                    first
                      | (refine Or.inl ⟨by rfl, ?_⟩; intro wq hSw; (try dsimp only at hSw); go_simp; (try with_reducible rfl); done)
                      | (refine Or.inr ⟨by rfl, ?_⟩; with_reducible rfl)
                  try simp only [Act.put, List.setIfInBounds_toArray, List.set_cons_zero, List.set_cons_succ]
                  refine wpAnyH_done (by kernel_rfl) ?_ _
                  go_wp2_with fail
                  go_meet
                  case rel => exact ⟨rfl, HD⟩
                · have hd2 : ¬ y2 = x2 := fun e => hd e.symm
                  have hd3 : (x2 == y2) = false := by simpa using hd
                  have hd4 : (y2 == x2) = false := by simpa using hd2
                  refine wp_region_held_drew (S := (fun w' => w'.cell? ⟨T, 0, none⟩ = some (.bool x0) ∧ w'.cell? ⟨T, 1, none⟩ = some (.int .i64 x1) ∧ w'.cell? ⟨T, 2, none⟩ = some (.int .i64 x2) ∧ w'.cell? ⟨T, 3, none⟩ = some (.string x3) ∧ w'.cell? ⟨T + 1, 0, none⟩ = some (.bool x0) ∧ w'.cell? ⟨T + 1, 1, none⟩ = some (.int .i64 x1) ∧ w'.cell? ⟨T + 1, 2, none⟩ = some (.int .i64 y2) ∧ w'.cell? ⟨T + 1, 3, none⟩ = some (.string y3) ∧ w'.cell? ⟨X, 0, none⟩ = some (.bool x0) ∧ w'.cell? ⟨X, 1, none⟩ = some (.int .i64 x1) ∧ w'.cell? ⟨X, 2, none⟩ = some (.int .i64 x2) ∧ w'.cell? ⟨X, 3, none⟩ = some (.string x3) ∧ w'.cell? ⟨X + 1, 0, none⟩ = some (.bool x0) ∧ w'.cell? ⟨X + 1, 1, none⟩ = some (.int .i64 x1) ∧ w'.cell? ⟨X + 1, 2, none⟩ = some (.int .i64 y2) ∧ w'.cell? ⟨X + 1, 3, none⟩ = some (.string y3))) (by kernel_rfl) (KS.out _ HD.out) (fun hHeld => ?_)
                  refine wpAnyH_take (i := 0) (oi := ?o94) (v := ?v94) ?hi94 (by kernel_rfl) (by kernel_rfl) (by kernel_rfl) ?hq94 ?hy94 (by assumption) ?r94
                  case hi94 => (simp only [List.getElem?_toArray, List.getElem?_cons_succ, List.getElem?_cons_zero]; rfl)
                  case hq94 => exact fun _ _ _ h => h
                  case hy94 =>
                    first
                      | (refine Or.inl ⟨by rfl, ?_⟩; intro wq hSw; (try dsimp only at hSw); go_simp; (try with_reducible rfl); done)
                      | (refine Or.inr ⟨by rfl, ?_⟩; with_reducible rfl)
                  try simp only [Act.put, List.setIfInBounds_toArray, List.set_cons_zero, List.set_cons_succ]
                  refine wpAnyH_take (i := 1) (oi := ?o95) (v := ?v95) ?hi95 (by kernel_rfl) (by kernel_rfl) (by kernel_rfl) ?hq95 ?hy95 (by assumption) ?r95
                  case hi95 => (simp only [List.getElem?_toArray, List.getElem?_cons_succ, List.getElem?_cons_zero]; rfl)
                  case hq95 => exact fun _ _ _ h => h
                  case hy95 =>
                    first
                      | (refine Or.inl ⟨by rfl, ?_⟩; intro wq hSw; (try dsimp only at hSw); go_simp; (try with_reducible rfl); done)
                      | (refine Or.inr ⟨by rfl, ?_⟩; with_reducible rfl)
                  try simp only [Act.put, List.setIfInBounds_toArray, List.set_cons_zero, List.set_cons_succ]
                  refine wpAnyH_ready (rs := [2]) (by kernel_rfl) (by simp) ?_
                  refine AllReadyH.cons (by simp only [List.getElem?_toArray, List.getElem?_cons_succ, List.getElem?_cons_zero]; rfl) (fun K hK => ?_) AllReadyH.nil
                  go_simp
                  go_at_call 18
                  refine (AQP.out _).mono ?_
                  rintro e wn ⟨rfl, hb⟩
                  replace HD := Lib.hid (below_seq HD.out hb)
                  clear hb AQP
                  refine hK.out _ _ (KS.out _ HD.out) (fun hHeld2 => ?_)
                  clear hK K hHeld
                  try simp only [Act.put, List.setIfInBounds_toArray, List.set_cons_zero, List.set_cons_succ]
                  refine wpAnyH_take (i := 3) (oi := ?o96) (v := ?v96) ?hi96 (by kernel_rfl) (by kernel_rfl) (by kernel_rfl) ?hq96 ?hy96 (by assumption) ?r96
                  case hi96 => (simp only [List.getElem?_toArray, List.getElem?_cons_succ, List.getElem?_cons_zero]; rfl)
                  case hq96 => exact fun _ _ _ h => h
                  case hy96 =>
                    first
                      | (refine Or.inl ⟨by rfl, ?_⟩; intro wq hSw; (try dsimp only at hSw); go_simp; (try with_reducible rfl); done)
                      | (refine Or.inr ⟨by rfl, ?_⟩; with_reducible rfl)
                  try simp only [Act.put, List.setIfInBounds_toArray, List.set_cons_zero, List.set_cons_succ]
                  refine wpAnyH_take (i := 4) (oi := ?o97) (v := ?v97) ?hi97 (by kernel_rfl) (by kernel_rfl) (by kernel_rfl) ?hq97 ?hy97 (by assumption) ?r97
                  case hi97 => (simp only [List.getElem?_toArray, List.getElem?_cons_succ, List.getElem?_cons_zero]; rfl)
                  case hq97 => exact fun _ _ _ h => h
                  case hy97 =>
                    first
                      | (refine Or.inl ⟨by rfl, ?_⟩; intro wq hSw; (try dsimp only at hSw); go_simp; (try with_reducible rfl); done)
                      | (refine Or.inr ⟨by rfl, ?_⟩; with_reducible rfl)
                  try simp only [Act.put, List.setIfInBounds_toArray, List.set_cons_zero, List.set_cons_succ]
                  refine wpAnyH_take (i := 5) (oi := ?o98) (v := ?v98) ?hi98 (by kernel_rfl) (by kernel_rfl) (by kernel_rfl) ?hq98 ?hy98 (by assumption) ?r98
                  case hi98 => (simp only [List.getElem?_toArray, List.getElem?_cons_succ, List.getElem?_cons_zero]; rfl)
                  case hq98 => exact fun _ _ _ h => h
                  case hy98 =>
                    first
                      | (refine Or.inl ⟨by rfl, ?_⟩; intro wq hSw; (try dsimp only at hSw); go_simp; (try with_reducible rfl); done)
                      | (refine Or.inr ⟨by rfl, ?_⟩; with_reducible rfl)
                  try simp only [Act.put, List.setIfInBounds_toArray, List.set_cons_zero, List.set_cons_succ]
                  refine wpAnyH_take (i := 6) (oi := ?o99) (v := ?v99) ?hi99 (by kernel_rfl) (by kernel_rfl) (by kernel_rfl) ?hq99 ?hy99 (by assumption) ?r99
                  case hi99 => (simp only [List.getElem?_toArray, List.getElem?_cons_succ, List.getElem?_cons_zero]; rfl)
                  case hq99 => exact fun _ _ _ h => h
                  case hy99 =>
                    first
                      | (refine Or.inl ⟨by rfl, ?_⟩; intro wq hSw; (try dsimp only at hSw); go_simp; (try with_reducible rfl); done)
                      | (refine Or.inr ⟨by rfl, ?_⟩; with_reducible rfl)
                  try simp only [Act.put, List.setIfInBounds_toArray, List.set_cons_zero, List.set_cons_succ]
                  refine wpAnyH_take (i := 7) (oi := ?o100) (v := ?v100) ?hi100 (by kernel_rfl) (by kernel_rfl) (by kernel_rfl) ?hq100 ?hy100 (by assumption) ?r100
                  case hi100 => (simp only [List.getElem?_toArray, List.getElem?_cons_succ, List.getElem?_cons_zero]; rfl)
                  case hq100 => exact fun _ _ _ h => h
                  case hy100 =>
                    first
                      | (refine Or.inl ⟨by rfl, ?_⟩; intro wq hSw; (try dsimp only at hSw); go_simp; (try with_reducible rfl); done)
                      | (refine Or.inr ⟨by rfl, ?_⟩; with_reducible rfl)
                  try simp only [Act.put, List.setIfInBounds_toArray, List.set_cons_zero, List.set_cons_succ]
                  refine wpAnyH_take (i := 8) (oi := ?o101) (v := ?v101) ?hi101 (by kernel_rfl) (by kernel_rfl) (by kernel_rfl) ?hq101 ?hy101 (by assumption) ?r101
                  case hi101 => (simp only [List.getElem?_toArray, List.getElem?_cons_succ, List.getElem?_cons_zero]; rfl)
                  case hq101 => exact fun _ _ _ h => h
                  case hy101 =>
                    first
                      | (refine Or.inl ⟨by rfl, ?_⟩; intro wq hSw; (try dsimp only at hSw); go_simp; (try with_reducible rfl); done)
                      | (refine Or.inr ⟨by rfl, ?_⟩; with_reducible rfl)
                  try simp only [Act.put, List.setIfInBounds_toArray, List.set_cons_zero, List.set_cons_succ]
                  refine wpAnyH_take (i := 9) (oi := ?o102) (v := ?v102) ?hi102 (by kernel_rfl) (by kernel_rfl) (by kernel_rfl) ?hq102 ?hy102 (by assumption) ?r102
                  case hi102 => (simp only [List.getElem?_toArray, List.getElem?_cons_succ, List.getElem?_cons_zero]; rfl)
                  case hq102 => exact fun _ _ _ h => h
                  case hy102 =>
                    first
                      | (refine Or.inl ⟨by rfl, ?_⟩; intro wq hSw; (try dsimp only at hSw); go_simp; (try with_reducible rfl); done)
                      | (refine Or.inr ⟨by rfl, ?_⟩; with_reducible rfl)
                  try simp only [Act.put, List.setIfInBounds_toArray, List.set_cons_zero, List.set_cons_succ]
                  refine wpAnyH_take (i := 10) (oi := ?o103) (v := ?v103) ?hi103 (by kernel_rfl) (by kernel_rfl) (by kernel_rfl) ?hq103 ?hy103 (by assumption) ?r103
                  case hi103 => (simp only [List.getElem?_toArray, List.getElem?_cons_succ, List.getElem?_cons_zero]; rfl)
                  case hq103 => exact fun _ _ _ h => h
                  case hy103 =>
                    first
                      | (refine Or.inl ⟨by rfl, ?_⟩; intro wq hSw; (try dsimp only at hSw); go_simp; (try with_reducible rfl); done)
                      | (refine Or.inr ⟨by rfl, ?_⟩; with_reducible rfl)
                  try simp only [Act.put, List.setIfInBounds_toArray, List.set_cons_zero, List.set_cons_succ]
                  refine wpAnyH_take (i := 11) (oi := ?o104) (v := ?v104) ?hi104 (by kernel_rfl) (by kernel_rfl) (by kernel_rfl) ?hq104 ?hy104 (by assumption) ?r104
                  case hi104 => (simp only [List.getElem?_toArray, List.getElem?_cons_succ, List.getElem?_cons_zero]; rfl)
                  case hq104 => exact fun _ _ _ h => h
                  case hy104 =>
                    first
                      | (refine Or.inl ⟨by rfl, ?_⟩; intro wq hSw; (try dsimp only at hSw); go_simp; (try with_reducible rfl); done)
                      | (refine Or.inr ⟨by rfl, ?_⟩; with_reducible rfl)
                  try simp only [Act.put, List.setIfInBounds_toArray, List.set_cons_zero, List.set_cons_succ]
                  refine wpAnyH_take (i := 12) (oi := ?o105) (v := ?v105) ?hi105 (by kernel_rfl) (by kernel_rfl) (by kernel_rfl) ?hq105 ?hy105 (by assumption) ?r105
                  case hi105 => (simp only [List.getElem?_toArray, List.getElem?_cons_succ, List.getElem?_cons_zero]; rfl)
                  case hq105 => exact fun _ _ _ h => h
                  case hy105 =>
                    first
                      | (refine Or.inl ⟨by rfl, ?_⟩; intro wq hSw; (try dsimp only at hSw); go_simp; (try with_reducible rfl); done)
                      | (refine Or.inr ⟨by rfl, ?_⟩; with_reducible rfl)
                  try simp only [Act.put, List.setIfInBounds_toArray, List.set_cons_zero, List.set_cons_succ]
                  refine wpAnyH_take (i := 13) (oi := ?o106) (v := ?v106) ?hi106 (by kernel_rfl) (by kernel_rfl) (by kernel_rfl) ?hq106 ?hy106 (by assumption) ?r106
                  case hi106 => (simp only [List.getElem?_toArray, List.getElem?_cons_succ, List.getElem?_cons_zero]; rfl)
                  case hq106 => exact fun _ _ _ h => h
                  case hy106 =>
                    first
                      | (refine Or.inl ⟨by rfl, ?_⟩; intro wq hSw; (try dsimp only at hSw); go_simp; (try with_reducible rfl); done)
                      | (refine Or.inr ⟨by rfl, ?_⟩; with_reducible rfl)
                  try simp only [Act.put, List.setIfInBounds_toArray, List.set_cons_zero, List.set_cons_succ]
                  refine wpAnyH_take (i := 14) (oi := ?o107) (v := ?v107) ?hi107 (by kernel_rfl) (by kernel_rfl) (by kernel_rfl) ?hq107 ?hy107 (by assumption) ?r107
                  case hi107 => (simp only [List.getElem?_toArray, List.getElem?_cons_succ, List.getElem?_cons_zero]; rfl)
                  case hq107 => exact fun _ _ _ h => h
                  case hy107 =>
                    first
                      | (refine Or.inl ⟨by rfl, ?_⟩; intro wq hSw; (try dsimp only at hSw); go_simp; (try with_reducible rfl); done)
                      | (refine Or.inr ⟨by rfl, ?_⟩; with_reducible rfl)
                  try simp only [Act.put, List.setIfInBounds_toArray, List.set_cons_zero, List.set_cons_succ]
                  refine wpAnyH_take (i := 15) (oi := ?o108) (v := ?v108) ?hi108 (by kernel_rfl) (by kernel_rfl) (by kernel_rfl) ?hq108 ?hy108 (by assumption) ?r108
                  case hi108 => (simp only [List.getElem?_toArray, List.getElem?_cons_succ, List.getElem?_cons_zero]; rfl)
                  case hq108 => exact fun _ _ _ h => h
                  case hy108 =>
                    first
                      | (refine Or.inl ⟨by rfl, ?_⟩; intro wq hSw; (try dsimp only at hSw); go_simp; (try with_reducible rfl); done)
                      | (refine Or.inr ⟨by rfl, ?_⟩; with_reducible rfl)
                  try simp only [Act.put, List.setIfInBounds_toArray, List.set_cons_zero, List.set_cons_succ]
                  refine wpAnyH_take (i := 16) (oi := ?o109) (v := ?v109) ?hi109 (by kernel_rfl) (by kernel_rfl) (by kernel_rfl) ?hq109 ?hy109 (by assumption) ?r109
                  case hi109 => (simp only [List.getElem?_toArray, List.getElem?_cons_succ, List.getElem?_cons_zero]; rfl)
                  case hq109 => exact fun _ _ _ h => h
                  case hy109 =>
                    first
                      | (refine Or.inl ⟨by rfl, ?_⟩; intro wq hSw; (try dsimp only at hSw); go_simp; (try with_reducible rfl); done)
                      | (refine Or.inr ⟨by rfl, ?_⟩; with_reducible rfl)
                  try simp only [Act.put, List.setIfInBounds_toArray, List.set_cons_zero, List.set_cons_succ]
                  refine wpAnyH_take (i := 17) (oi := ?o110) (v := ?v110) ?hi110 (by kernel_rfl) (by kernel_rfl) (by kernel_rfl) ?hq110 ?hy110 (by assumption) ?r110
                  case hi110 => (simp only [List.getElem?_toArray, List.getElem?_cons_succ, List.getElem?_cons_zero]; rfl)
                  case hq110 => exact fun _ _ _ h => h
                  case hy110 =>
                    first
                      | (refine Or.inl ⟨by rfl, ?_⟩; intro wq hSw; (try dsimp only at hSw); go_simp; (try with_reducible rfl); done)
                      | (refine Or.inr ⟨by rfl, ?_⟩; with_reducible rfl)
                  try simp only [Act.put, List.setIfInBounds_toArray, List.set_cons_zero, List.set_cons_succ]
                  refine wpAnyH_take (i := 18) (oi := ?o111) (v := ?v111) ?hi111 (by kernel_rfl) (by kernel_rfl) (by kernel_rfl) ?hq111 ?hy111 (by assumption) ?r111
                  case hi111 => (simp only [List.getElem?_toArray, List.getElem?_cons_succ, List.getElem?_cons_zero]; rfl)
                  case hq111 => exact fun _ _ _ h => h
                  case hy111 =>
                    first
                      | (refine Or.inl ⟨by rfl, ?_⟩; intro wq hSw; (try dsimp only at hSw); go_simp; (try with_reducible rfl); done)
                      | (refine Or.inr ⟨by rfl, ?_⟩; with_reducible rfl)
                  try simp only [Act.put, List.setIfInBounds_toArray, List.set_cons_zero, List.set_cons_succ]
                  refine wpAnyH_take (i := 19) (oi := ?o112) (v := ?v112) ?hi112 (by kernel_rfl) (by kernel_rfl) (by kernel_rfl) ?hq112 ?hy112 (by assumption) ?r112
                  case hi112 => (simp only [List.getElem?_toArray, List.getElem?_cons_succ, List.getElem?_cons_zero]; rfl)
                  case hq112 => exact fun _ _ _ h => h
                  case hy112 =>
                    first
                      | (refine Or.inl ⟨by rfl, ?_⟩; intro wq hSw; (try dsimp only at hSw); go_simp; (try with_reducible rfl); done)
                      | (refine Or.inr ⟨by rfl, ?_⟩; with_reducible rfl)
                  try simp only [Act.put, List.setIfInBounds_toArray, List.set_cons_zero, List.set_cons_succ]
                  refine wpAnyH_take (i := 20) (oi := ?o113) (v := ?v113) ?hi113 (by kernel_rfl) (by kernel_rfl) (by kernel_rfl) ?hq113 ?hy113 (by assumption) ?r113
                  case hi113 => (simp only [List.getElem?_toArray, List.getElem?_cons_succ, List.getElem?_cons_zero]; rfl)
                  case hq113 => exact fun _ _ _ h => h
                  case hy113 =>
                    first
                      | (refine Or.inl ⟨by rfl, ?_⟩; intro wq hSw; (try dsimp only at hSw); go_simp; (try with_reducible rfl); done)
                      | (refine Or.inr ⟨by rfl, ?_⟩; with_reducible rfl)
                  try simp only [Act.put, List.setIfInBounds_toArray, List.set_cons_zero, List.set_cons_succ]
                  refine wpAnyH_take (i := 21) (oi := ?o114) (v := ?v114) ?hi114 (by kernel_rfl) (by kernel_rfl) (by kernel_rfl) ?hq114 ?hy114 (by assumption) ?r114
                  case hi114 => (simp only [List.getElem?_toArray, List.getElem?_cons_succ, List.getElem?_cons_zero]; rfl)
                  case hq114 => exact fun _ _ _ h => h
                  case hy114 =>
                    first
                      | (refine Or.inl ⟨by rfl, ?_⟩; intro wq hSw; (try dsimp only at hSw); go_simp; (try with_reducible rfl); done)
                      | (refine Or.inr ⟨by rfl, ?_⟩; with_reducible rfl)
                  try simp only [Act.put, List.setIfInBounds_toArray, List.set_cons_zero, List.set_cons_succ]
                  refine wpAnyH_take (i := 22) (oi := ?o115) (v := ?v115) ?hi115 (by kernel_rfl) (by kernel_rfl) (by kernel_rfl) ?hq115 ?hy115 (by assumption) ?r115
                  case hi115 => (simp only [List.getElem?_toArray, List.getElem?_cons_succ, List.getElem?_cons_zero]; rfl)
                  case hq115 => exact fun _ _ _ h => h
                  case hy115 =>
                    first
                      | (refine Or.inl ⟨by rfl, ?_⟩; intro wq hSw; (try dsimp only at hSw); go_simp; (try with_reducible rfl); done)
                      | (refine Or.inr ⟨by rfl, ?_⟩; with_reducible rfl)
                  try simp only [Act.put, List.setIfInBounds_toArray, List.set_cons_zero, List.set_cons_succ]
                  refine wpAnyH_take (i := 23) (oi := ?o116) (v := ?v116) ?hi116 (by kernel_rfl) (by kernel_rfl) (by kernel_rfl) ?hq116 ?hy116 (by assumption) ?r116
                  case hi116 => (simp only [List.getElem?_toArray, List.getElem?_cons_succ, List.getElem?_cons_zero]; rfl)
                  case hq116 => exact fun _ _ _ h => h
                  case hy116 =>
                    first
                      | (refine Or.inl ⟨by rfl, ?_⟩; intro wq hSw; (try dsimp only at hSw); go_simp; (try with_reducible rfl); done)
                      | (refine Or.inr ⟨by rfl, ?_⟩; with_reducible rfl)
                  try simp only [Act.put, List.setIfInBounds_toArray, List.set_cons_zero, List.set_cons_succ]
                  refine wpAnyH_take (i := 24) (oi := ?o117) (v := ?v117) ?hi117 (by kernel_rfl) (by kernel_rfl) (by kernel_rfl) ?hq117 ?hy117 (by assumption) ?r117
                  case hi117 => (simp only [List.getElem?_toArray, List.getElem?_cons_succ, List.getElem?_cons_zero]; rfl)
                  case hq117 => exact fun _ _ _ h => h
                  case hy117 =>
                    first
                      | (refine Or.inl ⟨by rfl, ?_⟩; intro wq hSw; (try dsimp only at hSw); go_simp; (try with_reducible rfl); done)
                      | (refine Or.inr ⟨by rfl, ?_⟩; with_reducible rfl)
                  try simp only [Act.put, List.setIfInBounds_toArray, List.set_cons_zero, List.set_cons_succ]
                  refine wpAnyH_take (i := 25) (oi := ?o118) (v := ?v118) ?hi118 (by kernel_rfl) (by kernel_rfl) (by kernel_rfl) ?hq118 ?hy118 (by assumption) ?r118
                  case hi118 => (simp only [List.getElem?_toArray, List.getElem?_cons_succ, List.getElem?_cons_zero]; rfl)
                  case hq118 => exact fun _ _ _ h => h
                  case hy118 =>
                    first
                      | (refine Or.inl ⟨by rfl, ?_⟩; intro wq hSw; (try dsimp only at hSw); go_simp; (try with_reducible rfl); done)
                      | (refine Or.inr ⟨by rfl, ?_⟩; with_reducible rfl)
                  try simp only [Act.put, List.setIfInBounds_toArray, List.set_cons_zero, List.set_cons_succ]
                  refine wpAnyH_take (i := 26) (oi := ?o119) (v := ?v119) ?hi119 (by kernel_rfl) (by kernel_rfl) (by kernel_rfl) ?hq119 ?hy119 (by assumption) ?r119
                  case hi119 => (simp only [List.getElem?_toArray, List.getElem?_cons_succ, List.getElem?_cons_zero]; rfl)
                  case hq119 => exact fun _ _ _ h => h
                  case hy119 =>
                    first
                      | (refine Or.inl ⟨by rfl, ?_⟩; intro wq hSw; (try dsimp only at hSw); go_simp; (try with_reducible rfl); done)
                      | (refine Or.inr ⟨by rfl, ?_⟩; with_reducible rfl)
                  try simp only [Act.put, List.setIfInBounds_toArray, List.set_cons_zero, List.set_cons_succ]
                  refine wpAnyH_take (i := 27) (oi := ?o120) (v := ?v120) ?hi120 (by kernel_rfl) (by kernel_rfl) (by kernel_rfl) ?hq120 ?hy120 (by assumption) ?r120
                  case hi120 => (simp only [List.getElem?_toArray, List.getElem?_cons_succ, List.getElem?_cons_zero]; rfl)
                  case hq120 => exact fun _ _ _ h => h
                  case hy120 =>
                    first
                      | (refine Or.inl ⟨by rfl, ?_⟩; intro wq hSw; (try dsimp only at hSw); go_simp; (try with_reducible rfl); done)
                      | (refine Or.inr ⟨by rfl, ?_⟩; with_reducible rfl)
                  try simp only [Act.put, List.setIfInBounds_toArray, List.set_cons_zero, List.set_cons_succ]
                  refine wpAnyH_take (i := 28) (oi := ?o121) (v := ?v121) ?hi121 (by kernel_rfl) (by kernel_rfl) (by kernel_rfl) ?hq121 ?hy121 (by assumption) ?r121
                  case hi121 => (simp only [List.getElem?_toArray, List.getElem?_cons_succ, List.getElem?_cons_zero]; rfl)
                  case hq121 => exact fun _ _ _ h => h
                  case hy121 =>
                    first
                      | (refine Or.inl ⟨by rfl, ?_⟩; intro wq hSw; (try dsimp only at hSw); go_simp; (try with_reducible rfl); done)
                      | (refine Or.inr ⟨by rfl, ?_⟩; with_reducible rfl)
                  try simp only [Act.put, List.setIfInBounds_toArray, List.set_cons_zero, List.set_cons_succ]
                  refine wpAnyH_take (i := 29) (oi := ?o122) (v := ?v122) ?hi122 (by kernel_rfl) (by kernel_rfl) (by kernel_rfl) ?hq122 ?hy122 (by assumption) ?r122
                  case hi122 => (simp only [List.getElem?_toArray, List.getElem?_cons_succ, List.getElem?_cons_zero]; rfl)
                  case hq122 => exact fun _ _ _ h => h
                  case hy122 =>
                    first
                      | (refine Or.inl ⟨by rfl, ?_⟩; intro wq hSw; (try dsimp only at hSw); go_simp; (try with_reducible rfl); done)
                      | (refine Or.inr ⟨by rfl, ?_⟩; with_reducible rfl)
                  try simp only [Act.put, List.setIfInBounds_toArray, List.set_cons_zero, List.set_cons_succ]
                  refine wpAnyH_take (i := 30) (oi := ?o123) (v := ?v123) ?hi123 (by kernel_rfl) (by kernel_rfl) (by kernel_rfl) ?hq123 ?hy123 (by assumption) ?r123
                  case hi123 => (simp only [List.getElem?_toArray, List.getElem?_cons_succ, List.getElem?_cons_zero]; rfl)
                  case hq123 => exact fun _ _ _ h => h
                  case hy123 =>
                    first
                      | (refine Or.inl ⟨by rfl, ?_⟩; intro wq hSw; (try dsimp only at hSw); go_simp; (try with_reducible rfl); done)
                      | (refine Or.inr ⟨by rfl, ?_⟩; with_reducible rfl)
                  try simp only [Act.put, List.setIfInBounds_toArray, List.set_cons_zero, List.set_cons_succ]
                  refine wpAnyH_take (i := 31) (oi := ?o124) (v := ?v124) ?hi124 (by kernel_rfl) (by kernel_rfl) (by kernel_rfl) ?hq124 ?hy124 (by assumption) ?r124
                  case hi124 => (simp only [List.getElem?_toArray, List.getElem?_cons_succ, List.getElem?_cons_zero]; rfl)
                  case hq124 => exact fun _ _ _ h => h
                  case hy124 =>
                    first
                      | (refine Or.inl ⟨by rfl, ?_⟩; intro wq hSw; (try dsimp only at hSw); go_simp; (try with_reducible rfl); done)
                      | (refine Or.inr ⟨by rfl, ?_⟩; with_reducible rfl)
                  try simp only [Act.put, List.setIfInBounds_toArray, List.set_cons_zero, List.set_cons_succ]
                  refine wpAnyH_done (by kernel_rfl) ?_ _
                  go_wp2_with fail
                  go_meet
                  case rel => exact ⟨rfl, HD⟩
                · have hd2 : ¬ y3.toList = x3.toList := fun e => hd e.symm
                  have hd3 : (x3.toList == y3.toList) = false := by simpa using hd
                  have hd4 : (y3.toList == x3.toList) = false := by simpa using hd2
                  refine wp_region_held_drew (S := (fun w' => w'.cell? ⟨T, 0, none⟩ = some (.bool x0) ∧ w'.cell? ⟨T, 1, none⟩ = some (.int .i64 x1) ∧ w'.cell? ⟨T, 2, none⟩ = some (.int .i64 x2) ∧ w'.cell? ⟨T, 3, none⟩ = some (.string x3) ∧ w'.cell? ⟨T + 1, 0, none⟩ = some (.bool x0) ∧ w'.cell? ⟨T + 1, 1, none⟩ = some (.int .i64 x1) ∧ w'.cell? ⟨T + 1, 2, none⟩ = some (.int .i64 x2) ∧ w'.cell? ⟨T + 1, 3, none⟩ = some (.string y3) ∧ w'.cell? ⟨X, 0, none⟩ = some (.bool x0) ∧ w'.cell? ⟨X, 1, none⟩ = some (.int .i64 x1) ∧ w'.cell? ⟨X, 2, none⟩ = some (.int .i64 x2) ∧ w'.cell? ⟨X, 3, none⟩ = some (.string x3) ∧ w'.cell? ⟨X + 1, 0, none⟩ = some (.bool x0) ∧ w'.cell? ⟨X + 1, 1, none⟩ = some (.int .i64 x1) ∧ w'.cell? ⟨X + 1, 2, none⟩ = some (.int .i64 x2) ∧ w'.cell? ⟨X + 1, 3, none⟩ = some (.string y3))) (by kernel_rfl) (KS.out _ HD.out) (fun hHeld => ?_)
                  refine wpAnyH_take (i := 0) (oi := ?o125) (v := ?v125) ?hi125 (by kernel_rfl) (by kernel_rfl) (by kernel_rfl) ?hq125 ?hy125 (by assumption) ?r125
                  case hi125 => (simp only [List.getElem?_toArray, List.getElem?_cons_succ, List.getElem?_cons_zero]; rfl)
                  case hq125 => exact fun _ _ _ h => h
                  case hy125 =>
                    first
                      | (refine Or.inl ⟨by rfl, ?_⟩; intro wq hSw; (try dsimp only at hSw); go_simp; (try with_reducible rfl); done)
                      | (refine Or.inr ⟨by rfl, ?_⟩; with_reducible rfl)
                  try simp only [Act.put, List.setIfInBounds_toArray, List.set_cons_zero, List.set_cons_succ]
                  refine wpAnyH_take (i := 1) (oi := ?o126) (v := ?v126) ?hi126 (by kernel_rfl) (by kernel_rfl) (by kernel_rfl) ?hq126 ?hy126 (by assumption) ?r126
                  case hi126 => (simp only [List.getElem?_toArray, List.getElem?_cons_succ, List.getElem?_cons_zero]; rfl)
                  case hq126 => exact fun _ _ _ h => h
                  case hy126 =>
                    first
                      | (refine Or.inl ⟨by rfl, ?_⟩; intro wq hSw; (try dsimp only at hSw); go_simp; (try with_reducible rfl); done)
                      | (refine Or.inr ⟨by rfl, ?_⟩; with_reducible rfl)
                  try simp only [Act.put, List.setIfInBounds_toArray, List.set_cons_zero, List.set_cons_succ]
                  refine wpAnyH_ready (rs := [2]) (by kernel_rfl) (by simp) ?_
                  refine AllReadyH.cons (by simp only [List.getElem?_toArray, List.getElem?_cons_succ, List.getElem?_cons_zero]; rfl) (fun K hK => ?_) AllReadyH.nil
                  go_simp
                  go_at_call 18
                  refine (AQP.out _).mono ?_
                  rintro e wn ⟨rfl, hb⟩
                  replace HD := Lib.hid (below_seq HD.out hb)
                  clear hb AQP
                  refine hK.out _ _ (KS.out _ HD.out) (fun hHeld2 => ?_)
                  clear hK K hHeld
                  try simp only [Act.put, List.setIfInBounds_toArray, List.set_cons_zero, List.set_cons_succ]
                  refine wpAnyH_take (i := 3) (oi := ?o127) (v := ?v127) ?hi127 (by kernel_rfl) (by kernel_rfl) (by kernel_rfl) ?hq127 ?hy127 (by assumption) ?r127
                  case hi127 => (simp only [List.getElem?_toArray, List.getElem?_cons_succ, List.getElem?_cons_zero]; rfl)
                  case hq127 => exact fun _ _ _ h => h
                  case hy127 =>
                    first
                      | (refine Or.inl ⟨by rfl, ?_⟩; intro wq hSw; (try dsimp only at hSw); go_simp; (try with_reducible rfl); done)
                      | (refine Or.inr ⟨by rfl, ?_⟩; with_reducible rfl)
                  try simp only [Act.put, List.setIfInBounds_toArray, List.set_cons_zero, List.set_cons_succ]
                  refine wpAnyH_take (i := 4) (oi := ?o128) (v := ?v128) ?hi128 (by kernel_rfl) (by kernel_rfl) (by kernel_rfl) ?hq128 ?hy128 (by assumption) ?r128
                  case hi128 => (simp only [List.getElem?_toArray, List.getElem?_cons_succ, List.getElem?_cons_zero]; rfl)
                  case hq128 => exact fun _ _ _ h => h
                  case hy128 =>
                    first
                      | (refine Or.inl ⟨by rfl, ?_⟩; intro wq hSw; (try dsimp only at hSw); go_simp; (try with_reducible rfl); done)
                      | (refine Or.inr ⟨by rfl, ?_⟩; with_reducible rfl)
                  try simp only [Act.put, List.setIfInBounds_toArray, List.set_cons_zero, List.set_cons_succ]
                  refine wpAnyH_take (i := 5) (oi := ?o129) (v := ?v129) ?hi129 (by kernel_rfl) (by kernel_rfl) (by kernel_rfl) ?hq129 ?hy129 (by assumption) ?r129
                  case hi129 => (simp only [List.getElem?_toArray, List.getElem?_cons_succ, List.getElem?_cons_zero]; rfl)
                  case hq129 => exact fun _ _ _ h => h
                  case hy129 =>
                    first
                      | (refine Or.inl ⟨by rfl, ?_⟩; intro wq hSw; (try dsimp only at hSw); go_simp; (try with_reducible rfl); done)
                      | (refine Or.inr ⟨by rfl, ?_⟩; with_reducible rfl)
                  try simp only [Act.put, List.setIfInBounds_toArray, List.set_cons_zero, List.set_cons_succ]
                  refine wpAnyH_take (i := 6) (oi := ?o130) (v := ?v130) ?hi130 (by kernel_rfl) (by kernel_rfl) (by kernel_rfl) ?hq130 ?hy130 (by assumption) ?r130
                  case hi130 => (simp only [List.getElem?_toArray, List.getElem?_cons_succ, List.getElem?_cons_zero]; rfl)
                  case hq130 => exact fun _ _ _ h => h
                  case hy130 =>
                    first
                      | (refine Or.inl ⟨by rfl, ?_⟩; intro wq hSw; (try dsimp only at hSw); go_simp; (try with_reducible rfl); done)
                      | (refine Or.inr ⟨by rfl, ?_⟩; with_reducible rfl)
                  try simp only [Act.put, List.setIfInBounds_toArray, List.set_cons_zero, List.set_cons_succ]
                  refine wpAnyH_take (i := 7) (oi := ?o131) (v := ?v131) ?hi131 (by kernel_rfl) (by kernel_rfl) (by kernel_rfl) ?hq131 ?hy131 (by assumption) ?r131
                  case hi131 => (simp only [List.getElem?_toArray, List.getElem?_cons_succ, List.getElem?_cons_zero]; rfl)
                  case hq131 => exact fun _ _ _ h => h
                  case hy131 =>
                    first
                      | (refine Or.inl ⟨by rfl, ?_⟩; intro wq hSw; (try dsimp only at hSw); go_simp; (try with_reducible rfl); done)
                      | (refine Or.inr ⟨by rfl, ?_⟩; with_reducible rfl)
                  try simp only [Act.put, List.setIfInBounds_toArray, List.set_cons_zero, List.set_cons_succ]
                  refine wpAnyH_take (i := 8) (oi := ?o132) (v := ?v132) ?hi132 (by kernel_rfl) (by kernel_rfl) (by kernel_rfl) ?hq132 ?hy132 (by assumption) ?r132
                  case hi132 => (simp only [List.getElem?_toArray, List.getElem?_cons_succ, List.getElem?_cons_zero]; rfl)
                  case hq132 => exact fun _ _ _ h => h
                  case hy132 =>
                    first
                      | (refine Or.inl ⟨by rfl, ?_⟩; intro wq hSw; (try dsimp only at hSw); go_simp; (try with_reducible rfl); done)
                      | (refine Or.inr ⟨by rfl, ?_⟩; with_reducible rfl)
                  try simp only [Act.put, List.setIfInBounds_toArray, List.set_cons_zero, List.set_cons_succ]
                  refine wpAnyH_take (i := 9) (oi := ?o133) (v := ?v133) ?hi133 (by kernel_rfl) (by kernel_rfl) (by kernel_rfl) ?hq133 ?hy133 (by assumption) ?r133
                  case hi133 => (simp only [List.getElem?_toArray, List.getElem?_cons_succ, List.getElem?_cons_zero]; rfl)
                  case hq133 => exact fun _ _ _ h => h
                  case hy133 =>
                    first
                      | (refine Or.inl ⟨by rfl, ?_⟩; intro wq hSw; (try dsimp only at hSw); go_simp; (try with_reducible rfl); done)
                      | (refine Or.inr ⟨by rfl, ?_⟩; with_reducible rfl)
                  try simp only [Act.put, List.setIfInBounds_toArray, List.set_cons_zero, List.set_cons_succ]
                  refine wpAnyH_take (i := 10) (oi := ?o134) (v := ?v134) ?hi134 (by kernel_rfl) (by kernel_rfl) (by kernel_rfl) ?hq134 ?hy134 (by assumption) ?r134
                  case hi134 => (simp only [List.getElem?_toArray, List.getElem?_cons_succ, List.getElem?_cons_zero]; rfl)
                  case hq134 => exact fun _ _ _ h => h
                  case hy134 =>
                    first
                      | (refine Or.inl ⟨by rfl, ?_⟩; intro wq hSw; (try dsimp only at hSw); go_simp; (try with_reducible rfl); done)
                      | (refine Or.inr ⟨by rfl, ?_⟩; with_reducible rfl)
                  try simp only [Act.put, List.setIfInBounds_toArray, List.set_cons_zero, List.set_cons_succ]
                  refine wpAnyH_take (i := 11) (oi := ?o135) (v := ?v135) ?hi135 (by kernel_rfl) (by kernel_rfl) (by kernel_rfl) ?hq135 ?hy135 (by assumption) ?r135
                  case hi135 => (simp only [List.getElem?_toArray, List.getElem?_cons_succ, List.getElem?_cons_zero]; rfl)
                  case hq135 => exact fun _ _ _ h => h
                  case hy135 =>
                    first
                      | (refine Or.inl ⟨by rfl, ?_⟩; intro wq hSw; (try dsimp only at hSw); go_simp; (try with_reducible rfl); done)
                      | (refine Or.inr ⟨by rfl, ?_⟩; with_reducible rfl)
                  try simp only [Act.put, List.setIfInBounds_toArray, List.set_cons_zero, List.set_cons_succ]
                  refine wpAnyH_take (i := 12) (oi := ?o136) (v := ?v136) ?hi136 (by kernel_rfl) (by kernel_rfl) (by kernel_rfl) ?hq136 ?hy136 (by assumption) ?r136
                  case hi136 => (simp only [List.getElem?_toArray, List.getElem?_cons_succ, List.getElem?_cons_zero]; rfl)
                  case hq136 => exact fun _ _ _ h => h
                  case hy136 =>
                    first
                      | (refine Or.inl ⟨by rfl, ?_⟩; intro wq hSw; (try dsimp only at hSw); go_simp; (try with_reducible rfl); done)
                      | (refine Or.inr ⟨by rfl, ?_⟩; with_reducible rfl)
                  try simp only [Act.put, List.setIfInBounds_toArray, List.set_cons_zero, List.set_cons_succ]
                  refine wpAnyH_take (i := 13) (oi := ?o137) (v := ?v137) ?hi137 (by kernel_rfl) (by kernel_rfl) (by kernel_rfl) ?hq137 ?hy137 (by assumption) ?r137
                  case hi137 => (simp only [List.getElem?_toArray, List.getElem?_cons_succ, List.getElem?_cons_zero]; rfl)
                  case hq137 => exact fun _ _ _ h => h
                  case hy137 =>
                    first
                      | (refine Or.inl ⟨by rfl, ?_⟩; intro wq hSw; (try dsimp only at hSw); go_simp; (try with_reducible rfl); done)
                      | (refine Or.inr ⟨by rfl, ?_⟩; with_reducible rfl)
                  try simp only [Act.put, List.setIfInBounds_toArray, List.set_cons_zero, List.set_cons_succ]
                  refine wpAnyH_take (i := 14) (oi := ?o138) (v := ?v138) ?hi138 (by kernel_rfl) (by kernel_rfl) (by kernel_rfl) ?hq138 ?hy138 (by assumption) ?r138
                  case hi138 => (simp only [List.getElem?_toArray, List.getElem?_cons_succ, List.getElem?_cons_zero]; rfl)
                  case hq138 => exact fun _ _ _ h => h
                  case hy138 =>
                    first
                      | (refine Or.inl ⟨by rfl, ?_⟩; intro wq hSw; (try dsimp only at hSw); go_simp; (try with_reducible rfl); done)
                      | (refine Or.inr ⟨by rfl, ?_⟩; with_reducible rfl)
                  try simp only [Act.put, List.setIfInBounds_toArray, List.set_cons_zero, List.set_cons_succ]
                  refine wpAnyH_take (i := 15) (oi := ?o139) (v := ?v139) ?hi139 (by kernel_rfl) (by kernel_rfl) (by kernel_rfl) ?hq139 ?hy139 (by assumption) ?r139
                  case hi139 => (simp only [List.getElem?_toArray, List.getElem?_cons_succ, List.getElem?_cons_zero]; rfl)
                  case hq139 => exact fun _ _ _ h => h
                  case hy139 =>
                    first
                      | (refine Or.inl ⟨by rfl, ?_⟩; intro wq hSw; (try dsimp only at hSw); go_simp; (try with_reducible rfl); done)
                      | (refine Or.inr ⟨by rfl, ?_⟩; with_reducible rfl)
                  try simp only [Act.put, List.setIfInBounds_toArray, List.set_cons_zero, List.set_cons_succ]
                  refine wpAnyH_take (i := 16) (oi := ?o140) (v := ?v140) ?hi140 (by kernel_rfl) (by kernel_rfl) (by kernel_rfl) ?hq140 ?hy140 (by assumption) ?r140
                  case hi140 => (simp only [List.getElem?_toArray, List.getElem?_cons_succ, List.getElem?_cons_zero]; rfl)
                  case hq140 => exact fun _ _ _ h => h
                  case hy140 =>
                    first
                      | (refine Or.inl ⟨by rfl, ?_⟩; intro wq hSw; (try dsimp only at hSw); go_simp; (try with_reducible rfl); done)
                      | (refine Or.inr ⟨by rfl, ?_⟩; with_reducible rfl)
                  try simp only [Act.put, List.setIfInBounds_toArray, List.set_cons_zero, List.set_cons_succ]
                  refine wpAnyH_take (i := 17) (oi := ?o141) (v := ?v141) ?hi141 (by kernel_rfl) (by kernel_rfl) (by kernel_rfl) ?hq141 ?hy141 (by assumption) ?r141
                  case hi141 => (simp only [List.getElem?_toArray, List.getElem?_cons_succ, List.getElem?_cons_zero]; rfl)
                  case hq141 => exact fun _ _ _ h => h
                  case hy141 =>
                    first
                      | (refine Or.inl ⟨by rfl, ?_⟩; intro wq hSw; (try dsimp only at hSw); go_simp; (try with_reducible rfl); done)
                      | (refine Or.inr ⟨by rfl, ?_⟩; with_reducible rfl)
                  try simp only [Act.put, List.setIfInBounds_toArray, List.set_cons_zero, List.set_cons_succ]
                  refine wpAnyH_take (i := 18) (oi := ?o142) (v := ?v142) ?hi142 (by kernel_rfl) (by kernel_rfl) (by kernel_rfl) ?hq142 ?hy142 (by assumption) ?r142
                  case hi142 => (simp only [List.getElem?_toArray, List.getElem?_cons_succ, List.getElem?_cons_zero]; rfl)
                  case hq142 => exact fun _ _ _ h => h
                  case hy142 =>
                    first
                      | (refine Or.inl ⟨by rfl, ?_⟩; intro wq hSw; (try dsimp only at hSw); go_simp; (try with_reducible rfl); done)
                      | (refine Or.inr ⟨by rfl, ?_⟩; with_reducible rfl)
                  try simp only [Act.put, List.setIfInBounds_toArray, List.set_cons_zero, List.set_cons_succ]
                  refine wpAnyH_take (i := 19) (oi := ?o143) (v := ?v143) ?hi143 (by kernel_rfl) (by kernel_rfl) (by kernel_rfl) ?hq143 ?hy143 (by assumption) ?r143
                  case hi143 => (simp only [List.getElem?_toArray, List.getElem?_cons_succ, List.getElem?_cons_zero]; rfl)
                  case hq143 => exact fun _ _ _ h => h
                  case hy143 =>
                    first
                      | (refine Or.inl ⟨by rfl, ?_⟩; intro wq hSw; (try dsimp only at hSw); go_simp; (try with_reducible rfl); done)
                      | (refine Or.inr ⟨by rfl, ?_⟩; with_reducible rfl)
                  try simp only [Act.put, List.setIfInBounds_toArray, List.set_cons_zero, List.set_cons_succ]
                  refine wpAnyH_take (i := 20) (oi := ?o144) (v := ?v144) ?hi144 (by kernel_rfl) (by kernel_rfl) (by kernel_rfl) ?hq144 ?hy144 (by assumption) ?r144
                  case hi144 => (simp only [List.getElem?_toArray, List.getElem?_cons_succ, List.getElem?_cons_zero]; rfl)
                  case hq144 => exact fun _ _ _ h => h
                  case hy144 =>
                    first
                      | (refine Or.inl ⟨by rfl, ?_⟩; intro wq hSw; (try dsimp only at hSw); go_simp; (try with_reducible rfl); done)
                      | (refine Or.inr ⟨by rfl, ?_⟩; with_reducible rfl)
                  try simp only [Act.put, List.setIfInBounds_toArray, List.set_cons_zero, List.set_cons_succ]
                  refine wpAnyH_take (i := 21) (oi := ?o145) (v := ?v145) ?hi145 (by kernel_rfl) (by kernel_rfl) (by kernel_rfl) ?hq145 ?hy145 (by assumption) ?r145
                  case hi145 => (simp only [List.getElem?_toArray, List.getElem?_cons_succ, List.getElem?_cons_zero]; rfl)
                  case hq145 => exact fun _ _ _ h => h
                  case hy145 =>
                    first
                      | (refine Or.inl ⟨by rfl, ?_⟩; intro wq hSw; (try dsimp only at hSw); go_simp; (try with_reducible rfl); done)
                      | (refine Or.inr ⟨by rfl, ?_⟩; with_reducible rfl)
                  try simp only [Act.put, List.setIfInBounds_toArray, List.set_cons_zero, List.set_cons_succ]
                  refine wpAnyH_take (i := 22) (oi := ?o146) (v := ?v146) ?hi146 (by kernel_rfl) (by kernel_rfl) (by kernel_rfl) ?hq146 ?hy146 (by assumption) ?r146
                  case hi146 => (simp only [List.getElem?_toArray, List.getElem?_cons_succ, List.getElem?_cons_zero]; rfl)
                  case hq146 => exact fun _ _ _ h => h
                  case hy146 =>
                    first
                      | (refine Or.inl ⟨by rfl, ?_⟩; intro wq hSw; (try dsimp only at hSw); go_simp; (try with_reducible rfl); done)
                      | (refine Or.inr ⟨by rfl, ?_⟩; with_reducible rfl)
                  try simp only [Act.put, List.setIfInBounds_toArray, List.set_cons_zero, List.set_cons_succ]
                  refine wpAnyH_take (i := 23) (oi := ?o147) (v := ?v147) ?hi147 (by kernel_rfl) (by kernel_rfl) (by kernel_rfl) ?hq147 ?hy147 (by assumption) ?r147
                  case hi147 => (simp only [List.getElem?_toArray, List.getElem?_cons_succ, List.getElem?_cons_zero]; rfl)
                  case hq147 => exact fun _ _ _ h => h
                  case hy147 =>
                    first
                      | (refine Or.inl ⟨by rfl, ?_⟩; intro wq hSw; (try dsimp only at hSw); go_simp; (try with_reducible rfl); done)
                      | (refine Or.inr ⟨by rfl, ?_⟩; with_reducible rfl)
                  try simp only [Act.put, List.setIfInBounds_toArray, List.set_cons_zero, List.set_cons_succ]
                  refine wpAnyH_take (i := 24) (oi := ?o148) (v := ?v148) ?hi148 (by kernel_rfl) (by kernel_rfl) (by kernel_rfl) ?hq148 ?hy148 (by assumption) ?r148
                  case hi148 => (simp only [List.getElem?_toArray, List.getElem?_cons_succ, List.getElem?_cons_zero]; rfl)
                  case hq148 => exact fun _ _ _ h => h
                  case hy148 =>
                    first
                      | (refine Or.inl ⟨by rfl, ?_⟩; intro wq hSw; (try dsimp only at hSw); go_simp; (try with_reducible rfl); done)
                      | (refine Or.inr ⟨by rfl, ?_⟩; with_reducible rfl)
                  try simp only [Act.put, List.setIfInBounds_toArray, List.set_cons_zero, List.set_cons_succ]
                  refine wpAnyH_take (i := 25) (oi := ?o149) (v := ?v149) ?hi149 (by kernel_rfl) (by kernel_rfl) (by kernel_rfl) ?hq149 ?hy149 (by assumption) ?r149
                  case hi149 => (simp only [List.getElem?_toArray, List.getElem?_cons_succ, List.getElem?_cons_zero]; rfl)
                  case hq149 => exact fun _ _ _ h => h
                  case hy149 =>
                    first
                      | (refine Or.inl ⟨by rfl, ?_⟩; intro wq hSw; (try dsimp only at hSw); go_simp; (try with_reducible rfl); done)
                      | (refine Or.inr ⟨by rfl, ?_⟩; with_reducible rfl)
                  try simp only [Act.put, List.setIfInBounds_toArray, List.set_cons_zero, List.set_cons_succ]
                  refine wpAnyH_take (i := 26) (oi := ?o150) (v := ?v150) ?hi150 (by kernel_rfl) (by kernel_rfl) (by kernel_rfl) ?hq150 ?hy150 (by assumption) ?r150
                  case hi150 => (simp only [List.getElem?_toArray, List.getElem?_cons_succ, List.getElem?_cons_zero]; rfl)
                  case hq150 => exact fun _ _ _ h => h
                  case hy150 =>
                    first
                      | (refine Or.inl ⟨by rfl, ?_⟩; intro wq hSw; (try dsimp only at hSw); go_simp; (try with_reducible rfl); done)
                      | (refine Or.inr ⟨by rfl, ?_⟩; with_reducible rfl)
                  try simp only [Act.put, List.setIfInBounds_toArray, List.set_cons_zero, List.set_cons_succ]
                  refine wpAnyH_take (i := 27) (oi := ?o151) (v := ?v151) ?hi151 (by kernel_rfl) (by kernel_rfl) (by kernel_rfl) ?hq151 ?hy151 (by assumption) ?r151
                  case hi151 => (simp only [List.getElem?_toArray, List.getElem?_cons_succ, List.getElem?_cons_zero]; rfl)
                  case hq151 => exact fun _ _ _ h => h
                  case hy151 =>
                    first
                      | (refine Or.inl ⟨by rfl, ?_⟩; intro wq hSw; (try dsimp only at hSw); go_simp; (try with_reducible rfl); done)
                      | (refine Or.inr ⟨by rfl, ?_⟩; with_reducible rfl)
                  try simp only [Act.put, List.setIfInBounds_toArray, List.set_cons_zero, List.set_cons_succ]
                  refine wpAnyH_take (i := 28) (oi := ?o152) (v := ?v152) ?hi152 (by kernel_rfl) (by kernel_rfl) (by kernel_rfl) ?hq152 ?hy152 (by assumption) ?r152
                  case hi152 => (simp only [List.getElem?_toArray, List.getElem?_cons_succ, List.getElem?_cons_zero]; rfl)
                  case hq152 => exact fun _ _ _ h => h
                  case hy152 =>
                    first
                      | (refine Or.inl ⟨by rfl, ?_⟩; intro wq hSw; (try dsimp only at hSw); go_simp; (try with_reducible rfl); done)
                      | (refine Or.inr ⟨by rfl, ?_⟩; with_reducible rfl)
                  try simp only [Act.put, List.setIfInBounds_toArray, List.set_cons_zero, List.set_cons_succ]
                  refine wpAnyH_take (i := 29) (oi := ?o153) (v := ?v153) ?hi153 (by kernel_rfl) (by kernel_rfl) (by kernel_rfl) ?hq153 ?hy153 (by assumption) ?r153
                  case hi153 => (simp only [List.getElem?_toArray, List.getElem?_cons_succ, List.getElem?_cons_zero]; rfl)
                  case hq153 => exact fun _ _ _ h => h
                  case hy153 =>
                    first
                      | (refine Or.inl ⟨by rfl, ?_⟩; intro wq hSw; (try dsimp only at hSw); go_simp; (try with_reducible rfl); done)
                      | (refine Or.inr ⟨by rfl, ?_⟩; with_reducible rfl)
                  try simp only [Act.put, List.setIfInBounds_toArray, List.set_cons_zero, List.set_cons_succ]
                  refine wpAnyH_take (i := 30) (oi := ?o154) (v := ?v154) ?hi154 (by kernel_rfl) (by kernel_rfl) (by kernel_rfl) ?hq154 ?hy154 (by assumption) ?r154
                  case hi154 => (simp only [List.getElem?_toArray, List.getElem?_cons_succ, List.getElem?_cons_zero]; rfl)
                  case hq154 => exact fun _ _ _ h => h
                  case hy154 =>
                    first
                      | (refine Or.inl ⟨by rfl, ?_⟩; intro wq hSw; (try dsimp only at hSw); go_simp; (try with_reducible rfl); done)
                      | (refine Or.inr ⟨by rfl, ?_⟩; with_reducible rfl)
                  try simp only [Act.put, List.setIfInBounds_toArray, List.set_cons_zero, List.set_cons_succ]
                  refine wpAnyH_take (i := 31) (oi := ?o155) (v := ?v155) ?hi155 (by kernel_rfl) (by kernel_rfl) (by kernel_rfl) ?hq155 ?hy155 (by assumption) ?r155
                  case hi155 => (simp only [List.getElem?_toArray, List.getElem?_cons_succ, List.getElem?_cons_zero]; rfl)
                  case hq155 => exact fun _ _ _ h => h
                  case hy155 =>
                    first
                      | (refine Or.inl ⟨by rfl, ?_⟩; intro wq hSw; (try dsimp only at hSw); go_simp; (try with_reducible rfl); done)
                      | (refine Or.inr ⟨by rfl, ?_⟩; with_reducible rfl)
                  try simp only [Act.put, List.setIfInBounds_toArray, List.set_cons_zero, List.set_cons_succ]
                  refine wpAnyH_done (by kernel_rfl) ?_ _
                  go_wp2_with fail
                  go_meet
                  case rel => exact ⟨rfl, HD⟩
              · exact absurd k (by decide)
            · simp only [RecM.mk.injEq] at TT KS AQP
              rcases TT with ⟨⟨rfl, rfl, rfl, rfl⟩, rfl, rfl⟩ | ⟨hd, rfl, rfl⟩ | ⟨hd, rfl, rfl⟩
              · exact absurd k (by decide)
              · exact absurd k (by decide)
              · rcases hd with hd | ⟨rfl, hd⟩ | ⟨rfl, rfl, hd⟩ | ⟨rfl, rfl, rfl, hd⟩
                · have hd2 : ¬ y0 = x0 := fun e => hd e.symm
                  have hd3 : (x0 == y0) = false := by simpa using hd
                  have hd4 : (y0 == x0) = false := by simpa using hd2
                  refine wp_region_held_drew (S := (fun w' => w'.cell? ⟨T, 0, none⟩ = some (.bool x0) ∧ w'.cell? ⟨T, 1, none⟩ = some (.int .i64 x1) ∧ w'.cell? ⟨T, 2, none⟩ = some (.int .i64 x2) ∧ w'.cell? ⟨T, 3, none⟩ = some (.string x3) ∧ w'.cell? ⟨T + 1, 0, none⟩ = some (.bool y0) ∧ w'.cell? ⟨T + 1, 1, none⟩ = some (.int .i64 y1) ∧ w'.cell? ⟨T + 1, 2, none⟩ = some (.int .i64 y2) ∧ w'.cell? ⟨T + 1, 3, none⟩ = some (.string y3) ∧ w'.cell? ⟨X, 0, none⟩ = some (.bool y0) ∧ w'.cell? ⟨X, 1, none⟩ = some (.int .i64 y1) ∧ w'.cell? ⟨X, 2, none⟩ = some (.int .i64 y2) ∧ w'.cell? ⟨X, 3, none⟩ = some (.string y3) ∧ w'.cell? ⟨X + 1, 0, none⟩ = some (.bool x0) ∧ w'.cell? ⟨X + 1, 1, none⟩ = some (.int .i64 x1) ∧ w'.cell? ⟨X + 1, 2, none⟩ = some (.int .i64 x2) ∧ w'.cell? ⟨X + 1, 3, none⟩ = some (.string x3))) (by kernel_rfl) (KS.out _ HD.out) (fun hHeld => ?_)
                  refine wpAnyH_take (i := 0) (oi := ?o156) (v := ?v156) ?hi156 (by kernel_rfl) (by kernel_rfl) (by kernel_rfl) ?hq156 ?hy156 (by assumption) ?r156
                  case hi156 => (simp only [List.getElem?_toArray, List.getElem?_cons_succ, List.getElem?_cons_zero]; rfl)
                  case hq156 => exact fun _ _ _ h => h
                  case hy156 =>
                    first
                      | (refine Or.inl ⟨by rfl, ?_⟩; intro wq hSw; (try dsimp only at hSw); go_simp; (try with_reducible rfl); done)
                      | (refine Or.inr ⟨by rfl, ?_⟩; with_reducible rfl)
                  try simp only [Act.put, List.setIfInBounds_toArray, List.set_cons_zero, List.set_cons_succ]
                  refine wpAnyH_take (i := 1) (oi := ?o157) (v := ?v157) ?hi157 (by kernel_rfl) (by kernel_rfl) (by kernel_rfl) ?hq157 ?hy157 (by assumption) ?r157
                  case hi157 => (simp only [List.getElem?_toArray, List.getElem?_cons_succ, List.getElem?_cons_zero]; rfl)
                  case hq157 => exact fun _ _ _ h => h
                  case hy157 =>
                    first
                      | (refine Or.inl ⟨by rfl, ?_⟩; intro wq hSw; (try dsimp only at hSw); go_simp; (try with_reducible rfl); done)
                      | (refine Or.inr ⟨by rfl, ?_⟩; with_reducible rfl)
                  try simp only [Act.put, List.setIfInBounds_toArray, List.set_cons_zero, List.set_cons_succ]
                  refine wpAnyH_ready (rs := [2]) (by kernel_rfl) (by simp) ?_
                  refine AllReadyH.cons (by simp only [List.getElem?_toArray, List.getElem?_cons_succ, List.getElem?_cons_zero]; rfl) (fun K hK => ?_) AllReadyH.nil
                  go_simp
                  go_at_call 18
                  refine (AQP.out _).mono ?_
                  rintro e wn ⟨rfl, hb⟩
                  replace HD := Lib.hid (below_seq HD.out hb)
                  clear hb AQP
                  refine hK.out _ _ (KS.out _ HD.out) (fun hHeld2 => ?_)
                  clear hK K hHeld
                  try simp only [Act.put, List.setIfInBounds_toArray, List.set_cons_zero, List.set_cons_succ]
                  refine wpAnyH_take (i := 3) (oi := ?o158) (v := ?v158) ?hi158 (by kernel_rfl) (by kernel_rfl) (by kernel_rfl) ?hq158 ?hy158 (by assumption) ?r158
                  case hi158 => (simp only [List.getElem?_toArray, List.getElem?_cons_succ, List.getElem?_cons_zero]; rfl)
                  case hq158 => exact fun _ _ _ h => h
                  case hy158 =>
                    first
                      | (refine Or.inl ⟨by rfl, ?_⟩; intro wq hSw; (try dsimp only at hSw); go_simp; (try with_reducible rfl); done)
                      | (refine Or.inr ⟨by rfl, ?_⟩; with_reducible rfl)
                  try simp only [Act.put, List.setIfInBounds_toArray, List.set_cons_zero, List.set_cons_succ]
                  refine wpAnyH_take (i := 4) (oi := ?o159) (v := ?v159) ?hi159 (by kernel_rfl) (by kernel_rfl) (by kernel_rfl) ?hq159 ?hy159 (by assumption) ?r159
                  case hi159 => (simp only [List.getElem?_toArray, List.getElem?_cons_succ, List.getElem?_cons_zero]; rfl)
                  case hq159 => exact fun _ _ _ h => h
                  case hy159 =>
                    first
                      | (refine Or.inl ⟨by rfl, ?_⟩; intro wq hSw; (try dsimp only at hSw); go_simp; (try with_reducible rfl); done)
                      | (refine Or.inr ⟨by rfl, ?_⟩; with_reducible rfl)
                  try simp only [Act.put, List.setIfInBounds_toArray, List.set_cons_zero, List.set_cons_succ]
                  refine wpAnyH_take (i := 5) (oi := ?o160) (v := ?v160) ?hi160 (by kernel_rfl) (by kernel_rfl) (by kernel_rfl) ?hq160 ?hy160 (by assumption) ?r160
                  case hi160 => (simp only [List.getElem?_toArray, List.getElem?_cons_succ, List.getElem?_cons_zero]; rfl)
                  case hq160 => exact fun _ _ _ h => h
                  case hy160 =>
                    first
                      | (refine Or.inl ⟨by rfl, ?_⟩; intro wq hSw; (try dsimp only at hSw); go_simp; (try with_reducible rfl); done)
                      | (refine Or.inr ⟨by rfl, ?_⟩; with_reducible rfl)
                  try simp only [Act.put, List.setIfInBounds_toArray, List.set_cons_zero, List.set_cons_succ]
                  refine wpAnyH_take (i := 6) (oi := ?o161) (v := ?v161) ?hi161 (by kernel_rfl) (by kernel_rfl) (by kernel_rfl) ?hq161 ?hy161 (by assumption) ?r161
                  case hi161 => (simp only [List.getElem?_toArray, List.getElem?_cons_succ, List.getElem?_cons_zero]; rfl)
                  case hq161 => exact fun _ _ _ h => h
                  case hy161 =>
                    first
                      | (refine Or.inl ⟨by rfl, ?_⟩; intro wq hSw; (try dsimp only at hSw); go_simp; (try with_reducible rfl); done)
                      | (refine Or.inr ⟨by rfl, ?_⟩; with_reducible rfl)
                  try simp only [Act.put, List.setIfInBounds_toArray, List.set_cons_zero, List.set_cons_succ]
                  refine wpAnyH_take (i := 7) (oi := ?o162) (v := ?v162) ?hi162 (by kernel_rfl) (by kernel_rfl) (by kernel_rfl) ?hq162 ?hy162 (by assumption) ?r162
                  case hi162 => (simp only [List.getElem?_toArray, List.getElem?_cons_succ, List.getElem?_cons_zero]; rfl)
                  case hq162 => exact fun _ _ _ h => h
                  case hy162 =>
                    first
                      | (refine Or.inl ⟨by rfl, ?_⟩; intro wq hSw; (try dsimp only at hSw); go_simp; (try with_reducible rfl); done)
                      | (refine Or.inr ⟨by rfl, ?_⟩; with_reducible rfl)
                  try simp only [Act.put, List.setIfInBounds_toArray, List.set_cons_zero, List.set_cons_succ]
                  refine wpAnyH_take (i := 8) (oi := ?o163) (v := ?v163) ?hi163 (by kernel_rfl) (by kernel_rfl) (by kernel_rfl) ?hq163 ?hy163 (by assumption) ?r163
                  case hi163 => (simp only [List.getElem?_toArray, List.getElem?_cons_succ, List.getElem?_cons_zero]; rfl)
                  case hq163 => exact fun _ _ _ h => h
                  case hy163 =>
                    first
                      | (refine Or.inl ⟨by rfl, ?_⟩; intro wq hSw; (try dsimp only at hSw); go_simp; (try with_reducible rfl); done)
                      | (refine Or.inr ⟨by rfl, ?_⟩; with_reducible rfl)
                  try simp only [Act.put, List.setIfInBounds_toArray, List.set_cons_zero, List.set_cons_succ]
                  refine wpAnyH_take (i := 9) (oi := ?o164) (v := ?v164) ?hi164 (by kernel_rfl) (by kernel_rfl) (by kernel_rfl) ?hq164 ?hy164 (by assumption) ?r164
                  case hi164 => (simp only [List.getElem?_toArray, List.getElem?_cons_succ, List.getElem?_cons_zero]; rfl)
                  case hq164 => exact fun _ _ _ h => h
                  case hy164 =>
                    first
                      | (refine Or.inl ⟨by rfl, ?_⟩; intro wq hSw; (try dsimp only at hSw); go_simp; (try with_reducible rfl); done)
                      | (refine Or.inr ⟨by rfl, ?_⟩; with_reducible rfl)
                  try simp only [Act.put, List.setIfInBounds_toArray, List.set_cons_zero, List.set_cons_succ]
                  refine wpAnyH_take (i := 10) (oi := ?o165) (v := ?v165) ?hi165 (by kernel_rfl) (by kernel_rfl) (by kernel_rfl) ?hq165 ?hy165 (by assumption) ?r165
                  case hi165 => (simp only [List.getElem?_toArray, List.getElem?_cons_succ, List.getElem?_cons_zero]; rfl)
                  case hq165 => exact fun _ _ _ h => h
                  case hy165 =>
                    first
                      | (refine Or.inl ⟨by rfl, ?_⟩; intro wq hSw; (try dsimp only at hSw); go_simp; (try with_reducible rfl); done)
                      | (refine Or.inr ⟨by rfl, ?_⟩; with_reducible rfl)
                  try simp only [Act.put, List.setIfInBounds_toArray, List.set_cons_zero, List.set_cons_succ]
                  refine wpAnyH_take (i := 11) (oi := ?o166) (v := ?v166) ?hi166 (by kernel_rfl) (by kernel_rfl) (by kernel_rfl) ?hq166 ?hy166 (by assumption) ?r166
                  case hi166 => (simp only [List.getElem?_toArray, List.getElem?_cons_succ, List.getElem?_cons_zero]; rfl)
                  case hq166 => exact fun _ _ _ h => h
                  case hy166 =>
                    first
                      | (refine Or.inl ⟨by rfl, ?_⟩; intro wq hSw; (try dsimp only at hSw); go_simp; (try with_reducible rfl); done)
                      | (refine Or.inr ⟨by rfl, ?_⟩; with_reducible rfl)
                  try simp only [Act.put, List.setIfInBounds_toArray, List.set_cons_zero, List.set_cons_succ]
                  refine wpAnyH_take (i := 12) (oi := ?o167) (v := ?v167) ?hi167 (by kernel_rfl) (by kernel_rfl) (by kernel_rfl) ?hq167 ?hy167 (by assumption) ?r167
                  case hi167 => (simp only [List.getElem?_toArray, List.getElem?_cons_succ, List.getElem?_cons_zero]; rfl)
                  case hq167 => exact fun _ _ _ h => h
                  case hy167 =>
                    first
                      | (refine Or.inl ⟨by rfl, ?_⟩; intro wq hSw; (try dsimp only at hSw); go_simp; (try with_reducible rfl); done)
                      | (refine Or.inr ⟨by rfl, ?_⟩; with_reducible rfl)
                  try simp only [Act.put, List.setIfInBounds_toArray, List.set_cons_zero, List.set_cons_succ]
                  refine wpAnyH_take (i := 13) (oi := ?o168) (v := ?v168) ?hi168 (by kernel_rfl) (by kernel_rfl) (by kernel_rfl) ?hq168 ?hy168 (by assumption) ?r168
                  case hi168 => (simp only [List.getElem?_toArray, List.getElem?_cons_succ, List.getElem?_cons_zero]; rfl)
                  case hq168 => exact fun _ _ _ h => h
                  case hy168 =>
                    first
                      | (refine Or.inl ⟨by rfl, ?_⟩; intro wq hSw; (try dsimp only at hSw); go_simp; (try with_reducible rfl); done)
                      | (refine Or.inr ⟨by rfl, ?_⟩; with_reducible rfl)
                  try simp only [Act.put, List.setIfInBounds_toArray, List.set_cons_zero, List.set_cons_succ]
                  refine wpAnyH_take (i := 14) (oi := ?o169) (v := ?v169) ?hi169 (by kernel_rfl) (by kernel_rfl) (by kernel_rfl) ?hq169 ?hy169 (by assumption) ?r169
                  case hi169 => (simp only [List.getElem?_toArray, List.getElem?_cons_succ, List.getElem?_cons_zero]; rfl)
                  case hq169 => exact fun _ _ _ h => h
                  case hy169 =>
                    first
                      | (refine Or.inl ⟨by rfl, ?_⟩; intro wq hSw; (try dsimp only at hSw); go_simp; (try with_reducible rfl); done)
                      | (refine Or.inr ⟨by rfl, ?_⟩; with_reducible rfl)
                  try simp only [Act.put, List.setIfInBounds_toArray, List.set_cons_zero, List.set_cons_succ]
                  refine wpAnyH_take (i := 15) (oi := ?o170) (v := ?v170) ?hi170 (by kernel_rfl) (by kernel_rfl) (by kernel_rfl) ?hq170 ?hy170 (by assumption) ?r170
                  case hi170 => (simp only [List.getElem?_toArray, List.getElem?_cons_succ, List.getElem?_cons_zero]; rfl)
                  case hq170 => exact fun _ _ _ h => h
                  case hy170 =>
                    first
                      | (refine Or.inl ⟨by rfl, ?_⟩; intro wq hSw; (try dsimp only at hSw); go_simp; (try with_reducible rfl); done)
                      | (refine Or.inr ⟨by rfl, ?_⟩; with_reducible rfl)
                  try simp only [Act.put, List.setIfInBounds_toArray, List.set_cons_zero, List.set_cons_succ]
                  refine wpAnyH_take (i := 16) (oi := ?o171) (v := ?v171) ?hi171 (by kernel_rfl) (by kernel_rfl) (by kernel_rfl) ?hq171 ?hy171 (by assumption) ?r171
                  case hi171 => (simp only [List.getElem?_toArray, List.getElem?_cons_succ, List.getElem?_cons_zero]; rfl)
                  case hq171 => exact fun _ _ _ h => h
                  case hy171 =>
                    first
                      | (refine Or.inl ⟨by rfl, ?_⟩; intro wq hSw; (try dsimp only at hSw); go_simp; (try with_reducible rfl); done)
                      | (refine Or.inr ⟨by rfl, ?_⟩; with_reducible rfl)
                  try simp only [Act.put, List.setIfInBounds_toArray, List.set_cons_zero, List.set_cons_succ]
                  refine wpAnyH_take (i := 17) (oi := ?o172) (v := ?v172) ?hi172 (by kernel_rfl) (by kernel_rfl) (by kernel_rfl) ?hq172 ?hy172 (by assumption) ?r172
                  case hi172 => (simp only [List.getElem?_toArray, List.getElem?_cons_succ, List.getElem?_cons_zero]; rfl)
                  case hq172 => exact fun _ _ _ h => h
                  case hy172 =>
                    first
                      | (refine Or.inl ⟨by rfl, ?_⟩; intro wq hSw; (try dsimp only at hSw); go_simp; (try with_reducible rfl); done)
                      | (refine Or.inr ⟨by rfl, ?_⟩; with_reducible rfl)
                  try simp only [Act.put, List.setIfInBounds_toArray, List.set_cons_zero, List.set_cons_succ]
                  refine wpAnyH_take (i := 18) (oi := ?o173) (v := ?v173) ?hi173 (by kernel_rfl) (by kernel_rfl) (by kernel_rfl) ?hq173 ?hy173 (by assumption) ?r173
                  case hi173 => (simp only [List.getElem?_toArray, List.getElem?_cons_succ, List.getElem?_cons_zero]; rfl)
                  case hq173 => exact fun _ _ _ h => h
                  case hy173 =>
                    first
                      | (refine Or.inl ⟨by rfl, ?_⟩; intro wq hSw; (try dsimp only at hSw); go_simp; (try with_reducible rfl); done)
                      | (refine Or.inr ⟨by rfl, ?_⟩; with_reducible rfl)
                  try simp only [Act.put, List.setIfInBounds_toArray, List.set_cons_zero, List.set_cons_succ]
                  refine wpAnyH_take (i := 19) (oi := ?o174) (v := ?v174) ?hi174 (by kernel_rfl) (by kernel_rfl) (by kernel_rfl) ?hq174 ?hy174 (by assumption) ?r174
                  case hi174 => (simp only [List.getElem?_toArray, List.getElem?_cons_succ, List.getElem?_cons_zero]; rfl)
                  case hq174 => exact fun _ _ _ h => h
                  case hy174 =>
                    first
                      | (refine Or.inl ⟨by rfl, ?_⟩; intro wq hSw; (try dsimp only at hSw); go_simp; (try with_reducible rfl); done)
                      | (refine Or.inr ⟨by rfl, ?_⟩; with_reducible rfl)
                  try simp only [Act.put, List.setIfInBounds_toArray, List.set_cons_zero, List.set_cons_succ]
                  refine wpAnyH_take (i := 20) (oi := ?o175) (v := ?v175) ?hi175 (by kernel_rfl) (by kernel_rfl) (by kernel_rfl) ?hq175 ?hy175 (by assumption) ?r175
                  case hi175 => (simp only [List.getElem?_toArray, List.getElem?_cons_succ, List.getElem?_cons_zero]; rfl)
                  case hq175 => exact fun _ _ _ h => h
                  case hy175 =>
                    first
                      | (refine Or.inl ⟨by rfl, ?_⟩; intro wq hSw; (try dsimp only at hSw); go_simp; (try with_reducible rfl); done)
                      | (refine Or.inr ⟨by rfl, ?_⟩; with_reducible rfl)
                  try simp only [Act.put, List.setIfInBounds_toArray, List.set_cons_zero, List.set_cons_succ]
                  refine wpAnyH_take (i := 21) (oi := ?o176) (v := ?v176) ?hi176 (by kernel_rfl) (by kernel_rfl) (by kernel_rfl) ?hq176 ?hy176 (by assumption) ?r176
                  case hi176 => (simp only [List.getElem?_toArray, List.getElem?_cons_succ, List.getElem?_cons_zero]; rfl)
                  case hq176 => exact fun _ _ _ h => h
                  case hy176 =>
                    first
                      | (refine Or.inl ⟨by rfl, ?_⟩; intro wq hSw; (try dsimp only at hSw); go_simp; (try with_reducible rfl); done)
                      | (refine Or.inr ⟨by rfl, ?_⟩; with_reducible rfl)
                  try simp only [Act.put, List.setIfInBounds_toArray, List.set_cons_zero, List.set_cons_succ]
                  refine wpAnyH_take (i := 22) (oi := ?o177) (v := ?v177) ?hi177 (by kernel_rfl) (by kernel_rfl) (by kernel_rfl) ?hq177 ?hy177 (by assumption) ?r177
                  case hi177 => (simp only [List.getElem?_toArray, List.getElem?_cons_succ, List.getElem?_cons_zero]; rfl)
                  case hq177 => exact fun _ _ _ h => h
                  case hy177 =>
                    first
                      | (refine Or.inl ⟨by rfl, ?_⟩; intro wq hSw; (try dsimp only at hSw); go_simp; (try with_reducible rfl); done)
                      | (refine Or.inr ⟨by rfl, ?_⟩; with_reducible rfl)
                  try simp only [Act.put, List.setIfInBounds_toArray, List.set_cons_zero, List.set_cons_succ]
                  refine wpAnyH_take (i := 23) (oi := ?o178) (v := ?v178) ?hi178 (by kernel_rfl) (by kernel_rfl) (by kernel_rfl) ?hq178 ?hy178 (by assumption) ?r178
                  case hi178 => (simp only [List.getElem?_toArray, List.getElem?_cons_succ, List.getElem?_cons_zero]; rfl)
                  case hq178 => exact fun _ _ _ h => h
                  case hy178 =>
                    first
                      | (refine Or.inl ⟨by rfl, ?_⟩; intro wq hSw; (try dsimp only at hSw); go_simp; (try with_reducible rfl); done)
                      | (refine Or.inr ⟨by rfl, ?_⟩; with_reducible rfl)
                  try simp only [Act.put, List.setIfInBounds_toArray, List.set_cons_zero, List.set_cons_succ]
                  refine wpAnyH_take (i := 24) (oi := ?o179) (v := ?v179) ?hi179 (by kernel_rfl) (by kernel_rfl) (by kernel_rfl) ?hq179 ?hy179 (by assumption) ?r179
                  case hi179 => (simp only [List.getElem?_toArray, List.getElem?_cons_succ, List.getElem?_cons_zero]; rfl)
                  case hq179 => exact fun _ _ _ h => h
                  case hy179 =>
                    first
                      | (refine Or.inl ⟨by rfl, ?_⟩; intro wq hSw; (try dsimp only at hSw); go_simp; (try with_reducible rfl); done)
                      | (refine Or.inr ⟨by rfl, ?_⟩; with_reducible rfl)
                  try simp only [Act.put, List.setIfInBounds_toArray, List.set_cons_zero, List.set_cons_succ]
                  refine wpAnyH_take (i := 25) (oi := ?o180) (v := ?v180) ?hi180 (by kernel_rfl) (by kernel_rfl) (by kernel_rfl) ?hq180 ?hy180 (by assumption) ?r180
                  case hi180 => (simp only [List.getElem?_toArray, List.getElem?_cons_succ, List.getElem?_cons_zero]; rfl)
                  case hq180 => exact fun _ _ _ h => h
                  case hy180 =>
                    first
                      | (refine Or.inl ⟨by rfl, ?_⟩; intro wq hSw; (try dsimp only at hSw); go_simp; (try with_reducible rfl); done)
                      | (refine Or.inr ⟨by rfl, ?_⟩; with_reducible rfl)
                  try simp only [Act.put, List.setIfInBounds_toArray, List.set_cons_zero, List.set_cons_succ]
                  refine wpAnyH_take (i := 26) (oi := ?o181) (v := ?v181) ?hi181 (by kernel_rfl) (by kernel_rfl) (by kernel_rfl) ?hq181 ?hy181 (by assumption) ?r181
                  case hi181 => (simp only [List.getElem?_toArray, List.getElem?_cons_succ, List.getElem?_cons_zero]; rfl)
                  case hq181 => exact fun _ _ _ h => h
                  case hy181 =>
                    first
                      | (refine Or.inl ⟨by rfl, ?_⟩; intro wq hSw; (try dsimp only at hSw); go_simp; (try with_reducible rfl); done)
                      | (refine Or.inr ⟨by rfl, ?_⟩; with_reducible rfl)
                  try simp only [Act.put, List.setIfInBounds_toArray, List.set_cons_zero, List.set_cons_succ]
                  refine wpAnyH_take (i := 27) (oi := ?o182) (v := ?v182) ?hi182 (by kernel_rfl) (by kernel_rfl) (by kernel_rfl) ?hq182 ?hy182 (by assumption) ?r182
                  case hi182 => (simp only [List.getElem?_toArray, List.getElem?_cons_succ, List.getElem?_cons_zero]; rfl)
                  case hq182 => exact fun _ _ _ h => h
                  case hy182 =>
                    first
                      | (refine Or.inl ⟨by rfl, ?_⟩; intro wq hSw; (try dsimp only at hSw); go_simp; (try with_reducible rfl); done)
                      | (refine Or.inr ⟨by rfl, ?_⟩; with_reducible rfl)
                  try simp only [Act.put, List.setIfInBounds_toArray, List.set_cons_zero, List.set_cons_succ]
                  refine wpAnyH_take (i := 28) (oi := ?o183) (v := ?v183) ?hi183 (by kernel_rfl) (by kernel_rfl) (by kernel_rfl) ?hq183 ?hy183 (by assumption) ?r183
                  case hi183 => (simp only [List.getElem?_toArray, List.getElem?_cons_succ, List.getElem?_cons_zero]; rfl)
                  case hq183 => exact fun _ _ _ h => h
                  case hy183 =>
                    first
                      | (refine Or.inl ⟨by rfl, ?_⟩; intro wq hSw; (try dsimp only at hSw); go_simp; (try with_reducible rfl); done)
                      | (refine Or.inr ⟨by rfl, ?_⟩; with_reducible rfl)
                  try simp only [Act.put, List.setIfInBounds_toArray, List.set_cons_zero, List.set_cons_succ]
                  refine wpAnyH_take (i := 29) (oi := ?o184) (v := ?v184) ?hi184 (by kernel_rfl) (by kernel_rfl) (by kernel_rfl) ?hq184 ?hy184 (by assumption) ?r184
                  case hi184 => (simp only [List.getElem?_toArray, List.getElem?_cons_succ, List.getElem?_cons_zero]; rfl)
                  case hq184 => exact fun _ _ _ h => h
                  case hy184 =>
                    first
                      | (refine Or.inl ⟨by rfl, ?_⟩; intro wq hSw; (try dsimp only at hSw); go_simp; (try with_reducible rfl); done)
                      | (refine Or.inr ⟨by rfl, ?_⟩; with_reducible rfl)
                  try simp only [Act.put, List.setIfInBounds_toArray, List.set_cons_zero, List.set_cons_succ]
                  refine wpAnyH_take (i := 30) (oi := ?o185) (v := ?v185) ?hi185 (by kernel_rfl) (by kernel_rfl) (by kernel_rfl) ?hq185 ?hy185 (by assumption) ?r185
                  case hi185 => (simp only [List.getElem?_toArray, List.getElem?_cons_succ, List.getElem?_cons_zero]; rfl)
                  case hq185 => exact fun _ _ _ h => h
                  case hy185 =>
                    first
                      | (refine Or.inl ⟨by rfl, ?_⟩; intro wq hSw; (try dsimp only at hSw); go_simp; (try with_reducible rfl); done)
                      | (refine Or.inr ⟨by rfl, ?_⟩; with_reducible rfl)
                  try simp only [Act.put, List.setIfInBounds_toArray, List.set_cons_zero, List.set_cons_succ]
                  refine wpAnyH_take (i := 31) (oi := ?o186) (v := ?v186) ?hi186 (by kernel_rfl) (by kernel_rfl) (by kernel_rfl) ?hq186 ?hy186 (by assumption) ?r186
                  case hi186 => (simp only [List.getElem?_toArray, List.getElem?_cons_succ, List.getElem?_cons_zero]; rfl)
                  case hq186 => exact fun _ _ _ h => h
                  case hy186 =>
                    first
                      | (refine Or.inl ⟨by rfl, ?_⟩; intro wq hSw; (try dsimp only at hSw); go_simp; (try with_reducible rfl); done)
                      | (refine Or.inr ⟨by rfl, ?_⟩; with_reducible rfl)
                  try simp only [Act.put, List.setIfInBounds_toArray, List.set_cons_zero, List.set_cons_succ]
                  refine wpAnyH_done (by kernel_rfl) ?_ _
                  go_wp2_with fail
                  go_meet
                  case rel => exact ⟨rfl, HD⟩
                · have hd2 : ¬ y1 = x1 := fun e => hd e.symm
                  have hd3 : (x1 == y1) = false := by simpa using hd
                  have hd4 : (y1 == x1) = false := by simpa using hd2
                  refine wp_region_held_drew (S := (fun w' => w'.cell? ⟨T, 0, none⟩ = some (.bool x0) ∧ w'.cell? ⟨T, 1, none⟩ = some (.int .i64 x1) ∧ w'.cell? ⟨T, 2, none⟩ = some (.int .i64 x2) ∧ w'.cell? ⟨T, 3, none⟩ = some (.string x3) ∧ w'.cell? ⟨T + 1, 0, none⟩ = some (.bool x0) ∧ w'.cell? ⟨T + 1, 1, none⟩ = some (.int .i64 y1) ∧ w'.cell? ⟨T + 1, 2, none⟩ = some (.int .i64 y2) ∧ w'.cell? ⟨T + 1, 3, none⟩ = some (.string y3) ∧ w'.cell? ⟨X, 0, none⟩ = some (.bool x0) ∧ w'.cell? ⟨X, 1, none⟩ = some (.int .i64 y1) ∧ w'.cell? ⟨X, 2, none⟩ = some (.int .i64 y2) ∧ w'.cell? ⟨X, 3, none⟩ = some (.string y3) ∧ w'.cell? ⟨X + 1, 0, none⟩ = some (.bool x0) ∧ w'.cell? ⟨X + 1, 1, none⟩ = some (.int .i64 x1) ∧ w'.cell? ⟨X + 1, 2, none⟩ = some (.int .i64 x2) ∧ w'.cell? ⟨X + 1, 3, none⟩ = some (.string x3))) (by kernel_rfl) (KS.out _ HD.out) (fun hHeld => ?_)
                  refine wpAnyH_take (i := 0) (oi := ?o187) (v := ?v187) ?hi187 (by kernel_rfl) (by kernel_rfl) (by kernel_rfl) ?hq187 ?hy187 (by assumption) ?r187
                  case hi187 => (simp only [List.getElem?_toArray, List.getElem?_cons_succ, List.getElem?_cons_zero]; rfl)
                  case hq187 => exact fun _ _ _ h => h
                  case hy187 =>
                    first
                      | (refine Or.inl ⟨by rfl, ?_⟩; intro wq hSw; (try dsimp only at hSw); go_simp; (try with_reducible rfl); done)
                      | (refine Or.inr ⟨by rfl, ?_⟩; with_reducible rfl)
                  try simp only [Act.put, List.setIfInBounds_toArray, List.set_cons_zero, List.set_cons_succ]
                  refine wpAnyH_take (i := 1) (oi := ?o188) (v := ?v188) ?hi188 (by kernel_rfl) (by kernel_rfl) (by kernel_rfl) ?hq188 ?hy188 (by assumption) ?r188
                  case hi188 => (simp only [List.getElem?_toArray, List.getElem?_cons_succ, List.getElem?_cons_zero]; rfl)
                  case hq188 => exact fun _ _ _ h => h
                  case hy188 =>
                    first
                      | (refine Or.inl ⟨by rfl, ?_⟩; intro wq hSw; (try dsimp only at hSw); go_simp; (try with_reducible rfl); done)
                      | (refine Or.inr ⟨by rfl, ?_⟩; with_reducible rfl)
                  try simp only [Act.put, List.setIfInBounds_toArray, List.set_cons_zero, List.set_cons_succ]
                  refine wpAnyH_ready (rs := [2]) (by kernel_rfl) (by simp) ?_
                  refine AllReadyH.cons (by simp only [List.getElem?_toArray, List.getElem?_cons_succ, List.getElem?_cons_zero]; rfl) (fun K hK => ?_) AllReadyH.nil
                  go_simp
                  go_at_call 18
                  refine (AQP.out _).mono ?_
                  rintro e wn ⟨rfl, hb⟩
                  replace HD := Lib.hid (below_seq HD.out hb)
                  clear hb AQP
                  refine hK.out _ _ (KS.out _ HD.out) (fun hHeld2 => ?_)
                  clear hK K hHeld
                  try simp only [Act.put, List.setIfInBounds_toArray, List.set_cons_zero, List.set_cons_succ]
                  refine wpAnyH_take (i := 3) (oi := ?o189) (v := ?v189) ?hi189 (by kernel_rfl) (by kernel_rfl) (by kernel_rfl) ?hq189 ?hy189 (by assumption) ?r189
                  case hi189 => (simp only [List.getElem?_toArray, List.getElem?_cons_succ, List.getElem?_cons_zero]; rfl)
                  case hq189 => exact fun _ _ _ h => h
                  case hy189 =>
                    first
                      | (refine Or.inl ⟨by rfl, ?_⟩; intro wq hSw; (try dsimp only at hSw); go_simp; (try with_reducible rfl); done)
                      | (refine Or.inr ⟨by rfl, ?_⟩; with_reducible rfl)
                  try simp only [Act.put, List.setIfInBounds_toArray, List.set_cons_zero, List.set_cons_succ]
                  refine wpAnyH_take (i := 4) (oi := ?o190) (v := ?v190) ?hi190 (by kernel_rfl) (by kernel_rfl) (by kernel_rfl) ?hq190 ?hy190 (by assumption) ?r190
                  case hi190 => (simp only [List.getElem?_toArray, List.getElem?_cons_succ, List.getElem?_cons_zero]; rfl)
                  case hq190 => exact fun _ _ _ h => h
                  case hy190 =>
                    first
                      | (refine Or.inl ⟨by rfl, ?_⟩; intro wq hSw; (try dsimp only at hSw); go_simp; (try with_reducible rfl); done)
                      | (refine Or.inr ⟨by rfl, ?_⟩; with_reducible rfl)
                  try simp only [Act.put, List.setIfInBounds_toArray, List.set_cons_zero, List.set_cons_succ]
                  refine wpAnyH_take (i := 5) (oi := ?o191) (v := ?v191) ?hi191 (by kernel_rfl) (by kernel_rfl) (by kernel_rfl) ?hq191 ?hy191 (by assumption) ?r191
                  case hi191 => (simp only [List.getElem?_toArray, List.getElem?_cons_succ, List.getElem?_cons_zero]; rfl)
                  case hq191 => exact fun _ _ _ h => h
                  case hy191 =>
                    first
                      | (refine Or.inl ⟨by rfl, ?_⟩; intro wq hSw; (try dsimp only at hSw); go_simp; (try with_reducible rfl); done)
                      | (refine Or.inr ⟨by rfl, ?_⟩; with_reducible rfl)
                  try simp only [Act.put, List.setIfInBounds_toArray, List.set_cons_zero, List.set_cons_succ]
                  refine wpAnyH_take (i := 6) (oi := ?o192) (v := ?v192) ?hi192 (by kernel_rfl) (by kernel_rfl) (by kernel_rfl) ?hq192 ?hy192 (by assumption) ?r192
                  case hi192 => (simp only [List.getElem?_toArray, List.getElem?_cons_succ, List.getElem?_cons_zero]; rfl)
                  case hq192 => exact fun _ _ _ h => h
                  case hy192 =>
                    first
                      | (refine Or.inl ⟨by rfl, ?_⟩; intro wq hSw; (try dsimp only at hSw); go_simp; (try with_reducible rfl); done)
                      | (refine Or.inr ⟨by rfl, ?_⟩; with_reducible rfl)
                  try simp only [Act.put, List.setIfInBounds_toArray, List.set_cons_zero, List.set_cons_succ]
                  refine wpAnyH_take (i := 7) (oi := ?o193) (v := ?v193) ?hi193 (by kernel_rfl) (by kernel_rfl) (by kernel_rfl) ?hq193 ?hy193 (by assumption) ?r193
                  case hi193 => (simp only [List.getElem?_toArray, List.getElem?_cons_succ, List.getElem?_cons_zero]; rfl)
                  case hq193 => exact fun _ _ _ h => h
                  case hy193 =>
                    first
                      | (refine Or.inl ⟨by rfl, ?_⟩; intro wq hSw; (try dsimp only at hSw); go_simp; (try with_reducible rfl); done)
                      | (refine Or.inr ⟨by rfl, ?_⟩; with_reducible rfl)
                  try simp only [Act.put, List.setIfInBounds_toArray, List.set_cons_zero, List.set_cons_succ]
                  refine wpAnyH_take (i := 8) (oi := ?o194) (v := ?v194) ?hi194 (by kernel_rfl) (by kernel_rfl) (by kernel_rfl) ?hq194 ?hy194 (by assumption) ?r194
                  case hi194 => (simp only [List.getElem?_toArray, List.getElem?_cons_succ, List.getElem?_cons_zero]; rfl)
                  case hq194 => exact fun _ _ _ h => h
                  case hy194 =>
                    first
                      | (refine Or.inl ⟨by rfl, ?_⟩; intro wq hSw; (try dsimp only at hSw); go_simp; (try with_reducible rfl); done)
                      | (refine Or.inr ⟨by rfl, ?_⟩; with_reducible rfl)
                  try simp only [Act.put, List.setIfInBounds_toArray, List.set_cons_zero, List.set_cons_succ]
                  refine wpAnyH_take (i := 9) (oi := ?o195) (v := ?v195) ?hi195 (by kernel_rfl) (by kernel_rfl) (by kernel_rfl) ?hq195 ?hy195 (by assumption) ?r195
                  case hi195 => (simp only [List.getElem?_toArray, List.getElem?_cons_succ, List.getElem?_cons_zero]; rfl)
                  case hq195 => exact fun _ _ _ h => h
                  case hy195 =>
                    first
                      | (refine Or.inl ⟨by rfl, ?_⟩; intro wq hSw; (try dsimp only at hSw); go_simp; (try with_reducible rfl); done)
                      | (refine Or.inr ⟨by rfl, ?_⟩; with_reducible rfl)
                  try simp only [Act.put, List.setIfInBounds_toArray, List.set_cons_zero, List.set_cons_succ]
                  refine wpAnyH_take (i := 10) (oi := ?o196) (v := ?v196) ?hi196 (by kernel_rfl) (by kernel_rfl) (by kernel_rfl) ?hq196 ?hy196 (by assumption) ?r196
                  case hi196 => (simp only [List.getElem?_toArray, List.getElem?_cons_succ, List.getElem?_cons_zero]; rfl)
                  case hq196 => exact fun _ _ _ h => h
                  case hy196 =>
                    first
                      | (refine Or.inl ⟨by rfl, ?_⟩; intro wq hSw; (try dsimp only at hSw); go_simp; (try with_reducible rfl); done)
                      | (refine Or.inr ⟨by rfl, ?_⟩; with_reducible rfl)
                  try simp only [Act.put, List.setIfInBounds_toArray, List.set_cons_zero, List.set_cons_succ]
                  refine wpAnyH_take (i := 11) (oi := ?o197) (v := ?v197) ?hi197 (by kernel_rfl) (by kernel_rfl) (by kernel_rfl) ?hq197 ?hy197 (by assumption) ?r197
                  case hi197 => (simp only [List.getElem?_toArray, List.getElem?_cons_succ, List.getElem?_cons_zero]; rfl)
                  case hq197 => exact fun _ _ _ h => h
                  case hy197 =>
                    first
                      | (refine Or.inl ⟨by rfl, ?_⟩; intro wq hSw; (try dsimp only at hSw); go_simp; (try with_reducible rfl); done)
                      | (refine Or.inr ⟨by rfl, ?_⟩; with_reducible rfl)
                  try simp only [Act.put, List.setIfInBounds_toArray, List.set_cons_zero, List.set_cons_succ]
                  refine wpAnyH_take (i := 12) (oi := ?o198) (v := ?v198) ?hi198 (by kernel_rfl) (by kernel_rfl) (by kernel_rfl) ?hq198 ?hy198 (by assumption) ?r198
                  case hi198 => (simp only [List.getElem?_toArray, List.getElem?_cons_succ, List.getElem?_cons_zero]; rfl)
                  case hq198 => exact fun _ _ _ h => h
                  case hy198 =>
                    first
                      | (refine Or.inl ⟨by rfl, ?_⟩; intro wq hSw; (try dsimp only at hSw); go_simp; (try with_reducible rfl); done)
                      | (refine Or.inr ⟨by rfl, ?_⟩; with_reducible rfl)
                  try simp only [Act.put, List.setIfInBounds_toArray, List.set_cons_zero, List.set_cons_succ]
                  refine wpAnyH_take (i := 13) (oi := ?o199) (v := ?v199) ?hi199 (by kernel_rfl) (by kernel_rfl) (by kernel_rfl) ?hq199 ?hy199 (by assumption) ?r199
                  case hi199 => (simp only [List.getElem?_toArray, List.getElem?_cons_succ, List.getElem?_cons_zero]; rfl)
                  case hq199 => exact fun _ _ _ h => h
                  case hy199 =>
                    first
                      | (refine Or.inl ⟨by rfl, ?_⟩; intro wq hSw; (try dsimp only at hSw); go_simp; (try with_reducible rfl); done)
                      | (refine Or.inr ⟨by rfl, ?_⟩; with_reducible rfl)
                  try simp only [Act.put, List.setIfInBounds_toArray, List.set_cons_zero, List.set_cons_succ]
                  refine wpAnyH_take (i := 14) (oi := ?o200) (v := ?v200) ?hi200 (by kernel_rfl) (by kernel_rfl) (by kernel_rfl) ?hq200 ?hy200 (by assumption) ?r200
                  case hi200 => (simp only [List.getElem?_toArray, List.getElem?_cons_succ, List.getElem?_cons_zero]; rfl)
                  case hq200 => exact fun _ _ _ h => h
                  case hy200 =>
                    first
                      | (refine Or.inl ⟨by rfl, ?_⟩; intro wq hSw; (try dsimp only at hSw); go_simp; (try with_reducible rfl); done)
                      | (refine Or.inr ⟨by rfl, ?_⟩; with_reducible rfl)
                  try simp only [Act.put, List.setIfInBounds_toArray, List.set_cons_zero, List.set_cons_succ]
                  refine wpAnyH_take (i := 15) (oi := ?o201) (v := ?v201) ?hi201 (by kernel_rfl) (by kernel_rfl) (by kernel_rfl) ?hq201 ?hy201 (by assumption) ?r201
                  case hi201 => (simp only [List.getElem?_toArray, List.getElem?_cons_succ, List.getElem?_cons_zero]; rfl)
                  case hq201 => exact fun _ _ _ h => h
                  case hy201 =>
                    first
                      | (refine Or.inl ⟨by rfl, ?_⟩; intro wq hSw; (try dsimp only at hSw); go_simp; (try with_reducible rfl); done)
                      | (refine Or.inr ⟨by rfl, ?_⟩; with_reducible rfl)
                  try simp only [Act.put, List.setIfInBounds_toArray, List.set_cons_zero, List.set_cons_succ]
                  refine wpAnyH_take (i := 16) (oi := ?o202) (v := ?v202) ?hi202 (by kernel_rfl) (by kernel_rfl) (by kernel_rfl) ?hq202 ?hy202 (by assumption) ?r202
                  case hi202 => (simp only [List.getElem?_toArray, List.getElem?_cons_succ, List.getElem?_cons_zero]; rfl)
                  case hq202 => exact fun _ _ _ h => h
                  case hy202 =>
                    first
                      | (refine Or.inl ⟨by rfl, ?_⟩; intro wq hSw; (try dsimp only at hSw); go_simp; (try with_reducible rfl); done)
                      | (refine Or.inr ⟨by rfl, ?_⟩; with_reducible rfl)
                  try simp only [Act.put, List.setIfInBounds_toArray, List.set_cons_zero, List.set_cons_succ]
                  refine wpAnyH_take (i := 17) (oi := ?o203) (v := ?v203) ?hi203 (by kernel_rfl) (by kernel_rfl) (by kernel_rfl) ?hq203 ?hy203 (by assumption) ?r203
                  case hi203 => (simp only [List.getElem?_toArray, List.getElem?_cons_succ, List.getElem?_cons_zero]; rfl)
                  case hq203 => exact fun _ _ _ h => h
                  case hy203 =>
                    first
                      | (refine Or.inl ⟨by rfl, ?_⟩; intro wq hSw; (try dsimp only at hSw); go_simp; (try with_reducible rfl); done)
                      | (refine Or.inr ⟨by rfl, ?_⟩; with_reducible rfl)
                  try simp only [Act.put, List.setIfInBounds_toArray, List.set_cons_zero, List.set_cons_succ]
                  refine wpAnyH_take (i := 18) (oi := ?o204) (v := ?v204) ?hi204 (by kernel_rfl) (by kernel_rfl) (by kernel_rfl) ?hq204 ?hy204 (by assumption) ?r204
                  case hi204 => (simp only [List.getElem?_toArray, List.getElem?_cons_succ, List.getElem?_cons_zero]; rfl)
                  case hq204 => exact fun _ _ _ h => h
                  case hy204 =>
                    first
                      | (refine Or.inl ⟨by rfl, ?_⟩; intro wq hSw; (try dsimp only at hSw); go_simp; (try with_reducible rfl); done)
                      | (refine Or.inr ⟨by rfl, ?_⟩; with_reducible rfl)
                  try simp only [Act.put, List.setIfInBounds_toArray, List.set_cons_zero, List.set_cons_succ]
                  refine wpAnyH_take (i := 19) (oi := ?o205) (v := ?v205) ?hi205 (by kernel_rfl) (by kernel_rfl) (by kernel_rfl) ?hq205 ?hy205 (by assumption) ?r205
                  case hi205 => (simp only [List.getElem?_toArray, List.getElem?_cons_succ, List.getElem?_cons_zero]; rfl)
                  case hq205 => exact fun _ _ _ h => h
                  case hy205 =>
                    first
                      | (refine Or.inl ⟨by rfl, ?_⟩; intro wq hSw; (try dsimp only at hSw); go_simp; (try with_reducible rfl); done)
                      | (refine Or.inr ⟨by rfl, ?_⟩; with_reducible rfl)
                  try simp only [Act.put, List.setIfInBounds_toArray, List.set_cons_zero, List.set_cons_succ]
                  refine wpAnyH_take (i := 20) (oi := ?o206) (v := ?v206) ?hi206 (by kernel_rfl) (by kernel_rfl) (by kernel_rfl) ?hq206 ?hy206 (by assumption) ?r206
                  case hi206 => (simp only [List.getElem?_toArray, List.getElem?_cons_succ, List.getElem?_cons_zero]; rfl)
                  case hq206 => exact fun _ _ _ h => h
                  case hy206 =>
                    first
                      | (refine Or.inl ⟨by rfl, ?_⟩; intro wq hSw; (try dsimp only at hSw); go_simp; (try with_reducible rfl); done)
                      | (refine Or.inr ⟨by rfl, ?_⟩; with_reducible rfl)
                  try simp only [Act.put, List.setIfInBounds_toArray, List.set_cons_zero, List.set_cons_succ]
                  refine wpAnyH_take (i := 21) (oi := ?o207) (v := ?v207) ?hi207 (by kernel_rfl) (by kernel_rfl) (by kernel_rfl) ?hq207 ?hy207 (by assumption) ?r207
                  case hi207 => (simp only [List.getElem?_toArray, List.getElem?_cons_succ, List.getElem?_cons_zero]; rfl)
                  case hq207 => exact fun _ _ _ h => h
                  case hy207 =>
                    first
                      | (refine Or.inl ⟨by rfl, ?_⟩; intro wq hSw; (try dsimp only at hSw); go_simp; (try with_reducible rfl); done)
                      | (refine Or.inr ⟨by rfl, ?_⟩; with_reducible rfl)
                  try simp only [Act.put, List.setIfInBounds_toArray, List.set_cons_zero, List.set_cons_succ]
                  refine wpAnyH_take (i := 22) (oi := ?o208) (v := ?v208) ?hi208 (by kernel_rfl) (by kernel_rfl) (by kernel_rfl) ?hq208 ?hy208 (by assumption) ?r208
                  case hi208 => (simp only [List.getElem?_toArray, List.getElem?_cons_succ, List.getElem?_cons_zero]; rfl)
                  case hq208 => exact fun _ _ _ h => h
                  case hy208 =>
                    first
                      | (refine Or.inl ⟨by rfl, ?_⟩; intro wq hSw; (try dsimp only at hSw); go_simp; (try with_reducible rfl); done)
                      | (refine Or.inr ⟨by rfl, ?_⟩; with_reducible rfl)
                  try simp only [Act.put, List.setIfInBounds_toArray, List.set_cons_zero, List.set_cons_succ]
                  refine wpAnyH_take (i := 23) (oi := ?o209) (v := ?v209) ?hi209 (by kernel_rfl) (by kernel_rfl) (by kernel_rfl) ?hq209 ?hy209 (by assumption) ?r209
                  case hi209 => (simp only [List.getElem?_toArray, List.getElem?_cons_succ, List.getElem?_cons_zero]; rfl)
                  case hq209 => exact fun _ _ _ h => h
                  case hy209 =>
                    first
                      | (refine Or.inl ⟨by rfl, ?_⟩; intro wq hSw; (try dsimp only at hSw); go_simp; (try with_reducible rfl); done)
                      | (refine Or.inr ⟨by rfl, ?_⟩; with_reducible rfl)
                  try simp only [Act.put, List.setIfInBounds_toArray, List.set_cons_zero, List.set_cons_succ]
                  refine wpAnyH_take (i := 24) (oi := ?o210) (v := ?v210) ?hi210 (by kernel_rfl) (by kernel_rfl) (by kernel_rfl) ?hq210 ?hy210 (by assumption) ?r210
                  case hi210 => (simp only [List.getElem?_toArray, List.getElem?_cons_succ, List.getElem?_cons_zero]; rfl)
                  case hq210 => exact fun _ _ _ h => h
                  case hy210 =>
                    first
                      | (refine Or.inl ⟨by rfl, ?_⟩; intro wq hSw; (try dsimp only at hSw); go_simp; (try with_reducible rfl); done)
                      | (refine Or.inr ⟨by rfl, ?_⟩; with_reducible rfl)
                  try simp only [Act.put, List.setIfInBounds_toArray, List.set_cons_zero, List.set_cons_succ]
                  refine wpAnyH_take (i := 25) (oi := ?o211) (v := ?v211) ?hi211 (by kernel_rfl) (by kernel_rfl) (by kernel_rfl) ?hq211 ?hy211 (by assumption) ?r211
                  case hi211 => (simp only [List.getElem?_toArray, List.getElem?_cons_succ, List.getElem?_cons_zero]; rfl)
                  case hq211 => exact fun _ _ _ h => h
                  case hy211 =>
                    first
                      | (refine Or.inl ⟨by rfl, ?_⟩; intro wq hSw; (try dsimp only at hSw); go_simp; (try with_reducible rfl); done)
                      | (refine Or.inr ⟨by rfl, ?_⟩; with_reducible rfl)
                  try simp only [Act.put, List.setIfInBounds_toArray, List.set_cons_zero, List.set_cons_succ]
                  refine wpAnyH_take (i := 26) (oi := ?o212) (v := ?v212) ?hi212 (by kernel_rfl) (by kernel_rfl) (by kernel_rfl) ?hq212 ?hy212 (by assumption) ?r212
                  case hi212 => (simp only [List.getElem?_toArray, List.getElem?_cons_succ, List.getElem?_cons_zero]; rfl)
                  case hq212 => exact fun _ _ _ h => h
                  case hy212 =>
                    first
                      | (refine Or.inl ⟨by rfl, ?_⟩; intro wq hSw; (try dsimp only at hSw); go_simp; (try with_reducible rfl); done)
                      | (refine Or.inr ⟨by rfl, ?_⟩; with_reducible rfl)
                  try simp only [Act.put, List.setIfInBounds_toArray, List.set_cons_zero, List.set_cons_succ]
                  refine wpAnyH_take (i := 27) (oi := ?o213) (v := ?v213) ?hi213 (by kernel_rfl) (by kernel_rfl) (by kernel_rfl) ?hq213 ?hy213 (by assumption) ?r213
                  case hi213 => (simp only [List.getElem?_toArray, List.getElem?_cons_succ, List.getElem?_cons_zero]; rfl)
                  case hq213 => exact fun _ _ _ h => h
                  case hy213 =>
                    first
                      | (refine Or.inl ⟨by rfl, ?_⟩; intro wq hSw; (try dsimp only at hSw); go_simp; (try with_reducible rfl); done)
                      | (refine Or.inr ⟨by rfl, ?_⟩; with_reducible rfl)
                  try simp only [Act.put, List.setIfInBounds_toArray, List.set_cons_zero, List.set_cons_succ]
                  refine wpAnyH_take (i := 28) (oi := ?o214) (v := ?v214) ?hi214 (by kernel_rfl) (by kernel_rfl) (by kernel_rfl) ?hq214 ?hy214 (by assumption) ?r214
                  case hi214 => (simp only [List.getElem?_toArray, List.getElem?_cons_succ, List.getElem?_cons_zero]; rfl)
                  case hq214 => exact fun _ _ _ h => h
                  case hy214 =>
                    first
                      | (refine Or.inl ⟨by rfl, ?_⟩; intro wq hSw; (try dsimp only at hSw); go_simp; (try with_reducible rfl); done)
                      | (refine Or.inr ⟨by rfl, ?_⟩; with_reducible rfl)
                  try simp only [Act.put, List.setIfInBounds_toArray, List.set_cons_zero, List.set_cons_succ]
                  refine wpAnyH_take (i := 29) (oi := ?o215) (v := ?v215) ?hi215 (by kernel_rfl) (by kernel_rfl) (by kernel_rfl) ?hq215 ?hy215 (by assumption) ?r215
                  case hi215 => (simp only [List.getElem?_toArray, List.getElem?_cons_succ, List.getElem?_cons_zero]; rfl)
                  case hq215 => exact fun _ _ _ h => h
                  case hy215 =>
                    first
                      | (refine Or.inl ⟨by rfl, ?_⟩; intro wq hSw; (try dsimp only at hSw); go_simp; (try with_reducible rfl); done)
                      | (refine Or.inr ⟨by rfl, ?_⟩; with_reducible rfl)
                  try simp only [Act.put, List.setIfInBounds_toArray, List.set_cons_zero, List.set_cons_succ]
                  refine wpAnyH_take (i := 30) (oi := ?o216) (v := ?v216) ?hi216 (by kernel_rfl) (by kernel_rfl) (by kernel_rfl) ?hq216 ?hy216 (by assumption) ?r216
                  case hi216 => (simp only [List.getElem?_toArray, List.getElem?_cons_succ, List.getElem?_cons_zero]; rfl)
                  case hq216 => exact fun _ _ _ h => h
                  case hy216 =>
                    first
                      | (refine Or.inl ⟨by rfl, ?_⟩; intro wq hSw; (try dsimp only at hSw); go_simp; (try with_reducible rfl); done)
                      | (refine Or.inr ⟨by rfl, ?_⟩; with_reducible rfl)
                  try simp only [Act.put, List.setIfInBounds_toArray, List.set_cons_zero, List.set_cons_succ]
                  refine wpAnyH_take (i := 31) (oi := ?o217) (v := ?v217) ?hi217 (by kernel_rfl) (by kernel_rfl) (by kernel_rfl) ?hq217 ?hy217 (by assumption) ?r217
                  case hi217 => (simp only [List.getElem?_toArray, List.getElem?_cons_succ, List.getElem?_cons_zero]; rfl)
                  case hq217 => exact fun _ _ _ h => h
                  case hy217 =>
                    first
                      | (refine Or.inl ⟨by rfl, ?_⟩; intro wq hSw; (try dsimp only at hSw); go_simp; (try with_reducible rfl); done)
                      | (refine Or.inr ⟨by rfl, ?_⟩; with_reducible rfl)
                  try simp only [Act.put, List.setIfInBounds_toArray, List.set_cons_zero, List.set_cons_succ]
                  refine wpAnyH_done (by kernel_rfl) ?_ _
                  go_wp2_with fail
                  go_meet
                  case rel => exact ⟨rfl, HD⟩
                · have hd2 : ¬ y2 = x2 := fun e => hd e.symm
                  have hd3 : (x2 == y2) = false := by simpa using hd
                  have hd4 : (y2 == x2) = false := by simpa using hd2
                  refine wp_region_held_drew (S := (fun w' => w'.cell? ⟨T, 0, none⟩ = some (.bool x0) ∧ w'.cell? ⟨T, 1, none⟩ = some (.int .i64 x1) ∧ w'.cell? ⟨T, 2, none⟩ = some (.int .i64 x2) ∧ w'.cell? ⟨T, 3, none⟩ = some (.string x3) ∧ w'.cell? ⟨T + 1, 0, none⟩ = some (.bool x0) ∧ w'.cell? ⟨T + 1, 1, none⟩ = some (.int .i64 x1) ∧ w'.cell? ⟨T + 1, 2, none⟩ = some (.int .i64 y2) ∧ w'.cell? ⟨T + 1, 3, none⟩ = some (.string y3) ∧ w'.cell? ⟨X, 0, none⟩ = some (.bool x0) ∧ w'.cell? ⟨X, 1, none⟩ = some (.int .i64 x1) ∧ w'.cell? ⟨X, 2, none⟩ = some (.int .i64 y2) ∧ w'.cell? ⟨X, 3, none⟩ = some (.string y3) ∧ w'.cell? ⟨X + 1, 0, none⟩ = some (.bool x0) ∧ w'.cell? ⟨X + 1, 1, none⟩ = some (.int .i64 x1) ∧ w'.cell? ⟨X + 1, 2, none⟩ = some (.int .i64 x2) ∧ w'.cell? ⟨X + 1, 3, none⟩ = some (.string x3))) (by kernel_rfl) (KS.out _ HD.out) (fun hHeld => ?_)
                  refine wpAnyH_take (i := 0) (oi := ?o218) (v := ?v218) ?hi218 (by kernel_rfl) (by kernel_rfl) (by kernel_rfl) ?hq218 ?hy218 (by assumption) ?r218
                  case hi218 => (simp only [List.getElem?_toArray, List.getElem?_cons_succ, List.getElem?_cons_zero]; rfl)
                  case hq218 => exact fun _ _ _ h => h
                  case hy218 =>
                    first
                      | (refine Or.inl ⟨by rfl, ?_⟩; intro wq hSw; (try dsimp only at hSw); go_simp; (try with_reducible rfl); done)
                      | (refine Or.inr ⟨by rfl, ?_⟩; with_reducible rfl)
                  try simp only [Act.put, List.setIfInBounds_toArray, List.set_cons_zero, List.set_cons_succ]
                  refine wpAnyH_take (i := 1) (oi := ?o219) (v := ?v219) ?hi219 (by kernel_rfl) (by kernel_rfl) (by kernel_rfl) ?hq219 ?hy219 (by assumption) ?r219
                  case hi219 => (simp only [List.getElem?_toArray, List.getElem?_cons_succ, List.getElem?_cons_zero]; rfl)
                  case hq219 => exact fun _ _ _ h => h
                  case hy219 =>
                    first
                      | (refine Or.inl ⟨by rfl, ?_⟩; intro wq hSw; (try dsimp only at hSw); go_simp; (try with_reducible rfl); done)
                      | (refine Or.inr ⟨by rfl, ?_⟩; with_reducible rfl)
                  try simp only [Act.put, List.setIfInBounds_toArray, List.set_cons_zero, List.set_cons_succ]
                  refine wpAnyH_ready (rs := [2]) (by kernel_rfl) (by simp) ?_
                  refine AllReadyH.cons (by simp only [List.getElem?_toArray, List.getElem?_cons_succ, List.getElem?_cons_zero]; rfl) (fun K hK => ?_) AllReadyH.nil
                  go_simp
                  go_at_call 18
                  refine (AQP.out _).mono ?_
                  rintro e wn ⟨rfl, hb⟩
                  replace HD := Lib.hid (below_seq HD.out hb)
                  clear hb AQP
                  refine hK.out _ _ (KS.out _ HD.out) (fun hHeld2 => ?_)
                  clear hK K hHeld
                  try simp only [Act.put, List.setIfInBounds_toArray, List.set_cons_zero, List.set_cons_succ]
                  refine wpAnyH_take (i := 3) (oi := ?o220) (v := ?v220) ?hi220 (by kernel_rfl) (by kernel_rfl) (by kernel_rfl) ?hq220 ?hy220 (by assumption) ?r220
                  case hi220 => (simp only [List.getElem?_toArray, List.getElem?_cons_succ, List.getElem?_cons_zero]; rfl)
                  case hq220 => exact fun _ _ _ h => h
                  case hy220 =>
                    first
                      | (refine Or.inl ⟨by rfl, ?_⟩; intro wq hSw; (try dsimp only at hSw); go_simp; (try with_reducible rfl); done)
                      | (refine Or.inr ⟨by rfl, ?_⟩; with_reducible rfl)
                  try simp only [Act.put, List.setIfInBounds_toArray, List.set_cons_zero, List.set_cons_succ]
                  refine wpAnyH_take (i := 4) (oi := ?o221) (v := ?v221) ?hi221 (by kernel_rfl) (by kernel_rfl) (by kernel_rfl) ?hq221 ?hy221 (by assumption) ?r221
                  case hi221 => (simp only [List.getElem?_toArray, List.getElem?_cons_succ, List.getElem?_cons_zero]; rfl)
                  case hq221 => exact fun _ _ _ h => h
                  case hy221 =>
                    first
                      | (refine Or.inl ⟨by rfl, ?_⟩; intro wq hSw; (try dsimp only at hSw); go_simp; (try with_reducible rfl); done)
                      | (refine Or.inr ⟨by rfl, ?_⟩; with_reducible rfl)
                  try simp only [Act.put, List.setIfInBounds_toArray, List.set_cons_zero, List.set_cons_succ]
                  refine wpAnyH_take (i := 5) (oi := ?o222) (v := ?v222) ?hi222 (by kernel_rfl) (by kernel_rfl) (by kernel_rfl) ?hq222 ?hy222 (by assumption) ?r222
                  case hi222 => (simp only [List.getElem?_toArray, List.getElem?_cons_succ, List.getElem?_cons_zero]; rfl)
                  case hq222 => exact fun _ _ _ h => h
                  case hy222 =>
                    first
                      | (refine Or.inl ⟨by rfl, ?_⟩; intro wq hSw; (try dsimp only at hSw); go_simp; (try with_reducible rfl); done)
                      | (refine Or.inr ⟨by rfl, ?_⟩; with_reducible rfl)
                  try simp only [Act.put, List.setIfInBounds_toArray, List.set_cons_zero, List.set_cons_succ]
                  refine wpAnyH_take (i := 6) (oi := ?o223) (v := ?v223) ?hi223 (by kernel_rfl) (by kernel_rfl) (by kernel_rfl) ?hq223 ?hy223 (by assumption) ?r223
                  case hi223 => (simp only [List.getElem?_toArray, List.getElem?_cons_succ, List.getElem?_cons_zero]; rfl)
                  case hq223 => exact fun _ _ _ h => h
                  case hy223 =>
                    first
                      | (refine Or.inl ⟨by rfl, ?_⟩; intro wq hSw; (try dsimp only at hSw); go_simp; (try with_reducible rfl); done)
                      | (refine Or.inr ⟨by rfl, ?_⟩; with_reducible rfl)
                  try simp only [Act.put, List.setIfInBounds_toArray, List.set_cons_zero, List.set_cons_succ]
                  refine wpAnyH_take (i := 7) (oi := ?o224) (v := ?v224) ?hi224 (by kernel_rfl) (by kernel_rfl) (by kernel_rfl) ?hq224 ?hy224 (by assumption) ?r224
                  case hi224 => (simp only [List.getElem?_toArray, List.getElem?_cons_succ, List.getElem?_cons_zero]; rfl)
                  case hq224 => exact fun _ _ _ h => h
                  case hy224 =>
                    first
                      | (refine Or.inl ⟨by rfl, ?_⟩; intro wq hSw; (try dsimp only at hSw); go_simp; (try with_reducible rfl); done)
                      | (refine Or.inr ⟨by rfl, ?_⟩; with_reducible rfl)
                  try simp only [Act.put, List.setIfInBounds_toArray, List.set_cons_zero, List.set_cons_succ]
                  refine wpAnyH_take (i := 8) (oi := ?o225) (v := ?v225) ?hi225 (by kernel_rfl) (by kernel_rfl) (by kernel_rfl) ?hq225 ?hy225 (by assumption) ?r225
                  case hi225 => (simp only [List.getElem?_toArray, List.getElem?_cons_succ, List.getElem?_cons_zero]; rfl)
                  case hq225 => exact fun _ _ _ h => h
                  case hy225 =>
                    first
                      | (refine Or.inl ⟨by rfl, ?_⟩; intro wq hSw; (try dsimp only at hSw); go_simp; (try with_reducible rfl); done)
                      | (refine Or.inr ⟨by rfl, ?_⟩; with_reducible rfl)
                  try simp only [Act.put, List.setIfInBounds_toArray, List.set_cons_zero, List.set_cons_succ]
                  refine wpAnyH_take (i := 9) (oi := ?o226) (v := ?v226) ?hi226 (by kernel_rfl) (by kernel_rfl) (by kernel_rfl) ?hq226 ?hy226 (by assumption) ?r226
                  case hi226 => (simp only [List.getElem?_toArray, List.getElem?_cons_succ, List.getElem?_cons_zero]; rfl)
                  case hq226 => exact fun _ _ _ h => h
                  case hy226 =>
                    first
                      | (refine Or.inl ⟨by rfl, ?_⟩; intro wq hSw; (try dsimp only at hSw); go_simp; (try with_reducible rfl); done)
                      | (refine Or.inr ⟨by rfl, ?_⟩; with_reducible rfl)
                  try simp only [Act.put, List.setIfInBounds_toArray, List.set_cons_zero, List.set_cons_succ]
                  refine wpAnyH_take (i := 10) (oi := ?o227) (v := ?v227) ?hi227 (by kernel_rfl) (by kernel_rfl) (by kernel_rfl) ?hq227 ?hy227 (by assumption) ?r227
                  case hi227 => (simp only [List.getElem?_toArray, List.getElem?_cons_succ, List.getElem?_cons_zero]; rfl)
                  case hq227 => exact fun _ _ _ h => h
                  case hy227 =>
                    first
                      | (refine Or.inl ⟨by rfl, ?_⟩; intro wq hSw; (try dsimp only at hSw); go_simp; (try with_reducible rfl); done)
                      | (refine Or.inr ⟨by rfl, ?_⟩; with_reducible rfl)
                  try simp only [Act.put, List.setIfInBounds_toArray, List.set_cons_zero, List.set_cons_succ]
                  refine wpAnyH_take (i := 11) (oi := ?o228) (v := ?v228) ?hi228 (by kernel_rfl) (by kernel_rfl) (by kernel_rfl) ?hq228 ?hy228 (by assumption) ?r228
                  case hi228 => (simp only [List.getElem?_toArray, List.getElem?_cons_succ, List.getElem?_cons_zero]; rfl)
                  case hq228 => exact fun _ _ _ h => h
                  case hy228 =>
                    first
                      | (refine Or.inl ⟨by rfl, ?_⟩; intro wq hSw; (try dsimp only at hSw); go_simp; (try with_reducible rfl); done)
                      | (refine Or.inr ⟨by rfl, ?_⟩; with_reducible rfl)
                  try simp only [Act.put, List.setIfInBounds_toArray, List.set_cons_zero, List.set_cons_succ]
                  refine wpAnyH_take (i := 12) (oi := ?o229) (v := ?v229) ?hi229 (by kernel_rfl) (by kernel_rfl) (by kernel_rfl) ?hq229 ?hy229 (by assumption) ?r229
                  case hi229 => (simp only [List.getElem?_toArray, List.getElem?_cons_succ, List.getElem?_cons_zero]; rfl)
                  case hq229 => exact fun _ _ _ h => h
                  case hy229 =>
                    first
                      | (refine Or.inl ⟨by rfl, ?_⟩; intro wq hSw; (try dsimp only at hSw); go_simp; (try with_reducible rfl); done)
                      | (refine Or.inr ⟨by rfl, ?_⟩; with_reducible rfl)
                  try simp only [Act.put, List.setIfInBounds_toArray, List.set_cons_zero, List.set_cons_succ]
                  refine wpAnyH_take (i := 13) (oi := ?o230) (v := ?v230) ?hi230 (by kernel_rfl) (by kernel_rfl) (by kernel_rfl) ?hq230 ?hy230 (by assumption) ?r230
                  case hi230 => (simp only [List.getElem?_toArray, List.getElem?_cons_succ, List.getElem?_cons_zero]; rfl)
                  case hq230 => exact fun _ _ _ h => h
                  case hy230 =>
                    first
                      | (refine Or.inl ⟨by rfl, ?_⟩; intro wq hSw; (try dsimp only at hSw); go_simp; (try with_reducible rfl); done)
                      | (refine Or.inr ⟨by rfl, ?_⟩; with_reducible rfl)
                  try simp only [Act.put, List.setIfInBounds_toArray, List.set_cons_zero, List.set_cons_succ]
                  refine wpAnyH_take (i := 14) (oi := ?o231) (v := ?v231) ?hi231 (by kernel_rfl) (by kernel_rfl) (by kernel_rfl) ?hq231 ?hy231 (by assumption) ?r231
                  case hi231 => (simp only [List.getElem?_toArray, List.getElem?_cons_succ, List.getElem?_cons_zero]; rfl)
                  case hq231 => exact fun _ _ _ h => h
                  case hy231 =>
                    first
                      | (refine Or.inl ⟨by rfl, ?_⟩; intro wq hSw; (try dsimp only at hSw); go_simp; (try with_reducible rfl); done)
                      | (refine Or.inr ⟨by rfl, ?_⟩; with_reducible rfl)
                  try simp only [Act.put, List.setIfInBounds_toArray, List.set_cons_zero, List.set_cons_succ]
                  refine wpAnyH_take (i := 15) (oi := ?o232) (v := ?v232) ?hi232 (by kernel_rfl) (by kernel_rfl) (by kernel_rfl) ?hq232 ?hy232 (by assumption) ?r232
                  case hi232 => (simp only [List.getElem?_toArray, List.getElem?_cons_succ, List.getElem?_cons_zero]; rfl)
                  case hq232 => exact fun _ _ _ h => h
                  case hy232 =>
                    first
                      | (refine Or.inl ⟨by rfl, ?_⟩; intro wq hSw; (try dsimp only at hSw); go_simp; (try with_reducible rfl); done)
                      | (refine Or.inr ⟨by rfl, ?_⟩; with_reducible rfl)
                  try simp only [Act.put, List.setIfInBounds_toArray, List.set_cons_zero, List.set_cons_succ]
                  refine wpAnyH_take (i := 16) (oi := ?o233) (v := ?v233) ?hi233 (by kernel_rfl) (by kernel_rfl) (by kernel_rfl) ?hq233 ?hy233 (by assumption) ?r233
                  case hi233 => (simp only [List.getElem?_toArray, List.getElem?_cons_succ, List.getElem?_cons_zero]; rfl)
                  case hq233 => exact fun _ _ _ h => h
                  case hy233 =>
                    first
                      | (refine Or.inl ⟨by rfl, ?_⟩; intro wq hSw; (try dsimp only at hSw); go_simp; (try with_reducible rfl); done)
                      | (refine Or.inr ⟨by rfl, ?_⟩; with_reducible rfl)
                  try simp only [Act.put, List.setIfInBounds_toArray, List.set_cons_zero, List.set_cons_succ]
                  refine wpAnyH_take (i := 17) (oi := ?o234) (v := ?v234) ?hi234 (by kernel_rfl) (by kernel_rfl) (by kernel_rfl) ?hq234 ?hy234 (by assumption) ?r234
                  case hi234 => (simp only [List.getElem?_toArray, List.getElem?_cons_succ, List.getElem?_cons_zero]; rfl)
                  case hq234 => exact fun _ _ _ h => h
                  case hy234 =>
                    first
                      | (refine Or.inl ⟨by rfl, ?_⟩; intro wq hSw; (try dsimp only at hSw); go_simp; (try with_reducible rfl); done)
                      | (refine Or.inr ⟨by rfl, ?_⟩; with_reducible rfl)
                  try simp only [Act.put, List.setIfInBounds_toArray, List.set_cons_zero, List.set_cons_succ]
                  refine wpAnyH_take (i := 18) (oi := ?o235) (v := ?v235) ?hi235 (by kernel_rfl) (by kernel_rfl) (by kernel_rfl) ?hq235 ?hy235 (by assumption) ?r235
                  case hi235 => (simp only [List.getElem?_toArray, List.getElem?_cons_succ, List.getElem?_cons_zero]; rfl)
                  case hq235 => exact fun _ _ _ h => h
                  case hy235 =>
                    first
                      | (refine Or.inl ⟨by rfl, ?_⟩; intro wq hSw; (try dsimp only at hSw); go_simp; (try with_reducible rfl); done)
                      | (refine Or.inr ⟨by rfl, ?_⟩; with_reducible rfl)
                  try simp only [Act.put, List.setIfInBounds_toArray, List.set_cons_zero, List.set_cons_succ]
                  refine wpAnyH_take (i := 19) (oi := ?o236) (v := ?v236) ?hi236 (by kernel_rfl) (by kernel_rfl) (by kernel_rfl) ?hq236 ?hy236 (by assumption) ?r236
                  case hi236 => (simp only [List.getElem?_toArray, List.getElem?_cons_succ, List.getElem?_cons_zero]; rfl)
                  case hq236 => exact fun _ _ _ h => h
                  case hy236 =>
                    first
                      | (refine Or.inl ⟨by rfl, ?_⟩; intro wq hSw; (try dsimp only at hSw); go_simp; (try with_reducible rfl); done)
                      | (refine Or.inr ⟨by rfl, ?_⟩; with_reducible rfl)
                  try simp only [Act.put, List.setIfInBounds_toArray, List.set_cons_zero, List.set_cons_succ]
                  refine wpAnyH_take (i := 20) (oi := ?o237) (v := ?v237) ?hi237 (by kernel_rfl) (by kernel_rfl) (by kernel_rfl) ?hq237 ?hy237 (by assumption) ?r237
                  case hi237 => (simp only [List.getElem?_toArray, List.getElem?_cons_succ, List.getElem?_cons_zero]; rfl)
                  case hq237 => exact fun _ _ _ h => h
                  case hy237 =>
                    first
                      | (refine Or.inl ⟨by rfl, ?_⟩; intro wq hSw; (try dsimp only at hSw); go_simp; (try with_reducible rfl); done)
                      | (refine Or.inr ⟨by rfl, ?_⟩; with_reducible rfl)
                  try simp only [Act.put, List.setIfInBounds_toArray, List.set_cons_zero, List.set_cons_succ]
                  refine wpAnyH_take (i := 21) (oi := ?o238) (v := ?v238) ?hi238 (by kernel_rfl) (by kernel_rfl) (by kernel_rfl) ?hq238 ?hy238 (by assumption) ?r238
                  case hi238 => (simp only [List.getElem?_toArray, List.getElem?_cons_succ, List.getElem?_cons_zero]; rfl)
                  case hq238 => exact fun _ _ _ h => h
                  case hy238 =>
                    first
                      | (refine Or.inl ⟨by rfl, ?_⟩; intro wq hSw; (try dsimp only at hSw); go_simp; (try with_reducible rfl); done)
                      | (refine Or.inr ⟨by rfl, ?_⟩; with_reducible rfl)
                  try simp only [Act.put, List.setIfInBounds_toArray, List.set_cons_zero, List.set_cons_succ]
                  refine wpAnyH_take (i := 22) (oi := ?o239) (v := ?v239) ?hi239 (by kernel_rfl) (by kernel_rfl) (by kernel_rfl) ?hq239 ?hy239 (by assumption) ?r239
                  case hi239 => (simp only [List.getElem?_toArray, List.getElem?_cons_succ, List.getElem?_cons_zero]; rfl)
                  case hq239 => exact fun _ _ _ h => h
                  case hy239 =>
                    first
                      | (refine Or.inl ⟨by rfl, ?_⟩; intro wq hSw; (try dsimp only at hSw); go_simp; (try with_reducible rfl); done)
                      | (refine Or.inr ⟨by rfl, ?_⟩; with_reducible rfl)
                  try simp only [Act.put, List.setIfInBounds_toArray, List.set_cons_zero, List.set_cons_succ]
                  refine wpAnyH_take (i := 23) (oi := ?o240) (v := ?v240) ?hi240 (by kernel_rfl) (by kernel_rfl) (by kernel_rfl) ?hq240 ?hy240 (by assumption) ?r240
                  case hi240 => (simp only [List.getElem?_toArray, List.getElem?_cons_succ, List.getElem?_cons_zero]; rfl)
                  case hq240 => exact fun _ _ _ h => h
                  case hy240 =>
                    first
                      | (refine Or.inl ⟨by rfl, ?_⟩; intro wq hSw; (try dsimp only at hSw); go_simp; (try with_reducible rfl); done)
                      | (refine Or.inr ⟨by rfl, ?_⟩; with_reducible rfl)
                  try simp only [Act.put, List.setIfInBounds_toArray, List.set_cons_zero, List.set_cons_succ]
                  refine wpAnyH_take (i := 24) (oi := ?o241) (v := ?v241) ?hi241 (by kernel_rfl) (by kernel_rfl) (by kernel_rfl) ?hq241 ?hy241 (by assumption) ?r241
                  case hi241 => (simp only [List.getElem?_toArray, List.getElem?_cons_succ, List.getElem?_cons_zero]; rfl)
                  case hq241 => exact fun _ _ _ h => h
                  case hy241 =>
                    first
                      | (refine Or.inl ⟨by rfl, ?_⟩; intro wq hSw; (try dsimp only at hSw); go_simp; (try with_reducible rfl); done)
                      | (refine Or.inr ⟨by rfl, ?_⟩; with_reducible rfl)
                  try simp only [Act.put, List.setIfInBounds_toArray, List.set_cons_zero, List.set_cons_succ]
                  refine wpAnyH_take (i := 25) (oi := ?o242) (v := ?v242) ?hi242 (by kernel_rfl) (by kernel_rfl) (by kernel_rfl) ?hq242 ?hy242 (by assumption) ?r242
                  case hi242 => (simp only [List.getElem?_toArray, List.getElem?_cons_succ, List.getElem?_cons_zero]; rfl)
                  case hq242 => exact fun _ _ _ h => h
                  case hy242 =>
                    first
                      | (refine Or.inl ⟨by rfl, ?_⟩; intro wq hSw; (try dsimp only at hSw); go_simp; (try with_reducible rfl); done)
                      | (refine Or.inr ⟨by rfl, ?_⟩; with_reducible rfl)
                  try simp only [Act.put, List.setIfInBounds_toArray, List.set_cons_zero, List.set_cons_succ]
                  refine wpAnyH_take (i := 26) (oi := ?o243) (v := ?v243) ?hi243 (by kernel_rfl) (by kernel_rfl) (by kernel_rfl) ?hq243 ?hy243 (by assumption) ?r243
                  case hi243 => (simp only [List.getElem?_toArray, List.getElem?_cons_succ, List.getElem?_cons_zero]; rfl)
                  case hq243 => exact fun _ _ _ h => h
                  case hy243 =>
                    first
                      | (refine Or.inl ⟨by rfl, ?_⟩; intro wq hSw; (try dsimp only at hSw); go_simp; (try with_reducible rfl); done)
                      | (refine Or.inr ⟨by rfl, ?_⟩; with_reducible rfl)
                  try simp only [Act.put, List.setIfInBounds_toArray, List.set_cons_zero, List.set_cons_succ]
                  refine wpAnyH_take (i := 27) (oi := ?o244) (v := ?v244) ?hi244 (by kernel_rfl) (by kernel_rfl) (by kernel_rfl) ?hq244 ?hy244 (by assumption) ?r244
                  case hi244 => (simp only [List.getElem?_toArray, List.getElem?_cons_succ, List.getElem?_cons_zero]; rfl)
                  case hq244 => exact fun _ _ _ h => h
                  case hy244 =>
                    first
                      | (refine Or.inl ⟨by rfl, ?_⟩; intro wq hSw; (try dsimp only at hSw); go_simp; (try with_reducible rfl); done)
                      | (refine Or.inr ⟨by rfl, ?_⟩; with_reducible rfl)
                  try simp only [Act.put, List.setIfInBounds_toArray, List.set_cons_zero, List.set_cons_succ]
                  refine wpAnyH_take (i := 28) (oi := ?o245) (v := ?v245) ?hi245 (by kernel_rfl) (by kernel_rfl) (by kernel_rfl) ?hq245 ?hy245 (by assumption) ?r245
                  case hi245 => (simp only [List.getElem?_toArray, List.getElem?_cons_succ, List.getElem?_cons_zero]; rfl)
                  case hq245 => exact fun _ _ _ h => h
                  case hy245 =>
                    first
                      | (refine Or.inl ⟨by rfl, ?_⟩; intro wq hSw; (try dsimp only at hSw); go_simp; (try with_reducible rfl); done)
                      | (refine Or.inr ⟨by rfl, ?_⟩; with_reducible rfl)
                  try simp only [Act.put, List.setIfInBounds_toArray, List.set_cons_zero, List.set_cons_succ]
                  refine wpAnyH_take (i := 29) (oi := ?o246) (v := ?v246) ?hi246 (by kernel_rfl) (by kernel_rfl) (by kernel_rfl) ?hq246 ?hy246 (by assumption) ?r246
                  case hi246 => (simp only [List.getElem?_toArray, List.getElem?_cons_succ, List.getElem?_cons_zero]; rfl)
                  case hq246 => exact fun _ _ _ h => h
                  case hy246 =>
                    first
                      | (refine Or.inl ⟨by rfl, ?_⟩; intro wq hSw; (try dsimp only at hSw); go_simp; (try with_reducible rfl); done)
                      | (refine Or.inr ⟨by rfl, ?_⟩; with_reducible rfl)
                  try simp only [Act.put, List.setIfInBounds_toArray, List.set_cons_zero, List.set_cons_succ]
                  refine wpAnyH_take (i := 30) (oi := ?o247) (v := ?v247) ?hi247 (by kernel_rfl) (by kernel_rfl) (by kernel_rfl) ?hq247 ?hy247 (by assumption) ?r247
                  case hi247 => (simp only [List.getElem?_toArray, List.getElem?_cons_succ, List.getElem?_cons_zero]; rfl)
                  case hq247 => exact fun _ _ _ h => h
                  case hy247 =>
                    first
                      | (refine Or.inl ⟨by rfl, ?_⟩; intro wq hSw; (try dsimp only at hSw); go_simp; (try with_reducible rfl); done)
                      | (refine Or.inr ⟨by rfl, ?_⟩; with_reducible rfl)
                  try simp only [Act.put, List.setIfInBounds_toArray, List.set_cons_zero, List.set_cons_succ]
                  refine wpAnyH_take (i := 31) (oi := ?o248) (v := ?v248) ?hi248 (by kernel_rfl) (by kernel_rfl) (by kernel_rfl) ?hq248 ?hy248 (by assumption) ?r248
                  case hi248 => (simp only [List.getElem?_toArray, List.getElem?_cons_succ, List.getElem?_cons_zero]; rfl)
                  case hq248 => exact fun _ _ _ h => h
                  case hy248 =>
                    first
                      | (refine Or.inl ⟨by rfl, ?_⟩; intro wq hSw; (try dsimp only at hSw); go_simp; (try with_reducible rfl); done)
                      | (refine Or.inr ⟨by rfl, ?_⟩; with_reducible rfl)
                  try simp only [Act.put, List.setIfInBounds_toArray, List.set_cons_zero, List.set_cons_succ]
                  refine wpAnyH_done (by kernel_rfl) ?_ _
                  go_wp2_with fail
                  go_meet
                  case rel => exact ⟨rfl, HD⟩
                · have hd2 : ¬ y3.toList = x3.toList := fun e => hd e.symm
                  have hd3 : (x3.toList == y3.toList) = false := by simpa using hd
                  have hd4 : (y3.toList == x3.toList) = false := by simpa using hd2
                  refine wp_region_held_drew (S := (fun w' => w'.cell? ⟨T, 0, none⟩ = some (.bool x0) ∧ w'.cell? ⟨T, 1, none⟩ = some (.int .i64 x1) ∧ w'.cell? ⟨T, 2, none⟩ = some (.int .i64 x2) ∧ w'.cell? ⟨T, 3, none⟩ = some (.string x3) ∧ w'.cell? ⟨T + 1, 0, none⟩ = some (.bool x0) ∧ w'.cell? ⟨T + 1, 1, none⟩ = some (.int .i64 x1) ∧ w'.cell? ⟨T + 1, 2, none⟩ = some (.int .i64 x2) ∧ w'.cell? ⟨T + 1, 3, none⟩ = some (.string y3) ∧ w'.cell? ⟨X, 0, none⟩ = some (.bool x0) ∧ w'.cell? ⟨X, 1, none⟩ = some (.int .i64 x1) ∧ w'.cell? ⟨X, 2, none⟩ = some (.int .i64 x2) ∧ w'.cell? ⟨X, 3, none⟩ = some (.string y3) ∧ w'.cell? ⟨X + 1, 0, none⟩ = some (.bool x0) ∧ w'.cell? ⟨X + 1, 1, none⟩ = some (.int .i64 x1) ∧ w'.cell? ⟨X + 1, 2, none⟩ = some (.int .i64 x2) ∧ w'.cell? ⟨X + 1, 3, none⟩ = some (.string x3))) (by kernel_rfl) (KS.out _ HD.out) (fun hHeld => ?_)
                  refine wpAnyH_take (i := 0) (oi := ?o249) (v := ?v249) ?hi249 (by kernel_rfl) (by kernel_rfl) (by kernel_rfl) ?hq249 ?hy249 (by assumption) ?r249
                  case hi249 => (simp only [List.getElem?_toArray, List.getElem?_cons_succ, List.getElem?_cons_zero]; rfl)
                  case hq249 => exact fun _ _ _ h => h
                  case hy249 =>
                    first
                      | (refine Or.inl ⟨by rfl, ?_⟩; intro wq hSw; (try dsimp only at hSw); go_simp; (try with_reducible rfl); done)
                      | (refine Or.inr ⟨by rfl, ?_⟩; with_reducible rfl)
                  try simp only [Act.put, List.setIfInBounds_toArray, List.set_cons_zero, List.set_cons_succ]
                  refine wpAnyH_take (i := 1) (oi := ?o250) (v := ?v250) ?hi250 (by kernel_rfl) (by kernel_rfl) (by kernel_rfl) ?hq250 ?hy250 (by assumption) ?r250
                  case hi250 => (simp only [List.getElem?_toArray, List.getElem?_cons_succ, List.getElem?_cons_zero]; rfl)
                  case hq250 => exact fun _ _ _ h => h
                  case hy250 =>
                    first
                      | (refine Or.inl ⟨by rfl, ?_⟩; intro wq hSw; (try dsimp only at hSw); go_simp; (try with_reducible rfl); done)
                      | (refine Or.inr ⟨by rfl, ?_⟩; with_reducible rfl)
                  try simp only [Act.put, List.setIfInBounds_toArray, List.set_cons_zero, List.set_cons_succ]
                  refine wpAnyH_ready (rs := [2]) (by kernel_rfl) (by simp) ?_
                  refine AllReadyH.cons (by simp only [List.getElem?_toArray, List.getElem?_cons_succ, List.getElem?_cons_zero]; rfl) (fun K hK => ?_) AllReadyH.nil
                  go_simp
                  go_at_call 18
                  refine (AQP.out _).mono ?_
                  rintro e wn ⟨rfl, hb⟩
                  replace HD := Lib.hid (below_seq HD.out hb)
                  clear hb AQP
                  refine hK.out _ _ (KS.out _ HD.out) (fun hHeld2 => ?_)
                  clear hK K hHeld
                  try simp only [Act.put, List.setIfInBounds_toArray, List.set_cons_zero, List.set_cons_succ]
                  refine wpAnyH_take (i := 3) (oi := ?o251) (v := ?v251) ?hi251 (by kernel_rfl) (by kernel_rfl) (by kernel_rfl) ?hq251 ?hy251 (by assumption) ?r251
                  case hi251 => (simp only [List.getElem?_toArray, List.getElem?_cons_succ, List.getElem?_cons_zero]; rfl)
                  case hq251 => exact fun _ _ _ h => h
                  case hy251 =>
                    first
                      | (refine Or.inl ⟨by rfl, ?_⟩; intro wq hSw; (try dsimp only at hSw); go_simp; (try with_reducible rfl); done)
                      | (refine Or.inr ⟨by rfl, ?_⟩; with_reducible rfl)
                  try simp only [Act.put, List.setIfInBounds_toArray, List.set_cons_zero, List.set_cons_succ]
                  refine wpAnyH_take (i := 4) (oi := ?o252) (v := ?v252) ?hi252 (by kernel_rfl) (by kernel_rfl) (by kernel_rfl) ?hq252 ?hy252 (by assumption) ?r252
                  case hi252 => (simp only [List.getElem?_toArray, List.getElem?_cons_succ, List.getElem?_cons_zero]; rfl)
                  case hq252 => exact fun _ _ _ h => h
                  case hy252 =>
                    first
                      | (refine Or.inl ⟨by rfl, ?_⟩; intro wq hSw; (try dsimp only at hSw); go_simp; (try with_reducible rfl); done)
                      | (refine Or.inr ⟨by rfl, ?_⟩; with_reducible rfl)
                  try simp only [Act.put, List.setIfInBounds_toArray, List.set_cons_zero, List.set_cons_succ]
                  refine wpAnyH_take (i := 5) (oi := ?o253) (v := ?v253) ?hi253 (by kernel_rfl) (by kernel_rfl) (by kernel_rfl) ?hq253 ?hy253 (by assumption) ?r253
                  case hi253 => (simp only [List.getElem?_toArray, List.getElem?_cons_succ, List.getElem?_cons_zero]; rfl)
                  case hq253 => exact fun _ _ _ h => h
                  case hy253 =>
                    first
                      | (refine Or.inl ⟨by rfl, ?_⟩; intro wq hSw; (try dsimp only at hSw); go_simp; (try with_reducible rfl); done)
                      | (refine Or.inr ⟨by rfl, ?_⟩; with_reducible rfl)
                  try simp only [Act.put, List.setIfInBounds_toArray, List.set_cons_zero, List.set_cons_succ]
                  refine wpAnyH_take (i := 6) (oi := ?o254) (v := ?v254) ?hi254 (by kernel_rfl) (by kernel_rfl) (by kernel_rfl) ?hq254 ?hy254 (by assumption) ?r254
                  case hi254 => (simp only [List.getElem?_toArray, List.getElem?_cons_succ, List.getElem?_cons_zero]; rfl)
                  case hq254 => exact fun _ _ _ h => h
                  case hy254 =>
                    first
                      | (refine Or.inl ⟨by rfl, ?_⟩; intro wq hSw; (try dsimp only at hSw); go_simp; (try with_reducible rfl); done)
                      | (refine Or.inr ⟨by rfl, ?_⟩; with_reducible rfl)
                  try simp only [Act.put, List.setIfInBounds_toArray, List.set_cons_zero, List.set_cons_succ]
                  refine wpAnyH_take (i := 7) (oi := ?o255) (v := ?v255) ?hi255 (by kernel_rfl) (by kernel_rfl) (by kernel_rfl) ?hq255 ?hy255 (by assumption) ?r255
                  case hi255 => (simp only [List.getElem?_toArray, List.getElem?_cons_succ, List.getElem?_cons_zero]; rfl)
                  case hq255 => exact fun _ _ _ h => h
                  case hy255 =>
                    first
                      | (refine Or.inl ⟨by rfl, ?_⟩; intro wq hSw; (try dsimp only at hSw); go_simp; (try with_reducible rfl); done)
                      | (refine Or.inr ⟨by rfl, ?_⟩; with_reducible rfl)
                  try simp only [Act.put, List.setIfInBounds_toArray, List.set_cons_zero, List.set_cons_succ]
                  refine wpAnyH_take (i := 8) (oi := ?o256) (v := ?v256) ?hi256 (by kernel_rfl) (by kernel_rfl) (by kernel_rfl) ?hq256 ?hy256 (by assumption) ?r256
                  case hi256 => (simp only [List.getElem?_toArray, List.getElem?_cons_succ, List.getElem?_cons_zero]; rfl)
                  case hq256 => exact fun _ _ _ h => h
                  case hy256 =>
                    first
                      | (refine Or.inl ⟨by rfl, ?_⟩; intro wq hSw; (try dsimp only at hSw); go_simp; (try with_reducible rfl); done)
                      | (refine Or.inr ⟨by rfl, ?_⟩; with_reducible rfl)
                  try simp only [Act.put, List.setIfInBounds_toArray, List.set_cons_zero, List.set_cons_succ]
                  refine wpAnyH_take (i := 9) (oi := ?o257) (v := ?v257) ?hi257 (by kernel_rfl) (by kernel_rfl) (by kernel_rfl) ?hq257 ?hy257 (by assumption) ?r257
                  case hi257 => (simp only [List.getElem?_toArray, List.getElem?_cons_succ, List.getElem?_cons_zero]; rfl)
                  case hq257 => exact fun _ _ _ h => h
                  case hy257 =>
                    first
                      | (refine Or.inl ⟨by rfl, ?_⟩; intro wq hSw; (try dsimp only at hSw); go_simp; (try with_reducible rfl); done)
                      | (refine Or.inr ⟨by rfl, ?_⟩; with_reducible rfl)
                  try simp only [Act.put, List.setIfInBounds_toArray, List.set_cons_zero, List.set_cons_succ]
                  refine wpAnyH_take (i := 10) (oi := ?o258) (v := ?v258) ?hi258 (by kernel_rfl) (by kernel_rfl) (by kernel_rfl) ?hq258 ?hy258 (by assumption) ?r258
                  case hi258 => (simp only [List.getElem?_toArray, List.getElem?_cons_succ, List.getElem?_cons_zero]; rfl)
                  case hq258 => exact fun _ _ _ h => h
                  case hy258 =>
                    first
                      | (refine Or.inl ⟨by rfl, ?_⟩; intro wq hSw; (try dsimp only at hSw); go_simp; (try with_reducible rfl); done)
                      | (refine Or.inr ⟨by rfl, ?_⟩; with_reducible rfl)
                  try simp only [Act.put, List.setIfInBounds_toArray, List.set_cons_zero, List.set_cons_succ]
                  refine wpAnyH_take (i := 11) (oi := ?o259) (v := ?v259) ?hi259 (by kernel_rfl) (by kernel_rfl) (by kernel_rfl) ?hq259 ?hy259 (by assumption) ?r259
                  case hi259 => (simp only [List.getElem?_toArray, List.getElem?_cons_succ, List.getElem?_cons_zero]; rfl)
                  case hq259 => exact fun _ _ _ h => h
                  case hy259 =>
                    first
                      | (refine Or.inl ⟨by rfl, ?_⟩; intro wq hSw; (try dsimp only at hSw); go_simp; (try with_reducible rfl); done)
                      | (refine Or.inr ⟨by rfl, ?_⟩; with_reducible rfl)
                  try simp only [Act.put, List.setIfInBounds_toArray, List.set_cons_zero, List.set_cons_succ]
                  refine wpAnyH_take (i := 12) (oi := ?o260) (v := ?v260) ?hi260 (by kernel_rfl) (by kernel_rfl) (by kernel_rfl) ?hq260 ?hy260 (by assumption) ?r260
                  case hi260 => (simp only [List.getElem?_toArray, List.getElem?_cons_succ, List.getElem?_cons_zero]; rfl)
                  case hq260 => exact fun _ _ _ h => h
                  case hy260 =>
                    first
                      | (refine Or.inl ⟨by rfl, ?_⟩; intro wq hSw; (try dsimp only at hSw); go_simp; (try with_reducible rfl); done)
                      | (refine Or.inr ⟨by rfl, ?_⟩; with_reducible rfl)
                  try simp only [Act.put, List.setIfInBounds_toArray, List.set_cons_zero, List.set_cons_succ]
                  refine wpAnyH_take (i := 13) (oi := ?o261) (v := ?v261) ?hi261 (by kernel_rfl) (by kernel_rfl) (by kernel_rfl) ?hq261 ?hy261 (by assumption) ?r261
                  case hi261 => (simp only [List.getElem?_toArray, List.getElem?_cons_succ, List.getElem?_cons_zero]; rfl)
                  case hq261 => exact fun _ _ _ h => h
                  case hy261 =>
                    first
                      | (refine Or.inl ⟨by rfl, ?_⟩; intro wq hSw; (try dsimp only at hSw); go_simp; (try with_reducible rfl); done)
                      | (refine Or.inr ⟨by rfl, ?_⟩; with_reducible rfl)
                  try simp only [Act.put, List.setIfInBounds_toArray, List.set_cons_zero, List.set_cons_succ]
                  refine wpAnyH_take (i := 14) (oi := ?o262) (v := ?v262) ?hi262 (by kernel_rfl) (by kernel_rfl) (by kernel_rfl) ?hq262 ?hy262 (by assumption) ?r262
                  case hi262 => (simp only [List.getElem?_toArray, List.getElem?_cons_succ, List.getElem?_cons_zero]; rfl)
                  case hq262 => exact fun _ _ _ h => h
                  case hy262 =>
                    first
                      | (refine Or.inl ⟨by rfl, ?_⟩; intro wq hSw; (try dsimp only at hSw); go_simp; (try with_reducible rfl); done)
                      | (refine Or.inr ⟨by rfl, ?_⟩; with_reducible rfl)
                  try simp only [Act.put, List.setIfInBounds_toArray, List.set_cons_zero, List.set_cons_succ]
                  refine wpAnyH_take (i := 15) (oi := ?o263) (v := ?v263) ?hi263 (by kernel_rfl) (by kernel_rfl) (by kernel_rfl) ?hq263 ?hy263 (by assumption) ?r263
                  case hi263 => (simp only [List.getElem?_toArray, List.getElem?_cons_succ, List.getElem?_cons_zero]; rfl)
                  case hq263 => exact fun _ _ _ h => h
                  case hy263 =>
                    first
                      | (refine Or.inl ⟨by rfl, ?_⟩; intro wq hSw; (try dsimp only at hSw); go_simp; (try with_reducible rfl); done)
                      | (refine Or.inr ⟨by rfl, ?_⟩; with_reducible rfl)
                  try simp only [Act.put, List.setIfInBounds_toArray, List.set_cons_zero, List.set_cons_succ]
                  refine wpAnyH_take (i := 16) (oi := ?o264) (v := ?v264) ?hi264 (by kernel_rfl) (by kernel_rfl) (by kernel_rfl) ?hq264 ?hy264 (by assumption) ?r264
                  case hi264 => (simp only [List.getElem?_toArray, List.getElem?_cons_succ, List.getElem?_cons_zero]; rfl)
                  case hq264 => exact fun _ _ _ h => h
                  case hy264 =>
                    first
                      | (refine Or.inl ⟨by rfl, ?_⟩; intro wq hSw; (try dsimp only at hSw); go_simp; (try with_reducible rfl); done)
                      | (refine Or.inr ⟨by rfl, ?_⟩; with_reducible rfl)
                  try simp only [Act.put, List.setIfInBounds_toArray, List.set_cons_zero, List.set_cons_succ]
                  refine wpAnyH_take (i := 17) (oi := ?o265) (v := ?v265) ?hi265 (by kernel_rfl) (by kernel_rfl) (by kernel_rfl) ?hq265 ?hy265 (by assumption) ?r265
                  case hi265 => (simp only [List.getElem?_toArray, List.getElem?_cons_succ, List.getElem?_cons_zero]; rfl)
                  case hq265 => exact fun _ _ _ h => h
                  case hy265 =>
                    first
                      | (refine Or.inl ⟨by rfl, ?_⟩; intro wq hSw; (try dsimp only at hSw); go_simp; (try with_reducible rfl); done)
                      | (refine Or.inr ⟨by rfl, ?_⟩; with_reducible rfl)
                  try simp only [Act.put, List.setIfInBounds_toArray, List.set_cons_zero, List.set_cons_succ]
                  refine wpAnyH_take (i := 18) (oi := ?o266) (v := ?v266) ?hi266 (by kernel_rfl) (by kernel_rfl) (by kernel_rfl) ?hq266 ?hy266 (by assumption) ?r266
                  case hi266 => (simp only [List.getElem?_toArray, List.getElem?_cons_succ, List.getElem?_cons_zero]; rfl)
                  case hq266 => exact fun _ _ _ h => h
                  case hy266 =>
                    first
                      | (refine Or.inl ⟨by rfl, ?_⟩; intro wq hSw; (try dsimp only at hSw); go_simp; (try with_reducible rfl); done)
                      | (refine Or.inr ⟨by rfl, ?_⟩; with_reducible rfl)
                  try simp only [Act.put, List.setIfInBounds_toArray, List.set_cons_zero, List.set_cons_succ]
                  refine wpAnyH_take (i := 19) (oi := ?o267) (v := ?v267) ?hi267 (by kernel_rfl) (by kernel_rfl) (by kernel_rfl) ?hq267 ?hy267 (by assumption) ?r267
                  case hi267 => (simp only [List.getElem?_toArray, List.getElem?_cons_succ, List.getElem?_cons_zero]; rfl)
                  case hq267 => exact fun _ _ _ h => h
                  case hy267 =>
                    first
                      | (refine Or.inl ⟨by rfl, ?_⟩; intro wq hSw; (try dsimp only at hSw); go_simp; (try with_reducible rfl); done)
                      | (refine Or.inr ⟨by rfl, ?_⟩; with_reducible rfl)
                  try simp only [Act.put, List.setIfInBounds_toArray, List.set_cons_zero, List.set_cons_succ]
                  refine wpAnyH_take (i := 20) (oi := ?o268) (v := ?v268) ?hi268 (by kernel_rfl) (by kernel_rfl) (by kernel_rfl) ?hq268 ?hy268 (by assumption) ?r268
                  case hi268 => (simp only [List.getElem?_toArray, List.getElem?_cons_succ, List.getElem?_cons_zero]; rfl)
                  case hq268 => exact fun _ _ _ h => h
                  case hy268 =>
                    first
                      | (refine Or.inl ⟨by rfl, ?_⟩; intro wq hSw; (try dsimp only at hSw); go_simp; (try with_reducible rfl); done)
                      | (refine Or.inr ⟨by rfl, ?_⟩; with_reducible rfl)
                  try simp only [Act.put, List.setIfInBounds_toArray, List.set_cons_zero, List.set_cons_succ]
                  refine wpAnyH_take (i := 21) (oi := ?o269) (v := ?v269) ?hi269 (by kernel_rfl) (by kernel_rfl) (by kernel_rfl) ?hq269 ?hy269 (by assumption) ?r269
                  case hi269 => (simp only [List.getElem?_toArray, List.getElem?_cons_succ, List.getElem?_cons_zero]; rfl)
                  case hq269 => exact fun _ _ _ h => h
                  case hy269 =>
                    first
                      | (refine Or.inl ⟨by rfl, ?_⟩; intro wq hSw; (try dsimp only at hSw); go_simp; (try with_reducible rfl); done)
                      | (refine Or.inr ⟨by rfl, ?_⟩; with_reducible rfl)
                  try simp only [Act.put, List.setIfInBounds_toArray, List.set_cons_zero, List.set_cons_succ]
                  refine wpAnyH_take (i := 22) (oi := ?o270) (v := ?v270) ?hi270 (by kernel_rfl) (by kernel_rfl) (by kernel_rfl) ?hq270 ?hy270 (by assumption) ?r270
                  case hi270 => (simp only [List.getElem?_toArray, List.getElem?_cons_succ, List.getElem?_cons_zero]; rfl)
                  case hq270 => exact fun _ _ _ h => h
                  case hy270 =>
                    first
                      | (refine Or.inl ⟨by rfl, ?_⟩; intro wq hSw; (try dsimp only at hSw); go_simp; (try with_reducible rfl); done)
                      | (refine Or.inr ⟨by rfl, ?_⟩; with_reducible rfl)
                  try simp only [Act.put, List.setIfInBounds_toArray, List.set_cons_zero, List.set_cons_succ]
                  refine wpAnyH_take (i := 23) (oi := ?o271) (v := ?v271) ?hi271 (by kernel_rfl) (by kernel_rfl) (by kernel_rfl) ?hq271 ?hy271 (by assumption) ?r271
                  case hi271 => (simp only [List.getElem?_toArray, List.getElem?_cons_succ, List.getElem?_cons_zero]; rfl)
                  case hq271 => exact fun _ _ _ h => h
                  case hy271 =>
                    first
                      | (refine Or.inl ⟨by rfl, ?_⟩; intro wq hSw; (try dsimp only at hSw); go_simp; (try with_reducible rfl); done)
                      | (refine Or.inr ⟨by rfl, ?_⟩; with_reducible rfl)
                  try simp only [Act.put, List.setIfInBounds_toArray, List.set_cons_zero, List.set_cons_succ]
                  refine wpAnyH_take (i := 24) (oi := ?o272) (v := ?v272) ?hi272 (by kernel_rfl) (by kernel_rfl) (by kernel_rfl) ?hq272 ?hy272 (by assumption) ?r272
                  case hi272 => (simp only [List.getElem?_toArray, List.getElem?_cons_succ, List.getElem?_cons_zero]; rfl)
                  case hq272 => exact fun _ _ _ h => h
                  case hy272 =>
                    first
                      | (refine Or.inl ⟨by rfl, ?_⟩; intro wq hSw; (try dsimp only at hSw); go_simp; (try with_reducible rfl); done)
                      | (refine Or.inr ⟨by rfl, ?_⟩; with_reducible rfl)
                  try simp only [Act.put, List.setIfInBounds_toArray, List.set_cons_zero, List.set_cons_succ]
                  refine wpAnyH_take (i := 25) (oi := ?o273) (v := ?v273) ?hi273 (by kernel_rfl) (by kernel_rfl) (by kernel_rfl) ?hq273 ?hy273 (by assumption) ?r273
                  case hi273 => (simp only [List.getElem?_toArray, List.getElem?_cons_succ, List.getElem?_cons_zero]; rfl)
                  case hq273 => exact fun _ _ _ h => h
                  case hy273 =>
                    first
                      | (refine Or.inl ⟨by rfl, ?_⟩; intro wq hSw; (try dsimp only at hSw); go_simp; (try with_reducible rfl); done)
                      | (refine Or.inr ⟨by rfl, ?_⟩; with_reducible rfl)
                  try simp only [Act.put, List.setIfInBounds_toArray, List.set_cons_zero, List.set_cons_succ]
                  refine wpAnyH_take (i := 26) (oi := ?o274) (v := ?v274) ?hi274 (by kernel_rfl) (by kernel_rfl) (by kernel_rfl) ?hq274 ?hy274 (by assumption) ?r274
                  case hi274 => (simp only [List.getElem?_toArray, List.getElem?_cons_succ, List.getElem?_cons_zero]; rfl)
                  case hq274 => exact fun _ _ _ h => h
                  case hy274 =>
                    first
                      | (refine Or.inl ⟨by rfl, ?_⟩; intro wq hSw; (try dsimp only at hSw); go_simp; (try with_reducible rfl); done)
                      | (refine Or.inr ⟨by rfl, ?_⟩; with_reducible rfl)
                  try simp only [Act.put, List.setIfInBounds_toArray, List.set_cons_zero, List.set_cons_succ]
                  refine wpAnyH_take (i := 27) (oi := ?o275) (v := ?v275) ?hi275 (by kernel_rfl) (by kernel_rfl) (by kernel_rfl) ?hq275 ?hy275 (by assumption) ?r275
                  case hi275 => (simp only [List.getElem?_toArray, List.getElem?_cons_succ, List.getElem?_cons_zero]; rfl)
                  case hq275 => exact fun _ _ _ h => h
                  case hy275 =>
                    first
                      | (refine Or.inl ⟨by rfl, ?_⟩; intro wq hSw; (try dsimp only at hSw); go_simp; (try with_reducible rfl); done)
                      | (refine Or.inr ⟨by rfl, ?_⟩; with_reducible rfl)
                  try simp only [Act.put, List.setIfInBounds_toArray, List.set_cons_zero, List.set_cons_succ]
                  refine wpAnyH_take (i := 28) (oi := ?o276) (v := ?v276) ?hi276 (by kernel_rfl) (by kernel_rfl) (by kernel_rfl) ?hq276 ?hy276 (by assumption) ?r276
                  case hi276 => (simp only [List.getElem?_toArray, List.getElem?_cons_succ, List.getElem?_cons_zero]; rfl)
                  case hq276 => exact fun _ _ _ h => h
                  case hy276 =>
                    first
                      | (refine Or.inl ⟨by rfl, ?_⟩; intro wq hSw; (try dsimp only at hSw); go_simp; (try with_reducible rfl); done)
                      | (refine Or.inr ⟨by rfl, ?_⟩; with_reducible rfl)
                  try simp only [Act.put, List.setIfInBounds_toArray, List.set_cons_zero, List.set_cons_succ]
                  refine wpAnyH_take (i := 29) (oi := ?o277) (v := ?v277) ?hi277 (by kernel_rfl) (by kernel_rfl) (by kernel_rfl) ?hq277 ?hy277 (by assumption) ?r277
                  case hi277 => (simp only [List.getElem?_toArray, List.getElem?_cons_succ, List.getElem?_cons_zero]; rfl)
                  case hq277 => exact fun _ _ _ h => h
                  case hy277 =>
                    first
                      | (refine Or.inl ⟨by rfl, ?_⟩; intro wq hSw; (try dsimp only at hSw); go_simp; (try with_reducible rfl); done)
                      | (refine Or.inr ⟨by rfl, ?_⟩; with_reducible rfl)
                  try simp only [Act.put, List.setIfInBounds_toArray, List.set_cons_zero, List.set_cons_succ]
                  refine wpAnyH_take (i := 30) (oi := ?o278) (v := ?v278) ?hi278 (by kernel_rfl) (by kernel_rfl) (by kernel_rfl) ?hq278 ?hy278 (by assumption) ?r278
                  case hi278 => (simp only [List.getElem?_toArray, List.getElem?_cons_succ, List.getElem?_cons_zero]; rfl)
                  case hq278 => exact fun _ _ _ h => h
                  case hy278 =>
                    first
                      | (refine Or.inl ⟨by rfl, ?_⟩; intro wq hSw; (try dsimp only at hSw); go_simp; (try with_reducible rfl); done)
                      | (refine Or.inr ⟨by rfl, ?_⟩; with_reducible rfl)
                  try simp only [Act.put, List.setIfInBounds_toArray, List.set_cons_zero, List.set_cons_succ]
                  refine wpAnyH_take (i := 31) (oi := ?o279) (v := ?v279) ?hi279 (by kernel_rfl) (by kernel_rfl) (by kernel_rfl) ?hq279 ?hy279 (by assumption) ?r279
                  case hi279 => (simp only [List.getElem?_toArray, List.getElem?_cons_succ, List.getElem?_cons_zero]; rfl)
                  case hq279 => exact fun _ _ _ h => h
                  case hy279 =>
                    first
                      | (refine Or.inl ⟨by rfl, ?_⟩; intro wq hSw; (try dsimp only at hSw); go_simp; (try with_reducible rfl); done)
                      | (refine Or.inr ⟨by rfl, ?_⟩; with_reducible rfl)
                  try simp only [Act.put, List.setIfInBounds_toArray, List.set_cons_zero, List.set_cons_succ]
                  refine wpAnyH_done (by kernel_rfl) ?_ _
                  go_wp2_with fail
                  go_meet
                  case rel => exact ⟨rfl, HD⟩
          case rest =>
            obtain ⟨rfl, HC⟩ := hcut
            replace KA := Lib.hid (kept_block KA.out HC.out)
            replace KB := Lib.hid (kept_block KB.out HC.out)
            replace KC := Lib.hid (kept_block KC.out HC.out)
            replace B1 := Lib.hid (below_seq B1.out HC.out)
            have AYZ := Lib.hid (AI.out y z HX.out.2 HZ.out)
            have AXZ := Lib.hid (AI.out x z HX.out.1 HZ.out)
            clear HC HPQ HQ TRI KP KQ AQP AI
            cases q1
            · clear AYZ AXZ TR
              go_wp2
              go_ret
              exact ⟨rfl, B1.out⟩
            · obtain ⟨q3, hq3⟩ : ∃ q, aheadB y z = q := ⟨_, rfl⟩
              rw [hq3] at AYZ
              have HT : Hid (q3 = true → aheadB x z = true) := Lib.hid (fun h => TR.out rfl (hq3.trans h))
              clear hq3 TR
              have g0 := cur_cell KB.out 0
              have g1 := cur_cell KB.out 1
              have g2 := cur_cell KB.out 2
              have g3 := cur_cell KB.out 3
              have e0 := cur_cell KC.out 0
              have e1 := cur_cell KC.out 1
              have e2 := cur_cell KC.out 2
              have e3 := cur_cell KC.out 3
              simp at g0 g1 g2 g3 e0 e1 e2 e3
              go_wp2_with fail
              clear g0 g1 g2 g3 e0 e1 e2 e3
              refine (AYZ.out _).mono ?_
              rintro e w9 ⟨rfl, hb⟩
              replace KA := Lib.hid (kept_block KA.out hb)
              replace KC := Lib.hid (kept_block KC.out hb)
              replace B1 := Lib.hid (below_seq B1.out hb)
              clear hb AYZ
              cases q3
              · clear AXZ HT
                go_wp2
                go_ret
                exact ⟨rfl, B1.out⟩
              · rw [HT.out rfl] at AXZ
                have g0 := cur_cell KA.out 0
                have g1 := cur_cell KA.out 1
                have g2 := cur_cell KA.out 2
                have g3 := cur_cell KA.out 3
                have e0 := cur_cell KC.out 0
                have e1 := cur_cell KC.out 1
                have e2 := cur_cell KC.out 2
                have e3 := cur_cell KC.out 3
                simp at g0 g1 g2 g3 e0 e1 e2 e3
                go_wp2_with fail
                clear g0 g1 g2 g3 e0 e1 e2 e3
                refine (AXZ.out _).mono ?_
                rintro e w10 ⟨rfl, hb⟩
                replace B1 := Lib.hid (below_seq B1.out hb)
                clear hb AXZ HT
                go_wp2
                go_ret
                exact ⟨rfl, B1.out⟩
end Go.Proofs.Ytkcplnmhonhmaaa.fnAhead
