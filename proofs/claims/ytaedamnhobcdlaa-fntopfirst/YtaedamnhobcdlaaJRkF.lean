/- RkD, RkE, RkF in one. Written by tools/join.py. -/
import Derived.Test.YtaedamnhobcdlaaJRkR
import Derived.Test.YtaedamnhobcdlaaJRecB
import Derived.Deep.LoopGhost
import Derived.Deep.DeepCutAuto
import Derived.Deep.CutBlock
import Derived.Deep.RegionLaw
section
namespace Go.Proofs.Ytaedamnhobcdlaa
open Go.RowKit
set_option linter.unusedVariables false
set_option linter.unusedSimpArgs false
set_option maxRecDepth 100000

/-- While records are drawn: a row of the call's own, the cursor. -/
structure RsSt (w W : World) (b : Nat) (a : Option Addr) (l : List UInt8) (cap m : Nat) (base : Nat) (ad : Option Addr) (q c : Nat) (L : List RecM) : Prop where
  O : W.ownsRow base 30 4 (.slice ad q c) q (flatG recL L)
  I : CurI W b a l cap m
  G : w.grownBy W (some b)
  hb : b < w.heap.size
  hs : w.heap.size ≤ base
  hl : base ≤ W.heap.size
  n : L.length = q
  bd : ∀ t ∈ L, recBd t
section
variable {w W W' : World} {b : Nat} {a : Option Addr} {l : List UInt8} {cap m m' base : Nat} {ad : Option Addr} {q c : Nat} {L : List RecM}
theorem RsSt.pick (s : RsSt w W b a l cap m base ad q c L) (hI : CurI W' b a l cap m') (hg : W.grownBy W' (some b)) : RsSt w W' b a l cap m' base ad q c L :=
  ⟨s.O.kept hg (own_apart s.O (by have := s.hb; have := s.hs; omega)), hI, grown_trans s.G hg, s.hb, s.hs, Nat.le_trans s.hl hg.size, s.n, s.bd⟩
theorem RsSt.below (s : RsSt w W b a l cap m base ad q c L) (hb : Below W.heap.size W W') : RsSt w W' b a l cap m base ad q c L :=
  ⟨own_below s.O hb, s.I.below hb, grown_trans s.G (below_grown hb _), s.hb, s.hs, Nat.le_trans s.hl hb.size, s.n, s.bd⟩
theorem RsSt.more (s : RsSt w W b a l cap m base ad q c L) (hm : m ≤ m') : RsSt w W b a l cap m' base ad q c L := ⟨s.O, s.I.more hm, s.G, s.hb, s.hs, s.hl, s.n, s.bd⟩
/-- A write into a box that is younger than the row. -/
theorem RsSt.set (s : RsSt w W b a l cap m base ad q c L) {T : Nat} (hT : ∀ g, Value.ownBlock (.slice ad q c) = some g → g < T) (hbT : base ≤ T) (k : Nat) (u : Value) : RsSt w (W.setCell ⟨T, k, none⟩ u) b a l cap m base ad q c L := by
  have BB : Below base W (W.setCell ⟨T, k, none⟩ u) := (Below.refl _ W).setCell (p := ⟨T, k, none⟩) hbT _
  exact ⟨s.O.kept (set_grown W T k u) (.inr (fun e => by have := hT T e; omega)), s.I.low BB (by have := s.hb; have := s.hs; omega), grown_low s.G (BB.mono s.hs), s.hb, s.hs, by simp; exact s.hl, s.n, s.bd⟩
/-- Behind an append of one record. -/
theorem RsSt.app {W1 : World} {o : Obj} {ad' : Option Addr} {c' : Nat} {r : RecM} (s : RsSt w W b a l cap m base ad q c L) (hr : recBd r) (hO : W1.ownsRow base 30 4 (.slice ad' (q + 1) c') (q + 1) (flatG recL L ++ recL r)) (hg : (W.alloc o).grownBy W1 (Value.ownBlock (.slice ad q c))) : RsSt w W1 b a l cap m base ad' (q + 1) c' (L ++ [r]) := by
  have B1 : Below base W W1 := ((Below.refl _ W).alloc s.hl o).grown hg (by have := s.hl; simp; omega) (fun i hi => (s.O.lt i hi).1)
  exact ⟨by rw [flatG_app, flatG_one1]; exact hO, s.I.low B1 (by have := s.hb; have := s.hs; omega), grown_low s.G (B1.mono s.hs), s.hb, s.hs, Nat.le_trans s.hl B1.size, by simp [s.n], fun t ht => by
    rcases List.mem_append.1 ht with h | h
    · exact s.bd t h
    · simp at h; subst h; exact hr⟩
end
/-- What a drawing of records leaves. -/
def DrawnRecs (b : Nat) (a : Option Addr) (l : List UInt8) (cap m K : Nat) (w : World) (e : Ending) (w' : World) : Prop :=
  ∃ (ad : Option Addr) (q c : Nat) (L : List RecM), e = .returned (.slice ad q c) ∧ q ≤ K ∧ RsSt w w' b a l cap m w.heap.size ad q c L
set_option maxHeartbeats 4000000 in
theorem curRecs (b : Nat) (a : Option Addr) (l : List UInt8) (cap m : Nat) (w : World) (hl : l.length ≤ 1048576) (hm : m ≤ 10000000000000000) (h : CurI w b a l cap m) :
    Calls Try.prog 70 #[.pointer (some ⟨b, 0, none⟩), .int .i64 16] w (DrawnRecs b a l cap (m + 4000) 16 w) := by
  have hbl := h.lt
  have S0 : Hid (RsSt w (w.alloc (.cells #[] 30)) b a l cap m w.heap.size (some ⟨w.heap.size, 0, none⟩) 0 0 []) := Lib.hid
    ⟨World.ownsRow_made w #[] 0 (Nat.le_refl _) (by unfold maxLen; omega) rfl, h.below (below_box (Below.refl _ w) _), World.grownBy_alloc w _ (some b), hbl, Nat.le_refl _, by simp, rfl, fun t ht => by simp at ht⟩
  clear h
  go_enter Try.func70, Try.ntmps70
  go_wp2_with fail
  refine (curSize b a l cap m 16 _ hl (by omega) (by omega) S0.out.I).mono ?_
  rintro e w1 ⟨k0, rfl, hk0, hI, hg⟩
  have S1 := Lib.hid (S0.out.pick hI hg)
  have hk0 : k0 ≤ 16 := by omega
  clear hI hg S0
  go_wp2_with fail
  go_loopg [5, 6] k0 (fun kk o i wr => ∃ (q c : Nat) (ad : Option Addr) (L : List RecM), q + kk ≤ 16 ∧ i = .int .i64 kk ∧ o = .slice ad q c ∧ Hid (RsSt w wr b a l cap (m + 1 + 200 * q) w.heap.size ad q c L))
  case atStart => exact ⟨0, 0, _, [], by omega, rfl, rfl, Lib.hid (S1.out.more (by omega))⟩
  case round =>
    clear S1
    obtain ⟨q, c, ad, L, hqk, rfl, rfl, S⟩ := hrel
    rcases Nat.eq_zero_or_pos gk with h0 | h0
    · subst h0
      have Z := Lib.hid (S.out.more (m' := m + 4000) (by omega))
      clear S
      go_wp2
      go_ret
      exact ⟨_, _, _, L, rfl, by omega, Z.out⟩
    · obtain ⟨j, rfl⟩ : ∃ j, gk = j + 1 := ⟨gk - 1, by omega⟩
      have hj0 : (0 : Int) < (j : Int) + 1 := by omega
      go_wp2_with fail
      refine (curRec b a l cap _ wr hl (by omega) S.out.I).mono ?_
      rintro e w5 ⟨r, rfl, hr, hI, hg⟩
      have S5 := S.out.pick hI hg
      obtain ⟨W6, hW6⟩ : ∃ W6, W6 = w5.alloc (.cells #[.bool r.live, .int .i64 r.dist, .int .i64 r.weight, .string r.word] 30) := ⟨_, rfl⟩
      have S6 := Lib.hid (show RsSt w W6 b a l cap _ w.heap.size ad q c L by rw [hW6]; exact S5.below (below_box (Below.refl _ w5) (.cells #[.bool r.live, .int .i64 r.dist, .int .i64 r.weight, .string r.word] 30)))
      have KT := Lib.hid (show W6.heap[w5.heap.size]? = some (.cells #[.bool r.live, .int .i64 r.dist, .int .i64 r.weight, .string r.word] 30 (0, 0)) by rw [hW6]; exact alloc_at _ _ _ rfl)
      have HT := Lib.hid (fun g hg => (S5.O.lt g hg).2)
      have hbT := S5.hl
      have RB := Lib.hid hr
      clear hr hI hg S5 S
      go_upto_region 6 with fail
      rw [← hW6]
      clear hW6
      generalize w5.heap.size = T at *
      have hTb : ¬ b = T := by omega
      go_cut [25] (fun v wx => ∃ f : Bool, v = .bool f ∧ (f = true → 0 < q) ∧ Hid (RsSt w wx b a l cap (m + 1 + 200 * q + 101) w.heap.size ad q c L ∧ wx.heap[T]? = some (.cells #[.bool r.live, .int .i64 r.dist, .int .i64 r.weight, .string r.word] 30 (0, 0))))
      case first =>
        rcases Nat.eq_zero_or_pos q with hq | hq
        · subst hq
          go_wp2_with fail
          go_meet
          case rel => exact ⟨false, rfl, by simp, Lib.hid ⟨S6.out.more (by omega), KT.out⟩⟩
        · go_wp2_with fail
          refine (curOnce b a l cap _ 4 _ hl (by omega) (by omega) S6.out.I).mono ?_
          rintro e w7 ⟨f, rfl, hI, hg⟩
          have Z := Lib.hid (And.intro ((S6.out.pick hI hg).more (m' := m + 1 + 200 * q + 101) (by omega)) (kept_grown KT.out hg (by simpa using hTb)))
          clear hI hg
          go_wp2_with fail
          all_goals (go_meet; exact ⟨f, rfl, fun _ => hq, Z⟩)
      case rest =>
        obtain ⟨f, rfl, hf, H⟩ := hcut
        clear S6 KT
        go_upto_if 25 with fail
        go_cut [] (fun wx => ∃ r2 : RecM, recBd r2 ∧ Hid (RsSt w wx b a l cap (m + 1 + 200 * q + 102) w.heap.size ad q c L ∧ wx.heap[T]? = some (.cells #[.bool r2.live, .int .i64 r2.dist, .int .i64 r2.weight, .string r2.word] 30 (0, 0))))
        case first =>
          cases f
          · go_wp2_with fail
            go_meet
            case rel => exact ⟨r, RB.out, Lib.hid ⟨H.out.1.more (by omega), H.out.2⟩⟩
          · have hq := hf rfl
            go_wp2_with fail
            refine (curPick b a l cap _ q _ hl (by omega) (by omega) H.out.1.I).mono ?_
            rintro e w8 ⟨p, rfl, hp, hI, hg⟩
            have hpq : p < q := by omega
            have S8 := H.out.1.pick hI hg
            have K8 := kept_grown H.out.2 hg (by simpa using hTb)
            obtain ⟨g, rfl, _⟩ := own_some S8.O hq
            have cc := own_elem recL_len S8.O (k := p) (by rw [S8.n]; exact hpq)
            obtain ⟨y, hy⟩ : ∃ y, L[p]'(by rw [S8.n]; exact hpq) = y := ⟨_, rfl⟩
            have YB := Lib.hid (hy ▸ S8.bd _ (List.getElem_mem (by rw [S8.n]; exact hpq)))
            rw [hy] at cc
            have c0 : w8.cell? ⟨g, p * 4, none⟩ = some (.bool y.live) := cc 0 (by decide)
            have c1 : w8.cell? ⟨g, p * 4 + 1, none⟩ = some (.int .i64 y.dist) := cc 1 (by decide)
            have c2 : w8.cell? ⟨g, p * 4 + 2, none⟩ = some (.int .i64 y.weight) := cc 2 (by decide)
            have c3 : w8.cell? ⟨g, p * 4 + 3, none⟩ = some (.string y.word) := cc 3 (by decide)
            have hp0 : (0 : Int) ≤ (p : Int) := by omega
            have hp1 : (p : Int) < (q : Int) := by omega
            obtain ⟨W9, hW9⟩ : ∃ W9, W9 = w8.alloc (.cells #[.bool y.live, .int .i64 y.dist, .int .i64 y.weight, .string y.word] 30) := ⟨_, rfl⟩
            have S9 := Lib.hid (show RsSt w W9 b a l cap _ w.heap.size (some ⟨g, 0, none⟩) q c L by rw [hW9]; exact S8.below (below_box (Below.refl _ w8) (.cells #[.bool y.live, .int .i64 y.dist, .int .i64 y.weight, .string y.word] 30)))
            have KY := Lib.hid (show W9.heap[w8.heap.size]? = some (.cells #[.bool y.live, .int .i64 y.dist, .int .i64 y.weight, .string y.word] 30 (0, 0)) by rw [hW9]; exact alloc_at _ _ _ rfl)
            have KT := Lib.hid (show W9.heap[T]? = some (.cells #[.bool r.live, .int .i64 r.dist, .int .i64 r.weight, .string r.word] 30 (0, 0)) by rw [hW9]; exact (alloc_old _ _ _ (cur_lt K8)).trans K8)
            have hTY : T < w8.heap.size := cur_lt K8
            clear S8 K8 cc hy hI hg H hp
            go_upto_region 8 with fail
            rw [← hW9]
            clear hW9 c0 c1 c2 c3
            generalize w8.heap.size = Y at *
            have n1 : ¬ T = Y := by omega
            have n2 : ¬ Y = T := by omega
            have t0 := cur_cell KT.out 0
            have t1 := cur_cell KT.out 1
            have t2 := cur_cell KT.out 2
            have t3 := cur_cell KT.out 3
            have f0 := cur_free KT.out 0
            have f1 := cur_free KT.out 1
            have f2 := cur_free KT.out 2
            have f3 := cur_free KT.out 3
            have u0 := cur_cell KY.out 0
            have u1 := cur_cell KY.out 1
            have u2 := cur_cell KY.out 2
            have u3 := cur_cell KY.out 3
            simp at t0 t1 t2 t3 u0 u1 u2 u3
            have A1 := Lib.hid (fun u => (S9.out.set HT.out hbT 1 u))
            have KA := Lib.hid (fun (u : Value) => cur_set KT.out 1 u)
            obtain ⟨r0, r1, r2, r3⟩ := r
            obtain ⟨y0, y1, y2, y3⟩ := y
            simp only at t0 t1 t2 t3 u0 u1 u2 u3 KA
            obtain ⟨bd1, bd2, bd3⟩ := YB.out
            obtain ⟨_, _, rd3⟩ := RB.out
            simp only at bd1 bd2 bd3 rd3
            have both := Lib.hid (And.intro ((A1.out (.int .i64 y1)).set HT.out hbT 2 (.int .i64 y2)) (cur_set (KA.out (.int .i64 y1)) 2 (.int .i64 y2)))
            have all4 := Lib.hid (And.intro (((((A1.out (.int .i64 y1)).set HT.out hbT 0 (.bool y0)).set HT.out hbT 1 (.int .i64 y1)).set HT.out hbT 2 (.int .i64 y2)).set HT.out hbT 3 (.string y3)) (cur_set (cur_set (cur_set (cur_set (KA.out (.int .i64 y1)) 0 (.bool y0)) 1 (.int .i64 y1)) 2 (.int .i64 y2)) 3 (.string y3)))
            clear A1 KA S9 KY KT
            cases y0 <;> cases r0
            all_goals
              go_wp2_with fail
              go_meet
            · exact ⟨⟨false, y1, y2, y3⟩, ⟨bd1, bd2, bd3⟩, Lib.hid ⟨all4.out.1.more (by omega), by simpa using all4.out.2⟩⟩
            · exact ⟨⟨false, y1, y2, y3⟩, ⟨bd1, bd2, bd3⟩, Lib.hid ⟨all4.out.1.more (by omega), by simpa using all4.out.2⟩⟩
            · exact ⟨⟨true, y1, y2, y3⟩, ⟨bd1, bd2, bd3⟩, Lib.hid ⟨all4.out.1.more (by omega), by simpa using all4.out.2⟩⟩
            · exact ⟨⟨true, y1, y2, r3⟩, ⟨bd1, bd2, rd3⟩, Lib.hid ⟨both.out.1.more (by omega), by simpa using both.out.2⟩⟩
        case rest =>
          obtain ⟨r2, hr2, H2⟩ := hcut
          have t0 := cur_cell H2.out.2 0
          have t1 := cur_cell H2.out.2 1
          have t2 := cur_cell H2.out.2 2
          have t3 := cur_cell H2.out.2 3
          simp at t0 t1 t2 t3
          have hq16 : q ≤ 16 := by omega
          have hbs := H2.out.1.hl
          go_wp2_with (at_builtin; go_must (refine wp_app_rowS rfl _ _ 24 rfl 30 _ 4 40 Try.underlying24 Try.infoRec rfl (by omega) w.heap.size q (.slice ad q c) (flatG recL L) (by rfl) (H2.out.1.O.alloc _) (some ⟨wc.heap.size, 0, none⟩) 1 1 (recL r2) (by rfl) rfl (lit_rec wc r2) (recL_one _) (by unfold maxLen; omega) (by omega) (by simp; omega) ?_); intro v' w9 hown hgr)
          obtain ⟨a', c', rfl⟩ := own_shape hown
          have Z := Lib.hid ((H2.out.1.app hr2 hown hgr).more (m' := m + 1 + 200 * (q + 1)) (by omega))
          clear hown hgr H2 t0 t1 t2 t3 hr2
          go_wp2
          go_roundg j
          case measure => omega
          case rel => exact ⟨q + 1, c', a', L ++ [r2], by omega, by go_num, rfl, Z⟩
end Go.Proofs.Ytaedamnhobcdlaa
end

section
namespace Go.Proofs.Ytaedamnhobcdlaa
open Go.RowKit
set_option linter.unusedVariables false
set_option linter.unusedSimpArgs false
set_option maxRecDepth 100000

set_option maxHeartbeats 4000000 in
theorem curBadRecs (b : Nat) (a : Option Addr) (l : List UInt8) (cap m : Nat) (w : World) (hl : l.length ≤ 1048576) (hm : m ≤ 1000000000000000) (h : CurI w b a l cap m) :
    Calls Try.prog 42 #[.pointer (some ⟨b, 0, none⟩)] w (DrawnRecs b a l cap (m + 20000) 65 w) := by
  have I0 := Lib.hid h
  clear h
  go_enter Try.func42, Try.ntmps42
  go_wp2_with fail
  refine (curRecs b a l cap m _ hl (by omega) I0.out).mono ?_
  rintro e w1 ⟨ad, q, c, L, rfl, hq, hS⟩
  have S := Lib.hid hS
  clear hS I0
  go_wp2_with fail
  refine (curPick b a l cap _ 12 _ hl (by omega) (by omega) S.out.I).mono ?_
  rintro e w2 ⟨t, rfl, ht, hI, hg⟩
  replace S := Lib.hid (S.out.pick hI hg)
  clear hI hg
  go_upto_block 0 with fail
  go_cut [3] (fun o wx => ∃ (q c : Nat) (ad : Option Addr) (L : List RecM), q ≤ 65 ∧ o = .slice ad q c ∧ Hid (RsSt w wx b a l cap (m + 20000) w.heap.size ad q c L))
  case first =>
    by_cases e0 : t = 0
    · subst e0
      go_wp2_with fail
      refine (curBadRec b a l cap _ _ hl (by omega) S.out.I).mono ?_
      rintro e w5 ⟨r, rfl, hr, hI, hg⟩
      have S5 := Lib.hid (S.out.pick hI hg)
      have hbs := S5.out.hl
      clear hI hg S
      go_wp2_with (at_builtin; go_must (refine wp_app_rowS rfl _ _ 24 rfl 30 _ 4 40 Try.underlying24 Try.infoRec rfl (by omega) w.heap.size q (.slice ad q c) (flatG recL L) (by rfl) (S5.out.O.alloc _) (some ⟨w5.heap.size, 0, none⟩) 1 1 (recL r) (by rfl) rfl (lit_rec w5 r) (recL_one _) (by unfold maxLen; omega) (by omega) (by simp; omega) ?_); intro v' w9 hown hgr)
      obtain ⟨a', c', rfl⟩ := own_shape hown
      have Z := Lib.hid ((S5.out.app hr hown hgr).more (m' := m + 20000) (by omega))
      clear hown hgr S5 hr
      go_wp2_with fail
      go_meet
      case rel => exact ⟨q + 1, c', a', L ++ [r], by omega, rfl, Z⟩
    · have t0B : ((t : Int) == 0) = false := by simp; omega
      by_cases e1 : t = 1
      · subst e1
        go_wp2_with fail
        go_loopg [3] (66 - q) (fun kk o wr => ∃ (q c : Nat) (ad : Option Addr) (L : List RecM), q ≤ 65 ∧ 66 - q = kk ∧ o = .slice ad q c ∧ Hid (RsSt w wr b a l cap (m + 4001 + 200 * q) w.heap.size ad q c L))
        case atStart => exact ⟨q, c, ad, L, by omega, rfl, rfl, Lib.hid (S.out.more (by omega))⟩
        case round =>
          clear S
          obtain ⟨q, c, ad, L, hq, hk, rfl, S⟩ := hrel
          go_wp2_with fail
          refine (curPick b a l cap _ 2 _ hl (by omega) (by omega) S.out.I).mono ?_
          rintro e w4 ⟨r, rfl, hr, hI, hg⟩
          have S4 := Lib.hid (S.out.pick hI hg)
          have hr2 : r ≤ 1 := by omega
          clear hI hg hr S
          by_cases hqr : q < 64 + r
          · have hqi : (q : Int) < 64 + (r : Int) := by omega
            go_wp2_with fail
            refine (curRec b a l cap _ w4 hl (by omega) S4.out.I).mono ?_
            rintro e w5 ⟨x, rfl, hx, hI, hg⟩
            have S5 := Lib.hid (S4.out.pick hI hg)
            have hbs := S5.out.hl
            clear hI hg S4
            go_wp2_with (at_builtin; go_must (refine wp_app_rowS rfl _ _ 24 rfl 30 _ 4 40 Try.underlying24 Try.infoRec rfl (by omega) w.heap.size q (.slice ad q c) (flatG recL L) (by rfl) (S5.out.O.alloc _) (some ⟨w5.heap.size, 0, none⟩) 1 1 (recL x) (by rfl) rfl (lit_rec w5 x) (recL_one _) (by unfold maxLen; omega) (by omega) (by simp; omega) ?_); intro v' w9 hown hgr)
            obtain ⟨a', c', rfl⟩ := own_shape hown
            have Z := Lib.hid ((S5.out.app hx hown hgr).more (m' := m + 4001 + 200 * (q + 1)) (by omega))
            clear hown hgr S5 hx
            go_wp2
            go_roundg (66 - (q + 1))
            case measure => omega
            case rel => exact ⟨q + 1, c', a', L ++ [x], by omega, rfl, rfl, Z⟩
          · have hqi : ¬ (q : Int) < 64 + (r : Int) := by omega
            have Z := Lib.hid (S4.out.more (m' := m + 20000) (by omega))
            clear S4
            go_wp2_with fail
            go_meet
            case rel => exact ⟨q, c, ad, L, hq, rfl, Z⟩
      · have t1B : ((t : Int) == 1) = false := by simp; omega
        have Z := Lib.hid (S.out.more (m' := m + 20000) (by omega))
        clear S
        go_wp2_with fail
        go_meet
        case rel => exact ⟨q, c, ad, L, by omega, rfl, Z⟩
  case rest =>
    obtain ⟨q, c, ad, L, hq, rfl, Z⟩ := hcut
    clear S
    go_wp2
    go_ret
    exact ⟨ad, q, c, L, rfl, hq, Z.out⟩
/-- What a drawing of records leaves, the cursor forgotten. -/
def DrawnL (K : Nat) (w : World) (e : Ending) (w' : World) : Prop := ∃ (ad : Option Addr) (c : Nat) (L : List RecM), e = .returned (.slice ad L.length c) ∧ L.length ≤ K ∧ (∀ t ∈ L, recBd t) ∧ w'.ownsRow w.heap.size 30 4 (.slice ad L.length c) L.length (flatG recL L) ∧ Below w.heap.size w w'
set_option maxHeartbeats 1000000 in
theorem drawRank (a : Option Addr) (l : List UInt8) (cap : Nat) (w : World) (hl : l.length ≤ 1048576) (r : Row w a (l.map bval)) : Calls Try.prog 12 #[.slice a l.length cap] w (DrawnL 65 w) := by
  have R := Lib.hid r
  clear r
  go_enter Try.func12, Try.ntmps12
  go_wp2_with fail
  refine (curOpen a l cap _ hl R.out).mono ?_
  rintro e w1 ⟨rfl, hI1, hb1⟩
  have I1 := Lib.hid hI1
  have B1 := Lib.hid hb1
  clear hI1 hb1
  go_wp2_with fail
  refine (curBadRecs _ a l cap 0 _ hl (by omega) I1.out).mono ?_
  rintro e w2 ⟨ad, q, c, L, rfl, hq, hS⟩
  obtain rfl := hS.n
  have Z := Lib.hid (And.intro hq (And.intro hS.bd (And.intro (own_base hS.O B1.out.size) (below_write B1.out hS.G (Nat.le_refl _)))))
  clear hS hq
  go_wp2
  go_ret
  exact ⟨ad, c, L, rfl, Z.out.1, Z.out.2.1, Z.out.2.2.1, Z.out.2.2.2⟩
end Go.Proofs.Ytaedamnhobcdlaa
end

section
namespace Go.Proofs.Ytaedamnhobcdlaa
open Go.RowKit
set_option linter.unusedVariables false
set_option linter.unusedSimpArgs false
set_option maxRecDepth 100000

def DrawnLK (K : Nat) (w : World) (e : Ending) (w' : World) : Prop := ∃ (ad : Option Addr) (c : Nat) (L : List RecM) (k : Int), e = .returned (.tuple #[.slice ad L.length c, .int .i64 k]) ∧ (-9223372036854775808 ≤ k ∧ k ≤ 9223372036854775807) ∧ L.length ≤ K ∧ (∀ t ∈ L, recBd t) ∧ w'.ownsRow w.heap.size 30 4 (.slice ad L.length c) L.length (flatG recL L) ∧ Below w.heap.size w w'
set_option maxHeartbeats 4000000 in
theorem drawTopK (a : Option Addr) (l : List UInt8) (cap : Nat) (w : World) (hl : l.length ≤ 1048576) (r : Row w a (l.map bval)) : Calls Try.prog 23 #[.slice a l.length cap] w (DrawnLK 65 w) := by
  have R := Lib.hid r
  clear r
  go_enter Try.func23, Try.ntmps23
  go_wp2_with fail
  refine (curOpen a l cap _ hl R.out).mono ?_
  rintro e w1 ⟨rfl, hI1, hb1⟩
  have I1 := Lib.hid (hI1.below (belowN 1))
  have B1 := Lib.hid hb1
  clear hI1 hb1
  go_upto_region 2 with fail
  go_region_law (first
    | (refine step_callW w1.drew rfl (by rfl) 42 _ _ rfl _ (by kernel_rfl) Try.call42 _ (curBadRecs _ a l cap 0 _ hl (by omega) I1.out) ?_; rintro e w2 ⟨ad, q, c, L, rfl, hq, hS⟩; refine ⟨_, rfl, ?_⟩; have S2 := Lib.hid hS; clear hS I1)
    | (refine step_callW w2 rfl (by rfl) 55 _ _ rfl _ (by kernel_rfl) Try.call55 _ (curPick _ a l cap _ 9 _ hl (by omega) (by omega) S2.out.I) ?_; rintro e w3 ⟨p1, rfl, hp1, hI, hg⟩; refine ⟨_, rfl, ?_⟩; have hp1 : p1 ≤ 9 := (by omega); have S3 := Lib.hid (S2.out.pick hI hg); clear hI hg S2)
    | (refine step_callW w3 rfl (by rfl) 56 _ _ rfl _ (by kernel_rfl) Try.call56 _ (curRaw _ a l cap _ _ hl (by omega) S3.out.I) ?_; rintro e w4 ⟨z, rfl, hz, hI, hg⟩; refine ⟨_, rfl, ?_⟩; have S4 := Lib.hid (S3.out.pick hI hg); have S4l := Lib.hid (S4.out.below (below_box (Below.refl _ w4) (.cells #[.int .i64 p1, .int .i64 z] 3))); have HZ := Lib.hid hz; clear hI hg S3 hz)
    | (refine step_callW w4 rfl (by rfl) 55 _ _ rfl _ (by kernel_rfl) Try.call55 _ (curPick _ a l cap _ 2 _ hl (by omega) (by omega) S4.out.I) ?_; rintro e w5 ⟨p2, rfl, hp2, hI, hg⟩; refine ⟨_, rfl, ?_⟩; have p2i : (p2 : Int) < 2 := (by omega); obtain ⟨u, hu, hul⟩ := litV_at (x := p1) (y := z) (by omega) HZ.out p2 (by omega); have S5 := Lib.hid ((S4.out.pick hI hg).below (below_box (Below.refl _ w5) (.cells #[.int .i64 p1, .int .i64 z] 3))); have q1 : (w5.alloc (.cells #[.int .i64 p1, .int .i64 z] 3)).cell? ⟨w5.heap.size, p2, none⟩ = some (.int .i64 u) := (lit_new w5 _ 3 p2).trans hul; have HU := Lib.hid hu; clear hI hg S4 S4l hul hu hp2)
    | (refine step_callW (w4.alloc (.cells #[.int .i64 p1, .int .i64 z] 3)) rfl (by rfl) 55 _ _ rfl _ (by kernel_rfl) Try.call55 _ (curPick _ a l cap _ 2 _ hl (by omega) (by omega) S4l.out.I) ?_; rintro e w5 ⟨p2, rfl, hp2, hI, hg⟩; refine ⟨_, rfl, ?_⟩; have p2i : (p2 : Int) < 2 := (by omega); obtain ⟨u, hu, hul⟩ := litV_at (x := p1) (y := z) (by omega) HZ.out p2 (by omega); have S5 := Lib.hid (S4l.out.pick hI hg); have q1 : w5.cell? ⟨w4.heap.size, p2, none⟩ = some (.int .i64 u) := hg.cell ((lit_new w4 _ 3 p2).trans hul) (by have := S4.out.hb; have := S4.out.hs; have := S4.out.hl; simp at *; omega); have HU := Lib.hid hu; clear hI hg S4 S4l hul hu hp2))
  all_goals
    obtain rfl := S5.out.n
    have hs1 : w.heap.size ≤ w1.drew.heap.size := B1.out.size
    have Z := Lib.hid (And.intro HU.out (And.intro hq (And.intro S5.out.bd (And.intro (own_base S5.out.O hs1) (below_write (below_drew B1.out) S5.out.G (Nat.le_refl _))))))
    clear S5 HU HZ hq
    go_wp2
    exact bodyPost_ret (v := .tuple #[.slice ad L.length c, .int .i64 u]) (by simp [results, Try.results23, go_sem]) rfl ⟨ad, c, L, u, rfl, Z.out.1, Z.out.2.1, Z.out.2.2.1, Z.out.2.2.2.1, Z.out.2.2.2.2⟩
end Go.Proofs.Ytaedamnhobcdlaa
end
