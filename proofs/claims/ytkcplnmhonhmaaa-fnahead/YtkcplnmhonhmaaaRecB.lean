/- Records drawn: badRec, DrawRecOf, DrawRecAhead. -/
import Derived.Test.YtkcplnmhonhmaaaRecD
import Derived.Test.YtkcplnmhonhmaaaDrewP
namespace Go.Proofs.Ytkcplnmhonhmaaa
open Go.RowKit
set_option linter.unusedVariables false
set_option maxRecDepth 100000

/-- While a record is drawn: it lies in block T, the answer's place is the first new block. -/
structure RcSt (w W : World) (b T : Nat) (a : Option Addr) (l : List UInt8) (cap m : Nat) (x0 : Bool) (x1 x2 : Int) (x3 : ByteArray) : Prop where
  tb : W.heap[T]? = some (.cells #[.bool x0, .int .i64 x1, .int .i64 x2, .string x3] 25 (0, 0))
  rb : W.heap[w.heap.size]? = some (.cells #[.bool false, .int .i64 0, .int .i64 0, .string ⟨#[]⟩] 25 (0, 0))
  h : w.heap.size < T ∧ b < w.heap.size
  I : CurI W b a l cap m
  G : w.grownBy W (some b)
section
variable {w W W' : World} {b T : Nat} {a : Option Addr} {l : List UInt8} {cap m m' : Nat} {x0 : Bool} {x1 x2 : Int} {x3 : ByteArray}
theorem RcSt.pick (s : RcSt w W b T a l cap m x0 x1 x2 x3) (hI : CurI W' b a l cap m') (hg : W.grownBy W' (some b)) : RcSt w W' b T a l cap m' x0 x1 x2 x3 := by
  obtain ⟨h1, h2⟩ := s.h
  exact ⟨kept_grown s.tb hg (by simp; omega), kept_grown s.rb hg (by simp; omega), s.h, hI, grown_trans s.G hg⟩
theorem RcSt.below (s : RcSt w W b T a l cap m x0 x1 x2 x3) (hb : Below W.heap.size W W') : RcSt w W' b T a l cap m x0 x1 x2 x3 :=
  ⟨kept_block s.tb hb, kept_block s.rb hb, s.h, s.I.below hb, grown_trans s.G (below_grown hb _)⟩
theorem RcSt.more (s : RcSt w W b T a l cap m x0 x1 x2 x3) (hm : m ≤ m') : RcSt w W b T a l cap m' x0 x1 x2 x3 := ⟨s.tb, s.rb, s.h, s.I.more hm, s.G⟩
theorem RcSt.low (s : RcSt w W b T a l cap m x0 x1 x2 x3) (k : Nat) (v : Value) : Below (w.heap.size + 1) W (W.setCell ⟨T, k, none⟩ v) := (Below.refl _ W).setCell (p := ⟨T, k, none⟩) (by have := s.h.1; simp; omega) _
theorem RcSt.set0 (s : RcSt w W b T a l cap m x0 x1 x2 x3) (y : Bool) : RcSt w (W.setCell ⟨T, 0, none⟩ (.bool y)) b T a l cap m y x1 x2 x3 :=
  ⟨cur_set s.tb 0 _, ((s.low 0 _).block _ (by omega)).trans s.rb, s.h, s.I.low (s.low 0 _) (by have := s.h.2; omega), grown_low s.G ((s.low 0 _).mono (by omega))⟩
theorem RcSt.set1 (s : RcSt w W b T a l cap m x0 x1 x2 x3) (y : Int) : RcSt w (W.setCell ⟨T, 1, none⟩ (.int .i64 y)) b T a l cap m x0 y x2 x3 :=
  ⟨cur_set s.tb 1 _, ((s.low 1 _).block _ (by omega)).trans s.rb, s.h, s.I.low (s.low 1 _) (by have := s.h.2; omega), grown_low s.G ((s.low 1 _).mono (by omega))⟩
theorem RcSt.set2 (s : RcSt w W b T a l cap m x0 x1 x2 x3) (y : Int) : RcSt w (W.setCell ⟨T, 2, none⟩ (.int .i64 y)) b T a l cap m x0 x1 y x3 :=
  ⟨cur_set s.tb 2 _, ((s.low 2 _).block _ (by omega)).trans s.rb, s.h, s.I.low (s.low 2 _) (by have := s.h.2; omega), grown_low s.G ((s.low 2 _).mono (by omega))⟩
theorem RcSt.set3 (s : RcSt w W b T a l cap m x0 x1 x2 x3) (y : ByteArray) : RcSt w (W.setCell ⟨T, 3, none⟩ (.string y)) b T a l cap m x0 x1 x2 y :=
  ⟨cur_set s.tb 3 _, ((s.low 3 _).block _ (by omega)).trans s.rb, s.h, s.I.low (s.low 3 _) (by have := s.h.2; omega), grown_low s.G ((s.low 3 _).mono (by omega))⟩
theorem RcSt.laid {w1 : World} {r : RecM} (hb : b < w.heap.size) (hI : CurI w1 b a l cap m) (hg : (w.alloc (.cells #[.bool false, .int .i64 0, .int .i64 0, .string ⟨#[]⟩] 25)).grownBy w1 (some b)) : RcSt w (w1.alloc (.cells #[.bool r.live, .int .i64 r.dist, .int .i64 r.weight, .string r.word] 25)) b w1.heap.size a l cap m r.live r.dist r.weight r.word := by
  have hs := hg.size
  simp at hs
  have kr := kept_grown (alloc_at w (.cells #[.bool false, .int .i64 0, .int .i64 0, .string ⟨#[]⟩] 25) _ rfl) hg (by simp; omega)
  have bb := below_box (Below.refl w1.heap.size w1) (.cells #[.bool r.live, .int .i64 r.dist, .int .i64 r.weight, .string r.word] 25)
  exact ⟨alloc_at _ _ _ rfl, kept_block kr bb, ⟨by omega, hb⟩, hI.below bb, grown_trans (grown_trans (World.grownBy_alloc w _ (some b)) hg) (World.grownBy_alloc w1 _ (some b))⟩
theorem RcSt.done (s : RcSt w W b T a l cap m x0 x1 x2 x3) (hr : recBd ⟨x0, x1, x2, x3⟩) (v0 v1 v2 v3 : Value) :
    DrawnRec b a l cap m w (.returned (.agg #[.bool x0, .int .i64 x1, .int .i64 x2, .string x3])) ((((W.setCell ⟨w.heap.size, 0, none⟩ v0).setCell ⟨w.heap.size, 1, none⟩ v1).setCell ⟨w.heap.size, 2, none⟩ v2).setCell ⟨w.heap.size, 3, none⟩ v3) := by
  have BB : Below w.heap.size W ((((W.setCell ⟨w.heap.size, 0, none⟩ v0).setCell ⟨w.heap.size, 1, none⟩ v1).setCell ⟨w.heap.size, 2, none⟩ v2).setCell ⟨w.heap.size, 3, none⟩ v3) :=
    ((((Below.refl w.heap.size W).setCell (p := ⟨w.heap.size, 0, none⟩) (Nat.le_refl _) _).setCell (p := ⟨w.heap.size, 1, none⟩) (Nat.le_refl _) _).setCell (p := ⟨w.heap.size, 2, none⟩) (Nat.le_refl _) _).setCell (p := ⟨w.heap.size, 3, none⟩) (Nat.le_refl _) _
  exact ⟨⟨x0, x1, x2, x3⟩, rfl, hr, s.I.low BB s.h.2, grown_low s.G BB⟩
end
set_option maxHeartbeats 8000000 in
theorem curBadRec (b : Nat) (a : Option Addr) (l : List UInt8) (cap m : Nat) (w : World) (hl : l.length ≤ 1048576) (hm : m ≤ 10000000000000000) (h : CurI w b a l cap m) :
    Calls Try.prog 38 #[.pointer (some ⟨b, 0, none⟩)] w (DrawnRec b a l cap (m + 300) w) := by
  have hbl := h.lt
  have I0 := Lib.hid (h.below (below_box (Below.refl _ w) (.cells #[.bool false, .int .i64 0, .int .i64 0, .string ⟨#[]⟩] 25)))
  clear h
  go_enter Try.func38, Try.ntmps38
  go_wp2_with fail
  refine (curRec b a l cap m _ hl (by omega) I0.out).mono ?_
  rintro e w1 ⟨r, rfl, hr, hI, hg⟩
  have S1 := Lib.hid (RcSt.laid (r := r) hbl hI hg)
  obtain ⟨x0, x1, x2, x3⟩ := r
  obtain ⟨b1, b2, b3⟩ := hr
  simp only at b1 b2 b3 S1
  clear hI hg I0
  go_wp2_with fail
  refine (curPick b a l cap _ 12 _ hl (by omega) (by omega) S1.out.I).mono ?_
  rintro e w2 ⟨t, rfl, ht, hI, hg⟩
  have S2 := Lib.hid (S1.out.pick hI hg)
  clear hI hg S1
  generalize w1.heap.size = T at *
  go_upto_block 0 with fail
  go_cut [] (fun wx => ∃ (x0 : Bool) (x1 x2 : Int) (x3 : ByteArray), (-9223372036854775808 ≤ x1 ∧ x1 ≤ 9223372036854775807) ∧ (-9223372036854775808 ≤ x2 ∧ x2 ≤ 9223372036854775807) ∧ x3.size ≤ maxLen ∧ Hid (RcSt w wx b T a l cap (m + 300) x0 x1 x2 x3))
  case first =>
    by_cases e0 : t = 0
    · subst e0
      have t0 := cur_cell S2.out.tb 0
      have f0 := cur_free S2.out.tb 0
      simp at t0
      have SZ := Lib.hid (S2.out.set0 (!x0))
      go_wp2_with fail
      go_meet
      case rel => exact ⟨_, _, _, _, b1, b2, b3, Lib.hid (SZ.out.more (by omega))⟩
    · have t0B : ((t : Int) == 0) = false := by simp; omega
      by_cases e1 : t = 1
      · subst e1
        go_wp2_with fail
        refine (curRaw b a l cap _ _ hl (by omega) S2.out.I).mono ?_
        rintro e w3 ⟨z, rfl, hz, hI, hg⟩
        have hw3 : w.heap.size ≤ w3.heap.size := (S2.out.pick hI hg).G.size
        have S3 := Lib.hid ((S2.out.pick hI hg).below (below_box (Below.refl _ w3) (.cells #[.int .i64 z, .int .i64 7, .int .i64 8] 3)))
        clear hI hg S2
        go_wp2_with fail
        refine (curPick b a l cap _ 3 _ hl (by omega) (by omega) S3.out.I).mono ?_
        rintro e w4 ⟨p, rfl, hp, hI, hg⟩
        have pi : (p : Int) < 3 := by omega
        obtain ⟨u, hu, hul⟩ := litW_at (x := z) (y := 7) (z := 8) hz (by omega) (by omega) p (by omega)
        have q1 : w4.cell? ⟨w3.heap.size, p, none⟩ = some (.int .i64 u) := hg.cell ((lit_new w3 _ 3 p).trans hul) (by simp; omega)
        have S4 := Lib.hid (S3.out.pick hI hg)
        have t1 := cur_cell S4.out.tb 1
        have f1 := cur_free S4.out.tb 1
        simp at t1
        have SZ := Lib.hid (S4.out.set1 u)
        clear hI hg S3 hul hp
        go_wp2_with fail
        go_meet
        case rel => exact ⟨_, _, _, _, hu, b2, b3, Lib.hid (SZ.out.more (by omega))⟩
      · have t1B : ((t : Int) == 1) = false := by simp; omega
        by_cases e2 : t = 2
        · subst e2
          go_wp2_with fail
          refine (curRaw b a l cap _ _ hl (by omega) S2.out.I).mono ?_
          rintro e w3 ⟨z, rfl, hz, hI, hg⟩
          have hw3 : w.heap.size ≤ w3.heap.size := (S2.out.pick hI hg).G.size
          have S3 := Lib.hid ((S2.out.pick hI hg).below (below_box (Below.refl _ w3) (.cells #[.int .i64 z, .int .i64 65536] 3)))
          clear hI hg S2
          go_wp2_with fail
          refine (curPick b a l cap _ 2 _ hl (by omega) (by omega) S3.out.I).mono ?_
          rintro e w4 ⟨p, rfl, hp, hI, hg⟩
          have pi : (p : Int) < 2 := by omega
          obtain ⟨u, hu, hul⟩ := litV_at (x := z) (y := 65536) hz (by omega) p (by omega)
          have q1 : w4.cell? ⟨w3.heap.size, p, none⟩ = some (.int .i64 u) := hg.cell ((lit_new w3 _ 3 p).trans hul) (by simp; omega)
          have S4 := Lib.hid (S3.out.pick hI hg)
          have t2 := cur_cell S4.out.tb 2
          have f2 := cur_free S4.out.tb 2
          simp at t2
          have SZ := Lib.hid (S4.out.set2 u)
          clear hI hg S3 hul hp
          go_wp2_with fail
          go_meet
          case rel => exact ⟨_, _, _, _, b1, hu, b3, Lib.hid (SZ.out.more (by omega))⟩
        · have t2B : ((t : Int) == 2) = false := by simp; omega
          by_cases e3 : t = 3
          · subst e3
            go_wp2_with fail
            refine (curBadWord b a l cap _ _ hl (by omega) S2.out.I).mono ?_
            rintro e w3 ⟨s, rfl, hs, hI, hg⟩
            have S3 := Lib.hid (S2.out.pick hI hg)
            have t3 := cur_cell S3.out.tb 3
            have f3 := cur_free S3.out.tb 3
            simp at t3
            have SZ := Lib.hid (S3.out.set3 s)
            clear hI hg S2
            go_wp2_with fail
            go_meet
            case rel => exact ⟨_, _, _, _, b1, b2, by unfold maxLen; omega, Lib.hid (SZ.out.more (by omega))⟩
          · have t3B : ((t : Int) == 3) = false := by simp; omega
            go_wp2_with fail
            go_meet
            case rel => exact ⟨_, _, _, _, b1, b2, b3, Lib.hid (S2.out.more (by omega))⟩
  case rest =>
    clear S2 b1 b2 b3
    obtain ⟨y0, y1, y2, y3, c1, c2, c3, S3⟩ := hcut
    have t0 := cur_cell S3.out.tb 0
    have t1 := cur_cell S3.out.tb 1
    have t2 := cur_cell S3.out.tb 2
    have t3 := cur_cell S3.out.tb 3
    have r0 := cur_cell S3.out.rb 0
    have r1 := cur_cell S3.out.rb 1
    have r2 := cur_cell S3.out.rb 2
    have r3 := cur_cell S3.out.rb 3
    have f0 := cur_free S3.out.rb 0
    have f1 := cur_free S3.out.rb 1
    have f2 := cur_free S3.out.rb 2
    have f3 := cur_free S3.out.rb 3
    simp at t0 t1 t2 t3 r0 r1 r2 r3
    have D := Lib.hid (S3.out.done ⟨c1, c2, c3⟩)
    clear S3
    go_wp2
    exact bodyPost_ret (v := .agg #[.bool y0, .int .i64 y1, .int .i64 y2, .string y3]) (by simp [results, Try.results38, go_sem, r0, r1, r2, r3]) rfl (D.out _ _ _ _)
def DrawnR (w : World) (e : Ending) (w' : World) : Prop := ∃ r : RecM, e = .returned (.agg #[.bool r.live, .int .i64 r.dist, .int .i64 r.weight, .string r.word]) ∧ recBd r ∧ Below w.heap.size w w'
def DrawnRR (w : World) (e : Ending) (w' : World) : Prop := ∃ r s : RecM, e = .returned (.tuple #[.agg #[.bool r.live, .int .i64 r.dist, .int .i64 r.weight, .string r.word], .agg #[.bool s.live, .int .i64 s.dist, .int .i64 s.weight, .string s.word]]) ∧ recBd r ∧ recBd s ∧ Below w.heap.size w w'
theorem chg_rec4 {lo hi : Nat} {W W' : World} (C : Chg lo hi W W') {R : Nat} (h1 : lo ≤ R) (h2 : R < hi) (v0 v1 v2 v3 : Value) : Chg lo hi W ((((W'.setCell ⟨R, 0, none⟩ v0).setCell ⟨R, 1, none⟩ v1).setCell ⟨R, 2, none⟩ v2).setCell ⟨R, 3, none⟩ v3) :=
  chg_set (chg_set (chg_set (chg_set C h1 h2 0 _) h1 h2 1 _) h1 h2 2 _) h1 h2 3 _
set_option maxHeartbeats 4000000 in
theorem drawRec (a : Option Addr) (l : List UInt8) (cap : Nat) (w : World) (hl : l.length ≤ 1048576) (r : Row w a (l.map bval)) : Calls Try.prog 12 #[.slice a l.length cap] w (DrawnR w) := by
  obtain ⟨w0, hw0⟩ : ∃ w0, w0 = w.alloc (.cells #[.bool false, .int .i64 0, .int .i64 0, .string ⟨#[]⟩] 25) := ⟨_, rfl⟩
  have B0 : Below w.heap.size w w0 := by rw [hw0]; exact below_box (Below.refl _ w) _
  have Z0 := Lib.hid (show w0.heap[w.heap.size]? = some (.cells #[.bool false, .int .i64 0, .int .i64 0, .string ⟨#[]⟩] 25 (0, 0)) by rw [hw0]; exact alloc_at _ _ _ rfl)
  have BB := Lib.hid B0
  have R0 := Lib.hid (r.below B0)
  clear r B0
  go_enter Try.func12, Try.ntmps12
  go_wp2_with fail
  rw [← hw0]
  clear hw0
  refine (curOpen a l cap w0 hl R0.out).mono ?_
  rintro e w1 ⟨rfl, hI, hb⟩
  have D1 := Lib.hid (Drew.mk hI (below_seq BB.out hb) BB.out.size)
  have Y0 := Lib.hid (kept_block Z0.out hb)
  have hbR : w.heap.size < w0.heap.size := cur_lt Z0.out
  clear hI hb Z0 BB R0
  generalize w0.heap.size = b at *
  go_wp2_with fail
  refine (curBadRec b a l cap 0 _ hl (by omega) D1.out.I).mono ?_
  rintro e w2 ⟨r, rfl, hr, hI, hg⟩
  have D2 := Lib.hid (D1.out.pick hI hg)
  have K := Lib.hid (kept_grown Y0.out hg (by simp; omega))
  have HR := Lib.hid hr
  clear hI hg D1 Y0 hr
  obtain ⟨x0, x1, x2, x3⟩ := r
  have r0 := cur_cell K.out 0
  have r1 := cur_cell K.out 1
  have r2 := cur_cell K.out 2
  have r3 := cur_cell K.out 3
  have f0 := cur_free K.out 0
  have f1 := cur_free K.out 1
  have f2 := cur_free K.out 2
  have f3 := cur_free K.out 3
  simp at r0 r1 r2 r3
  have GV := Lib.hid (fun W' (C : Chg w.heap.size (w.heap.size + 1) w2 W') => Chg.below D2.out.B C (Nat.le_refl _))
  clear D2 K
  go_wp2
  exact bodyPost_ret (v := .agg #[.bool x0, .int .i64 x1, .int .i64 x2, .string x3]) (by simp [results, Try.results12, go_sem, r0, r1, r2, r3]) rfl ⟨⟨x0, x1, x2, x3⟩, rfl, HR.out, GV.out _ (chg_rec4 (Chg.refl _ _ w2) (Nat.le_refl _) (by omega) _ _ _ _)⟩
set_option maxHeartbeats 8000000 in
theorem drawRecs2 (a : Option Addr) (l : List UInt8) (cap : Nat) (w : World) (hl : l.length ≤ 1048576) (r : Row w a (l.map bval)) : Calls Try.prog 17 #[.slice a l.length cap] w (DrawnRR w) := by
  obtain ⟨w0, hw0⟩ : ∃ w0, w0 = (w.alloc (.cells #[.bool false, .int .i64 0, .int .i64 0, .string ⟨#[]⟩] 25)).alloc (.cells #[.bool false, .int .i64 0, .int .i64 0, .string ⟨#[]⟩] 25) := ⟨_, rfl⟩
  have B0 : Below w.heap.size w w0 := by rw [hw0]; exact below_box (below_box (Below.refl _ w) _) _
  have Z0 := Lib.hid (show w0.heap[w.heap.size]? = some (.cells #[.bool false, .int .i64 0, .int .i64 0, .string ⟨#[]⟩] 25 (0, 0)) by rw [hw0]; exact (alloc_old _ _ _ (by simp)).trans (alloc_at _ _ _ rfl))
  have Z1 := Lib.hid (show w0.heap[w.heap.size + 1]? = some (.cells #[.bool false, .int .i64 0, .int .i64 0, .string ⟨#[]⟩] 25 (0, 0)) by rw [hw0]; exact alloc_at _ _ _ (by simp))
  have BB := Lib.hid B0
  have R0 := Lib.hid (r.below B0)
  clear r B0
  go_enter Try.func17, Try.ntmps17
  go_wp2_with fail
  rw [← hw0]
  clear hw0
  refine (curOpen a l cap w0 hl R0.out).mono ?_
  rintro e w1 ⟨rfl, hI, hb⟩
  have D1 := Lib.hid (Drew.mk hI (below_seq BB.out hb) BB.out.size)
  have Y0 := Lib.hid (kept_block Z0.out hb)
  have Y1 := Lib.hid (kept_block Z1.out hb)
  have hbR : w.heap.size + 1 < w0.heap.size := cur_lt Z1.out
  clear hI hb Z0 Z1 BB R0
  generalize w0.heap.size = b at *
  go_wp2_with fail
  refine (curBadRec b a l cap 0 _ hl (by omega) D1.out.I).mono ?_
  rintro e w2 ⟨r, rfl, hr, hI, hg⟩
  obtain ⟨x0, x1, x2, x3⟩ := r
  have bx := below_box (Below.refl w2.heap.size w2) (.cells #[.bool x0, .int .i64 x1, .int .i64 x2, .string x3] 25)
  have D2 := Lib.hid ((D1.out.pick hI hg).below bx)
  have V0 := Lib.hid (kept_block (kept_grown Y0.out hg (by simp; omega)) bx)
  have V1 := Lib.hid (kept_block (kept_grown Y1.out hg (by simp; omega)) bx)
  have TA := Lib.hid (alloc_at w2 (.cells #[.bool x0, .int .i64 x1, .int .i64 x2, .string x3] 25) _ rfl)
  have hbA : b < w2.heap.size := hI.lt
  obtain ⟨rx1, rx2, rx3⟩ := hr
  simp only at rx1 rx2 rx3
  clear hI hg Y0 Y1 D1 bx
  go_wp2_with fail
  refine (curBadRec b a l cap _ _ hl (by omega) D2.out.I).mono ?_
  rintro e w3 ⟨s, rfl, hs, hI, hg⟩
  obtain ⟨y0, y1, y2, y3⟩ := s
  have bx := below_box (Below.refl w3.heap.size w3) (.cells #[.bool y0, .int .i64 y1, .int .i64 y2, .string y3] 25)
  have D3 := Lib.hid ((D2.out.pick hI hg).below bx)
  have U0 := Lib.hid (kept_block (kept_grown V0.out hg (by simp; omega)) bx)
  have U1 := Lib.hid (kept_block (kept_grown V1.out hg (by simp; omega)) bx)
  have UA := Lib.hid (kept_block (kept_grown TA.out hg (by simp; omega)) bx)
  have TB := Lib.hid (alloc_at w3 (.cells #[.bool y0, .int .i64 y1, .int .i64 y2, .string y3] 25) _ rfl)
  have hAB : w2.heap.size < w3.heap.size := by have := hg.size; simp at this; omega
  obtain ⟨sy1, sy2, sy3⟩ := hs
  simp only at sy1 sy2 sy3
  clear hI hg V0 V1 D2 bx TA
  go_wp2_with fail
  refine (curOnce b a l cap _ 2 _ hl (by omega) (by omega) D3.out.I).mono ?_
  rintro e w4 ⟨f, rfl, hI, hg⟩
  have D4 := Lib.hid (D3.out.pick hI hg)
  have T0 := Lib.hid (kept_grown U0.out hg (by simp; omega))
  have T1 := Lib.hid (kept_grown U1.out hg (by simp; omega))
  have HA := Lib.hid (kept_grown UA.out hg (by simp; omega))
  have HBk := Lib.hid (kept_grown TB.out hg (by simp; omega))
  clear hI hg U0 U1 D3 UA TB
  generalize w2.heap.size = A at *
  generalize w3.heap.size = B at *
  go_upto_if 14 with fail
  go_cut [] (fun wx => ∃ (z1 z2 : Int), (-9223372036854775808 ≤ z1 ∧ z1 ≤ 9223372036854775807) ∧ (-9223372036854775808 ≤ z2 ∧ z2 ≤ 9223372036854775807) ∧ Hid (Drew w wx b a l cap 1000 ∧ wx.heap[A]? = some (.cells #[.bool x0, .int .i64 x1, .int .i64 x2, .string x3] 25 (0, 0)) ∧ wx.heap[B]? = some (.cells #[.bool y0, .int .i64 z1, .int .i64 z2, .string y3] 25 (0, 0)) ∧ wx.heap[w.heap.size]? = some (.cells #[.bool false, .int .i64 0, .int .i64 0, .string ⟨#[]⟩] 25 (0, 0)) ∧ wx.heap[w.heap.size + 1]? = some (.cells #[.bool false, .int .i64 0, .int .i64 0, .string ⟨#[]⟩] 25 (0, 0))))
  case first =>
    cases f
    · go_wp2_with fail
      go_meet
      case rel => exact ⟨_, _, sy1, sy2, Lib.hid ⟨D4.out.more (by omega), HA.out, HBk.out, T0.out, T1.out⟩⟩
    · have a1 := cur_cell HA.out 1
      have b1 := cur_cell HBk.out 1
      have g1 := cur_free HBk.out 1
      simp at a1 b1
      have hBb : b < B := by omega
      obtain ⟨W5, hW5⟩ : ∃ W5, W5 = w4.setCell ⟨B, 1, none⟩ (.int .i64 x1) := ⟨_, rfl⟩
      have oth : ∀ k, k ≠ B → W5.heap[k]? = w4.heap[k]? := fun k hk => by rw [hW5]; exact Below.heap_setCell w4 _ _ k (by simpa using hk)
      have D5 := Lib.hid (show Drew w W5 b a l cap (0 + 300 + 300 + 1) by rw [hW5]; exact D4.out.set hBb _)
      have A5 := Lib.hid ((oth A (by omega)).trans HA.out)
      have B5 := Lib.hid (show W5.heap[B]? = some (.cells #[.bool y0, .int .i64 x1, .int .i64 y2, .string y3] 25 (0, 0)) by rw [hW5]; exact cur_set HBk.out 1 _)
      have P0 := Lib.hid ((oth w.heap.size (by omega)).trans T0.out)
      have P1 := Lib.hid ((oth (w.heap.size + 1) (by omega)).trans T1.out)
      clear oth D4 HA HBk T0 T1
      go_wp2_with fail
      rw [← hW5]
      clear hW5 a1 b1 g1
      refine (curOnce b a l cap _ 2 _ hl (by omega) (by omega) D5.out.I).mono ?_
      rintro e w6 ⟨f, rfl, hI, hg⟩
      have D6 := Lib.hid (D5.out.pick hI hg)
      have T0 := Lib.hid (kept_grown P0.out hg (by simp; omega))
      have T1 := Lib.hid (kept_grown P1.out hg (by simp; omega))
      have HA := Lib.hid (kept_grown A5.out hg (by simp; omega))
      have HBk := Lib.hid (kept_grown B5.out hg (by simp; omega))
      clear hI hg D5 A5 B5 P0 P1
      cases f
      · go_wp2_with fail
        go_meet
        case rel => exact ⟨_, _, rx1, sy2, Lib.hid ⟨D6.out.more (by omega), HA.out, HBk.out, T0.out, T1.out⟩⟩
      · have a2 := cur_cell HA.out 2
        have b2 := cur_cell HBk.out 2
        have g2 := cur_free HBk.out 2
        simp at a2 b2
        have R := Lib.hid (And.intro ((D6.out.set (k := 2) hBb (.int .i64 x2)).more (m' := 1000) (by omega)) (And.intro ((Below.heap_setCell w6 ⟨B, 2, none⟩ (.int .i64 x2) A (by simp; omega)).trans HA.out) (And.intro (cur_set HBk.out 2 (.int .i64 x2)) (And.intro ((Below.heap_setCell w6 ⟨B, 2, none⟩ (.int .i64 x2) w.heap.size (by simp; omega)).trans T0.out) ((Below.heap_setCell w6 ⟨B, 2, none⟩ (.int .i64 x2) (w.heap.size + 1) (by simp; omega)).trans T1.out)))))
        clear D6 HA HBk T0 T1
        go_wp2_with fail
        go_meet
        case rel => exact ⟨_, _, rx1, rx2, R⟩
  case rest =>
    clear D4 HA HBk T0 T1
    obtain ⟨z1, z2, sz1, sz2, H⟩ := hcut
    obtain ⟨hD, hA, hB, h0, h1⟩ := H.out
    have a0 := cur_cell hA 0
    have a1 := cur_cell hA 1
    have a2 := cur_cell hA 2
    have a3 := cur_cell hA 3
    have b0 := cur_cell hB 0
    have b1 := cur_cell hB 1
    have b2 := cur_cell hB 2
    have b3 := cur_cell hB 3
    have r0 := cur_cell h0 0
    have r1 := cur_cell h0 1
    have r2 := cur_cell h0 2
    have r3 := cur_cell h0 3
    have s0 := cur_cell h1 0
    have s1 := cur_cell h1 1
    have s2 := cur_cell h1 2
    have s3 := cur_cell h1 3
    have fr0 := cur_free h0 0
    have fr1 := cur_free h0 1
    have fr2 := cur_free h0 2
    have fr3 := cur_free h0 3
    have fs0 := cur_free h1 0
    have fs1 := cur_free h1 1
    have fs2 := cur_free h1 2
    have fs3 := cur_free h1 3
    simp at a0 a1 a2 a3 b0 b1 b2 b3 r0 r1 r2 r3 s0 s1 s2 s3
    have n1 : ¬ A = w.heap.size := by omega
    have n2 : ¬ A = w.heap.size + 1 := by omega
    have n3 : ¬ B = w.heap.size := by omega
    have n4 : ¬ B = w.heap.size + 1 := by omega
    have GV := Lib.hid (fun W' (C : Chg w.heap.size (w.heap.size + 2) wc W') => Chg.below hD.B C (Nat.le_refl _))
    clear hD hA hB h0 h1 H
    go_wp2_with fail
    go_region
    go_wp2
    exact bodyPost_ret (v := .tuple #[.agg #[.bool x0, .int .i64 x1, .int .i64 x2, .string x3], .agg #[.bool y0, .int .i64 z1, .int .i64 z2, .string y3]]) (by simp [results, Try.results17, go_sem, r0, r1, r2, r3, s0, s1, s2, s3]) rfl ⟨⟨x0, x1, x2, x3⟩, ⟨y0, z1, z2, y3⟩, rfl, ⟨rx1, rx2, rx3⟩, ⟨sz1, sz2, sy3⟩, GV.out _ ((chg_rec4 (chg_rec4 (Chg.refl _ _ wc) (Nat.le_refl _) (by omega) _ _ _ _) (by omega) (by omega) _ _ _ _).trans (Chg.of_below (belowN 1)))⟩
end Go.Proofs.Ytkcplnmhonhmaaa
