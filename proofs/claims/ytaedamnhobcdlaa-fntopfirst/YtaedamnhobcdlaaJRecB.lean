/- RecD, RecB in one. Written by tools/join.py. -/
import Derived.Test.YtaedamnhobcdlaaJRecU
import Derived.Test.YtaedamnhobcdlaaJCur
import Derived.Test.YtaedamnhobcdlaaJApp
import Derived.Deep.RegionLaw
import Derived.Deep.DeepCutAuto
import Derived.Deep.CutBlock
section
namespace Go.Proofs.Ytaedamnhobcdlaa
open Go.RowKit
set_option linter.unusedVariables false
set_option maxRecDepth 100000

/-- What a drawing of a record leaves. -/
def DrawnRec (b : Nat) (a : Option Addr) (l : List UInt8) (cap m : Nat) (w : World) (e : Ending) (w' : World) : Prop :=
  ∃ r : RecM, e = .returned (.agg #[.bool r.live, .int .i64 r.dist, .int .i64 r.weight, .string r.word]) ∧ recBd r ∧ CurI w' b a l cap m ∧ w.grownBy w' (some b)
theorem drawnRec_store {b : Nat} {a : Option Addr} {l : List UInt8} {cap m : Nat} {w W : World} (hI : CurI W b a l cap m) (hb : b < w.heap.size) (hg : (w.alloc (.cells #[.bool false, .int .i64 0, .int .i64 0, .string ⟨#[]⟩] 30)).grownBy W (some b)) (r : RecM) (hr : recBd r) (v0 v1 v2 v3 : Value) :
    DrawnRec b a l cap m w (.returned (.agg #[.bool r.live, .int .i64 r.dist, .int .i64 r.weight, .string r.word])) ((((W.setCell ⟨w.heap.size, 0, none⟩ v0).setCell ⟨w.heap.size, 1, none⟩ v1).setCell ⟨w.heap.size, 2, none⟩ v2).setCell ⟨w.heap.size, 3, none⟩ v3) := by
  have BB : Below w.heap.size W ((((W.setCell ⟨w.heap.size, 0, none⟩ v0).setCell ⟨w.heap.size, 1, none⟩ v1).setCell ⟨w.heap.size, 2, none⟩ v2).setCell ⟨w.heap.size, 3, none⟩ v3) :=
    ((((Below.refl w.heap.size W).setCell (p := ⟨w.heap.size, 0, none⟩) (Nat.le_refl _) _).setCell (p := ⟨w.heap.size, 1, none⟩) (Nat.le_refl _) _).setCell (p := ⟨w.heap.size, 2, none⟩) (Nat.le_refl _) _).setCell (p := ⟨w.heap.size, 3, none⟩) (Nat.le_refl _) _
  exact ⟨r, rfl, hr, hI.low BB hb, grown_low (grown_trans (World.grownBy_alloc w _ (some b)) hg) BB⟩
theorem litD_at (r : Nat) (h : r < 2) : ∃ d : Nat, (2 ≤ d ∧ d ≤ 8) ∧ (#[.int .i64 3, .int .i64 8] : Array Value)[r]? = some (.int .i64 d) := by
  rcases (show r = 0 ∨ r = 1 from by omega) with rfl | rfl
  · exact ⟨3, by omega, rfl⟩
  · exact ⟨8, by omega, rfl⟩
theorem litW_at {x y z : Int} (hx : -9223372036854775808 ≤ x ∧ x ≤ 9223372036854775807) (hy : -9223372036854775808 ≤ y ∧ y ≤ 9223372036854775807) (hz : -9223372036854775808 ≤ z ∧ z ≤ 9223372036854775807) (r : Nat) (h : r < 3) : ∃ u : Int, (-9223372036854775808 ≤ u ∧ u ≤ 9223372036854775807) ∧ (#[.int .i64 x, .int .i64 y, .int .i64 z] : Array Value)[r]? = some (.int .i64 u) := by
  rcases (show r = 0 ∨ r = 1 ∨ r = 2 from by omega) with rfl | rfl | rfl
  · exact ⟨x, hx, rfl⟩
  · exact ⟨y, hy, rfl⟩
  · exact ⟨z, hz, rfl⟩
theorem litV_at {x y : Int} (hx : -9223372036854775808 ≤ x ∧ x ≤ 9223372036854775807) (hy : -9223372036854775808 ≤ y ∧ y ≤ 9223372036854775807) (r : Nat) (h : r < 2) : ∃ u : Int, (-9223372036854775808 ≤ u ∧ u ≤ 9223372036854775807) ∧ (#[.int .i64 x, .int .i64 y] : Array Value)[r]? = some (.int .i64 u) := by
  rcases (show r = 0 ∨ r = 1 from by omega) with rfl | rfl
  · exact ⟨x, hx, rfl⟩
  · exact ⟨y, hy, rfl⟩
set_option maxHeartbeats 8000000 in
theorem curRec (b : Nat) (a : Option Addr) (l : List UInt8) (cap m : Nat) (w : World) (hl : l.length ≤ 1048576) (hm : m ≤ 100000000000000000) (h : CurI w b a l cap m) :
    Calls Try.prog 72 #[.pointer (some ⟨b, 0, none⟩)] w (DrawnRec b a l cap (m + 100) w) := by
  have hbl := h.lt
  have hb0 : Below w.heap.size w (w.alloc (.cells #[.bool false, .int .i64 0, .int .i64 0, .string ⟨#[]⟩] 30)) := below_box (Below.refl _ w) _
  have I0 := Lib.hid (h.below hb0)
  clear h hb0
  go_enter Try.func72, Try.ntmps72
  go_wp2_with fail
  refine (curOnce b a l cap m 5 _ hl (by omega) (by omega) I0.out).mono ?_
  rintro e w1 ⟨f, rfl, hI, hg⟩
  have I1 := Lib.hid hI
  have G1 := Lib.hid hg
  have K1 := Lib.hid (kept_grown (alloc_at w (.cells #[.bool false, .int .i64 0, .int .i64 0, .string ⟨#[]⟩] 30) _ rfl) hg (by simp; omega))
  clear hI hg I0
  cases f
  · have ID := Lib.hid (I1.out.below (belowN 1))
    have IL := Lib.hid ((I1.out.below (below_box (Below.refl _ w1) (.cells #[.int .i64 3, .int .i64 8] 3))).below (belowN 1))
    have hb1 : b < w1.heap.size := I1.out.lt
    go_upto_region 3 with fail
    go_region_law (first
      | (refine step_callW w1.drew rfl (by rfl) 55 _ _ rfl _ (by kernel_rfl) Try.call55 _ (curPick b a l cap _ 2 _ hl (by omega) (by omega) ID.out) ?_; rintro e w2 ⟨p1, rfl, hp1, hI, hg⟩; refine ⟨_, rfl, ?_⟩; have p1i : (p1 : Int) < 2 := (by omega); obtain ⟨d, hd, hdl⟩ := litD_at p1 (by omega); have I2 := Lib.hid (hI.below (below_box (Below.refl _ w2) (.cells #[.int .i64 3, .int .i64 8] 3))); have q1 : (w2.alloc (.cells #[.int .i64 3, .int .i64 8] 3)).cell? ⟨w2.heap.size, p1, none⟩ = some (.int .i64 d) := (lit_new w2 _ 3 p1).trans hdl; have G2 := Lib.hid (grown_trans (grown_trans G1.out (grown_trans (drewN_grown w1 1 (some b)) hg)) (World.grownBy_alloc w2 (.cells #[.int .i64 3, .int .i64 8] 3) (some b))); clear hI hg hdl hp1 ID IL)
      | (refine step_callW (w1.alloc (.cells #[.int .i64 3, .int .i64 8] 3)).drew rfl (by rfl) 55 _ _ rfl _ (by kernel_rfl) Try.call55 _ (curPick b a l cap _ 2 _ hl (by omega) (by omega) IL.out) ?_; rintro e w2 ⟨p1, rfl, hp1, hI, hg⟩; refine ⟨_, rfl, ?_⟩; have p1i : (p1 : Int) < 2 := (by omega); obtain ⟨d, hd, hdl⟩ := litD_at p1 (by omega); have J2 := Lib.hid hI; have q1 : w2.cell? ⟨w1.heap.size, p1, none⟩ = some (.int .i64 d) := hg.cell ((lit_new w1 _ 3 p1).trans hdl) (by simp; omega); have G2 := Lib.hid (grown_trans G1.out (grown_trans (World.grownBy_alloc w1 (.cells #[.int .i64 3, .int .i64 8] 3) (some b)) (grown_trans (drewN_grown _ 1 (some b)) hg))); clear hI hg hdl hp1 ID IL)
      | (refine step_callW (w2.alloc (.cells #[.int .i64 3, .int .i64 8] 3)) rfl (by rfl) 55 _ _ rfl _ (by kernel_rfl) Try.call55 _ (curPick b a l cap _ d _ hl (by omega) (by omega) I2.out) ?_; rintro e w3 ⟨p2, rfl, hp2, hI, hg⟩; refine ⟨_, rfl, ?_⟩; have hp2 : p2 ≤ 8 := (by omega); have I3 := Lib.hid hI; have G3 := Lib.hid (grown_trans G2.out hg); clear hI hg I2)
      | (refine step_callW w2 rfl (by rfl) 55 _ _ rfl _ (by kernel_rfl) Try.call55 _ (curPick b a l cap _ d _ hl (by omega) (by omega) J2.out) ?_; rintro e w3 ⟨p2, rfl, hp2, hI, hg⟩; refine ⟨_, rfl, ?_⟩; have hp2 : p2 ≤ 8 := (by omega); have I3 := Lib.hid hI; have G3 := Lib.hid (grown_trans G2.out hg); clear hI hg J2)
      | (refine step_callW w3 rfl (by rfl) 55 _ _ rfl _ (by kernel_rfl) Try.call55 _ (curPick b a l cap _ 3 _ hl (by omega) (by omega) I3.out) ?_; rintro e w4 ⟨p3, rfl, hp3, hI, hg⟩; refine ⟨_, rfl, ?_⟩; have hp3 : p3 ≤ 3 := (by omega); have I4 := Lib.hid hI; have G4 := Lib.hid (grown_trans G3.out hg); clear hI hg I3)
      | (refine step_callW w4 rfl (by rfl) 93 _ _ rfl _ (by kernel_rfl) Try.call93 _ (curWide b a l cap _ 65536 _ hl (by omega) (by omega) (by omega) I4.out) ?_; rintro e w5 ⟨p4, rfl, hp4, hI, hg⟩; refine ⟨_, rfl, ?_⟩; have hp4 : p4 ≤ 65536 := (by omega); have I5 := Lib.hid hI; have J5 := Lib.hid (hI.below (below_box (Below.refl _ w5) (.cells #[.int .i64 p3, .int .i64 p4, .int .i64 65535] 3))); have G5 := Lib.hid (grown_trans G4.out hg); clear hI hg I4)
      | (refine step_callW w5 rfl (by rfl) 55 _ _ rfl _ (by kernel_rfl) Try.call55 _ (curPick b a l cap _ 3 _ hl (by omega) (by omega) I5.out) ?_; rintro e w6 ⟨p5, rfl, hp5, hI, hg⟩; refine ⟨_, rfl, ?_⟩; have p5i : (p5 : Int) < 3 := (by omega); obtain ⟨u, hu, hul⟩ := litW_at (x := p3) (y := p4) (z := 65535) (by omega) (by omega) (by omega) p5 (by omega); have I6 := Lib.hid hI; have J6 := Lib.hid (hI.below (below_box (Below.refl _ w6) (.cells #[.int .i64 p3, .int .i64 p4, .int .i64 65535] 3))); have q6 : (w6.alloc (.cells #[.int .i64 p3, .int .i64 p4, .int .i64 65535] 3)).cell? ⟨w6.heap.size, p5, none⟩ = some (.int .i64 u) := (lit_new w6 _ 3 p5).trans hul; have HU := Lib.hid (And.intro hu hul); have G6 := Lib.hid (grown_trans G5.out hg); clear hI hg hul hu hp5 I5 J5)
      | (refine step_callW (w5.alloc (.cells #[.int .i64 p3, .int .i64 p4, .int .i64 65535] 3)) rfl (by rfl) 55 _ _ rfl _ (by kernel_rfl) Try.call55 _ (curPick b a l cap _ 3 _ hl (by omega) (by omega) J5.out) ?_; rintro e w6 ⟨p5, rfl, hp5, hI, hg⟩; refine ⟨_, rfl, ?_⟩; have p5i : (p5 : Int) < 3 := (by omega); obtain ⟨u, hu, hul⟩ := litW_at (x := p3) (y := p4) (z := 65535) (by omega) (by omega) (by omega) p5 (by omega); have I6 := Lib.hid hI; have q6 : w6.cell? ⟨w5.heap.size, p5, none⟩ = some (.int .i64 u) := hg.cell ((lit_new w5 _ 3 p5).trans hul) (by have h5 := G5.out.size; simp at h5 ⊢; omega); have HU := Lib.hid (And.intro hu hul); have G6 := Lib.hid (grown_trans G5.out (grown_trans (World.grownBy_alloc w5 (.cells #[.int .i64 p3, .int .i64 p4, .int .i64 65535] 3) (some b)) hg)); have Q6 := Lib.hid q6; clear hI hg hul hu hp5 I5 J5)
      | (refine step_callW w6 rfl (by rfl) 94 _ _ rfl _ (by kernel_rfl) Try.call94 _ (curWord b a l cap _ _ hl (by omega) I6.out) ?_; rintro e w7 ⟨sw, rfl, hsw, hI, hg⟩; refine ⟨_, rfl, ?_⟩; have I7 := Lib.hid hI; have G7 := Lib.hid (grown_trans G6.out hg); (try (have q7 := hg.cell Q6.out (by have h5 := G5.out.size; simp at h5 ⊢; omega))); have q8 : (w7.alloc (.cells #[.int .i64 p3, .int .i64 p4, .int .i64 65535] 3)).cell? ⟨w7.heap.size, p5, none⟩ = some (.int .i64 u) := (lit_new w7 _ 3 p5).trans HU.out.2; have K7 := kept_grown (alloc_at w (.cells #[.bool false, .int .i64 0, .int .i64 0, .string ⟨#[]⟩] 30) _ rfl) G7.out (by simp; omega); have z0 : w7.cell? ⟨w.heap.size, 0, none⟩ = some (.bool false) := cur_cell K7 0; have g0 := cur_free K7 0; have z1 : w7.cell? ⟨w.heap.size, 1, none⟩ = some (.int .i64 0) := cur_cell K7 1; have g1 := cur_free K7 1; have z2 : w7.cell? ⟨w.heap.size, 2, none⟩ = some (.int .i64 0) := cur_cell K7 2; have g2 := cur_free K7 2; have z3 : w7.cell? ⟨w.heap.size, 3, none⟩ = some (.string ⟨#[]⟩) := cur_cell K7 3; have g3 := cur_free K7 3; have K8 := kept_block K7 (below_box (Below.refl _ w7) (.cells #[.int .i64 p3, .int .i64 p4, .int .i64 65535] 3)); have J7 := Lib.hid (I7.out.below (below_box (Below.refl _ w7) (.cells #[.int .i64 p3, .int .i64 p4, .int .i64 65535] 3))); have H7 := Lib.hid (grown_trans G7.out (World.grownBy_alloc w7 (.cells #[.int .i64 p3, .int .i64 p4, .int .i64 65535] 3) (some b))); have y0 : (w7.alloc (.cells #[.int .i64 p3, .int .i64 p4, .int .i64 65535] 3)).cell? ⟨w.heap.size, 0, none⟩ = some (.bool false) := cur_cell K8 0; have e0 := cur_free K8 0; have y1 : (w7.alloc (.cells #[.int .i64 p3, .int .i64 p4, .int .i64 65535] 3)).cell? ⟨w.heap.size, 1, none⟩ = some (.int .i64 0) := cur_cell K8 1; have e1 := cur_free K8 1; have y2 : (w7.alloc (.cells #[.int .i64 p3, .int .i64 p4, .int .i64 65535] 3)).cell? ⟨w.heap.size, 2, none⟩ = some (.int .i64 0) := cur_cell K8 2; have e2 := cur_free K8 2; have y3 : (w7.alloc (.cells #[.int .i64 p3, .int .i64 p4, .int .i64 65535] 3)).cell? ⟨w.heap.size, 3, none⟩ = some (.string ⟨#[]⟩) := cur_cell K8 3; have e3 := cur_free K8 3; clear hI hg I6 K7 K8)
      | (refine step_callW (w6.alloc (.cells #[.int .i64 p3, .int .i64 p4, .int .i64 65535] 3)) rfl (by rfl) 94 _ _ rfl _ (by kernel_rfl) Try.call94 _ (curWord b a l cap _ _ hl (by omega) J6.out) ?_; rintro e w7 ⟨sw, rfl, hsw, hI, hg⟩; refine ⟨_, rfl, ?_⟩; have I7 := Lib.hid hI; have G7 := Lib.hid (grown_trans G6.out (grown_trans (World.grownBy_alloc w6 (.cells #[.int .i64 p3, .int .i64 p4, .int .i64 65535] 3) (some b)) hg)); have q7 : w7.cell? ⟨w6.heap.size, p5, none⟩ = some (.int .i64 u) := hg.cell q6 (by have h5 := G6.out.size; simp at h5 ⊢; omega); have K7 := kept_grown (alloc_at w (.cells #[.bool false, .int .i64 0, .int .i64 0, .string ⟨#[]⟩] 30) _ rfl) G7.out (by simp; omega); have z0 : w7.cell? ⟨w.heap.size, 0, none⟩ = some (.bool false) := cur_cell K7 0; have g0 := cur_free K7 0; have z1 : w7.cell? ⟨w.heap.size, 1, none⟩ = some (.int .i64 0) := cur_cell K7 1; have g1 := cur_free K7 1; have z2 : w7.cell? ⟨w.heap.size, 2, none⟩ = some (.int .i64 0) := cur_cell K7 2; have g2 := cur_free K7 2; have z3 : w7.cell? ⟨w.heap.size, 3, none⟩ = some (.string ⟨#[]⟩) := cur_cell K7 3; have g3 := cur_free K7 3; clear hI hg I6 K7))
    all_goals
      have D := Lib.hid (fun (W : World) (hI : CurI W b a l cap (m + 100)) (hg : (w.alloc (.cells #[.bool false, .int .i64 0, .int .i64 0, .string ⟨#[]⟩] 30)).grownBy W (some b)) v0 v1 v2 v3 => drawnRec_store hI hbl hg ⟨true, p2, u, sw⟩ ⟨by simp only; omega, HU.out.1, by simp only; unfold maxLen; omega⟩ v0 v1 v2 v3)
      clear HU K1 G1 I1
      first
        | (obtain ⟨W, hW⟩ : ∃ W, W = w7.alloc (.cells #[.int .i64 p3, .int .i64 p4, .int .i64 65535] 3) := ⟨_, rfl⟩
           rw [← hW] at y0 y1 y2 y3 J7 H7 ⊢
           have D := Lib.hid (D.out W (J7.out.more (by omega)) H7.out)
           clear hW J7 H7 I7 G7 z0 z1 z2 z3
           go_wp2
           exact bodyPost_ret (v := .agg #[.bool true, .int .i64 p2, .int .i64 u, .string sw]) (by simp [results, Try.results72, go_sem, y0, y1, y2, y3]) rfl (D.out _ _ _ _))
        | (have D := Lib.hid (D.out w7 (I7.out.more (by omega)) G7.out)
           clear I7 G7
           go_wp2
           exact bodyPost_ret (v := .agg #[.bool true, .int .i64 p2, .int .i64 u, .string sw]) (by simp [results, Try.results72, go_sem, z0, z1, z2, z3]) rfl (D.out _ _ _ _))
  · have r0 := cur_cell K1.out 0
    have r1 := cur_cell K1.out 1
    have r2 := cur_cell K1.out 2
    have r3 := cur_cell K1.out 3
    have f0 := cur_free K1.out 0
    have f1 := cur_free K1.out 1
    have f2 := cur_free K1.out 2
    have f3 := cur_free K1.out 3
    simp at r0 r1 r2 r3
    have D := Lib.hid (fun v0 v1 v2 v3 => drawnRec_store (I1.out.more (m' := m + 100) (by omega)) hbl G1.out zeroRec (by unfold recBd zeroRec maxLen; simp; decide) v0 v1 v2 v3)
    clear I1 G1 K1
    go_wp2
    exact bodyPost_ret (v := .agg #[.bool false, .int .i64 0, .int .i64 0, .string ⟨#[]⟩]) (by simp [results, Try.results72, go_sem, r0, r1, r2, r3]) rfl (D.out _ _ _ _)
end Go.Proofs.Ytaedamnhobcdlaa
end

section
namespace Go.Proofs.Ytaedamnhobcdlaa
open Go.RowKit
set_option linter.unusedVariables false
set_option maxRecDepth 100000

/-- While a record is drawn: it lies in block T, the answer's place is the first new block. -/
structure RcSt (w W : World) (b T : Nat) (a : Option Addr) (l : List UInt8) (cap m : Nat) (x0 : Bool) (x1 x2 : Int) (x3 : ByteArray) : Prop where
  tb : W.heap[T]? = some (.cells #[.bool x0, .int .i64 x1, .int .i64 x2, .string x3] 30 (0, 0))
  rb : W.heap[w.heap.size]? = some (.cells #[.bool false, .int .i64 0, .int .i64 0, .string ⟨#[]⟩] 30 (0, 0))
  h : w.heap.size < T ∧ b < w.heap.size
  I : CurI W b a l cap m
  G : w.grownBy W (some b)
section
variable {w W W' : World} {b T : Nat} {a : Option Addr} {l : List UInt8} {cap m m' : Nat} {x0 : Bool} {x1 x2 : Int} {x3 : ByteArray}
theorem RcSt.pick (s : RcSt w W b T a l cap m x0 x1 x2 x3) (hI : CurI W' b a l cap m') (hg : W.grownBy W' (some b)) : RcSt w W' b T a l cap m' x0 x1 x2 x3 := by
  obtain ⟨h1, h2⟩ := s.h
  exact ⟨kept_grown s.tb hg (by simp; omega), kept_grown s.rb hg (by simp; omega), s.h, hI, grown_trans s.G hg⟩
theorem RcSt.below (s : RcSt w W b T a l cap m x0 x1 x2 x3) (hb : Below W.heap.size W W') : RcSt w W' b T a l cap m x0 x1 x2 x3 :=
  ⟨kept_block s.tb hb, kept_block s.rb hb, s.h, s.I.below hb, grown_trans s.G (below_grown hb _)⟩
theorem RcSt.more (s : RcSt w W b T a l cap m x0 x1 x2 x3) (hm : m ≤ m') : RcSt w W b T a l cap m' x0 x1 x2 x3 := ⟨s.tb, s.rb, s.h, s.I.more hm, s.G⟩
theorem RcSt.low (s : RcSt w W b T a l cap m x0 x1 x2 x3) (k : Nat) (v : Value) : Below (w.heap.size + 1) W (W.setCell ⟨T, k, none⟩ v) := (Below.refl _ W).setCell (p := ⟨T, k, none⟩) (by have := s.h.1; simp; omega) _
theorem RcSt.set0 (s : RcSt w W b T a l cap m x0 x1 x2 x3) (y : Bool) : RcSt w (W.setCell ⟨T, 0, none⟩ (.bool y)) b T a l cap m y x1 x2 x3 :=
  ⟨cur_set s.tb 0 _, ((s.low 0 _).block _ (by omega)).trans s.rb, s.h, s.I.low (s.low 0 _) (by have := s.h.2; omega), grown_low s.G ((s.low 0 _).mono (by omega))⟩
theorem RcSt.set1 (s : RcSt w W b T a l cap m x0 x1 x2 x3) (y : Int) : RcSt w (W.setCell ⟨T, 1, none⟩ (.int .i64 y)) b T a l cap m x0 y x2 x3 :=
  ⟨cur_set s.tb 1 _, ((s.low 1 _).block _ (by omega)).trans s.rb, s.h, s.I.low (s.low 1 _) (by have := s.h.2; omega), grown_low s.G ((s.low 1 _).mono (by omega))⟩
theorem RcSt.set2 (s : RcSt w W b T a l cap m x0 x1 x2 x3) (y : Int) : RcSt w (W.setCell ⟨T, 2, none⟩ (.int .i64 y)) b T a l cap m x0 x1 y x3 :=
  ⟨cur_set s.tb 2 _, ((s.low 2 _).block _ (by omega)).trans s.rb, s.h, s.I.low (s.low 2 _) (by have := s.h.2; omega), grown_low s.G ((s.low 2 _).mono (by omega))⟩
theorem RcSt.set3 (s : RcSt w W b T a l cap m x0 x1 x2 x3) (y : ByteArray) : RcSt w (W.setCell ⟨T, 3, none⟩ (.string y)) b T a l cap m x0 x1 x2 y :=
  ⟨cur_set s.tb 3 _, ((s.low 3 _).block _ (by omega)).trans s.rb, s.h, s.I.low (s.low 3 _) (by have := s.h.2; omega), grown_low s.G ((s.low 3 _).mono (by omega))⟩
theorem RcSt.laid {w1 : World} {r : RecM} (hb : b < w.heap.size) (hI : CurI w1 b a l cap m) (hg : (w.alloc (.cells #[.bool false, .int .i64 0, .int .i64 0, .string ⟨#[]⟩] 30)).grownBy w1 (some b)) : RcSt w (w1.alloc (.cells #[.bool r.live, .int .i64 r.dist, .int .i64 r.weight, .string r.word] 30)) b w1.heap.size a l cap m r.live r.dist r.weight r.word := by
  have hs := hg.size
  simp at hs
  have kr := kept_grown (alloc_at w (.cells #[.bool false, .int .i64 0, .int .i64 0, .string ⟨#[]⟩] 30) _ rfl) hg (by simp; omega)
  have bb := below_box (Below.refl w1.heap.size w1) (.cells #[.bool r.live, .int .i64 r.dist, .int .i64 r.weight, .string r.word] 30)
  exact ⟨alloc_at _ _ _ rfl, kept_block kr bb, ⟨by omega, hb⟩, hI.below bb, grown_trans (grown_trans (World.grownBy_alloc w _ (some b)) hg) (World.grownBy_alloc w1 _ (some b))⟩
theorem RcSt.done (s : RcSt w W b T a l cap m x0 x1 x2 x3) (hr : recBd ⟨x0, x1, x2, x3⟩) (v0 v1 v2 v3 : Value) :
    DrawnRec b a l cap m w (.returned (.agg #[.bool x0, .int .i64 x1, .int .i64 x2, .string x3])) ((((W.setCell ⟨w.heap.size, 0, none⟩ v0).setCell ⟨w.heap.size, 1, none⟩ v1).setCell ⟨w.heap.size, 2, none⟩ v2).setCell ⟨w.heap.size, 3, none⟩ v3) := by
  have BB : Below w.heap.size W ((((W.setCell ⟨w.heap.size, 0, none⟩ v0).setCell ⟨w.heap.size, 1, none⟩ v1).setCell ⟨w.heap.size, 2, none⟩ v2).setCell ⟨w.heap.size, 3, none⟩ v3) :=
    ((((Below.refl w.heap.size W).setCell (p := ⟨w.heap.size, 0, none⟩) (Nat.le_refl _) _).setCell (p := ⟨w.heap.size, 1, none⟩) (Nat.le_refl _) _).setCell (p := ⟨w.heap.size, 2, none⟩) (Nat.le_refl _) _).setCell (p := ⟨w.heap.size, 3, none⟩) (Nat.le_refl _) _
  exact ⟨⟨x0, x1, x2, x3⟩, rfl, hr, s.I.low BB s.h.2, grown_low s.G BB⟩
end
set_option maxHeartbeats 8000000 in
theorem curBadRec (b : Nat) (a : Option Addr) (l : List UInt8) (cap m : Nat) (w : World) (hl : l.length ≤ 1048576) (hm : m ≤ 10000000000000000) (h : CurI w b a l cap m) :
    Calls Try.prog 71 #[.pointer (some ⟨b, 0, none⟩)] w (DrawnRec b a l cap (m + 300) w) := by
  have hbl := h.lt
  have I0 := Lib.hid (h.below (below_box (Below.refl _ w) (.cells #[.bool false, .int .i64 0, .int .i64 0, .string ⟨#[]⟩] 30)))
  clear h
  go_enter Try.func71, Try.ntmps71
  go_wp2_with fail
  refine (curRec b a l cap m _ hl (by omega) I0.out).mono ?_
  rintro e w1 ⟨r, rfl, hr, hI, hg⟩
  have S1 := Lib.hid (RcSt.laid (r := r) hbl hI hg)
  obtain ⟨x0, x1, x2, x3⟩ := r
  obtain ⟨b1, b2, b3⟩ := hr
  simp only at b1 b2 b3 S1
  clear hI hg I0
  go_wp2_with fail
  refine (curPick b a l cap _ 12 _ hl (by omega) (by omega) S1.out.I).mono ?_
  rintro e w2 ⟨t, rfl, ht, hI, hg⟩
  have S2 := Lib.hid (S1.out.pick hI hg)
  clear hI hg S1
  generalize w1.heap.size = T at *
  go_upto_block 0 with fail
  go_cut [] (fun wx => ∃ (x0 : Bool) (x1 x2 : Int) (x3 : ByteArray), (-9223372036854775808 ≤ x1 ∧ x1 ≤ 9223372036854775807) ∧ (-9223372036854775808 ≤ x2 ∧ x2 ≤ 9223372036854775807) ∧ x3.size ≤ maxLen ∧ Hid (RcSt w wx b T a l cap (m + 300) x0 x1 x2 x3))
  case first =>
    by_cases e0 : t = 0
    · subst e0
      have t0 := cur_cell S2.out.tb 0
      have f0 := cur_free S2.out.tb 0
      simp at t0
      have SZ := Lib.hid (S2.out.set0 (!x0))
      go_wp2_with fail
      go_meet
      case rel => exact ⟨_, _, _, _, b1, b2, b3, Lib.hid (SZ.out.more (by omega))⟩
    · have t0B : ((t : Int) == 0) = false := by simp; omega
      by_cases e1 : t = 1
      · subst e1
        go_wp2_with fail
        refine (curRaw b a l cap _ _ hl (by omega) S2.out.I).mono ?_
        rintro e w3 ⟨z, rfl, hz, hI, hg⟩
        have hw3 : w.heap.size ≤ w3.heap.size := (S2.out.pick hI hg).G.size
        have S3 := Lib.hid ((S2.out.pick hI hg).below (below_box (Below.refl _ w3) (.cells #[.int .i64 z, .int .i64 7, .int .i64 8] 3)))
        clear hI hg S2
        go_wp2_with fail
        refine (curPick b a l cap _ 3 _ hl (by omega) (by omega) S3.out.I).mono ?_
        rintro e w4 ⟨p, rfl, hp, hI, hg⟩
        have pi : (p : Int) < 3 := by omega
        obtain ⟨u, hu, hul⟩ := litW_at (x := z) (y := 7) (z := 8) hz (by omega) (by omega) p (by omega)
        have q1 : w4.cell? ⟨w3.heap.size, p, none⟩ = some (.int .i64 u) := hg.cell ((lit_new w3 _ 3 p).trans hul) (by simp; omega)
        have S4 := Lib.hid (S3.out.pick hI hg)
        have t1 := cur_cell S4.out.tb 1
        have f1 := cur_free S4.out.tb 1
        simp at t1
        have SZ := Lib.hid (S4.out.set1 u)
        clear hI hg S3 hul hp
        go_wp2_with fail
        go_meet
        case rel => exact ⟨_, _, _, _, hu, b2, b3, Lib.hid (SZ.out.more (by omega))⟩
      · have t1B : ((t : Int) == 1) = false := by simp; omega
        by_cases e2 : t = 2
        · subst e2
          go_wp2_with fail
          refine (curRaw b a l cap _ _ hl (by omega) S2.out.I).mono ?_
          rintro e w3 ⟨z, rfl, hz, hI, hg⟩
          have hw3 : w.heap.size ≤ w3.heap.size := (S2.out.pick hI hg).G.size
          have S3 := Lib.hid ((S2.out.pick hI hg).below (below_box (Below.refl _ w3) (.cells #[.int .i64 z, .int .i64 65536] 3)))
          clear hI hg S2
          go_wp2_with fail
          refine (curPick b a l cap _ 2 _ hl (by omega) (by omega) S3.out.I).mono ?_
          rintro e w4 ⟨p, rfl, hp, hI, hg⟩
          have pi : (p : Int) < 2 := by omega
          obtain ⟨u, hu, hul⟩ := litV_at (x := z) (y := 65536) hz (by omega) p (by omega)
          have q1 : w4.cell? ⟨w3.heap.size, p, none⟩ = some (.int .i64 u) := hg.cell ((lit_new w3 _ 3 p).trans hul) (by simp; omega)
          have S4 := Lib.hid (S3.out.pick hI hg)
          have t2 := cur_cell S4.out.tb 2
          have f2 := cur_free S4.out.tb 2
          simp at t2
          have SZ := Lib.hid (S4.out.set2 u)
          clear hI hg S3 hul hp
          go_wp2_with fail
          go_meet
          case rel => exact ⟨_, _, _, _, b1, hu, b3, Lib.hid (SZ.out.more (by omega))⟩
        · have t2B : ((t : Int) == 2) = false := by simp; omega
          by_cases e3 : t = 3
          · subst e3
            go_wp2_with fail
            refine (curBadWord b a l cap _ _ hl (by omega) S2.out.I).mono ?_
            rintro e w3 ⟨s, rfl, hs, hI, hg⟩
            have S3 := Lib.hid (S2.out.pick hI hg)
            have t3 := cur_cell S3.out.tb 3
            have f3 := cur_free S3.out.tb 3
            simp at t3
            have SZ := Lib.hid (S3.out.set3 s)
            clear hI hg S2
            go_wp2_with fail
            go_meet
            case rel => exact ⟨_, _, _, _, b1, b2, by unfold maxLen; omega, Lib.hid (SZ.out.more (by omega))⟩
          · have t3B : ((t : Int) == 3) = false := by simp; omega
            go_wp2_with fail
            go_meet
            case rel => exact ⟨_, _, _, _, b1, b2, b3, Lib.hid (S2.out.more (by omega))⟩
  case rest =>
    clear S2 b1 b2 b3
    obtain ⟨y0, y1, y2, y3, c1, c2, c3, S3⟩ := hcut
    have t0 := cur_cell S3.out.tb 0
    have t1 := cur_cell S3.out.tb 1
    have t2 := cur_cell S3.out.tb 2
    have t3 := cur_cell S3.out.tb 3
    have r0 := cur_cell S3.out.rb 0
    have r1 := cur_cell S3.out.rb 1
    have r2 := cur_cell S3.out.rb 2
    have r3 := cur_cell S3.out.rb 3
    have f0 := cur_free S3.out.rb 0
    have f1 := cur_free S3.out.rb 1
    have f2 := cur_free S3.out.rb 2
    have f3 := cur_free S3.out.rb 3
    simp at t0 t1 t2 t3 r0 r1 r2 r3
    have D := Lib.hid (S3.out.done ⟨c1, c2, c3⟩)
    clear S3
    go_wp2
    exact bodyPost_ret (v := .agg #[.bool y0, .int .i64 y1, .int .i64 y2, .string y3]) (by simp [results, Try.results71, go_sem, r0, r1, r2, r3]) rfl (D.out _ _ _ _)
def DrawnR (w : World) (e : Ending) (w' : World) : Prop := ∃ r : RecM, e = .returned (.agg #[.bool r.live, .int .i64 r.dist, .int .i64 r.weight, .string r.word]) ∧ recBd r ∧ Below w.heap.size w w'
def DrawnRR (w : World) (e : Ending) (w' : World) : Prop := ∃ r s : RecM, e = .returned (.tuple #[.agg #[.bool r.live, .int .i64 r.dist, .int .i64 r.weight, .string r.word], .agg #[.bool s.live, .int .i64 s.dist, .int .i64 s.weight, .string s.word]]) ∧ recBd r ∧ recBd s ∧ Below w.heap.size w w'
theorem chg_rec4 {lo hi : Nat} {W W' : World} (C : Chg lo hi W W') {R : Nat} (h1 : lo ≤ R) (h2 : R < hi) (v0 v1 v2 v3 : Value) : Chg lo hi W ((((W'.setCell ⟨R, 0, none⟩ v0).setCell ⟨R, 1, none⟩ v1).setCell ⟨R, 2, none⟩ v2).setCell ⟨R, 3, none⟩ v3) :=
  chg_set (chg_set (chg_set (chg_set C h1 h2 0 _) h1 h2 1 _) h1 h2 2 _) h1 h2 3 _
end Go.Proofs.Ytaedamnhobcdlaa
end
