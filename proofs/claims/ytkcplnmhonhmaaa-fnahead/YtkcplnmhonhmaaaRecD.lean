/- Records drawn. -/
import Derived.Test.YtkcplnmhonhmaaaRecU
import Derived.Test.YtkcplnmhonhmaaaCurN
import Derived.Test.YtkcplnmhonhmaaaCurWW
import Derived.Test.YtkcplnmhonhmaaaBad
import Derived.Test.YtkcplnmhonhmaaaApp
import Derived.Deep.RegionLaw
import Derived.Deep.DeepCutAuto
import Derived.Deep.CutBlock
namespace Go.Proofs.Ytkcplnmhonhmaaa
open Go.RowKit
set_option linter.unusedVariables false
set_option maxRecDepth 100000

/-- What a drawing of a record leaves. -/
def DrawnRec (b : Nat) (a : Option Addr) (l : List UInt8) (cap m : Nat) (w : World) (e : Ending) (w' : World) : Prop :=
  ∃ r : RecM, e = .returned (.agg #[.bool r.live, .int .i64 r.dist, .int .i64 r.weight, .string r.word]) ∧ recBd r ∧ CurI w' b a l cap m ∧ w.grownBy w' (some b)
theorem drawnRec_store {b : Nat} {a : Option Addr} {l : List UInt8} {cap m : Nat} {w W : World} (hI : CurI W b a l cap m) (hb : b < w.heap.size) (hg : (w.alloc (.cells #[.bool false, .int .i64 0, .int .i64 0, .string ⟨#[]⟩] 25)).grownBy W (some b)) (r : RecM) (hr : recBd r) (v0 v1 v2 v3 : Value) :
    DrawnRec b a l cap m w (.returned (.agg #[.bool r.live, .int .i64 r.dist, .int .i64 r.weight, .string r.word])) ((((W.setCell ⟨w.heap.size, 0, none⟩ v0).setCell ⟨w.heap.size, 1, none⟩ v1).setCell ⟨w.heap.size, 2, none⟩ v2).setCell ⟨w.heap.size, 3, none⟩ v3) := by
  have BB : Below w.heap.size W ((((W.setCell ⟨w.heap.size, 0, none⟩ v0).setCell ⟨w.heap.size, 1, none⟩ v1).setCell ⟨w.heap.size, 2, none⟩ v2).setCell ⟨w.heap.size, 3, none⟩ v3) :=
    ((((Below.refl w.heap.size W).setCell (p := ⟨w.heap.size, 0, none⟩) (Nat.le_refl _) _).setCell (p := ⟨w.heap.size, 1, none⟩) (Nat.le_refl _) _).setCell (p := ⟨w.heap.size, 2, none⟩) (Nat.le_refl _) _).setCell (p := ⟨w.heap.size, 3, none⟩) (Nat.le_refl _) _
  exact ⟨r, rfl, hr, hI.low BB hb, grown_low (grown_trans (World.grownBy_alloc w _ (some b)) hg) BB⟩
theorem litD_at (r : Nat) (h : r < 2) : ∃ d : Nat, (2 ≤ d ∧ d ≤ 8) ∧ (#[.int .i64 3, .int .i64 8] : Array Value)[r]? = some (.int .i64 d) := by
  rcases (show r = 0 ∨ r = 1 from by omega) with rfl | rfl
  · exact ⟨3, by omega, rfl⟩
  · exact ⟨8, by omega, rfl⟩
theorem litW_at {x y z : Int} (hx : -9223372036854775808 ≤ x ∧ x ≤ 9223372036854775807) (hy : -9223372036854775808 ≤ y ∧ y ≤ 9223372036854775807) (hz : -9223372036854775808 ≤ z ∧ z ≤ 9223372036854775807) (r : Nat) (h : r < 3) : ∃ u : Int, (-9223372036854775808 ≤ u ∧ u ≤ 9223372036854775807) ∧ (#[.int .i64 x, .int .i64 y, .int .i64 z] : Array Value)[r]? = some (.int .i64 u) := by
  rcases (show r = 0 ∨ r = 1 ∨ r = 2 from by omega) with rfl | rfl | rfl
  · exact ⟨x, hx, rfl⟩
  · exact ⟨y, hy, rfl⟩
  · exact ⟨z, hz, rfl⟩
theorem litV_at {x y : Int} (hx : -9223372036854775808 ≤ x ∧ x ≤ 9223372036854775807) (hy : -9223372036854775808 ≤ y ∧ y ≤ 9223372036854775807) (r : Nat) (h : r < 2) : ∃ u : Int, (-9223372036854775808 ≤ u ∧ u ≤ 9223372036854775807) ∧ (#[.int .i64 x, .int .i64 y] : Array Value)[r]? = some (.int .i64 u) := by
  rcases (show r = 0 ∨ r = 1 from by omega) with rfl | rfl
  · exact ⟨x, hx, rfl⟩
  · exact ⟨y, hy, rfl⟩
set_option maxHeartbeats 8000000 in
theorem curRec (b : Nat) (a : Option Addr) (l : List UInt8) (cap m : Nat) (w : World) (hl : l.length ≤ 1048576) (hm : m ≤ 100000000000000000) (h : CurI w b a l cap m) :
    Calls Try.prog 51 #[.pointer (some ⟨b, 0, none⟩)] w (DrawnRec b a l cap (m + 100) w) := by
  have hbl := h.lt
  have hb0 : Below w.heap.size w (w.alloc (.cells #[.bool false, .int .i64 0, .int .i64 0, .string ⟨#[]⟩] 25)) := below_box (Below.refl _ w) _
  have I0 := Lib.hid (h.below hb0)
  clear h hb0
  go_enter Try.func51, Try.ntmps51
  go_wp2_with fail
  refine (curOnce b a l cap m 5 _ hl (by omega) (by omega) I0.out).mono ?_
  rintro e w1 ⟨f, rfl, hI, hg⟩
  have I1 := Lib.hid hI
  have G1 := Lib.hid hg
  have K1 := Lib.hid (kept_grown (alloc_at w (.cells #[.bool false, .int .i64 0, .int .i64 0, .string ⟨#[]⟩] 25) _ rfl) hg (by simp; omega))
  clear hI hg I0
  cases f
  · have ID := Lib.hid (I1.out.below (belowN 1))
    have IL := Lib.hid ((I1.out.below (below_box (Below.refl _ w1) (.cells #[.int .i64 3, .int .i64 8] 3))).below (belowN 1))
    have hb1 : b < w1.heap.size := I1.out.lt
    go_upto_region 3 with fail
    go_region_law (first
      | (refine step_callW w1.drew rfl (by rfl) 52 _ _ rfl _ (by kernel_rfl) Try.call52 _ (curPick b a l cap _ 2 _ hl (by omega) (by omega) ID.out) ?_; rintro e w2 ⟨p1, rfl, hp1, hI, hg⟩; refine ⟨_, rfl, ?_⟩; have p1i : (p1 : Int) < 2 := (by omega); obtain ⟨d, hd, hdl⟩ := litD_at p1 (by omega); have I2 := Lib.hid (hI.below (below_box (Below.refl _ w2) (.cells #[.int .i64 3, .int .i64 8] 3))); have q1 : (w2.alloc (.cells #[.int .i64 3, .int .i64 8] 3)).cell? ⟨w2.heap.size, p1, none⟩ = some (.int .i64 d) := (lit_new w2 _ 3 p1).trans hdl; have G2 := Lib.hid (grown_trans (grown_trans G1.out (grown_trans (drewN_grown w1 1 (some b)) hg)) (World.grownBy_alloc w2 (.cells #[.int .i64 3, .int .i64 8] 3) (some b))); clear hI hg hdl hp1 ID IL)
      | (refine step_callW (w1.alloc (.cells #[.int .i64 3, .int .i64 8] 3)).drew rfl (by rfl) 52 _ _ rfl _ (by kernel_rfl) Try.call52 _ (curPick b a l cap _ 2 _ hl (by omega) (by omega) IL.out) ?_; rintro e w2 ⟨p1, rfl, hp1, hI, hg⟩; refine ⟨_, rfl, ?_⟩; have p1i : (p1 : Int) < 2 := (by omega); obtain ⟨d, hd, hdl⟩ := litD_at p1 (by omega); have J2 := Lib.hid hI; have q1 : w2.cell? ⟨w1.heap.size, p1, none⟩ = some (.int .i64 d) := hg.cell ((lit_new w1 _ 3 p1).trans hdl) (by simp; omega); have G2 := Lib.hid (grown_trans G1.out (grown_trans (World.grownBy_alloc w1 (.cells #[.int .i64 3, .int .i64 8] 3) (some b)) (grown_trans (drewN_grown _ 1 (some b)) hg))); clear hI hg hdl hp1 ID IL)
      | (refine step_callW (w2.alloc (.cells #[.int .i64 3, .int .i64 8] 3)) rfl (by rfl) 52 _ _ rfl _ (by kernel_rfl) Try.call52 _ (curPick b a l cap _ d _ hl (by omega) (by omega) I2.out) ?_; rintro e w3 ⟨p2, rfl, hp2, hI, hg⟩; refine ⟨_, rfl, ?_⟩; have hp2 : p2 ≤ 8 := (by omega); have I3 := Lib.hid hI; have G3 := Lib.hid (grown_trans G2.out hg); clear hI hg I2)
      | (refine step_callW w2 rfl (by rfl) 52 _ _ rfl _ (by kernel_rfl) Try.call52 _ (curPick b a l cap _ d _ hl (by omega) (by omega) J2.out) ?_; rintro e w3 ⟨p2, rfl, hp2, hI, hg⟩; refine ⟨_, rfl, ?_⟩; have hp2 : p2 ≤ 8 := (by omega); have I3 := Lib.hid hI; have G3 := Lib.hid (grown_trans G2.out hg); clear hI hg J2)
      | (refine step_callW w3 rfl (by rfl) 52 _ _ rfl _ (by kernel_rfl) Try.call52 _ (curPick b a l cap _ 3 _ hl (by omega) (by omega) I3.out) ?_; rintro e w4 ⟨p3, rfl, hp3, hI, hg⟩; refine ⟨_, rfl, ?_⟩; have hp3 : p3 ≤ 3 := (by omega); have I4 := Lib.hid hI; have G4 := Lib.hid (grown_trans G3.out hg); clear hI hg I3)
      | (refine step_callW w4 rfl (by rfl) 56 _ _ rfl _ (by kernel_rfl) Try.call56 _ (curWide b a l cap _ 65536 _ hl (by omega) (by omega) (by omega) I4.out) ?_; rintro e w5 ⟨p4, rfl, hp4, hI, hg⟩; refine ⟨_, rfl, ?_⟩; have hp4 : p4 ≤ 65536 := (by omega); have I5 := Lib.hid hI; have J5 := Lib.hid (hI.below (below_box (Below.refl _ w5) (.cells #[.int .i64 p3, .int .i64 p4, .int .i64 65535] 3))); have G5 := Lib.hid (grown_trans G4.out hg); clear hI hg I4)
      | (refine step_callW w5 rfl (by rfl) 52 _ _ rfl _ (by kernel_rfl) Try.call52 _ (curPick b a l cap _ 3 _ hl (by omega) (by omega) I5.out) ?_; rintro e w6 ⟨p5, rfl, hp5, hI, hg⟩; refine ⟨_, rfl, ?_⟩; have p5i : (p5 : Int) < 3 := (by omega); obtain ⟨u, hu, hul⟩ := litW_at (x := p3) (y := p4) (z := 65535) (by omega) (by omega) (by omega) p5 (by omega); have I6 := Lib.hid hI; have J6 := Lib.hid (hI.below (below_box (Below.refl _ w6) (.cells #[.int .i64 p3, .int .i64 p4, .int .i64 65535] 3))); have q6 : (w6.alloc (.cells #[.int .i64 p3, .int .i64 p4, .int .i64 65535] 3)).cell? ⟨w6.heap.size, p5, none⟩ = some (.int .i64 u) := (lit_new w6 _ 3 p5).trans hul; have HU := Lib.hid (And.intro hu hul); have G6 := Lib.hid (grown_trans G5.out hg); clear hI hg hul hu hp5 I5 J5)
      | (refine step_callW (w5.alloc (.cells #[.int .i64 p3, .int .i64 p4, .int .i64 65535] 3)) rfl (by rfl) 52 _ _ rfl _ (by kernel_rfl) Try.call52 _ (curPick b a l cap _ 3 _ hl (by omega) (by omega) J5.out) ?_; rintro e w6 ⟨p5, rfl, hp5, hI, hg⟩; refine ⟨_, rfl, ?_⟩; have p5i : (p5 : Int) < 3 := (by omega); obtain ⟨u, hu, hul⟩ := litW_at (x := p3) (y := p4) (z := 65535) (by omega) (by omega) (by omega) p5 (by omega); have I6 := Lib.hid hI; have q6 : w6.cell? ⟨w5.heap.size, p5, none⟩ = some (.int .i64 u) := hg.cell ((lit_new w5 _ 3 p5).trans hul) (by have h5 := G5.out.size; simp at h5 ⊢; omega); have HU := Lib.hid (And.intro hu hul); have G6 := Lib.hid (grown_trans G5.out (grown_trans (World.grownBy_alloc w5 (.cells #[.int .i64 p3, .int .i64 p4, .int .i64 65535] 3) (some b)) hg)); have Q6 := Lib.hid q6; clear hI hg hul hu hp5 I5 J5)
      | (refine step_callW w6 rfl (by rfl) 57 _ _ rfl _ (by kernel_rfl) Try.call57 _ (curWord b a l cap _ _ hl (by omega) I6.out) ?_; rintro e w7 ⟨sw, rfl, hsw, hI, hg⟩; refine ⟨_, rfl, ?_⟩; have I7 := Lib.hid hI; have G7 := Lib.hid (grown_trans G6.out hg); (try (have q7 := hg.cell Q6.out (by have h5 := G5.out.size; simp at h5 ⊢; omega))); have q8 : (w7.alloc (.cells #[.int .i64 p3, .int .i64 p4, .int .i64 65535] 3)).cell? ⟨w7.heap.size, p5, none⟩ = some (.int .i64 u) := (lit_new w7 _ 3 p5).trans HU.out.2; have K7 := kept_grown (alloc_at w (.cells #[.bool false, .int .i64 0, .int .i64 0, .string ⟨#[]⟩] 25) _ rfl) G7.out (by simp; omega); have z0 : w7.cell? ⟨w.heap.size, 0, none⟩ = some (.bool false) := cur_cell K7 0; have g0 := cur_free K7 0; have z1 : w7.cell? ⟨w.heap.size, 1, none⟩ = some (.int .i64 0) := cur_cell K7 1; have g1 := cur_free K7 1; have z2 : w7.cell? ⟨w.heap.size, 2, none⟩ = some (.int .i64 0) := cur_cell K7 2; have g2 := cur_free K7 2; have z3 : w7.cell? ⟨w.heap.size, 3, none⟩ = some (.string ⟨#[]⟩) := cur_cell K7 3; have g3 := cur_free K7 3; have K8 := kept_block K7 (below_box (Below.refl _ w7) (.cells #[.int .i64 p3, .int .i64 p4, .int .i64 65535] 3)); have J7 := Lib.hid (I7.out.below (below_box (Below.refl _ w7) (.cells #[.int .i64 p3, .int .i64 p4, .int .i64 65535] 3))); have H7 := Lib.hid (grown_trans G7.out (World.grownBy_alloc w7 (.cells #[.int .i64 p3, .int .i64 p4, .int .i64 65535] 3) (some b))); have y0 : (w7.alloc (.cells #[.int .i64 p3, .int .i64 p4, .int .i64 65535] 3)).cell? ⟨w.heap.size, 0, none⟩ = some (.bool false) := cur_cell K8 0; have e0 := cur_free K8 0; have y1 : (w7.alloc (.cells #[.int .i64 p3, .int .i64 p4, .int .i64 65535] 3)).cell? ⟨w.heap.size, 1, none⟩ = some (.int .i64 0) := cur_cell K8 1; have e1 := cur_free K8 1; have y2 : (w7.alloc (.cells #[.int .i64 p3, .int .i64 p4, .int .i64 65535] 3)).cell? ⟨w.heap.size, 2, none⟩ = some (.int .i64 0) := cur_cell K8 2; have e2 := cur_free K8 2; have y3 : (w7.alloc (.cells #[.int .i64 p3, .int .i64 p4, .int .i64 65535] 3)).cell? ⟨w.heap.size, 3, none⟩ = some (.string ⟨#[]⟩) := cur_cell K8 3; have e3 := cur_free K8 3; clear hI hg I6 K7 K8)
      | (refine step_callW (w6.alloc (.cells #[.int .i64 p3, .int .i64 p4, .int .i64 65535] 3)) rfl (by rfl) 57 _ _ rfl _ (by kernel_rfl) Try.call57 _ (curWord b a l cap _ _ hl (by omega) J6.out) ?_; rintro e w7 ⟨sw, rfl, hsw, hI, hg⟩; refine ⟨_, rfl, ?_⟩; have I7 := Lib.hid hI; have G7 := Lib.hid (grown_trans G6.out (grown_trans (World.grownBy_alloc w6 (.cells #[.int .i64 p3, .int .i64 p4, .int .i64 65535] 3) (some b)) hg)); have q7 : w7.cell? ⟨w6.heap.size, p5, none⟩ = some (.int .i64 u) := hg.cell q6 (by have h5 := G6.out.size; simp at h5 ⊢; omega); have K7 := kept_grown (alloc_at w (.cells #[.bool false, .int .i64 0, .int .i64 0, .string ⟨#[]⟩] 25) _ rfl) G7.out (by simp; omega); have z0 : w7.cell? ⟨w.heap.size, 0, none⟩ = some (.bool false) := cur_cell K7 0; have g0 := cur_free K7 0; have z1 : w7.cell? ⟨w.heap.size, 1, none⟩ = some (.int .i64 0) := cur_cell K7 1; have g1 := cur_free K7 1; have z2 : w7.cell? ⟨w.heap.size, 2, none⟩ = some (.int .i64 0) := cur_cell K7 2; have g2 := cur_free K7 2; have z3 : w7.cell? ⟨w.heap.size, 3, none⟩ = some (.string ⟨#[]⟩) := cur_cell K7 3; have g3 := cur_free K7 3; clear hI hg I6 K7))
    all_goals
      have D := Lib.hid (fun (W : World) (hI : CurI W b a l cap (m + 100)) (hg : (w.alloc (.cells #[.bool false, .int .i64 0, .int .i64 0, .string ⟨#[]⟩] 25)).grownBy W (some b)) v0 v1 v2 v3 => drawnRec_store hI hbl hg ⟨true, p2, u, sw⟩ ⟨by simp only; omega, HU.out.1, by simp only; unfold maxLen; omega⟩ v0 v1 v2 v3)
      clear HU K1 G1 I1
      first
        | (obtain ⟨W, hW⟩ : ∃ W, W = w7.alloc (.cells #[.int .i64 p3, .int .i64 p4, .int .i64 65535] 3) := ⟨_, rfl⟩
           rw [← hW] at y0 y1 y2 y3 J7 H7 ⊢
           have D := Lib.hid (D.out W (J7.out.more (by omega)) H7.out)
           clear hW J7 H7 I7 G7 z0 z1 z2 z3
           go_wp2
           exact bodyPost_ret (v := .agg #[.bool true, .int .i64 p2, .int .i64 u, .string sw]) (by simp [results, Try.results51, go_sem, y0, y1, y2, y3]) rfl (D.out _ _ _ _))
        | (have D := Lib.hid (D.out w7 (I7.out.more (by omega)) G7.out)
           clear I7 G7
           go_wp2
           exact bodyPost_ret (v := .agg #[.bool true, .int .i64 p2, .int .i64 u, .string sw]) (by simp [results, Try.results51, go_sem, z0, z1, z2, z3]) rfl (D.out _ _ _ _))
  · have r0 := cur_cell K1.out 0
    have r1 := cur_cell K1.out 1
    have r2 := cur_cell K1.out 2
    have r3 := cur_cell K1.out 3
    have f0 := cur_free K1.out 0
    have f1 := cur_free K1.out 1
    have f2 := cur_free K1.out 2
    have f3 := cur_free K1.out 3
    simp at r0 r1 r2 r3
    have D := Lib.hid (fun v0 v1 v2 v3 => drawnRec_store (I1.out.more (m' := m + 100) (by omega)) hbl G1.out zeroRec (by unfold recBd zeroRec maxLen; simp; decide) v0 v1 v2 v3)
    clear I1 G1 K1
    go_wp2
    exact bodyPost_ret (v := .agg #[.bool false, .int .i64 0, .int .i64 0, .string ⟨#[]⟩]) (by simp [results, Try.results51, go_sem, r0, r1, r2, r3]) rfl (D.out _ _ _ _)
end Go.Proofs.Ytkcplnmhonhmaaa
