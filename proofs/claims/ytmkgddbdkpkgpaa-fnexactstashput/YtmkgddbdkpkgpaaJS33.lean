/- TnG, TnH in one. Written by tools/join2.py. -/
import Derived.Test.YtmkgddbdkpkgpaaJS32
section
namespace Go.Proofs.Ytmkgddbdkpkgpaa
open Go.RowKit
set_option linter.unusedVariables false
set_option linter.unusedSimpArgs false
set_option maxRecDepth 100000

theorem lit3b_at {x0 x1 x2 : Int} (h0 : -9223372036854775808 ≤ x0 ∧ x0 ≤ 9223372036854775807) (h1 : -9223372036854775808 ≤ x1 ∧ x1 ≤ 9223372036854775807) (h2 : -9223372036854775808 ≤ x2 ∧ x2 ≤ 9223372036854775807) (r : Nat) (h : r < 3) :
    ∃ u : Int, (-9223372036854775808 ≤ u ∧ u ≤ 9223372036854775807) ∧ (#[.int .i64 x0, .int .i64 x1, .int .i64 x2] : Array Value)[r]? = some (.int .i64 u) := by
  rcases (show r = 0 ∨ r = 1 ∨ r = 2 from by omega) with rfl | rfl | rfl
  · exact ⟨x0, h0, rfl⟩
  · exact ⟨x1, h1, rfl⟩
  · exact ⟨x2, h2, rfl⟩
/-- What a drawing of two numbers leaves. -/
def DrawnTwo (b : Nat) (a : Option Addr) (l : List UInt8) (cap m : Nat) (w : World) (e : Ending) (w' : World) : Prop :=
  ∃ x y : Int, e = .returned (.tuple #[.int .i64 x, .int .i64 y]) ∧ (-9223372036854775808 ≤ x ∧ x ≤ 9223372036854775807) ∧ (-9223372036854775808 ≤ y ∧ y ≤ 9223372036854775807) ∧ CurI w' b a l cap m ∧ w.grownBy w' (some b)
theorem DrawnTwo.mk {b : Nat} {a : Option Addr} {l : List UInt8} {cap m : Nat} {w w4 w' : World} {x y : Int} (hx : -9223372036854775808 ≤ x ∧ x ≤ 9223372036854775807) (hy : -9223372036854775808 ≤ y ∧ y ≤ 9223372036854775807) (hI : CurI w4 b a l cap m) (hg : w.grownBy w4 (some b)) (hb : Below w4.heap.size w4 w') : DrawnTwo b a l cap m w (.returned (.tuple #[.int .i64 x, .int .i64 y])) w' :=
  ⟨x, y, rfl, hx, hy, hI.below hb, grown_trans hg (below_grown hb _)⟩
set_option maxHeartbeats 8000000 in
theorem curFrame (b : Nat) (a : Option Addr) (l : List UInt8) (cap m : Nat) (w : World) (hl : l.length ≤ 1048576) (hm : m ≤ 100000000000000000) (h : CurI w b a l cap m) :
    Calls Try.prog 70 #[.pointer (some ⟨b, 0, none⟩)] w (DrawnTwo b a l cap (m + 8) w) := by
  have I0 := Lib.hid h
  clear h
  go_enter Try.func70, Try.ntmps70
  go_wp2_with fail
  refine (curOnce b a l cap m 9 _ hl (by omega) (by omega) I0.out).mono ?_
  rintro e w1 ⟨f, rfl, hI, hg⟩
  have ID := Lib.hid (hI.below (belowN 1))
  have I1 := Lib.hid hI
  have G1 := Lib.hid hg
  clear hI hg I0
  cases f
  · clear ID
    go_wp2_with fail
    refine (curPick b a l cap _ 5 _ hl (by omega) (by omega) I1.out).mono ?_
    rintro e w2 ⟨x, rfl, hx, hI, hg⟩
    have hx : x ≤ 4 := by omega
    have I2 := Lib.hid hI
    have G2 := Lib.hid (grown_trans G1.out hg)
    clear hI hg I1 G1
    go_wp2_with fail
    refine (curPick b a l cap _ 5 _ hl (by omega) (by omega) I2.out).mono ?_
    rintro e w3 ⟨y, rfl, hy, hI, hg⟩
    have hy : y ≤ 4 := by omega
    have hw : IntKind.i64.wrap (1 + (y : Int)) = 1 + (y : Int) := IntWalk.i64_in _ (by omega)
    have Z := Lib.hid (DrawnTwo.mk (x := x) (y := 1 + (y : Int)) (by omega) (by omega) (hI.more (m' := m + 8) (by omega)) (grown_trans G2.out hg) (Below.refl _ _))
    clear hI hg I2 G2
    go_wp2
    exact bodyPost_ret (v := .tuple #[.int .i64 x, .int .i64 (1 + (y : Int))]) (by simp [results, Try.results70, go_sem]) rfl Z.out
  · have b1 : b < w1.heap.size := I1.out.lt
    clear I1
    go_upto_region 2 with fail
    go_region_law (first
      | (refine step_callW w1.drew rfl (by rfl) 49 _ _ rfl _ (by kernel_rfl) Try.call49 _ (curRaw b a l cap _ _ hl (by omega) ID.out) ?_; rintro e w2 ⟨z1, rfl, hz1, hI, hg⟩; refine ⟨_, rfl, ?_⟩; have I2 := Lib.hid hI; have G2 := Lib.hid (grown_trans (grown_trans G1.out (drewN_grown w1 1 (some b))) hg); have b2 : b < w2.heap.size := hI.lt; have HZ1 := Lib.hid hz1; clear hz1; clear hI hg)
      | (refine step_callW w2 rfl (by rfl) 46 _ _ rfl _ (by kernel_rfl) Try.call46 _ (curPick b a l cap _ 3 _ hl (by omega) (by omega) I2.out) ?_; rintro e w3 ⟨p1, rfl, hp1, hI, hg⟩; refine ⟨_, rfl, ?_⟩; have I3 := Lib.hid hI; have G3 := Lib.hid (grown_trans (G2.out) hg); have b3 : b < w3.heap.size := hI.lt; have p1i : (p1 : Int) < 3 := (by omega); obtain ⟨u1, hu1, hul1⟩ := lit3b_at (x0 := z1) (x1 := 6) (x2 := 7) HZ1.out (by omega) (by omega) p1 (by omega); have HU1 := Lib.hid hul1; have HB1 := Lib.hid hu1; clear hul1 hu1 hp1; have a31 : (w3.alloc (.cells #[.int .i64 z1, .int .i64 6, .int .i64 7] 3)).cell? ⟨w3.heap.size, p1, none⟩ = some (.int .i64 u1) := (lit_new _ #[.int .i64 z1, .int .i64 6, .int .i64 7] 3 p1).trans HU1.out; clear hI hg)
      | (refine step_callW (w2.alloc (.cells #[.int .i64 z1, .int .i64 6, .int .i64 7] 3)) rfl (by rfl) 46 _ _ rfl _ (by kernel_rfl) Try.call46 _ (curPick b a l cap _ 3 _ hl (by omega) (by omega) (I2.out.below (below_box (Below.refl _ w2) (.cells #[.int .i64 z1, .int .i64 6, .int .i64 7] 3)))) ?_; rintro e w3 ⟨p1, rfl, hp1, hI, hg⟩; refine ⟨_, rfl, ?_⟩; have I3 := Lib.hid hI; have G3 := Lib.hid (grown_trans (grown_trans (G2.out) (World.grownBy_alloc w2 (.cells #[.int .i64 z1, .int .i64 6, .int .i64 7] 3) (some b))) hg); have b3 : b < w3.heap.size := hI.lt; have p1i : (p1 : Int) < 3 := (by omega); obtain ⟨u1, hu1, hul1⟩ := lit3b_at (x0 := z1) (x1 := 6) (x2 := 7) HZ1.out (by omega) (by omega) p1 (by omega); have HU1 := Lib.hid hul1; have HB1 := Lib.hid hu1; clear hul1 hu1 hp1; have q31 : w3.cell? ⟨w2.heap.size, p1, none⟩ = some (.int .i64 u1) := hg.cell ((lit_new w2 #[.int .i64 z1, .int .i64 6, .int .i64 7] 3 p1).trans HU1.out) (by simp; omega); clear hI hg)
      | (refine step_callW w3 rfl (by rfl) 49 _ _ rfl _ (by kernel_rfl) Try.call49 _ (curRaw b a l cap _ _ hl (by omega) I3.out) ?_; rintro e w4 ⟨z2, rfl, hz2, hI, hg⟩; refine ⟨_, rfl, ?_⟩; have I4 := Lib.hid hI; have G4 := Lib.hid (grown_trans (G3.out) hg); have b4 : b < w4.heap.size := hI.lt; have HZ2 := Lib.hid hz2; clear hz2; (try (have q41 := hg.cell q31 (by simp; omega); have q42 := cell_keep q41 (below_box (Below.refl _ w4) (.cells #[.int .i64 z2, .int .i64 200, .int .i64 201] 3)))); have a41 : (w4.alloc (.cells #[.int .i64 z1, .int .i64 6, .int .i64 7] 3)).cell? ⟨w4.heap.size, p1, none⟩ = some (.int .i64 u1) := (lit_new _ #[.int .i64 z1, .int .i64 6, .int .i64 7] 3 p1).trans HU1.out; have a42 := cell_keep a41 (below_box (Below.refl _ (w4.alloc (.cells #[.int .i64 z1, .int .i64 6, .int .i64 7] 3))) (.cells #[.int .i64 z2, .int .i64 200, .int .i64 201] 3)); have a43 : ((w4.alloc (.cells #[.int .i64 z2, .int .i64 200, .int .i64 201] 3)).alloc (.cells #[.int .i64 z1, .int .i64 6, .int .i64 7] 3)).cell? ⟨(w4.heap.size + 1), p1, none⟩ = some (.int .i64 u1) := (by simpa using (lit_new (w4.alloc (.cells #[.int .i64 z2, .int .i64 200, .int .i64 201] 3)) #[.int .i64 z1, .int .i64 6, .int .i64 7] 3 p1).trans HU1.out); clear hI hg)
      | (refine step_callW (w3.alloc (.cells #[.int .i64 z1, .int .i64 6, .int .i64 7] 3)) rfl (by rfl) 49 _ _ rfl _ (by kernel_rfl) Try.call49 _ (curRaw b a l cap _ _ hl (by omega) (I3.out.below (below_box (Below.refl _ w3) (.cells #[.int .i64 z1, .int .i64 6, .int .i64 7] 3)))) ?_; rintro e w4 ⟨z2, rfl, hz2, hI, hg⟩; refine ⟨_, rfl, ?_⟩; have I4 := Lib.hid hI; have G4 := Lib.hid (grown_trans (grown_trans (G3.out) (World.grownBy_alloc w3 (.cells #[.int .i64 z1, .int .i64 6, .int .i64 7] 3) (some b))) hg); have b4 : b < w4.heap.size := hI.lt; have HZ2 := Lib.hid hz2; clear hz2; have q41 : w4.cell? ⟨w3.heap.size, p1, none⟩ = some (.int .i64 u1) := hg.cell a31 (by simp; omega); have q42 : (w4.alloc (.cells #[.int .i64 z2, .int .i64 200, .int .i64 201] 3)).cell? ⟨w3.heap.size, p1, none⟩ = some (.int .i64 u1) := cell_keep q41 (below_box (Below.refl _ w4) (.cells #[.int .i64 z2, .int .i64 200, .int .i64 201] 3)); clear hI hg)
      | (refine step_callW w4 rfl (by rfl) 46 _ _ rfl _ (by kernel_rfl) Try.call46 _ (curPick b a l cap _ 3 _ hl (by omega) (by omega) I4.out) ?_; rintro e w5 ⟨p2, rfl, hp2, hI, hg⟩; refine ⟨_, rfl, ?_⟩; have I5 := Lib.hid hI; have G5 := Lib.hid (grown_trans (G4.out) hg); have b5 : b < w5.heap.size := hI.lt; have p2i : (p2 : Int) < 3 := (by omega); obtain ⟨u2, hu2, hul2⟩ := lit3b_at (x0 := z2) (x1 := 200) (x2 := 201) HZ2.out (by omega) (by omega) p2 (by omega); have HU2 := Lib.hid hul2; have HB2 := Lib.hid hu2; clear hul2 hu2 hp2; (try (have q51 := hg.cell q41 (by simp; omega); have q51b := cell_keep q51 (below_box (Below.refl _ w5) (.cells #[.int .i64 z2, .int .i64 200, .int .i64 201] 3)))); have r52 : (w5.alloc (.cells #[.int .i64 z2, .int .i64 200, .int .i64 201] 3)).cell? ⟨w5.heap.size, p2, none⟩ = some (.int .i64 u2) := (lit_new w5 #[.int .i64 z2, .int .i64 200, .int .i64 201] 3 p2).trans HU2.out; have a51 : (w5.alloc (.cells #[.int .i64 z1, .int .i64 6, .int .i64 7] 3)).cell? ⟨w5.heap.size, p1, none⟩ = some (.int .i64 u1) := (lit_new _ #[.int .i64 z1, .int .i64 6, .int .i64 7] 3 p1).trans HU1.out; have a52 := cell_keep a51 (below_box (Below.refl _ (w5.alloc (.cells #[.int .i64 z1, .int .i64 6, .int .i64 7] 3))) (.cells #[.int .i64 z2, .int .i64 200, .int .i64 201] 3)); have r53 := cell_keep r52 (below_box (Below.refl _ (w5.alloc (.cells #[.int .i64 z2, .int .i64 200, .int .i64 201] 3))) (.cells #[.int .i64 z1, .int .i64 6, .int .i64 7] 3)); have a54 : ((w5.alloc (.cells #[.int .i64 z2, .int .i64 200, .int .i64 201] 3)).alloc (.cells #[.int .i64 z1, .int .i64 6, .int .i64 7] 3)).cell? ⟨(w5.heap.size + 1), p1, none⟩ = some (.int .i64 u1) := (by simpa using (lit_new (w5.alloc (.cells #[.int .i64 z2, .int .i64 200, .int .i64 201] 3)) #[.int .i64 z1, .int .i64 6, .int .i64 7] 3 p1).trans HU1.out); have r54 : ((w5.alloc (.cells #[.int .i64 z1, .int .i64 6, .int .i64 7] 3)).alloc (.cells #[.int .i64 z2, .int .i64 200, .int .i64 201] 3)).cell? ⟨(w5.heap.size + 1), p2, none⟩ = some (.int .i64 u2) := (by simpa using (lit_new (w5.alloc (.cells #[.int .i64 z1, .int .i64 6, .int .i64 7] 3)) #[.int .i64 z2, .int .i64 200, .int .i64 201] 3 p2).trans HU2.out); clear hI hg)
      | (refine step_callW (w4.alloc (.cells #[.int .i64 z1, .int .i64 6, .int .i64 7] 3)) rfl (by rfl) 46 _ _ rfl _ (by kernel_rfl) Try.call46 _ (curPick b a l cap _ 3 _ hl (by omega) (by omega) (I4.out.below (below_box (Below.refl _ w4) (.cells #[.int .i64 z1, .int .i64 6, .int .i64 7] 3)))) ?_; rintro e w5 ⟨p2, rfl, hp2, hI, hg⟩; refine ⟨_, rfl, ?_⟩; have I5 := Lib.hid hI; have G5 := Lib.hid (grown_trans (grown_trans (G4.out) (World.grownBy_alloc w4 (.cells #[.int .i64 z1, .int .i64 6, .int .i64 7] 3) (some b))) hg); have b5 : b < w5.heap.size := hI.lt; have p2i : (p2 : Int) < 3 := (by omega); obtain ⟨u2, hu2, hul2⟩ := lit3b_at (x0 := z2) (x1 := 200) (x2 := 201) HZ2.out (by omega) (by omega) p2 (by omega); have HU2 := Lib.hid hul2; have HB2 := Lib.hid hu2; clear hul2 hu2 hp2; have q51 : w5.cell? ⟨w4.heap.size, p1, none⟩ = some (.int .i64 u1) := hg.cell a41 (by simp; omega); have q52 : (w5.alloc (.cells #[.int .i64 z2, .int .i64 200, .int .i64 201] 3)).cell? ⟨w5.heap.size, p2, none⟩ = some (.int .i64 u2) := (lit_new w5 #[.int .i64 z2, .int .i64 200, .int .i64 201] 3 p2).trans HU2.out; have q51b := cell_keep q51 (below_box (Below.refl _ w5) (.cells #[.int .i64 z2, .int .i64 200, .int .i64 201] 3)); clear hI hg)
      | (refine step_callW (w4.alloc (.cells #[.int .i64 z2, .int .i64 200, .int .i64 201] 3)) rfl (by rfl) 46 _ _ rfl _ (by kernel_rfl) Try.call46 _ (curPick b a l cap _ 3 _ hl (by omega) (by omega) (I4.out.below (below_box (Below.refl _ w4) (.cells #[.int .i64 z2, .int .i64 200, .int .i64 201] 3)))) ?_; rintro e w5 ⟨p2, rfl, hp2, hI, hg⟩; refine ⟨_, rfl, ?_⟩; have I5 := Lib.hid hI; have G5 := Lib.hid (grown_trans (grown_trans (G4.out) (World.grownBy_alloc w4 (.cells #[.int .i64 z2, .int .i64 200, .int .i64 201] 3) (some b))) hg); have b5 : b < w5.heap.size := hI.lt; have p2i : (p2 : Int) < 3 := (by omega); obtain ⟨u2, hu2, hul2⟩ := lit3b_at (x0 := z2) (x1 := 200) (x2 := 201) HZ2.out (by omega) (by omega) p2 (by omega); have HU2 := Lib.hid hul2; have HB2 := Lib.hid hu2; clear hul2 hu2 hp2; have q52 : w5.cell? ⟨w4.heap.size, p2, none⟩ = some (.int .i64 u2) := hg.cell ((lit_new w4 #[.int .i64 z2, .int .i64 200, .int .i64 201] 3 p2).trans HU2.out) (by simp; omega); have q52b := cell_keep q52 (below_box (Below.refl _ w5) (.cells #[.int .i64 z1, .int .i64 6, .int .i64 7] 3)); (try (have q51 := hg.cell q42 (by simp; omega))); have a51 : (w5.alloc (.cells #[.int .i64 z1, .int .i64 6, .int .i64 7] 3)).cell? ⟨w5.heap.size, p1, none⟩ = some (.int .i64 u1) := (lit_new _ #[.int .i64 z1, .int .i64 6, .int .i64 7] 3 p1).trans HU1.out; clear hI hg)
      | (refine step_callW ((w4.alloc (.cells #[.int .i64 z1, .int .i64 6, .int .i64 7] 3)).alloc (.cells #[.int .i64 z2, .int .i64 200, .int .i64 201] 3)) rfl (by rfl) 46 _ _ rfl _ (by kernel_rfl) Try.call46 _ (curPick b a l cap _ 3 _ hl (by omega) (by omega) (I4.out.below (below_box (below_box (Below.refl _ w4) (.cells #[.int .i64 z1, .int .i64 6, .int .i64 7] 3)) (.cells #[.int .i64 z2, .int .i64 200, .int .i64 201] 3)))) ?_; rintro e w5 ⟨p2, rfl, hp2, hI, hg⟩; refine ⟨_, rfl, ?_⟩; have I5 := Lib.hid hI; have G5 := Lib.hid (grown_trans (grown_trans (grown_trans (G4.out) (World.grownBy_alloc w4 (.cells #[.int .i64 z1, .int .i64 6, .int .i64 7] 3) (some b))) (World.grownBy_alloc (w4.alloc (.cells #[.int .i64 z1, .int .i64 6, .int .i64 7] 3)) (.cells #[.int .i64 z2, .int .i64 200, .int .i64 201] 3) (some b))) hg); have b5 : b < w5.heap.size := hI.lt; have p2i : (p2 : Int) < 3 := (by omega); obtain ⟨u2, hu2, hul2⟩ := lit3b_at (x0 := z2) (x1 := 200) (x2 := 201) HZ2.out (by omega) (by omega) p2 (by omega); have HU2 := Lib.hid hul2; have HB2 := Lib.hid hu2; clear hul2 hu2 hp2; have q51 : w5.cell? ⟨w4.heap.size, p1, none⟩ = some (.int .i64 u1) := hg.cell a42 (by simp; omega); have q52 : w5.cell? ⟨(w4.heap.size + 1), p2, none⟩ = some (.int .i64 u2) := hg.cell (by simpa using (lit_new (w4.alloc (.cells #[.int .i64 z1, .int .i64 6, .int .i64 7] 3)) #[.int .i64 z2, .int .i64 200, .int .i64 201] 3 p2).trans HU2.out) (by simp; omega); clear hI hg)
      | (refine step_callW ((w4.alloc (.cells #[.int .i64 z2, .int .i64 200, .int .i64 201] 3)).alloc (.cells #[.int .i64 z1, .int .i64 6, .int .i64 7] 3)) rfl (by rfl) 46 _ _ rfl _ (by kernel_rfl) Try.call46 _ (curPick b a l cap _ 3 _ hl (by omega) (by omega) (I4.out.below (below_box (below_box (Below.refl _ w4) (.cells #[.int .i64 z2, .int .i64 200, .int .i64 201] 3)) (.cells #[.int .i64 z1, .int .i64 6, .int .i64 7] 3)))) ?_; rintro e w5 ⟨p2, rfl, hp2, hI, hg⟩; refine ⟨_, rfl, ?_⟩; have I5 := Lib.hid hI; have G5 := Lib.hid (grown_trans (grown_trans (grown_trans (G4.out) (World.grownBy_alloc w4 (.cells #[.int .i64 z2, .int .i64 200, .int .i64 201] 3) (some b))) (World.grownBy_alloc (w4.alloc (.cells #[.int .i64 z2, .int .i64 200, .int .i64 201] 3)) (.cells #[.int .i64 z1, .int .i64 6, .int .i64 7] 3) (some b))) hg); have b5 : b < w5.heap.size := hI.lt; have p2i : (p2 : Int) < 3 := (by omega); obtain ⟨u2, hu2, hul2⟩ := lit3b_at (x0 := z2) (x1 := 200) (x2 := 201) HZ2.out (by omega) (by omega) p2 (by omega); have HU2 := Lib.hid hul2; have HB2 := Lib.hid hu2; clear hul2 hu2 hp2; have q51 : w5.cell? ⟨(w4.heap.size + 1), p1, none⟩ = some (.int .i64 u1) := hg.cell a43 (by simp; omega); have q52 : w5.cell? ⟨w4.heap.size, p2, none⟩ = some (.int .i64 u2) := hg.cell (cell_keep ((lit_new w4 #[.int .i64 z2, .int .i64 200, .int .i64 201] 3 p2).trans HU2.out) (below_box (Below.refl _ (w4.alloc (.cells #[.int .i64 z2, .int .i64 200, .int .i64 201] 3))) (.cells #[.int .i64 z1, .int .i64 6, .int .i64 7] 3))) (by simp; omega); clear hI hg))
    all_goals
      have Z := Lib.hid (fun w' hb => DrawnTwo.mk (w' := w') HB1.out HB2.out (I5.out.more (m' := m + 8) (by omega)) G5.out hb)
      go_wp2
      exact bodyPost_ret (v := .tuple #[.int .i64 u1, .int .i64 u2]) (by simp [results, Try.results70, go_sem]) rfl (Z.out _ (by first | exact Below.refl _ _ | exact below_box (Below.refl _ _) _ | exact below_box (below_box (Below.refl _ _) _) _))
end Go.Proofs.Ytmkgddbdkpkgpaa
end

section
namespace Go.Proofs.Ytmkgddbdkpkgpaa
open Go.RowKit
set_option linter.unusedVariables false
set_option linter.unusedSimpArgs false
set_option maxRecDepth 100000

theorem maxZ (p t : Int) : ∀ w ts ty, (Builtin.max_ ts ty #[.int .i64 p, .int .i64 t]).run Try.prog w = .ok (.int .i64 (if p ≤ t then t else p)) w := by
  intro w ts ty
  by_cases h : p ≤ t
  · rw [if_pos h]; simp [Builtin.max_, Builtin.max2]; omega
  · rw [if_neg h]; simp [Builtin.max_, Builtin.max2]; omega
theorem minZ (p t : Int) : ∀ w ts ty, (Builtin.min_ ts ty #[.int .i64 p, .int .i64 t]).run Try.prog w = .ok (.int .i64 (if t ≤ p then t else p)) w := by
  intro w ts ty
  by_cases h : t ≤ p
  · rw [if_pos h]; simp [Builtin.min_, Builtin.min2]; omega
  · rw [if_neg h]; simp [Builtin.min_, Builtin.min2]; omega
/-- min(hi, max(lo, t)). -/
theorem clip_at (lo hi : Nat) (p q : Int) (hp : p = (lo : Int)) (hq : q = (hi : Int)) (hlh : lo ≤ hi) (t : Int) : ∃ (u : Int) (g : Nat), lo ≤ g ∧ g ≤ hi ∧ (∀ w ts ty, (Builtin.max_ ts ty #[.int .i64 p, .int .i64 t]).run Try.prog w = .ok (.int .i64 u) w) ∧ (∀ w ts ty, (Builtin.min_ ts ty #[.int .i64 q, .int .i64 u]).run Try.prog w = .ok (.int .i64 (g : Int)) w) := by
  subst hp hq
  have h1 := maxZ lo t
  obtain ⟨u, hu, hlu⟩ : ∃ u, (if (lo : Int) ≤ t then t else (lo : Int)) = u ∧ (lo : Int) ≤ u := ⟨_, rfl, by split <;> omega⟩
  rw [hu] at h1
  have h2 := minZ hi u
  obtain ⟨g, hg, h3, h4⟩ : ∃ g : Nat, (if u ≤ (hi : Int) then u else (hi : Int)) = (g : Int) ∧ lo ≤ g ∧ g ≤ hi := by
    by_cases h : u ≤ (hi : Int)
    · exact ⟨u.toNat, by rw [if_pos h]; omega, by omega, by omega⟩
    · exact ⟨hi, by rw [if_neg h], hlh, Nat.le_refl _⟩
  rw [hg] at h2
  exact ⟨u, g, h3, h4, h1, h2⟩
theorem specClip (t : Int) : ∃ g : Nat, g ≤ 4 ∧ ∀ w, Calls Try.prog 47 #[.int .i64 t] w fun e w' => e = .returned (.int .i64 (g : Int)) ∧ w' = w := by
  obtain ⟨u, g, _, h4, hmax, hmin⟩ := clip_at 0 4 0 4 rfl rfl (by omega) t
  refine ⟨g, h4, fun w => ?_⟩
  go_enter Try.func47, Try.ntmps47
  go_wp2
  go_ret
  exact ⟨rfl, rfl⟩
end Go.Proofs.Ytmkgddbdkpkgpaa
end
