/- The drawings of chapter 11: a tree's log, a leaf, DrawMeet, DrawNodeLeaves. -/
import Derived.Test.YtabldmhjkggmjaaTrH
import Derived.Test.YtabldmhjkggmjaaCurN
import Derived.Deep.RegionLaw
import Derived.IntWalk
import Derived.Deep.DeepCutAuto
namespace Go.Proofs.Ytabldmhjkggmjaa
open Go.RowKit
set_option linter.unusedVariables false
set_option linter.unusedSimpArgs false
set_option maxRecDepth 100000

theorem lit4_at {x0 x1 x2 x3 : Int} (h0 : -9223372036854775808 ≤ x0 ∧ x0 ≤ 9223372036854775807) (h1 : -9223372036854775808 ≤ x1 ∧ x1 ≤ 9223372036854775807) (h2 : -9223372036854775808 ≤ x2 ∧ x2 ≤ 9223372036854775807) (h3 : -9223372036854775808 ≤ x3 ∧ x3 ≤ 9223372036854775807) (r : Nat) (h : r < 4) :
    ∃ u : Int, (-9223372036854775808 ≤ u ∧ u ≤ 9223372036854775807) ∧ (#[.int .i64 x0, .int .i64 x1, .int .i64 x2, .int .i64 x3] : Array Value)[r]? = some (.int .i64 u) := by
  rcases (show r = 0 ∨ r = 1 ∨ r = 2 ∨ r = 3 from by omega) with rfl | rfl | rfl | rfl
  · exact ⟨x0, h0, rfl⟩
  · exact ⟨x1, h1, rfl⟩
  · exact ⟨x2, h2, rfl⟩
  · exact ⟨x3, h3, rfl⟩
set_option maxHeartbeats 2000000 in
theorem curLog (b : Nat) (a : Option Addr) (l : List UInt8) (cap m : Nat) (w : World) (hl : l.length ≤ 1048576) (hm : m ≤ 3000000000000000000) (h : CurI w b a l cap m) :
    Calls Try.prog 33 #[.pointer (some ⟨b, 0, none⟩)] w (DrawnInt b a l cap (m + 6) w) := by
  have H := Lib.hid h
  clear h
  go_enter Try.func33, Try.ntmps33
  go_wp2_with fail
  refine (curPick b a l cap m 4 _ hl (by omega) (by omega) H.out).mono ?_
  rintro e w1 ⟨r1, rfl, hr1, hI, hg⟩
  have hr1 : r1 < 4 := by omega
  have I1 := Lib.hid hI
  have G1 := Lib.hid hg
  clear hI hg H
  go_wp2_with fail
  refine (curPick b a l cap _ 7 _ hl (by omega) (by omega) I1.out).mono ?_
  rintro e w2 ⟨r2, rfl, hr2, hI, hg⟩
  have hr2 : r2 < 7 := by omega
  have I2 := Lib.hid hI
  have G2 := Lib.hid (grown_trans G1.out hg)
  clear hI hg I1 G1
  go_wp2_with fail
  refine (curPick b a l cap _ 8 _ hl (by omega) (by omega) I2.out).mono ?_
  rintro e w3 ⟨r3, rfl, hr3, hI, hg⟩
  have hr3 : r3 < 8 := by omega
  have I3 := Lib.hid hI
  have G3 := Lib.hid (grown_trans G2.out hg)
  clear hI hg I2 G2
  go_wp2_with fail
  refine (curRaw b a l cap _ _ hl (by omega) I3.out).mono ?_
  rintro e w4 ⟨z, rfl, hz, hI, hg⟩
  have G4 := Lib.hid (grown_trans G3.out hg)
  have hbl := hI.lt
  have IB := Lib.hid (hI.below (below_box (Below.refl _ w4) (.cells #[.int .i64 r1, .int .i64 r2, .int .i64 ((r3 : Int) - 1), .int .i64 z] 3)))
  have HZ := Lib.hid hz
  clear hI hg I3 G3 hz
  go_wp2_with fail
  refine (curPick b a l cap _ 4 _ hl (by omega) (by omega) IB.out).mono ?_
  rintro e w5 ⟨k, rfl, hk, hI, hg⟩
  have hk4 : k < 4 := by omega
  obtain ⟨u, hu, hul⟩ := lit4_at (x0 := r1) (x1 := r2) (x2 := (r3 : Int) - 1) (x3 := z) (by omega) (by omega) (by omega) HZ.out k hk4
  have hq : w5.cell? ⟨w4.heap.size, k, none⟩ = some (.int .i64 u) := hg.cell ((lit_new w4 _ 3 k).trans hul) (by simp; omega)
  have I5 := Lib.hid hI
  have G5 := Lib.hid (grown_trans G4.out (grown_trans (World.grownBy_alloc w4 (.cells #[.int .i64 r1, .int .i64 r2, .int .i64 ((r3 : Int) - 1), .int .i64 z] 3) (some b)) hg))
  have hk0 : (k : Int) < 4 := by omega
  clear hI hg IB G4 hul
  go_wp2
  go_ret
  exact ⟨u, rfl, hu, I5.out, G5.out⟩
set_option maxHeartbeats 2000000 in
theorem curLeaf (b : Nat) (a : Option Addr) (l : List UInt8) (cap m : Nat) (z : Int) (w : World) (hl : l.length ≤ 1048576) (hm : m ≤ 3000000000000000000) (h : CurI w b a l cap m) :
    Calls Try.prog 34 #[.pointer (some ⟨b, 0, none⟩), .int .i64 z] w (DrawnInt b a l cap (m + 3) w) := by
  have H := Lib.hid h
  have LG := Lib.hid (fun w => specLog z w)
  clear h
  cases hz : logB z
  · rw [hz] at LG
    clear hz
    go_enter Try.func34, Try.ntmps34
    go_wp2_with fail
    refine (LG.out _).mono ?_
    rintro e w1 ⟨rfl, rfl⟩
    go_wp2_with fail
    refine (curRaw b a l cap _ _ hl (by omega) H.out).mono ?_
    rintro e w2 ⟨u, rfl, hu, hI, hg⟩
    have Z := Lib.hid (And.intro (hI.more (m' := m + 3) (by omega)) hg)
    clear hI hg H
    go_wp2
    go_ret
    exact ⟨u, rfl, hu, Z.out.1, Z.out.2⟩
  · obtain ⟨g, rfl, hg6⟩ := logB_ok hz
    rw [hz] at LG
    have PW := Lib.hid (fun w => specPow16 g w (by omega))
    have hp64 := pow_64 hg6
    clear hz
    obtain ⟨p, hp⟩ : ∃ p, 2 ^ g = p := ⟨_, rfl⟩
    rw [hp] at PW hp64
    clear hp
    go_enter Try.func34, Try.ntmps34
    go_wp2_with fail
    refine (LG.out _).mono ?_
    rintro e w1 ⟨rfl, rfl⟩
    go_wp2_with fail
    refine (curOnce b a l cap m 9 _ hl (by omega) (by omega) H.out).mono ?_
    rintro e w2 ⟨q, rfl, hI, hg⟩
    have I2 := Lib.hid hI
    have G2 := Lib.hid hg
    clear hI hg H LG
    cases q
    · go_wp2_with fail
      refine (PW.out _).mono ?_
      rintro e w3 ⟨rfl, rfl⟩
      go_wp2_with fail
      refine (curPick b a l cap _ p _ hl (by omega) (by omega) I2.out).mono ?_
      rintro e w3 ⟨r, rfl, hr, hI, hg⟩
      have hr2 : (r : Int) ≤ 64 := by omega
      have Z := Lib.hid (And.intro (hI.more (m' := m + 3) (by omega)) (grown_trans G2.out hg))
      clear hI hg I2 G2
      go_wp2
      go_ret
      exact ⟨r, rfl, by omega, Z.out.1, Z.out.2⟩
    · go_wp2_with fail
      refine (curRaw b a l cap _ _ hl (by omega) I2.out).mono ?_
      rintro e w3 ⟨u, rfl, hu, hI, hg⟩
      have Z := Lib.hid (And.intro (hI.more (m' := m + 3) (by omega)) (grown_trans G2.out hg))
      clear hI hg I2 G2
      go_wp2
      go_ret
      exact ⟨u, rfl, hu, Z.out.1, Z.out.2⟩
def Drawn3 (w : World) (e : Ending) (w' : World) : Prop := ∃ x y z : Int, e = .returned (.tuple #[.int .i64 x, .int .i64 y, .int .i64 z]) ∧ i64T x ∧ i64T y ∧ i64T z ∧ Below w.heap.size w w'
set_option maxHeartbeats 2000000 in
theorem drawMeet (a : Option Addr) (l : List UInt8) (cap : Nat) (w : World) (hl : l.length ≤ 1048576) (r : Row w a (l.map bval)) : Calls Try.prog 13 #[.slice a l.length cap] w (Drawn3 w) := by
  have R := Lib.hid r
  clear r
  go_enter Try.func13, Try.ntmps13
  go_wp2_with fail
  refine (curOpen a l cap _ hl R.out).mono ?_
  rintro e w1 ⟨rfl, hI1, hb1⟩
  have I1 := Lib.hid hI1
  have B1 := Lib.hid hb1
  clear hI1 hb1 R
  go_wp2_with fail
  refine (curLog w.heap.size a l cap 0 _ hl (by omega) I1.out).mono ?_
  rintro e w2 ⟨x, rfl, hx, hI, hg⟩
  have I2 := Lib.hid hI
  have B2 := Lib.hid (below_write B1.out hg (Nat.le_refl _))
  have HX := Lib.hid hx
  clear hI hg I1 B1 hx
  go_wp2_with fail
  refine (curLeaf w.heap.size a l cap _ x _ hl (by omega) I2.out).mono ?_
  rintro e w3 ⟨y, rfl, hy, hI, hg⟩
  have I3 := Lib.hid hI
  have B3 := Lib.hid (below_write B2.out hg (Nat.le_refl _))
  have HY := Lib.hid hy
  clear hI hg I2 B2 hy
  go_wp2_with fail
  refine (curLeaf w.heap.size a l cap _ x _ hl (by omega) I3.out).mono ?_
  rintro e w4 ⟨z, rfl, hz, hI, hg⟩
  have I4 := Lib.hid hI
  have B4 := Lib.hid (below_write B3.out hg (Nat.le_refl _))
  have HZ := Lib.hid hz
  clear hI hg I3 B3 hz
  go_wp2_with fail
  refine (curOnce w.heap.size a l cap _ 5 _ hl (by omega) (by omega) I4.out).mono ?_
  rintro e w5 ⟨q, rfl, hI, hg⟩
  have B5 := Lib.hid (below_write B4.out hg (Nat.le_refl _))
  clear hI hg I4 B4
  cases q
  · go_wp2
    exact bodyPost_ret (v := .tuple #[.int .i64 x, .int .i64 y, .int .i64 z]) (by simp [results, Try.results13, go_sem]) rfl ⟨x, y, z, rfl, HX.out, HY.out, HZ.out, B5.out⟩
  · go_wp2
    exact bodyPost_ret (v := .tuple #[.int .i64 x, .int .i64 y, .int .i64 y]) (by simp [results, Try.results13, go_sem]) rfl ⟨x, y, y, rfl, HX.out, HY.out, HY.out, B5.out⟩
def Drawn2 (w : World) (e : Ending) (w' : World) : Prop := ∃ x y : Int, e = .returned (.tuple #[.int .i64 x, .int .i64 y]) ∧ i64T x ∧ i64T y ∧ Below w.heap.size w w'
theorem treeNodesZ_bd (z : Int) : treeNodesZ z = -1 ∨ (1 ≤ treeNodesZ z ∧ treeNodesZ z ≤ 127) := by
  cases e : logB z
  · exact .inl (treeNodesZ_no e)
  · obtain ⟨g, rfl, hg⟩ := logB_ok e
    have h2 := pow_64 hg
    right
    rw [treeNodesZ_at hg, Nat.pow_succ]; omega
theorem max1_lt {t : Int} (h : t ≤ 1) : ∀ w ts ty, (Builtin.max_ ts ty #[.int .i64 1, .int .i64 t]).run Try.prog w = .ok (.int .i64 1) w := by
  intro w ts ty
  simp [Builtin.max_, Builtin.max2]
  omega
theorem max1_gt {t : Int} (h : 1 ≤ t) : ∀ w ts ty, (Builtin.max_ ts ty #[.int .i64 1, .int .i64 t]).run Try.prog w = .ok (.int .i64 t) w := by
  intro w ts ty
  simp [Builtin.max_, Builtin.max2]
  omega
set_option maxHeartbeats 4000000 in
theorem drawNodeLeaves (a : Option Addr) (l : List UInt8) (cap : Nat) (w : World) (hl : l.length ≤ 1048576) (r : Row w a (l.map bval)) : Calls Try.prog 20 #[.slice a l.length cap] w (Drawn2 w) := by
  have R := Lib.hid r
  clear r
  go_enter Try.func20, Try.ntmps20
  go_wp2_with fail
  refine (curOpen a l cap _ hl R.out).mono ?_
  rintro e w1 ⟨rfl, hI1, hb1⟩
  have I1 := Lib.hid hI1
  have B1 := Lib.hid hb1
  clear hI1 hb1 R
  go_wp2_with fail
  refine (curLog w.heap.size a l cap 0 _ hl (by omega) I1.out).mono ?_
  rintro e w2 ⟨x, rfl, hx, hI, hg⟩
  have I2 := Lib.hid hI
  have B2 := Lib.hid (below_write B1.out hg (Nat.le_refl _))
  have HX := Lib.hid hx
  clear hI hg I1 B1
  have TN := Lib.hid (fun w' => uSpecTreeNodes x w' hx)
  have TB := treeNodesZ_bd x
  clear hx
  obtain ⟨t, ht⟩ : ∃ t, treeNodesZ x = t := ⟨_, rfl⟩
  rw [ht] at TN TB
  clear ht
  obtain ⟨n, hn1, hn2, MX⟩ : ∃ n : Nat, 1 ≤ n ∧ n ≤ 127 ∧ Hid (∀ w ts ty, (Builtin.max_ ts ty #[.int .i64 1, .int .i64 t]).run Try.prog w = .ok (.int .i64 n) w) := by
    rcases TB with rfl | ⟨h1, h2⟩
    · exact ⟨1, by omega, by omega, Lib.hid (max1_lt (by omega))⟩
    · exact ⟨t.toNat, by omega, by omega, Lib.hid (by rw [show ((t.toNat : Nat) : Int) = t from by omega]; exact max1_gt h1)⟩
  clear TB
  go_wp2_with fail
  refine (TN.out _).mono ?_
  rintro e w3 ⟨rfl, hb⟩
  have I3 := Lib.hid ((I2.out.below hb).below (below_drew (Below.refl _ w3)))
  have B3 := Lib.hid (below_drew (below_seq B2.out hb))
  clear hb I2 B2 TN
  have hmax := MX.out
  go_upto_region 4 with fail
  clear hmax MX
  have hwn : IntKind.i64.wrap ((n : Int) + 1) = (n : Int) + 1 := IntWalk.i64_in _ (by omega)
  go_region_law (first
    | (refine step_callW w3.drew rfl (by rfl) 44 _ _ rfl _ (by kernel_rfl) Try.call44 _ (curPick _ a l cap _ n _ hl (by omega) (by omega) I3.out) ?_; rintro e w4 ⟨r1, rfl, hr1, hI, hg⟩; refine ⟨_, rfl, ?_⟩; have hr1 : r1 ≤ 127 := (by omega); have hw1 : IntKind.i64.wrap (1 + (r1 : Int)) = 1 + (r1 : Int) := IntWalk.i64_in _ (by omega); have I4 := Lib.hid hI; have G4 := Lib.hid hg; clear hI hg I3)
    | (refine step_callW w4 rfl (by rfl) 45 _ _ rfl _ (by kernel_rfl) Try.call45 _ (curRaw _ a l cap _ _ hl (by omega) I4.out) ?_; rintro e w5 ⟨z, rfl, hz, hI, hg⟩; refine ⟨_, rfl, ?_⟩; have I5 := Lib.hid hI; have hbl := hI.lt; have I5l := Lib.hid (hI.below (below_box (Below.refl _ w5) (.cells #[.int .i64 (1 + (r1 : Int)), .int .i64 n, .int .i64 ((n : Int) + 1), .int .i64 z] 3))); have G5 := Lib.hid (grown_trans G4.out hg); have HZ := Lib.hid hz; clear hI hg I4 G4 hz)
    | (refine step_callW w5 rfl (by rfl) 44 _ _ rfl _ (by kernel_rfl) Try.call44 _ (curPick _ a l cap _ 4 _ hl (by omega) (by omega) I5.out) ?_; rintro e w6 ⟨k, rfl, hk, hI, hg⟩; refine ⟨_, rfl, ?_⟩; have hk4 : k < 4 := (by omega); have k4i : (k : Int) < 4 := (by omega); obtain ⟨u, hu, hul⟩ := lit4_at (x0 := 1 + (r1 : Int)) (x1 := n) (x2 := (n : Int) + 1) (x3 := z) (by omega) (by omega) (by omega) HZ.out k hk4; have G6 := Lib.hid (grown_trans (grown_trans G5.out hg) (World.grownBy_alloc w6 (.cells #[.int .i64 (1 + (r1 : Int)), .int .i64 n, .int .i64 ((n : Int) + 1), .int .i64 z] 3) (some w.heap.size))); have q1 : (w6.alloc (.cells #[.int .i64 (1 + (r1 : Int)), .int .i64 n, .int .i64 ((n : Int) + 1), .int .i64 z] 3)).cell? ⟨w6.heap.size, k, none⟩ = some (.int .i64 u) := (lit_new w6 _ 3 k).trans hul; have HU := Lib.hid hu; clear hI hg I5 I5l G5 hul hu hk)
    | (refine step_callW (w5.alloc (.cells #[.int .i64 (1 + (r1 : Int)), .int .i64 n, .int .i64 ((n : Int) + 1), .int .i64 z] 3)) rfl (by rfl) 44 _ _ rfl _ (by kernel_rfl) Try.call44 _ (curPick _ a l cap _ 4 _ hl (by omega) (by omega) I5l.out) ?_; rintro e w6 ⟨k, rfl, hk, hI, hg⟩; refine ⟨_, rfl, ?_⟩; have hk4 : k < 4 := (by omega); have k4i : (k : Int) < 4 := (by omega); obtain ⟨u, hu, hul⟩ := lit4_at (x0 := 1 + (r1 : Int)) (x1 := n) (x2 := (n : Int) + 1) (x3 := z) (by omega) (by omega) (by omega) HZ.out k hk4; have G6 := Lib.hid (grown_trans (grown_trans G5.out (World.grownBy_alloc w5 (.cells #[.int .i64 (1 + (r1 : Int)), .int .i64 n, .int .i64 ((n : Int) + 1), .int .i64 z] 3) (some w.heap.size))) hg); have q1 : w6.cell? ⟨w5.heap.size, k, none⟩ = some (.int .i64 u) := hg.cell ((lit_new w5 _ 3 k).trans hul) (by simp; omega); have HU := Lib.hid hu; clear hI hg I5 I5l G5 hul hu hk))
  all_goals
    have Z := Lib.hid (below_write B3.out G6.out (Nat.le_refl _))
    clear G6
    go_wp2
    exact bodyPost_ret (v := .tuple #[.int .i64 x, .int .i64 u]) (by simp [results, Try.results20, go_sem]) rfl ⟨x, u, rfl, HX.out, HU.out, Z.out⟩
end Go.Proofs.Ytabldmhjkggmjaa
