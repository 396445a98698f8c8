/- Planes drawn: what 'planes' leaves (no more than that it ends, and what it may change). -/
import Derived.Test.YtfdlmpjccoaejaaDrP
import Derived.Test.YtfdlmpjccoaejaaCurM
import Derived.Test.YtfdlmpjccoaejaaPlS
import Derived.Deep.RegionLaw
import Derived.Deep.RegionHeld3
namespace Go.Proofs.Ytfdlmpjccoaejaa
open Go.RowKit
set_option linter.unusedVariables false
set_option maxRecDepth 100000

def DrawnAny (b : Nat) (w : World) (e : Ending) (w' : World) : Prop := ∃ (z : Int) (a1 : Option Addr) (n1 k1 : Nat) (a2 : Option Addr) (n2 k2 : Nat), e = .returned (.agg #[.int .i64 z, .slice a1 n1 k1, .slice a2 n2 k2]) ∧ w.grownBy w' (some b)
/-- While 'planes' runs: the planes lie in block T, the answer's place is the first new block, both rows are the call's own. -/
structure PlSt (w W : World) (b T : Nat) (a : Option Addr) (l : List UInt8) (cap m : Nat) (z : Int) (a1 : Option Addr) (c1 : Nat) (l1 : List Nat) (a2 : Option Addr) (c2 : Nat) (l2 : List Nat) : Prop where
  tb : W.heap[T]? = some (.cells #[.int .i64 z, .slice a1 6 c1, .slice a2 160 c2] 28 (0, 0))
  rb : W.heap[w.heap.size]? = some (.cells #[.int .i64 0, .slice none 0 0, .slice none 0 0] 28 (0, 0))
  O1 : W.ownsRow (w.heap.size + 1) 43 1 (.slice a1 6 c1) 6 (l1.map uval)
  O2 : W.ownsRow (w.heap.size + 1) 43 1 (.slice a2 160 c2) 160 (l2.map uval)
  h : w.heap.size < T ∧ b < w.heap.size
  I : CurI W b a l cap m
  G : w.grownBy W (some b)
theorem PlSt.pick {w W W' : World} {b T : Nat} {a : Option Addr} {l : List UInt8} {cap m m' : Nat} {z : Int} {a1 a2 : Option Addr} {c1 c2 : Nat} {l1 l2 : List Nat} (s : PlSt w W b T a l cap m z a1 c1 l1 a2 c2 l2) (hI : CurI W' b a l cap m') (hg : W.grownBy W' (some b)) : PlSt w W' b T a l cap m' z a1 c1 l1 a2 c2 l2 := by
  obtain ⟨h1, h2⟩ := s.h
  exact ⟨kept_grown s.tb hg (by simp; omega), kept_grown s.rb hg (by simp; omega), s.O1.kept hg (own_apart s.O1 (by omega)), s.O2.kept hg (own_apart s.O2 (by omega)), s.h, hI, grown_trans s.G hg⟩
theorem PlSt.below {w W W' : World} {b T : Nat} {a : Option Addr} {l : List UInt8} {cap m : Nat} {z : Int} {a1 a2 : Option Addr} {c1 c2 : Nat} {l1 l2 : List Nat} (s : PlSt w W b T a l cap m z a1 c1 l1 a2 c2 l2) (hb : Below W.heap.size W W') : PlSt w W' b T a l cap m z a1 c1 l1 a2 c2 l2 :=
  ⟨kept_block s.tb hb, kept_block s.rb hb, own_below s.O1 hb, own_below s.O2 hb, s.h, s.I.below hb, grown_trans s.G (below_grown hb _)⟩
/-- Near the end: only the two blocks matter. -/
structure PlFin (w W : World) (b T : Nat) (c0 c1 c2 : Value) : Prop where
  tb : W.heap[T]? = some (.cells #[c0, c1, c2] 28 (0, 0))
  rb : W.heap[w.heap.size]? = some (.cells #[.int .i64 0, .slice none 0 0, .slice none 0 0] 28 (0, 0))
  h : w.heap.size < T ∧ b < w.heap.size
  G : w.grownBy W (some b)
theorem PlSt.fin {w W : World} {b T : Nat} {a : Option Addr} {l : List UInt8} {cap m : Nat} {z : Int} {a1 a2 : Option Addr} {c1 c2 : Nat} {l1 l2 : List Nat} (s : PlSt w W b T a l cap m z a1 c1 l1 a2 c2 l2) : PlFin w W b T (.int .i64 z) (.slice a1 6 c1) (.slice a2 160 c2) := ⟨s.tb, s.rb, s.h, s.G⟩
/-- A write into a block of its own that is neither. -/
theorem PlFin.other {w W : World} {b T g i : Nat} {c0 c1 c2 : Value} (s : PlFin w W b T c0 c1 c2) (hg : w.heap.size < g) (hT : g ≠ T) (v : Value) : PlFin w (W.setCell ⟨g, i, none⟩ v) b T c0 c1 c2 := by
  obtain ⟨h1, h2⟩ := s.h
  have BB : Below w.heap.size W (W.setCell ⟨g, i, none⟩ v) := (Below.refl w.heap.size W).setCell (p := ⟨g, i, none⟩) (by simp; omega) _
  exact ⟨(Below.heap_setCell W _ v T (by simp; omega)).trans s.tb, (Below.heap_setCell W _ v _ (by simp; omega)).trans s.rb, s.h, grown_low s.G BB⟩
theorem PlFin.set0 {w W : World} {b T : Nat} {c0 c1 c2 : Value} (s : PlFin w W b T c0 c1 c2) (v : Value) : PlFin w (W.setCell ⟨T, 0, none⟩ v) b T v c1 c2 := by
  obtain ⟨h1, h2⟩ := s.h
  have BB : Below w.heap.size W (W.setCell ⟨T, 0, none⟩ v) := (Below.refl w.heap.size W).setCell (p := ⟨T, 0, none⟩) (by simp; omega) _
  exact ⟨cur_set s.tb 0 v, (Below.heap_setCell W _ v _ (by simp; omega)).trans s.rb, s.h, grown_low s.G BB⟩
theorem PlFin.set1 {w W : World} {b T : Nat} {c0 c1 c2 : Value} (s : PlFin w W b T c0 c1 c2) (v : Value) : PlFin w (W.setCell ⟨T, 1, none⟩ v) b T c0 v c2 := by
  obtain ⟨h1, h2⟩ := s.h
  have BB : Below w.heap.size W (W.setCell ⟨T, 1, none⟩ v) := (Below.refl w.heap.size W).setCell (p := ⟨T, 1, none⟩) (by simp; omega) _
  exact ⟨cur_set s.tb 1 v, (Below.heap_setCell W _ v _ (by simp; omega)).trans s.rb, s.h, grown_low s.G BB⟩
theorem PlFin.done {w W : World} {b T : Nat} {z : Int} {a1 a2 : Option Addr} {n1 k1 n2 k2 : Nat} (s : PlFin w W b T (.int .i64 z) (.slice a1 n1 k1) (.slice a2 n2 k2)) (y0 y1 y2 : Value) : DrawnAny b w (.returned (.agg #[.int .i64 z, .slice a1 n1 k1, .slice a2 n2 k2])) (((W.setCell ⟨w.heap.size, 0, none⟩ y0).setCell ⟨w.heap.size, 1, none⟩ y1).setCell ⟨w.heap.size, 2, none⟩ y2) := by
  have BB : Below w.heap.size W (((W.setCell ⟨w.heap.size, 0, none⟩ y0).setCell ⟨w.heap.size, 1, none⟩ y1).setCell ⟨w.heap.size, 2, none⟩ y2) := (((Below.refl w.heap.size W).setCell (p := ⟨w.heap.size, 0, none⟩) (Nat.le_refl _) _).setCell (p := ⟨w.heap.size, 1, none⟩) (Nat.le_refl _) _).setCell (p := ⟨w.heap.size, 2, none⟩) (Nat.le_refl _) _
  exact ⟨z, a1, n1, k1, a2, n2, k2, rfl, grown_low s.G BB⟩

theorem planesOf_sizes {ws : List (List UInt8)} (h : planesB ws = true) : (planesOfM ws).len.length = 6 ∧ (planesOfM ws).lts.length = 160 ∧ (planesOfM ws).n = ws.length := by
  unfold planesOfM
  rw [if_pos h]
  unfold planesOf
  refine ⟨?_, ?_, rfl⟩
  · simp [lensN, putN_length]
  · simp [lettersN_length]
theorem three_at (z y x : Int) (r : Nat) (h : r < 3 ∨ r = 0) : ∃ v : Int, (#[.int .i64 z, .int .i64 y, .int .i64 x] : Array Value)[r]? = some (.int .i64 v) := by
  rcases (show r = 0 ∨ r = 1 ∨ r = 2 from by omega) with rfl | rfl | rfl
  · exact ⟨z, rfl⟩
  · exact ⟨y, rfl⟩
  · exact ⟨x, rfl⟩
set_option maxHeartbeats 4000000 in
theorem curPlanes (b : Nat) (a : Option Addr) (l : List UInt8) (cap m : Nat) (w : World) (hl : l.length ≤ 1048576) (hm : m ≤ 100000000000000000) (h : CurI w b a l cap m) :
    Calls Try.prog 62 #[.pointer (some ⟨b, 0, none⟩)] w (DrawnAny b w) := by
  have hbl := h.lt
  have hb0 : Below w.heap.size w (w.alloc (.cells #[.int .i64 0, .slice none 0 0, .slice none 0 0] 28)) := (Below.refl _ _).alloc (Nat.le_refl _) _
  have I0 := Lib.hid (h.below hb0)
  have G0 := Lib.hid (below_grown hb0 (some b))
  have K0 := Lib.hid (alloc_at w (.cells #[.int .i64 0, .slice none 0 0, .slice none 0 0] 28) _ rfl)
  clear h hb0
  go_enter Try.func62, Try.ntmps62
  go_wp2_with fail
  refine (curWords b a l cap m 12 _ hl (by omega) (by omega) I0.out).mono ?_
  rintro e w1 ⟨c, ws, rfl, ho1, hlen, hst, hI1, hg1⟩
  obtain ⟨ad, cp, e2, ow, _⟩ := ho1
  simp at e2
  subst e2
  have K1 := Lib.hid (kept_grown K0.out hg1 (by simp; omega))
  have s1 : w.heap.size + 1 ≤ w1.heap.size := cur_lt K1.out
  have X1 : Hid (w1.ownsRow (w.heap.size + 1) 9 1 (.slice ad ws.length cp) ws.length (ws.map sval) ∧ CurI w1 b a l cap (m + 1000) ∧ w.grownBy w1 (some b)) := Lib.hid ⟨own_base ow (by simp), hI1.more (by omega), grown_trans G0.out hg1⟩
  obtain ⟨q, hq⟩ : ∃ q, ws.length = q := ⟨_, rfl⟩
  have HW : Hid (ws.length = q ∧ strsB ws) := Lib.hid ⟨hq, hst⟩
  rw [hq] at X1 hlen ⊢
  clear ow hst hI1 hg1 I0 G0 K0 hq
  go_wp2_with fail
  refine (curOnce b a l cap _ 9 _ hl (by omega) (by omega) X1.out.2.1).mono ?_
  rintro e w2 ⟨f, rfl, hI2, hg2⟩
  have K2 := Lib.hid (kept_grown K1.out hg2 (by simp; omega))
  have s2 : w.heap.size + 1 ≤ w2.heap.size := cur_lt K2.out
  have X2 : Hid (w2.ownsRow (w.heap.size + 1) 9 1 (.slice ad q cp) q (ws.map sval) ∧ CurI w2 b a l cap (m + 1001) ∧ w.grownBy w2 (some b)) := Lib.hid ⟨X1.out.1.kept hg2 (own_apart X1.out.1 (by omega)), hI2, grown_trans X1.out.2.2 hg2⟩
  clear X1 K1 hI2 hg2
  have hq64 : q ≤ 64 := by omega
  clear hlen
  cases f
  · have PB := Lib.hid (planesB_iff.2 ⟨by rw [HW.out.1]; exact hq64, HW.out.2⟩)
    have SP := Lib.hid (specPlanesOf (.slice ad q cp) ws w2 ((StringSOwn.mk X2.out.1).read) (fun s hs => small_str (HW.out.2 s hs)))
    go_wp2_with fail
    refine SP.out.mono ?_
    rintro e w6 ⟨d0, d1, d2, rfl, ho6, hb6⟩
    rw [PB.out]
    obtain ⟨mid, rfl, o1, o2, hm1, hm2⟩ := planesOwn_parts ho6
    have ZZ := planesOf_sizes PB.out
    obtain ⟨a1, c1, e1, ow1, hh1⟩ := o1
    obtain ⟨a2, c2, e2, ow2, hh2⟩ := o2
    simp at e1 e2
    subst e1
    subst e2
    rw [ZZ.1] at ow1 ⊢
    rw [ZZ.2.1] at ow2 ⊢
    have hz : 0 ≤ (planesOfM ws).n ∧ (planesOfM ws).n ≤ 64 := by rw [ZZ.2.2, HW.out.1]; omega
    generalize (planesOfM ws).len = l1 at *
    generalize (planesOfM ws).lts = l2 at *
    generalize (planesOfM ws).n = z at *
    have s6 := hb6.size
    have S6 : Hid (PlSt w (w6.alloc (.cells #[.int .i64 z, .slice a1 6 c1, .slice a2 160 c2] 28)) b w6.heap.size a l cap (m + 1001) z a1 c1 l1 a2 c2 l2) := Lib.hid ⟨alloc_at _ _ _ rfl, kept_grown (kept_block K2.out hb6) (World.grownBy_alloc w6 _ none) (by simp), own_base (ow1.alloc _) (by omega), own_base (ow2.alloc _) (by omega), ⟨by omega, hbl⟩, (X2.out.2.1.below hb6).below ((Below.refl _ _).alloc (Nat.le_refl _) _), grown_trans (grown_trans X2.out.2.2 (below_grown hb6 _)) (World.grownBy_alloc w6 _ (some b))⟩
    clear ho6 hb6 ow1 ow2 hh1 hh2 ZZ SP PB X2 K2 HW hm1 hm2 mid
    go_wp2_with fail
    refine (curPick b a l cap _ 12 _ hl (by omega) (by omega) S6.out.I).mono ?_
    rintro e w7 ⟨t, rfl, ht, hI7, hg7⟩
    have S7 := Lib.hid (S6.out.pick hI7 hg7)
    clear S6 hI7 hg7
    generalize w6.heap.size = T at *
    by_cases e0 : t = 0
    · subst e0
      obtain ⟨g, rfl, hg⟩ := own_some S7.out.O2 (by omega)
      have SD := Lib.hid (S7.out.below (belowN 1))
      have PK := Lib.hid (curPick b a l cap _ 160 w7.drew hl (by omega) (by omega) SD.out.I)
      have k7 : w7.drew.cell? ⟨T, 2, none⟩ = some (.slice (some ⟨g, 0, none⟩) 160 c2) := cur_cell SD.out.tb 2
      have hgT : T ≠ g := fun e => own_other S7.out.O2 S7.out.tb (by decide) (by rw [e]; rfl)
      go_wp2_with fail
      go_region_held3 (fun w' => w'.cell? ⟨T, 2, none⟩ = some (.slice (some ⟨g, 0, none⟩) 160 c2))
        (first | exact k7 | exact k8 | exact k9 | exact kA)
        (first
          | (go_at_call 59; refine PK.out.mono ?_; rintro e w8 ⟨r, rfl, hr, hI8, hg8⟩; have S8 := Lib.hid (SD.out.pick hI8 hg8); have k8 : w8.cell? ⟨T, 2, none⟩ = some (.slice (some ⟨g, 0, none⟩) 160 c2) := cur_cell S8.out.tb 2; have BT := Lib.hid (curBits b a l cap _ w8 hl (by omega) S8.out.I); have hrN : r < 160 := (by omega); have hrZ : (r : Int) < 160 := (by omega); have hr0 : (0 : Int) ≤ (r : Int) := (by omega); clear hI8 hg8)
          | (go_at_call 89; refine BT.out.mono ?_; rintro e w9 ⟨v, rfl, hv, hI9, hg9⟩; have S9 := Lib.hid (S8.out.pick hI9 hg9); have k9 : w9.cell? ⟨T, 2, none⟩ = some (.slice (some ⟨g, 0, none⟩) 160 c2) := cur_cell S9.out.tb 2; have c1' : w9.cell? ⟨g, r, none⟩ = some ((l2.map uval)[r]'(by have := S9.out.O2.1; simp at this ⊢; omega)) := (by rw [S9.out.O2.cellAt r (by omega), List.getElem?_eq_getElem]); have fr1 := S9.out.O2.frozenAt r; have kA := cell_set (b' := g) (i := r) (u := .int .u64 v) k9 hgT; clear hI9 hg9))
      have F : Hid (PlFin w (w9.setCell ⟨g, r, none⟩ (.int .u64 v)) b T (.int .i64 z) (.slice a1 6 c1) (.slice (some ⟨g, 0, none⟩) 160 c2)) := Lib.hid (S9.out.fin.other (by omega) hgT.symm _)
      clear k7 k8 k9 kA c1' fr1 S9 S8 SD PK BT S7
      generalize w9.setCell ⟨g, r, none⟩ (.int .u64 v) = wE at *
      have t0 : wE.cell? ⟨T, 0, none⟩ = some (.int .i64 z) := cur_cell F.out.tb 0
      have t1 : wE.cell? ⟨T, 1, none⟩ = some (.slice a1 6 c1) := cur_cell F.out.tb 1
      have t2 : wE.cell? ⟨T, 2, none⟩ = some (.slice (some ⟨g, 0, none⟩) 160 c2) := cur_cell F.out.tb 2
      have r0 : wE.cell? ⟨w.heap.size, 0, none⟩ = some (.int .i64 0) := cur_cell F.out.rb 0
      have r1 : wE.cell? ⟨w.heap.size, 1, none⟩ = some (.slice none 0 0) := cur_cell F.out.rb 1
      have r2 : wE.cell? ⟨w.heap.size, 2, none⟩ = some (.slice none 0 0) := cur_cell F.out.rb 2
      have f0 := cur_free F.out.rb 0
      have f1 := cur_free F.out.rb 1
      have f2 := cur_free F.out.rb 2
      have hT0 : w.heap.size < T := F.out.h.1
      have hT1 : ¬ T = w.heap.size := by omega
      have hT2 : ¬ w.heap.size = T := by omega
      go_wp2
      exact bodyPost_ret (v := .agg #[.int .i64 z, .slice a1 6 c1, .slice (some ⟨g, 0, none⟩) 160 c2]) (by simp [results, Try.results62, go_sem, r0, r1, r2]) rfl (F.out.done _ _ _)
    have n0 : ((t : Int) == 0) = false := by simp; omega
    by_cases e1 : t = 1
    · subst e1
      have SD := Lib.hid (S7.out.below (belowN 1))
      have cT7 : w7.cell? ⟨T, 0, none⟩ = some (.int .i64 z) := cur_cell S7.out.tb 0
      have RW := Lib.hid (curRaw b a l cap _ w7.drew hl (by omega) SD.out.I)
      have hwr : IntKind.i64.wrap (z + 1) = z + 1 := by simp [IntKind.wrap, IntKind.bits, IntKind.signed]; omega
      have hTR : w.heap.size < T := S7.out.h.1
      have hTR2 : ¬ T = w.heap.size := by omega
      have hTR3 : ¬ w.heap.size = T := by omega
      go_wp2_with fail
      go_region_law (first
        | (refine step_call (by rfl) 78 #[.pointer (some ⟨b, 0, none⟩)] (by kernel_rfl) _ RW.out ?_; rintro e w8 ⟨y, rfl, hy, hI8, hg8⟩; refine ⟨_, rfl, ?_⟩; have S8 := Lib.hid (SD.out.pick hI8 hg8); have cT8 : w8.cell? ⟨T, 0, none⟩ = some (.int .i64 z) := cur_cell S8.out.tb 0; have hb8 : b < w8.heap.size := hI8.lt; have SB := Lib.hid (S8.out.below (W' := w8.alloc (.cells #[.int .i64 y, .int .i64 (z + 1), .int .i64 64] 3)) ((Below.refl _ _).alloc (Nat.le_refl _) _)); have PA := Lib.hid (curPick b a l cap _ 3 _ hl (by omega) (by omega) S8.out.I); have PB := Lib.hid (curPick b a l cap _ 3 _ hl (by omega) (by omega) SB.out.I); clear hI8 hg8)
        | (refine step_call (by rfl) 59 #[.pointer (some ⟨b, 0, none⟩), .int .i64 3] (by kernel_rfl) _ PB.out ?_; rintro e w9 ⟨r, rfl, hr, hI9, hg9⟩; refine ⟨_, rfl, ?_⟩; obtain ⟨x, hx⟩ := three_at y (z + 1) 64 r hr; have hr3 : r < 3 := (by omega); have hrZ : (r : Int) < 3 := (by omega); have hr0 : (0 : Int) ≤ (r : Int) := (by omega); have hq : w9.cell? ⟨w8.heap.size, r, none⟩ = some (.int .i64 x) := hg9.cell ((lit_new w8 #[.int .i64 y, .int .i64 (z + 1), .int .i64 64] 3 r).trans hx) (by simp; omega); have S9 := SB.out.pick hI9 hg9; have t0 : w9.cell? ⟨T, 0, none⟩ = some (.int .i64 z) := cur_cell S9.tb 0; have t1 : w9.cell? ⟨T, 1, none⟩ = some (.slice a1 6 c1) := cur_cell S9.tb 1; have t2 : w9.cell? ⟨T, 2, none⟩ = some (.slice a2 160 c2) := cur_cell S9.tb 2; have r0 : w9.cell? ⟨w.heap.size, 0, none⟩ = some (.int .i64 0) := cur_cell S9.rb 0; have r1 : w9.cell? ⟨w.heap.size, 1, none⟩ = some (.slice none 0 0) := cur_cell S9.rb 1; have r2 : w9.cell? ⟨w.heap.size, 2, none⟩ = some (.slice none 0 0) := cur_cell S9.rb 2; have f0 := cur_free S9.rb 0; have f1 := cur_free S9.rb 1; have f2 := cur_free S9.rb 2; have fT := cur_free S9.tb 0; have F := Lib.hid (S9.fin.set0 (.int .i64 x)); clear hI9 hg9 hx S9)
        | (refine step_call (by rfl) 59 #[.pointer (some ⟨b, 0, none⟩), .int .i64 3] (by kernel_rfl) _ PA.out ?_; rintro e w9 ⟨r, rfl, hr, hI9, hg9⟩; refine ⟨_, rfl, ?_⟩; obtain ⟨x, hx⟩ := three_at y (z + 1) 64 r hr; have hr3 : r < 3 := (by omega); have hrZ : (r : Int) < 3 := (by omega); have hr0 : (0 : Int) ≤ (r : Int) := (by omega); have hq : (w9.alloc (.cells #[.int .i64 y, .int .i64 (z + 1), .int .i64 64] 3)).cell? ⟨w9.heap.size, r, none⟩ = some (.int .i64 x) := (lit_new w9 #[.int .i64 y, .int .i64 (z + 1), .int .i64 64] 3 r).trans hx; have S9' := S8.out.pick hI9 hg9; have cT9 : w9.cell? ⟨T, 0, none⟩ = some (.int .i64 z) := cur_cell S9'.tb 0; have S9 := S9'.below (W' := (w9.alloc (.cells #[.int .i64 y, .int .i64 (z + 1), .int .i64 64] 3))) ((Below.refl _ _).alloc (Nat.le_refl _) _); have t0 : (w9.alloc (.cells #[.int .i64 y, .int .i64 (z + 1), .int .i64 64] 3)).cell? ⟨T, 0, none⟩ = some (.int .i64 z) := cur_cell S9.tb 0; have t1 : (w9.alloc (.cells #[.int .i64 y, .int .i64 (z + 1), .int .i64 64] 3)).cell? ⟨T, 1, none⟩ = some (.slice a1 6 c1) := cur_cell S9.tb 1; have t2 : (w9.alloc (.cells #[.int .i64 y, .int .i64 (z + 1), .int .i64 64] 3)).cell? ⟨T, 2, none⟩ = some (.slice a2 160 c2) := cur_cell S9.tb 2; have r0 : (w9.alloc (.cells #[.int .i64 y, .int .i64 (z + 1), .int .i64 64] 3)).cell? ⟨w.heap.size, 0, none⟩ = some (.int .i64 0) := cur_cell S9.rb 0; have r1 : (w9.alloc (.cells #[.int .i64 y, .int .i64 (z + 1), .int .i64 64] 3)).cell? ⟨w.heap.size, 1, none⟩ = some (.slice none 0 0) := cur_cell S9.rb 1; have r2 : (w9.alloc (.cells #[.int .i64 y, .int .i64 (z + 1), .int .i64 64] 3)).cell? ⟨w.heap.size, 2, none⟩ = some (.slice none 0 0) := cur_cell S9.rb 2; have f0 := cur_free S9.rb 0; have f1 := cur_free S9.rb 1; have f2 := cur_free S9.rb 2; have fT := cur_free S9.tb 0; have F := Lib.hid (S9.fin.set0 (.int .i64 x)); clear hI9 hg9 hx S9 S9'))
      all_goals
        clear hq
        go_wp2
        exact bodyPost_ret (v := .agg #[.int .i64 x, .slice a1 6 c1, .slice a2 160 c2]) (by simp [results, Try.results62, go_sem, r0, r1, r2]) rfl (F.out.done _ _ _)
    have n1 : ((t : Int) == 1) = false := by simp; omega
    by_cases e2 : t = 2
    · subst e2
      have cT7 : w7.cell? ⟨T, 1, none⟩ = some (.slice a1 6 c1) := cur_cell S7.out.tb 1
      have s7 : w.heap.size + 1 ≤ w7.heap.size := cur_lt S7.out.rb
      have hTR : w.heap.size < T := S7.out.h.1
      have hTR2 : ¬ T = w.heap.size := by omega
      have hTR3 : ¬ w.heap.size = T := by omega
      go_wp2_with (at_builtin; go_must (refine wp_app_row rfl _ _ 26 rfl 43 (.int .u64 0) 8 Try.underlying26 Try.infoU64 rfl (w.heap.size + 1) 6 (.slice a1 6 c1) (l1.map uval) (by rfl) (S7.out.O1.alloc _) (some ⟨w7.heap.size, 0, none⟩) 1 1 [.int .u64 0] (by rfl) rfl (row_one w7 (.int .u64 0) 43) (by simp [Value.oneCell']) (by unfold maxLen; omega) (by omega) (by simp; omega) ?_); intro v8 w8 ho8 hg8; have LW := app_low s7 S7.out.O1 _ hg8; have I8 := Lib.hid (S7.out.I.low LW (by omega)); have F8 : Hid (PlFin w w8 b T (.int .i64 z) (.slice a1 6 c1) (.slice a2 160 c2)) := Lib.hid ⟨kept_grown (kept_grown S7.out.tb (World.grownBy_alloc w7 _ none) (by simp)) hg8 (own_other S7.out.O1 S7.out.tb (by decide)), (LW.block w.heap.size (by omega)).trans S7.out.rb, S7.out.h, grown_low S7.out.G (LW.mono (by omega))⟩; obtain ⟨a8, c8, rfl⟩ := own_shape ho8; obtain ⟨g8, rfl, _⟩ := own_some ho8 (by omega); have hc8 : 7 ≤ c8 := own_cap ho8; clear ho8 hg8 LW)
      refine (curPick b a l cap _ 2 _ hl (by omega) (by omega) I8.out).mono ?_
      rintro e w9 ⟨r, rfl, hr, hI9, hg9⟩
      have F9 : Hid (PlFin w w9 b T (.int .i64 z) (.slice a1 6 c1) (.slice a2 160 c2)) := Lib.hid ⟨kept_grown F8.out.tb hg9 (by simp; omega), kept_grown F8.out.rb hg9 (by simp; omega), F8.out.h, grown_trans F8.out.G hg9⟩
      clear hI9 hg9 F8 I8 S7 cT7
      rcases (show r = 0 ∨ r = 1 from by omega) with rfl | rfl
      · have t1 : w9.cell? ⟨T, 1, none⟩ = some (.slice a1 6 c1) := cur_cell F9.out.tb 1
        have fT := cur_free F9.out.tb 1
        have F := Lib.hid (F9.out.set1 (.slice (some ⟨g8, 0, none⟩) 7 c8))
        have t0 : w9.cell? ⟨T, 0, none⟩ = some (.int .i64 z) := cur_cell F9.out.tb 0
        have t2 : w9.cell? ⟨T, 2, none⟩ = some (.slice a2 160 c2) := cur_cell F9.out.tb 2
        have r0 : w9.cell? ⟨w.heap.size, 0, none⟩ = some (.int .i64 0) := cur_cell F9.out.rb 0
        have r1 : w9.cell? ⟨w.heap.size, 1, none⟩ = some (.slice none 0 0) := cur_cell F9.out.rb 1
        have r2 : w9.cell? ⟨w.heap.size, 2, none⟩ = some (.slice none 0 0) := cur_cell F9.out.rb 2
        have f0 := cur_free F9.out.rb 0
        have f1 := cur_free F9.out.rb 1
        have f2 := cur_free F9.out.rb 2
        clear F9
        go_wp2
        exact bodyPost_ret (v := .agg #[.int .i64 z, .slice (some ⟨g8, 0, none⟩) 7 c8, .slice a2 160 c2]) (by simp [results, Try.results62, go_sem, r0, r1, r2]) rfl (F.out.done _ _ _)
      · have t1 : w9.cell? ⟨T, 1, none⟩ = some (.slice a1 6 c1) := cur_cell F9.out.tb 1
        have fT := cur_free F9.out.tb 1
        have F := Lib.hid (F9.out.set1 (.slice (some ⟨g8, 1, none⟩) 6 (c8 - 1)))
        have t0 : w9.cell? ⟨T, 0, none⟩ = some (.int .i64 z) := cur_cell F9.out.tb 0
        have t2 : w9.cell? ⟨T, 2, none⟩ = some (.slice a2 160 c2) := cur_cell F9.out.tb 2
        have r0 : w9.cell? ⟨w.heap.size, 0, none⟩ = some (.int .i64 0) := cur_cell F9.out.rb 0
        have r1 : w9.cell? ⟨w.heap.size, 1, none⟩ = some (.slice none 0 0) := cur_cell F9.out.rb 1
        have r2 : w9.cell? ⟨w.heap.size, 2, none⟩ = some (.slice none 0 0) := cur_cell F9.out.rb 2
        have f0 := cur_free F9.out.rb 0
        have f1 := cur_free F9.out.rb 1
        have f2 := cur_free F9.out.rb 2
        clear F9
        go_wp2
        exact bodyPost_ret (v := .agg #[.int .i64 z, .slice (some ⟨g8, 1, none⟩) 6 (c8 - 1), .slice a2 160 c2]) (by simp [results, Try.results62, go_sem, r0, r1, r2]) rfl (F.out.done _ _ _)
    have n2 : ((t : Int) == 2) = false := by simp; omega
    by_cases e3 : t = 3
    · subst e3
      obtain ⟨g, rfl, hg⟩ := own_some S7.out.O1 (by omega)
      have SD := Lib.hid (S7.out.below (belowN 1))
      have PK := Lib.hid (curPick b a l cap _ 6 w7.drew hl (by omega) (by omega) SD.out.I)
      have k7 : w7.drew.cell? ⟨T, 1, none⟩ = some (.slice (some ⟨g, 0, none⟩) 6 c1) := cur_cell SD.out.tb 1
      have hgT : T ≠ g := fun e => own_other S7.out.O1 S7.out.tb (by decide) (by rw [e]; rfl)
      go_wp2_with fail
      go_region_held3 (fun w' => w'.cell? ⟨T, 1, none⟩ = some (.slice (some ⟨g, 0, none⟩) 6 c1))
        (first | exact k7 | exact k8 | exact k9 | exact kA)
        (first
          | (go_at_call 59; refine PK.out.mono ?_; rintro e w8 ⟨r, rfl, hr, hI8, hg8⟩; have S8 := Lib.hid (SD.out.pick hI8 hg8); have k8 : w8.cell? ⟨T, 1, none⟩ = some (.slice (some ⟨g, 0, none⟩) 6 c1) := cur_cell S8.out.tb 1; have BT := Lib.hid (curBits b a l cap _ w8 hl (by omega) S8.out.I); have hrN : r < 6 := (by omega); have hrZ : (r : Int) < 6 := (by omega); have hr0 : (0 : Int) ≤ (r : Int) := (by omega); clear hI8 hg8)
          | (go_at_call 89; refine BT.out.mono ?_; rintro e w9 ⟨v, rfl, hv, hI9, hg9⟩; have S9 := Lib.hid (S8.out.pick hI9 hg9); have k9 : w9.cell? ⟨T, 1, none⟩ = some (.slice (some ⟨g, 0, none⟩) 6 c1) := cur_cell S9.out.tb 1; have c1' : w9.cell? ⟨g, r, none⟩ = some ((l1.map uval)[r]'(by have := S9.out.O1.1; simp at this ⊢; omega)) := (by rw [S9.out.O1.cellAt r (by omega), List.getElem?_eq_getElem]); have fr1 := S9.out.O1.frozenAt r; have kA := cell_set (b' := g) (i := r) (u := .int .u64 v) k9 hgT; clear hI9 hg9))
      have F : Hid (PlFin w (w9.setCell ⟨g, r, none⟩ (.int .u64 v)) b T (.int .i64 z) (.slice (some ⟨g, 0, none⟩) 6 c1) (.slice a2 160 c2)) := Lib.hid (S9.out.fin.other (by omega) hgT.symm _)
      clear k7 k8 k9 kA c1' fr1 S9 S8 SD PK BT S7
      generalize w9.setCell ⟨g, r, none⟩ (.int .u64 v) = wE at *
      have t0 : wE.cell? ⟨T, 0, none⟩ = some (.int .i64 z) := cur_cell F.out.tb 0
      have t1 : wE.cell? ⟨T, 1, none⟩ = some (.slice (some ⟨g, 0, none⟩) 6 c1) := cur_cell F.out.tb 1
      have t2 : wE.cell? ⟨T, 2, none⟩ = some (.slice a2 160 c2) := cur_cell F.out.tb 2
      have r0 : wE.cell? ⟨w.heap.size, 0, none⟩ = some (.int .i64 0) := cur_cell F.out.rb 0
      have r1 : wE.cell? ⟨w.heap.size, 1, none⟩ = some (.slice none 0 0) := cur_cell F.out.rb 1
      have r2 : wE.cell? ⟨w.heap.size, 2, none⟩ = some (.slice none 0 0) := cur_cell F.out.rb 2
      have f0 := cur_free F.out.rb 0
      have f1 := cur_free F.out.rb 1
      have f2 := cur_free F.out.rb 2
      have hT0 : w.heap.size < T := F.out.h.1
      have hT1 : ¬ T = w.heap.size := by omega
      have hT2 : ¬ w.heap.size = T := by omega
      go_wp2
      exact bodyPost_ret (v := .agg #[.int .i64 z, .slice (some ⟨g, 0, none⟩) 6 c1, .slice a2 160 c2]) (by simp [results, Try.results62, go_sem, r0, r1, r2]) rfl (F.out.done _ _ _)
    have n3 : ((t : Int) == 3) = false := by simp; omega
    have F := Lib.hid S7.out.fin
    clear S7
    have t0 : w7.cell? ⟨T, 0, none⟩ = some (.int .i64 z) := cur_cell F.out.tb 0
    have t1 : w7.cell? ⟨T, 1, none⟩ = some (.slice a1 6 c1) := cur_cell F.out.tb 1
    have t2 : w7.cell? ⟨T, 2, none⟩ = some (.slice a2 160 c2) := cur_cell F.out.tb 2
    have r0 : w7.cell? ⟨w.heap.size, 0, none⟩ = some (.int .i64 0) := cur_cell F.out.rb 0
    have r1 : w7.cell? ⟨w.heap.size, 1, none⟩ = some (.slice none 0 0) := cur_cell F.out.rb 1
    have r2 : w7.cell? ⟨w.heap.size, 2, none⟩ = some (.slice none 0 0) := cur_cell F.out.rb 2
    have f0 := cur_free F.out.rb 0
    have f1 := cur_free F.out.rb 1
    have f2 := cur_free F.out.rb 2
    have hT0 : w.heap.size < T := F.out.h.1
    have hT1 : ¬ T = w.heap.size := by omega
    have hT2 : ¬ w.heap.size = T := by omega
    go_wp2
    exact bodyPost_ret (v := .agg #[.int .i64 z, .slice a1 6 c1, .slice a2 160 c2]) (by simp [results, Try.results62, go_sem, r0, r1, r2]) rfl (F.out.done _ _ _)
  · go_wp2
    go_loopw [3] (fun v wr => ∃ (q c : Nat) (ad : Option Addr) (ws : List (List UInt8)), q ≤ 64 ∧ v = .slice ad q c ∧ Hid (ws.length = q ∧ strsB ws) ∧ Hid (wr.ownsRow (w.heap.size + 1) 9 1 (.slice ad q c) q (ws.map sval) ∧ CurI wr b a l cap (m + 1001 + 100 * q) ∧ w.grownBy wr (some b)) ∧ Hid (wr.heap[w.heap.size]? = some (.cells #[.int .i64 0, .slice none 0 0, .slice none 0 0] 28 (0, 0)))) (fun v _ => 65 - lenOf v)
    case atStart => exact ⟨q, cp, ad, ws, hq64, rfl, HW, Lib.hid ⟨X2.out.1, X2.out.2.1.more (by omega), X2.out.2.2⟩, K2⟩
    case round =>
      clear X2 HW K2 hq64
      obtain ⟨q, cp, ad, ws, hq64, rfl, HW, H, K3⟩ := hrel
      have s3 : w.heap.size + 1 ≤ wr.heap.size := cur_lt K3.out
      by_cases hlt : q < 64
      · go_wp2_with fail
        refine (curWordW b a l cap _ _ hl (by omega) H.out.2.1).mono ?_
        rintro e w5 ⟨s, rfl, hs, hI5, hg5⟩
        have O5 := Lib.hid (H.out.1.kept hg5 (own_apart H.out.1 (by omega)))
        have G5 := Lib.hid (grown_trans H.out.2.2 hg5)
        have I5 := Lib.hid hI5
        have K5 := Lib.hid (kept_grown K3.out hg5 (by simp; omega))
        have hsz : w.heap.size + 1 ≤ w5.heap.size := cur_lt K5.out
        have SN := Lib.hid (map_snoc ws s)
        have HW2 : Hid ((ws ++ [s.data.toList]).length = q + 1 ∧ strsB (ws ++ [s.data.toList])) := Lib.hid ⟨by simp [HW.out.1], strsB_snoc HW.out.2 (strB_word hs)⟩
        clear hI5 hg5 H hs K3
        go_wp2_with (at_builtin; go_must (refine wp_app_row rfl _ _ 24 rfl 9 (.string ⟨#[]⟩) 16 Try.underlying24 Try.infoStr rfl (w.heap.size + 1) q (.slice ad q cp) (ws.map sval) (by rfl) (O5.out.alloc _) (some ⟨w5.heap.size, 0, none⟩) 1 1 [.string s] (by rfl) rfl (row_one w5 (.string s) 9) (by simp [Value.oneCell']) (by unfold maxLen; omega) (by omega) (by simp; omega) ?_); intro v6 w6 ho6 hg6; have LW := app_low hsz O5.out _ hg6; rw [← SN.out] at ho6; have K6 := Lib.hid (K5.out.symm ▸ LW.block w.heap.size (by omega)); have X6 := Lib.hid (And.intro ho6 (And.intro (I5.out.low LW (by omega)) (grown_low G5.out (LW.mono (by omega))))); obtain ⟨a6, c6, rfl⟩ := own_shape ho6; clear ho6 hg6 LW)
        go_roundw
        case rel => exact ⟨q + 1, c6, a6, _, by omega, rfl, HW2, Lib.hid ⟨X6.out.1, X6.out.2.1.more (by omega), X6.out.2.2⟩, K6⟩
        case measure => simp [lenOf]; omega
      · have PB := Lib.hid (planesB_iff.2 ⟨by rw [HW.out.1]; exact hq64, HW.out.2⟩)
        have SP := Lib.hid (specPlanesOf (.slice ad q cp) ws wr ((StringSOwn.mk H.out.1).read) (fun s hs => small_str (HW.out.2 s hs)))
        go_wp2_with fail
        refine SP.out.mono ?_
        rintro e w6 ⟨d0, d1, d2, rfl, ho6, hb6⟩
        rw [PB.out]
        obtain ⟨mid, rfl, o1, o2, hm1, hm2⟩ := planesOwn_parts ho6
        have ZZ := planesOf_sizes PB.out
        obtain ⟨a1, c1, e1, ow1, hh1⟩ := o1
        obtain ⟨a2, c2, e2, ow2, hh2⟩ := o2
        simp at e1 e2
        subst e1
        subst e2
        rw [ZZ.1] at ow1 ⊢
        rw [ZZ.2.1] at ow2 ⊢
        have hz : 0 ≤ (planesOfM ws).n ∧ (planesOfM ws).n ≤ 64 := by rw [ZZ.2.2, HW.out.1]; omega
        generalize (planesOfM ws).len = l1 at *
        generalize (planesOfM ws).lts = l2 at *
        generalize (planesOfM ws).n = z at *
        have s6 := hb6.size
        have S6 : Hid (PlSt w (w6.alloc (.cells #[.int .i64 z, .slice a1 6 c1, .slice a2 160 c2] 28)) b w6.heap.size a l cap (m + 1001 + 100 * q) z a1 c1 l1 a2 c2 l2) := Lib.hid ⟨alloc_at _ _ _ rfl, kept_grown (kept_block K3.out hb6) (World.grownBy_alloc w6 _ none) (by simp), own_base (ow1.alloc _) (by omega), own_base (ow2.alloc _) (by omega), ⟨by omega, hbl⟩, (H.out.2.1.below hb6).below ((Below.refl _ _).alloc (Nat.le_refl _) _), grown_trans (grown_trans H.out.2.2 (below_grown hb6 _)) (World.grownBy_alloc w6 _ (some b))⟩
        clear ho6 hb6 ow1 ow2 hh1 hh2 ZZ SP PB H K3 HW hm1 hm2 mid
        go_wp2_with fail
        refine (curPick b a l cap _ 12 _ hl (by omega) (by omega) S6.out.I).mono ?_
        rintro e w7 ⟨t, rfl, ht, hI7, hg7⟩
        have S7 := Lib.hid (S6.out.pick hI7 hg7)
        clear S6 hI7 hg7
        generalize w6.heap.size = T at *
        by_cases e0 : t = 0
        · subst e0
          obtain ⟨g, rfl, hg⟩ := own_some S7.out.O2 (by omega)
          have SD := Lib.hid (S7.out.below (belowN 1))
          have PK := Lib.hid (curPick b a l cap _ 160 w7.drew hl (by omega) (by omega) SD.out.I)
          have k7 : w7.drew.cell? ⟨T, 2, none⟩ = some (.slice (some ⟨g, 0, none⟩) 160 c2) := cur_cell SD.out.tb 2
          have hgT : T ≠ g := fun e => own_other S7.out.O2 S7.out.tb (by decide) (by rw [e]; rfl)
          go_wp2_with fail
          go_region_held3 (fun w' => w'.cell? ⟨T, 2, none⟩ = some (.slice (some ⟨g, 0, none⟩) 160 c2))
            (first | exact k7 | exact k8 | exact k9 | exact kA)
            (first
              | (go_at_call 59; refine PK.out.mono ?_; rintro e w8 ⟨r, rfl, hr, hI8, hg8⟩; have S8 := Lib.hid (SD.out.pick hI8 hg8); have k8 : w8.cell? ⟨T, 2, none⟩ = some (.slice (some ⟨g, 0, none⟩) 160 c2) := cur_cell S8.out.tb 2; have BT := Lib.hid (curBits b a l cap _ w8 hl (by omega) S8.out.I); have hrN : r < 160 := (by omega); have hrZ : (r : Int) < 160 := (by omega); have hr0 : (0 : Int) ≤ (r : Int) := (by omega); clear hI8 hg8)
              | (go_at_call 89; refine BT.out.mono ?_; rintro e w9 ⟨v, rfl, hv, hI9, hg9⟩; have S9 := Lib.hid (S8.out.pick hI9 hg9); have k9 : w9.cell? ⟨T, 2, none⟩ = some (.slice (some ⟨g, 0, none⟩) 160 c2) := cur_cell S9.out.tb 2; have c1' : w9.cell? ⟨g, r, none⟩ = some ((l2.map uval)[r]'(by have := S9.out.O2.1; simp at this ⊢; omega)) := (by rw [S9.out.O2.cellAt r (by omega), List.getElem?_eq_getElem]); have fr1 := S9.out.O2.frozenAt r; have kA := cell_set (b' := g) (i := r) (u := .int .u64 v) k9 hgT; clear hI9 hg9))
          have F : Hid (PlFin w (w9.setCell ⟨g, r, none⟩ (.int .u64 v)) b T (.int .i64 z) (.slice a1 6 c1) (.slice (some ⟨g, 0, none⟩) 160 c2)) := Lib.hid (S9.out.fin.other (by omega) hgT.symm _)
          clear k7 k8 k9 kA c1' fr1 S9 S8 SD PK BT S7
          generalize w9.setCell ⟨g, r, none⟩ (.int .u64 v) = wE at *
          have t0 : wE.cell? ⟨T, 0, none⟩ = some (.int .i64 z) := cur_cell F.out.tb 0
          have t1 : wE.cell? ⟨T, 1, none⟩ = some (.slice a1 6 c1) := cur_cell F.out.tb 1
          have t2 : wE.cell? ⟨T, 2, none⟩ = some (.slice (some ⟨g, 0, none⟩) 160 c2) := cur_cell F.out.tb 2
          have r0 : wE.cell? ⟨w.heap.size, 0, none⟩ = some (.int .i64 0) := cur_cell F.out.rb 0
          have r1 : wE.cell? ⟨w.heap.size, 1, none⟩ = some (.slice none 0 0) := cur_cell F.out.rb 1
          have r2 : wE.cell? ⟨w.heap.size, 2, none⟩ = some (.slice none 0 0) := cur_cell F.out.rb 2
          have f0 := cur_free F.out.rb 0
          have f1 := cur_free F.out.rb 1
          have f2 := cur_free F.out.rb 2
          have hT0 : w.heap.size < T := F.out.h.1
          have hT1 : ¬ T = w.heap.size := by omega
          have hT2 : ¬ w.heap.size = T := by omega
          go_wp2
          exact bodyPost_ret (v := .agg #[.int .i64 z, .slice a1 6 c1, .slice (some ⟨g, 0, none⟩) 160 c2]) (by simp [results, Try.results62, go_sem, r0, r1, r2]) rfl (F.out.done _ _ _)
        have n0 : ((t : Int) == 0) = false := by simp; omega
        by_cases e1 : t = 1
        · subst e1
          have SD := Lib.hid (S7.out.below (belowN 1))
          have cT7 : w7.cell? ⟨T, 0, none⟩ = some (.int .i64 z) := cur_cell S7.out.tb 0
          have RW := Lib.hid (curRaw b a l cap _ w7.drew hl (by omega) SD.out.I)
          have hwr : IntKind.i64.wrap (z + 1) = z + 1 := by simp [IntKind.wrap, IntKind.bits, IntKind.signed]; omega
          have hTR : w.heap.size < T := S7.out.h.1
          have hTR2 : ¬ T = w.heap.size := by omega
          have hTR3 : ¬ w.heap.size = T := by omega
          go_wp2_with fail
          go_region_law (first
            | (refine step_call (by rfl) 78 #[.pointer (some ⟨b, 0, none⟩)] (by kernel_rfl) _ RW.out ?_; rintro e w8 ⟨y, rfl, hy, hI8, hg8⟩; refine ⟨_, rfl, ?_⟩; have S8 := Lib.hid (SD.out.pick hI8 hg8); have cT8 : w8.cell? ⟨T, 0, none⟩ = some (.int .i64 z) := cur_cell S8.out.tb 0; have hb8 : b < w8.heap.size := hI8.lt; have SB := Lib.hid (S8.out.below (W' := w8.alloc (.cells #[.int .i64 y, .int .i64 (z + 1), .int .i64 64] 3)) ((Below.refl _ _).alloc (Nat.le_refl _) _)); have PA := Lib.hid (curPick b a l cap _ 3 _ hl (by omega) (by omega) S8.out.I); have PB := Lib.hid (curPick b a l cap _ 3 _ hl (by omega) (by omega) SB.out.I); clear hI8 hg8)
            | (refine step_call (by rfl) 59 #[.pointer (some ⟨b, 0, none⟩), .int .i64 3] (by kernel_rfl) _ PB.out ?_; rintro e w9 ⟨r, rfl, hr, hI9, hg9⟩; refine ⟨_, rfl, ?_⟩; obtain ⟨x, hx⟩ := three_at y (z + 1) 64 r hr; have hr3 : r < 3 := (by omega); have hrZ : (r : Int) < 3 := (by omega); have hr0 : (0 : Int) ≤ (r : Int) := (by omega); have hq : w9.cell? ⟨w8.heap.size, r, none⟩ = some (.int .i64 x) := hg9.cell ((lit_new w8 #[.int .i64 y, .int .i64 (z + 1), .int .i64 64] 3 r).trans hx) (by simp; omega); have S9 := SB.out.pick hI9 hg9; have t0 : w9.cell? ⟨T, 0, none⟩ = some (.int .i64 z) := cur_cell S9.tb 0; have t1 : w9.cell? ⟨T, 1, none⟩ = some (.slice a1 6 c1) := cur_cell S9.tb 1; have t2 : w9.cell? ⟨T, 2, none⟩ = some (.slice a2 160 c2) := cur_cell S9.tb 2; have r0 : w9.cell? ⟨w.heap.size, 0, none⟩ = some (.int .i64 0) := cur_cell S9.rb 0; have r1 : w9.cell? ⟨w.heap.size, 1, none⟩ = some (.slice none 0 0) := cur_cell S9.rb 1; have r2 : w9.cell? ⟨w.heap.size, 2, none⟩ = some (.slice none 0 0) := cur_cell S9.rb 2; have f0 := cur_free S9.rb 0; have f1 := cur_free S9.rb 1; have f2 := cur_free S9.rb 2; have fT := cur_free S9.tb 0; have F := Lib.hid (S9.fin.set0 (.int .i64 x)); clear hI9 hg9 hx S9)
            | (refine step_call (by rfl) 59 #[.pointer (some ⟨b, 0, none⟩), .int .i64 3] (by kernel_rfl) _ PA.out ?_; rintro e w9 ⟨r, rfl, hr, hI9, hg9⟩; refine ⟨_, rfl, ?_⟩; obtain ⟨x, hx⟩ := three_at y (z + 1) 64 r hr; have hr3 : r < 3 := (by omega); have hrZ : (r : Int) < 3 := (by omega); have hr0 : (0 : Int) ≤ (r : Int) := (by omega); have hq : (w9.alloc (.cells #[.int .i64 y, .int .i64 (z + 1), .int .i64 64] 3)).cell? ⟨w9.heap.size, r, none⟩ = some (.int .i64 x) := (lit_new w9 #[.int .i64 y, .int .i64 (z + 1), .int .i64 64] 3 r).trans hx; have S9' := S8.out.pick hI9 hg9; have cT9 : w9.cell? ⟨T, 0, none⟩ = some (.int .i64 z) := cur_cell S9'.tb 0; have S9 := S9'.below (W' := (w9.alloc (.cells #[.int .i64 y, .int .i64 (z + 1), .int .i64 64] 3))) ((Below.refl _ _).alloc (Nat.le_refl _) _); have t0 : (w9.alloc (.cells #[.int .i64 y, .int .i64 (z + 1), .int .i64 64] 3)).cell? ⟨T, 0, none⟩ = some (.int .i64 z) := cur_cell S9.tb 0; have t1 : (w9.alloc (.cells #[.int .i64 y, .int .i64 (z + 1), .int .i64 64] 3)).cell? ⟨T, 1, none⟩ = some (.slice a1 6 c1) := cur_cell S9.tb 1; have t2 : (w9.alloc (.cells #[.int .i64 y, .int .i64 (z + 1), .int .i64 64] 3)).cell? ⟨T, 2, none⟩ = some (.slice a2 160 c2) := cur_cell S9.tb 2; have r0 : (w9.alloc (.cells #[.int .i64 y, .int .i64 (z + 1), .int .i64 64] 3)).cell? ⟨w.heap.size, 0, none⟩ = some (.int .i64 0) := cur_cell S9.rb 0; have r1 : (w9.alloc (.cells #[.int .i64 y, .int .i64 (z + 1), .int .i64 64] 3)).cell? ⟨w.heap.size, 1, none⟩ = some (.slice none 0 0) := cur_cell S9.rb 1; have r2 : (w9.alloc (.cells #[.int .i64 y, .int .i64 (z + 1), .int .i64 64] 3)).cell? ⟨w.heap.size, 2, none⟩ = some (.slice none 0 0) := cur_cell S9.rb 2; have f0 := cur_free S9.rb 0; have f1 := cur_free S9.rb 1; have f2 := cur_free S9.rb 2; have fT := cur_free S9.tb 0; have F := Lib.hid (S9.fin.set0 (.int .i64 x)); clear hI9 hg9 hx S9 S9'))
          all_goals
            clear hq
            go_wp2
            exact bodyPost_ret (v := .agg #[.int .i64 x, .slice a1 6 c1, .slice a2 160 c2]) (by simp [results, Try.results62, go_sem, r0, r1, r2]) rfl (F.out.done _ _ _)
        have n1 : ((t : Int) == 1) = false := by simp; omega
        by_cases e2 : t = 2
        · subst e2
          have cT7 : w7.cell? ⟨T, 1, none⟩ = some (.slice a1 6 c1) := cur_cell S7.out.tb 1
          have s7 : w.heap.size + 1 ≤ w7.heap.size := cur_lt S7.out.rb
          have hTR : w.heap.size < T := S7.out.h.1
          have hTR2 : ¬ T = w.heap.size := by omega
          have hTR3 : ¬ w.heap.size = T := by omega
          go_wp2_with (at_builtin; go_must (refine wp_app_row rfl _ _ 26 rfl 43 (.int .u64 0) 8 Try.underlying26 Try.infoU64 rfl (w.heap.size + 1) 6 (.slice a1 6 c1) (l1.map uval) (by rfl) (S7.out.O1.alloc _) (some ⟨w7.heap.size, 0, none⟩) 1 1 [.int .u64 0] (by rfl) rfl (row_one w7 (.int .u64 0) 43) (by simp [Value.oneCell']) (by unfold maxLen; omega) (by omega) (by simp; omega) ?_); intro v8 w8 ho8 hg8; have LW := app_low s7 S7.out.O1 _ hg8; have I8 := Lib.hid (S7.out.I.low LW (by omega)); have F8 : Hid (PlFin w w8 b T (.int .i64 z) (.slice a1 6 c1) (.slice a2 160 c2)) := Lib.hid ⟨kept_grown (kept_grown S7.out.tb (World.grownBy_alloc w7 _ none) (by simp)) hg8 (own_other S7.out.O1 S7.out.tb (by decide)), (LW.block w.heap.size (by omega)).trans S7.out.rb, S7.out.h, grown_low S7.out.G (LW.mono (by omega))⟩; obtain ⟨a8, c8, rfl⟩ := own_shape ho8; obtain ⟨g8, rfl, _⟩ := own_some ho8 (by omega); have hc8 : 7 ≤ c8 := own_cap ho8; clear ho8 hg8 LW)
          refine (curPick b a l cap _ 2 _ hl (by omega) (by omega) I8.out).mono ?_
          rintro e w9 ⟨r, rfl, hr, hI9, hg9⟩
          have F9 : Hid (PlFin w w9 b T (.int .i64 z) (.slice a1 6 c1) (.slice a2 160 c2)) := Lib.hid ⟨kept_grown F8.out.tb hg9 (by simp; omega), kept_grown F8.out.rb hg9 (by simp; omega), F8.out.h, grown_trans F8.out.G hg9⟩
          clear hI9 hg9 F8 I8 S7 cT7
          rcases (show r = 0 ∨ r = 1 from by omega) with rfl | rfl
          · have t1 : w9.cell? ⟨T, 1, none⟩ = some (.slice a1 6 c1) := cur_cell F9.out.tb 1
            have fT := cur_free F9.out.tb 1
            have F := Lib.hid (F9.out.set1 (.slice (some ⟨g8, 0, none⟩) 7 c8))
            have t0 : w9.cell? ⟨T, 0, none⟩ = some (.int .i64 z) := cur_cell F9.out.tb 0
            have t2 : w9.cell? ⟨T, 2, none⟩ = some (.slice a2 160 c2) := cur_cell F9.out.tb 2
            have r0 : w9.cell? ⟨w.heap.size, 0, none⟩ = some (.int .i64 0) := cur_cell F9.out.rb 0
            have r1 : w9.cell? ⟨w.heap.size, 1, none⟩ = some (.slice none 0 0) := cur_cell F9.out.rb 1
            have r2 : w9.cell? ⟨w.heap.size, 2, none⟩ = some (.slice none 0 0) := cur_cell F9.out.rb 2
            have f0 := cur_free F9.out.rb 0
            have f1 := cur_free F9.out.rb 1
            have f2 := cur_free F9.out.rb 2
            clear F9
            go_wp2
            exact bodyPost_ret (v := .agg #[.int .i64 z, .slice (some ⟨g8, 0, none⟩) 7 c8, .slice a2 160 c2]) (by simp [results, Try.results62, go_sem, r0, r1, r2]) rfl (F.out.done _ _ _)
          · have t1 : w9.cell? ⟨T, 1, none⟩ = some (.slice a1 6 c1) := cur_cell F9.out.tb 1
            have fT := cur_free F9.out.tb 1
            have F := Lib.hid (F9.out.set1 (.slice (some ⟨g8, 1, none⟩) 6 (c8 - 1)))
            have t0 : w9.cell? ⟨T, 0, none⟩ = some (.int .i64 z) := cur_cell F9.out.tb 0
            have t2 : w9.cell? ⟨T, 2, none⟩ = some (.slice a2 160 c2) := cur_cell F9.out.tb 2
            have r0 : w9.cell? ⟨w.heap.size, 0, none⟩ = some (.int .i64 0) := cur_cell F9.out.rb 0
            have r1 : w9.cell? ⟨w.heap.size, 1, none⟩ = some (.slice none 0 0) := cur_cell F9.out.rb 1
            have r2 : w9.cell? ⟨w.heap.size, 2, none⟩ = some (.slice none 0 0) := cur_cell F9.out.rb 2
            have f0 := cur_free F9.out.rb 0
            have f1 := cur_free F9.out.rb 1
            have f2 := cur_free F9.out.rb 2
            clear F9
            go_wp2
            exact bodyPost_ret (v := .agg #[.int .i64 z, .slice (some ⟨g8, 1, none⟩) 6 (c8 - 1), .slice a2 160 c2]) (by simp [results, Try.results62, go_sem, r0, r1, r2]) rfl (F.out.done _ _ _)
        have n2 : ((t : Int) == 2) = false := by simp; omega
        by_cases e3 : t = 3
        · subst e3
          obtain ⟨g, rfl, hg⟩ := own_some S7.out.O1 (by omega)
          have SD := Lib.hid (S7.out.below (belowN 1))
          have PK := Lib.hid (curPick b a l cap _ 6 w7.drew hl (by omega) (by omega) SD.out.I)
          have k7 : w7.drew.cell? ⟨T, 1, none⟩ = some (.slice (some ⟨g, 0, none⟩) 6 c1) := cur_cell SD.out.tb 1
          have hgT : T ≠ g := fun e => own_other S7.out.O1 S7.out.tb (by decide) (by rw [e]; rfl)
          go_wp2_with fail
          go_region_held3 (fun w' => w'.cell? ⟨T, 1, none⟩ = some (.slice (some ⟨g, 0, none⟩) 6 c1))
            (first | exact k7 | exact k8 | exact k9 | exact kA)
            (first
              | (go_at_call 59; refine PK.out.mono ?_; rintro e w8 ⟨r, rfl, hr, hI8, hg8⟩; have S8 := Lib.hid (SD.out.pick hI8 hg8); have k8 : w8.cell? ⟨T, 1, none⟩ = some (.slice (some ⟨g, 0, none⟩) 6 c1) := cur_cell S8.out.tb 1; have BT := Lib.hid (curBits b a l cap _ w8 hl (by omega) S8.out.I); have hrN : r < 6 := (by omega); have hrZ : (r : Int) < 6 := (by omega); have hr0 : (0 : Int) ≤ (r : Int) := (by omega); clear hI8 hg8)
              | (go_at_call 89; refine BT.out.mono ?_; rintro e w9 ⟨v, rfl, hv, hI9, hg9⟩; have S9 := Lib.hid (S8.out.pick hI9 hg9); have k9 : w9.cell? ⟨T, 1, none⟩ = some (.slice (some ⟨g, 0, none⟩) 6 c1) := cur_cell S9.out.tb 1; have c1' : w9.cell? ⟨g, r, none⟩ = some ((l1.map uval)[r]'(by have := S9.out.O1.1; simp at this ⊢; omega)) := (by rw [S9.out.O1.cellAt r (by omega), List.getElem?_eq_getElem]); have fr1 := S9.out.O1.frozenAt r; have kA := cell_set (b' := g) (i := r) (u := .int .u64 v) k9 hgT; clear hI9 hg9))
          have F : Hid (PlFin w (w9.setCell ⟨g, r, none⟩ (.int .u64 v)) b T (.int .i64 z) (.slice (some ⟨g, 0, none⟩) 6 c1) (.slice a2 160 c2)) := Lib.hid (S9.out.fin.other (by omega) hgT.symm _)
          clear k7 k8 k9 kA c1' fr1 S9 S8 SD PK BT S7
          generalize w9.setCell ⟨g, r, none⟩ (.int .u64 v) = wE at *
          have t0 : wE.cell? ⟨T, 0, none⟩ = some (.int .i64 z) := cur_cell F.out.tb 0
          have t1 : wE.cell? ⟨T, 1, none⟩ = some (.slice (some ⟨g, 0, none⟩) 6 c1) := cur_cell F.out.tb 1
          have t2 : wE.cell? ⟨T, 2, none⟩ = some (.slice a2 160 c2) := cur_cell F.out.tb 2
          have r0 : wE.cell? ⟨w.heap.size, 0, none⟩ = some (.int .i64 0) := cur_cell F.out.rb 0
          have r1 : wE.cell? ⟨w.heap.size, 1, none⟩ = some (.slice none 0 0) := cur_cell F.out.rb 1
          have r2 : wE.cell? ⟨w.heap.size, 2, none⟩ = some (.slice none 0 0) := cur_cell F.out.rb 2
          have f0 := cur_free F.out.rb 0
          have f1 := cur_free F.out.rb 1
          have f2 := cur_free F.out.rb 2
          have hT0 : w.heap.size < T := F.out.h.1
          have hT1 : ¬ T = w.heap.size := by omega
          have hT2 : ¬ w.heap.size = T := by omega
          go_wp2
          exact bodyPost_ret (v := .agg #[.int .i64 z, .slice (some ⟨g, 0, none⟩) 6 c1, .slice a2 160 c2]) (by simp [results, Try.results62, go_sem, r0, r1, r2]) rfl (F.out.done _ _ _)
        have n3 : ((t : Int) == 3) = false := by simp; omega
        have F := Lib.hid S7.out.fin
        clear S7
        have t0 : w7.cell? ⟨T, 0, none⟩ = some (.int .i64 z) := cur_cell F.out.tb 0
        have t1 : w7.cell? ⟨T, 1, none⟩ = some (.slice a1 6 c1) := cur_cell F.out.tb 1
        have t2 : w7.cell? ⟨T, 2, none⟩ = some (.slice a2 160 c2) := cur_cell F.out.tb 2
        have r0 : w7.cell? ⟨w.heap.size, 0, none⟩ = some (.int .i64 0) := cur_cell F.out.rb 0
        have r1 : w7.cell? ⟨w.heap.size, 1, none⟩ = some (.slice none 0 0) := cur_cell F.out.rb 1
        have r2 : w7.cell? ⟨w.heap.size, 2, none⟩ = some (.slice none 0 0) := cur_cell F.out.rb 2
        have f0 := cur_free F.out.rb 0
        have f1 := cur_free F.out.rb 1
        have f2 := cur_free F.out.rb 2
        have hT0 : w.heap.size < T := F.out.h.1
        have hT1 : ¬ T = w.heap.size := by omega
        have hT2 : ¬ w.heap.size = T := by omega
        go_wp2
        exact bodyPost_ret (v := .agg #[.int .i64 z, .slice a1 6 c1, .slice a2 160 c2]) (by simp [results, Try.results62, go_sem, r0, r1, r2]) rfl (F.out.done _ _ _)
end Go.Proofs.Ytfdlmpjccoaejaa
