/- Nets drawn for the laws: DrawNetJoin, DrawNetSorts. -/
import Derived.Test.YtkifndcfmmdkpaaNdB
namespace Go.Proofs.Ytkifndcfmmdkpaa
open Go.RowKit
set_option linter.unusedVariables false
set_option maxRecDepth 100000

/-- A net in a box T, its wires in memory made behind the cursor's block b. -/
structure NBox (W : World) (b T : Nat) (z : Int) (ad : Option Addr) (q c : Nat) (ws : List WireM) : Prop where
  tb : W.heap[T]? = some (.cells #[.int .i64 z, .slice ad q c] 26 (0, 0))
  O : W.ownsRow (b + 1) 63 2 (.slice ad q c) q (flatW ws)
  len : ws.length = q
  lt : b < T
section
variable {W W' : World} {b T : Nat} {z : Int} {ad : Option Addr} {q c : Nat} {ws : List WireM}
theorem NBox.pick (s : NBox W b T z ad q c ws) (hg : W.grownBy W' (some b)) : NBox W' b T z ad q c ws := by
  have := s.lt
  exact ⟨kept_grown s.tb hg (by simp; omega), s.O.kept hg (own_apart s.O (by omega)), s.len, s.lt⟩
theorem NBox.below (s : NBox W b T z ad q c ws) (hb : Below W.heap.size W W') : NBox W' b T z ad q c ws := ⟨kept_block s.tb hb, own_below s.O hb, s.len, s.lt⟩
theorem NBox.new {B : Nat} (hO : W.ownsRow B 63 2 (.slice ad q c) q (flatW ws)) (hB : b + 1 ≤ B) (hl : ws.length = q) (hb : b < W.heap.size) : NBox (W.alloc (.cells #[.int .i64 z, .slice ad q c] 26)) b W.heap.size z ad q c ws :=
  ⟨alloc_at _ _ _ rfl, own_base (own_below hO (below_box (Below.refl _ W) _)) hB, hl, hb⟩
theorem NBox.other (s : NBox W b T z ad q c ws) {R k : Nat} (h : R ≠ T) (hR : R ≤ b) (u : Value) : NBox (W.setCell ⟨R, k, none⟩ u) b T z ad q c ws := by
  exact ⟨(Below.heap_setCell W _ _ _ (by simpa using h.symm)).trans s.tb, s.O.kept (set_grown W R k u) (own_apart s.O (by omega)), s.len, s.lt⟩
/-- A store into another net's box. -/
theorem NBox.aside {T2 : Nat} {z2 : Int} {ad2 : Option Addr} {q2 c2 : Nat} {ws2 : List WireM} (s : NBox W b T z ad q c ws) (s2 : NBox W b T2 z2 ad2 q2 c2 ws2) (h : T2 ≠ T) (k : Nat) (u : Value) : NBox (W.setCell ⟨T2, k, none⟩ u) b T z ad q c ws :=
  ⟨(Below.heap_setCell W _ _ _ (by simpa using h.symm)).trans s.tb, s.O.kept (set_grown W T2 k u) (.inr (own_other s.O s2.tb (by decide))), s.len, s.lt⟩
theorem NBox.set0 (s : NBox W b T z ad q c ws) (y : Int) : NBox (W.setCell ⟨T, 0, none⟩ (.int .i64 y)) b T y ad q c ws :=
  ⟨cur_set s.tb 0 _, s.O.kept (set_grown W T 0 _) (.inr (own_other s.O s.tb (by decide))), s.len, s.lt⟩
theorem NBox.set1 (s : NBox W b T z ad q c ws) {ad' : Option Addr} {q' c' : Nat} {ws' : List WireM} (hO : W.ownsRow (b + 1) 63 2 (.slice ad' q' c') q' (flatW ws')) (hl : ws'.length = q') : NBox (W.setCell ⟨T, 1, none⟩ (.slice ad' q' c')) b T z ad' q' c' ws' :=
  ⟨cur_set s.tb 1 _, hO.kept (set_grown W T 1 _) (.inr (own_other hO s.tb (by decide))), hl, s.lt⟩
theorem NBox.chg {lo hi : Nat} (s : NBox W b T z ad q c ws) (C : Chg lo hi W W') (h : hi ≤ b + 1) : NBox W' b T z ad q c ws := by
  have := s.lt
  exact ⟨(C.block T (cur_lt s.tb) (by omega)).trans s.tb, ((lies_made s.O).chg C (.inr h)).now, s.len, s.lt⟩
theorem NBox.give (s : NBox W b T z ad q c ws) : NetIn [.int .i64 z, .slice ad q c] ⟨z, ws⟩ W := by
  refine ⟨_, rfl, ?_⟩
  obtain ⟨h1, h2, h3, h4⟩ := s
  subst h3
  exact (WireSOwn.mk h2).read
end
def zeroNet : Obj := .cells #[.int .i64 0, .slice none 0 0] 26
/-- Behind the opening of the cursor and drawings: all that lay lies on but the cursor's block, which is new. -/
structure Drew (w W : World) (b : Nat) (a : Option Addr) (l : List UInt8) (cap m : Nat) : Prop where
  I : CurI W b a l cap m
  B : Below w.heap.size w W
  lo : w.heap.size ≤ b
section
variable {w W W' : World} {b : Nat} {a : Option Addr} {l : List UInt8} {cap m m' : Nat}
theorem Drew.pick (s : Drew w W b a l cap m) (hI : CurI W' b a l cap m') (hg : W.grownBy W' (some b)) : Drew w W' b a l cap m' := ⟨hI, below_write s.B hg s.lo, s.lo⟩
theorem Drew.below (s : Drew w W b a l cap m) (hb : Below W.heap.size W W') : Drew w W' b a l cap m := ⟨s.I.below hb, below_seq s.B hb, s.lo⟩
theorem Drew.set (s : Drew w W b a l cap m) {R k : Nat} (h : b < R) (u : Value) : Drew w (W.setCell ⟨R, k, none⟩ u) b a l cap m := by
  have BB : Below R W (W.setCell ⟨R, k, none⟩ u) := (Below.refl _ W).setCell (p := ⟨R, k, none⟩) (Nat.le_refl _) _
  exact ⟨s.I.low BB h, s.B.trans (BB.mono (by have := s.lo; omega)), s.lo⟩
theorem Drew.more (s : Drew w W b a l cap m) (hm : m ≤ m') : Drew w W b a l cap m' := ⟨s.I.more hm, s.B, s.lo⟩
end
def DrawnTwo (w : World) (e : Ending) (w' : World) : Prop :=
  ∃ (x y : NetM) (a1 : Option Addr) (k1 : Nat) (a2 : Option Addr) (k2 : Nat), e = .returned (.tuple #[.agg #[.int .i64 x.n, .slice a1 x.ws.length k1], .agg #[.int .i64 y.n, .slice a2 y.ws.length k2]]) ∧ NetIn [.int .i64 x.n, .slice a1 x.ws.length k1] x w' ∧ NetIn [.int .i64 y.n, .slice a2 y.ws.length k2] y w' ∧ (x.ws.length ≤ 2200 ∧ y.ws.length ≤ 2200) ∧ (i64Lo ≤ x.n ∧ x.n ≤ i64Hi) ∧ (i64Lo ≤ y.n ∧ y.n ≤ i64Hi) ∧ Below w.heap.size w w'
def DrawnOne (w : World) (e : Ending) (w' : World) : Prop :=
  ∃ (x : NetM) (a1 : Option Addr) (k1 : Nat), e = .returned (.agg #[.int .i64 x.n, .slice a1 x.ws.length k1]) ∧ NetIn [.int .i64 x.n, .slice a1 x.ws.length k1] x w' ∧ x.ws.length ≤ 2200 ∧ (i64Lo ≤ x.n ∧ x.n ≤ i64Hi) ∧ Below w.heap.size w w'
theorem two_give {w W W' : World} {b TA TB : Nat} {a : Option Addr} {l : List UInt8} {cap m : Nat} {zx zy : Int} {ax ay : Option Addr} {qx kx qy ky : Nat} {wx wy : List WireM} (hD : Drew w W b a l cap m) (hX : NBox W b TA zx ax qx kx wx) (hN : NBox W b TB zy ay qy ky wy)
    (h1 : qx ≤ 2200) (h2 : qy ≤ 2200) (h3 : i64Lo ≤ zx ∧ zx ≤ i64Hi) (h4 : i64Lo ≤ zy ∧ zy ≤ i64Hi) (hb : w.heap.size + 1 < b) (C : Chg w.heap.size (w.heap.size + 2) W W') : DrawnTwo w (.returned (.tuple #[.agg #[.int .i64 zx, .slice ax qx kx], .agg #[.int .i64 zy, .slice ay qy ky]])) W' := by
  have X := hX.chg C (by omega)
  have N := hN.chg C (by omega)
  have e1 := X.len
  have e2 := N.len
  subst e1 e2
  exact ⟨⟨zx, wx⟩, ⟨zy, wy⟩, ax, kx, ay, ky, rfl, X.give, N.give, ⟨h1, h2⟩, h3, h4, Chg.below hD.B C (Nat.le_refl _)⟩
theorem chg_set {lo hi : Nat} {W W' : World} (C : Chg lo hi W W') {R : Nat} (h1 : lo ≤ R) (h2 : R < hi) (k : Nat) (u : Value) : Chg lo hi W (W'.setCell ⟨R, k, none⟩ u) :=
  C.trans (Chg.of_grown (set_grown W' R k u) (fun j hj => by cases hj; exact ⟨h1, h2⟩))
set_option maxHeartbeats 4000000 in
theorem drawTwo (a : Option Addr) (l : List UInt8) (cap : Nat) (w : World) (hl : l.length ≤ 1048576) (r : Row w a (l.map bval)) : Calls Try.prog 29 #[.slice a l.length cap] w (DrawnTwo w) := by
  obtain ⟨w0, hw0⟩ : ∃ w0, w0 = (w.alloc (.cells #[.int .i64 0, .slice none 0 0] 26)).alloc (.cells #[.int .i64 0, .slice none 0 0] 26) := ⟨_, rfl⟩
  have B0 : Below w.heap.size w w0 := by rw [hw0]; exact below_box (below_box (Below.refl _ w) _) _
  have z0 : w0.heap[w.heap.size]? = some (.cells #[.int .i64 0, .slice none 0 0] 26 (0, 0)) := by rw [hw0]; exact (alloc_old _ _ _ (by simp)).trans (alloc_at _ _ _ rfl)
  have z1 : w0.heap[w.heap.size + 1]? = some (.cells #[.int .i64 0, .slice none 0 0] 26 (0, 0)) := by rw [hw0]; exact alloc_at _ _ _ (by simp)
  have Z0 := Lib.hid z0
  have Z1 := Lib.hid z1
  have BB := Lib.hid B0
  have R0 := Lib.hid (r.below B0)
  clear r B0 z0 z1
  go_enter Try.func29, Try.ntmps29
  go_wp2_with fail
  rw [← hw0]
  clear hw0
  refine (curOpen a l cap w0 hl R0.out).mono ?_
  rintro e w1 ⟨rfl, hI, hb⟩
  have D1 := Lib.hid (Drew.mk hI (below_seq BB.out hb) BB.out.size)
  have Y0 := Lib.hid (kept_block Z0.out hb)
  have Y1 := Lib.hid (kept_block Z1.out hb)
  have hbR : w.heap.size + 1 < w0.heap.size := cur_lt Z1.out
  clear hI hb Z0 Z1 BB R0
  generalize w0.heap.size = b at *
  go_wp2_with fail
  refine (curBadNet b a l cap 0 _ hl (by omega) D1.out.I).mono ?_
  rintro e w2 ⟨zx, ax, qx, kx, wx, rfl, hO, hlen, hKx, hzx, hI, hg⟩
  have D2 := Lib.hid ((D1.out.pick hI hg).below (below_box (Below.refl _ _) (.cells #[.int .i64 zx, .slice ax qx kx] 26)))
  have X2 := Lib.hid (NBox.new (z := zx) hO (by have := D1.out.I.lt; omega) hlen hI.lt)
  have V0 := Lib.hid (kept_block (kept_grown Y0.out hg (by simp; omega)) (below_box (Below.refl _ _) (.cells #[.int .i64 zx, .slice ax qx kx] 26)))
  have V1 := Lib.hid (kept_block (kept_grown Y1.out hg (by simp; omega)) (below_box (Below.refl _ _) (.cells #[.int .i64 zx, .slice ax qx kx] 26)))
  clear hI hg hO hlen Y0 Y1 D1
  go_wp2_with fail
  refine (curBadNet b a l cap _ _ hl (by omega) D2.out.I).mono ?_
  rintro e w3 ⟨zy, ay, qy, ky, wy, rfl, hO, hlen, hKy, hzy, hI, hg⟩
  have D3 := Lib.hid ((D2.out.pick hI hg).below (below_box (Below.refl _ _) (.cells #[.int .i64 zy, .slice ay qy ky] 26)))
  have X3 := Lib.hid ((X2.out.pick hg).below (below_box (Below.refl _ _) (.cells #[.int .i64 zy, .slice ay qy ky] 26)))
  have N3 := Lib.hid (NBox.new (z := zy) hO (by have := D2.out.I.lt; omega) hlen hI.lt)
  have U0 := Lib.hid (kept_block (kept_grown V0.out hg (by simp; omega)) (below_box (Below.refl _ _) (.cells #[.int .i64 zy, .slice ay qy ky] 26)))
  have U1 := Lib.hid (kept_block (kept_grown V1.out hg (by simp; omega)) (below_box (Below.refl _ _) (.cells #[.int .i64 zy, .slice ay qy ky] 26)))
  have hTT : w2.heap.size < w3.heap.size := by have := hg.size; simp at this; omega
  clear hI hg hO hlen V0 V1 D2 X2
  go_wp2_with fail
  refine (curOnce b a l cap _ 2 _ hl (by omega) (by omega) D3.out.I).mono ?_
  rintro e w4 ⟨f, rfl, hI, hg⟩
  have D4 := Lib.hid (D3.out.pick hI hg)
  have X4 := Lib.hid (X3.out.pick hg)
  have N4 := Lib.hid (N3.out.pick hg)
  have t0 := kept_grown U0.out hg (by simp; omega)
  have t1 := kept_grown U1.out hg (by simp; omega)
  clear hI hg U0 U1 D3 X3 N3
  generalize w2.heap.size = TA at *
  generalize w3.heap.size = TB at *
  go_upto_if 14 with fail
  go_cut [] (fun wz => ∃ zb : Int, (i64Lo ≤ zb ∧ zb ≤ i64Hi) ∧ Hid (Drew w wz b a l cap (0 + 4000 + 4000 + 1) ∧ NBox wz b TA zx ax qx kx wx ∧ NBox wz b TB zb ay qy ky wy ∧ wz.heap[w.heap.size]? = some (.cells #[.int .i64 0, .slice none 0 0] 26 (0, 0)) ∧ wz.heap[w.heap.size + 1]? = some (.cells #[.int .i64 0, .slice none 0 0] 26 (0, 0))))
  case first =>
    have U := Lib.hid (And.intro t0 t1)
    have a0 : w4.cell? ⟨TA, 0, none⟩ = some (.int .i64 zx) := cur_cell X4.out.tb 0
    have b0 : w4.cell? ⟨TB, 0, none⟩ = some (.int .i64 zy) := cur_cell N4.out.tb 0
    have fb := cur_free N4.out.tb 0
    clear t0 t1
    cases f
    · go_wp2_with fail
      go_meet
      case rel => exact ⟨_, hzy, Lib.hid ⟨D4.out, X4.out, N4.out, U.out.1, U.out.2⟩⟩
    · have lt := N4.out.lt
      have S := Lib.hid (And.intro (D4.out.set (k := 0) N4.out.lt (.int .i64 zx)) (And.intro (X4.out.aside N4.out (by omega) 0 (.int .i64 zx)) (N4.out.set0 zx)))
      have u0 := Lib.hid ((Below.heap_setCell w4 ⟨TB, 0, none⟩ (.int .i64 zx) w.heap.size (by simp; omega)).trans U.out.1)
      have u1 := Lib.hid ((Below.heap_setCell w4 ⟨TB, 0, none⟩ (.int .i64 zx) (w.heap.size + 1) (by simp; omega)).trans U.out.2)
      go_wp2_with fail
      go_meet
      case rel => exact ⟨_, hzx, Lib.hid ⟨S.out.1, S.out.2.1, S.out.2.2, u0.out, u1.out⟩⟩
  case rest =>
    clear t0 t1 D4 X4 N4
    obtain ⟨zb, hzb, H⟩ := hcut
    obtain ⟨hD, hX, hN, h0, h1⟩ := H.out
    have a0 : wc.cell? ⟨TA, 0, none⟩ = some (.int .i64 zx) := cur_cell hX.tb 0
    have a1 : wc.cell? ⟨TA, 1, none⟩ = some (.slice ax qx kx) := cur_cell hX.tb 1
    have b0 : wc.cell? ⟨TB, 0, none⟩ = some (.int .i64 zb) := cur_cell hN.tb 0
    have b1 : wc.cell? ⟨TB, 1, none⟩ = some (.slice ay qy ky) := cur_cell hN.tb 1
    have r00 : wc.cell? ⟨w.heap.size, 0, none⟩ = some (.int .i64 0) := cur_cell h0 0
    have r01 : wc.cell? ⟨w.heap.size, 1, none⟩ = some (.slice none 0 0) := cur_cell h0 1
    have r10 : wc.cell? ⟨w.heap.size + 1, 0, none⟩ = some (.int .i64 0) := cur_cell h1 0
    have r11 : wc.cell? ⟨w.heap.size + 1, 1, none⟩ = some (.slice none 0 0) := cur_cell h1 1
    have f00 := cur_free h0 0
    have f01 := cur_free h0 1
    have f10 := cur_free h1 0
    have f11 := cur_free h1 1
    have lA := hX.lt
    have lB := hN.lt
    have n1 : ¬ TA = w.heap.size := by omega
    have n2 : ¬ TA = w.heap.size + 1 := by omega
    have n3 : ¬ TB = w.heap.size := by omega
    have n4 : ¬ TB = w.heap.size + 1 := by omega
    have GV := Lib.hid (fun W' (C : Chg w.heap.size (w.heap.size + 2) wc W') => two_give hD hX hN hKx hKy hzx hzb hbR C)
    clear hD hX hN h0 h1
    go_wp2_with fail
    go_region
    go_wp2
    exact bodyPost_ret (v := .tuple #[.agg #[.int .i64 zx, .slice ax qx kx], .agg #[.int .i64 zb, .slice ay qy ky]]) (by simp [results, Try.results29, go_sem, r00, r01, r10, r11]) rfl (GV.out _ ((chg_set (chg_set (chg_set (chg_set (Chg.refl _ _ wc) (Nat.le_refl _) (by omega) 0 _) (Nat.le_refl _) (by omega) 1 _) (by omega) (by omega) 0 _) (by omega) (by omega) 1 _).trans (Chg.of_below (belowN 1))))
theorem one_give {w W W' : World} {b TA : Nat} {a : Option Addr} {l : List UInt8} {cap m : Nat} {zx : Int} {ax : Option Addr} {qx kx : Nat} {wx : List WireM} (hD : Drew w W b a l cap m) (hX : NBox W b TA zx ax qx kx wx)
    (h1 : qx ≤ 2200) (h3 : i64Lo ≤ zx ∧ zx ≤ i64Hi) (hb : w.heap.size < b) (C : Chg w.heap.size (w.heap.size + 1) W W') : DrawnOne w (.returned (.agg #[.int .i64 zx, .slice ax qx kx])) W' := by
  have X := hX.chg C (by omega)
  have e1 := X.len
  subst e1
  exact ⟨⟨zx, wx⟩, ax, kx, rfl, X.give, h1, h3, Chg.below hD.B C (Nat.le_refl _)⟩
set_option maxHeartbeats 4000000 in
theorem drawOne (a : Option Addr) (l : List UInt8) (cap : Nat) (w : World) (hl : l.length ≤ 1048576) (r : Row w a (l.map bval)) : Calls Try.prog 16 #[.slice a l.length cap] w (DrawnOne w) := by
  obtain ⟨w0, hw0⟩ : ∃ w0, w0 = w.alloc (.cells #[.int .i64 0, .slice none 0 0] 26) := ⟨_, rfl⟩
  have B0 : Below w.heap.size w w0 := by rw [hw0]; exact below_box (Below.refl _ w) _
  have z0 : w0.heap[w.heap.size]? = some (.cells #[.int .i64 0, .slice none 0 0] 26 (0, 0)) := by rw [hw0]; exact alloc_at _ _ _ rfl
  have Z0 := Lib.hid z0
  have BB := Lib.hid B0
  have R0 := Lib.hid (r.below B0)
  clear r B0 z0
  go_enter Try.func16, Try.ntmps16
  go_wp2_with fail
  rw [← hw0]
  clear hw0
  refine (curOpen a l cap w0 hl R0.out).mono ?_
  rintro e w1 ⟨rfl, hI, hb⟩
  have D1 := Lib.hid (Drew.mk hI (below_seq BB.out hb) BB.out.size)
  have Y0 := Lib.hid (kept_block Z0.out hb)
  have hbR : w.heap.size < w0.heap.size := cur_lt Z0.out
  clear hI hb Z0 BB R0
  generalize w0.heap.size = b at *
  go_wp2_with fail
  refine (curBadNet b a l cap 0 _ hl (by omega) D1.out.I).mono ?_
  rintro e w2 ⟨zx, ax, qx, kx, wx, rfl, hO, hlen, hKx, hzx, hI, hg⟩
  have D2 := Lib.hid ((D1.out.pick hI hg).below (below_box (Below.refl _ _) (.cells #[.int .i64 zx, .slice ax qx kx] 26)))
  have X2 := Lib.hid (NBox.new (z := zx) hO (by have := D1.out.I.lt; omega) hlen hI.lt)
  have V0 := Lib.hid (kept_block (kept_grown Y0.out hg (by simp; omega)) (below_box (Below.refl _ _) (.cells #[.int .i64 zx, .slice ax qx kx] 26)))
  clear hI hg hO hlen Y0 D1
  go_wp2_with fail
  refine (curOnce b a l cap _ 12 _ hl (by omega) (by omega) D2.out.I).mono ?_
  rintro e w4 ⟨f, rfl, hI, hg⟩
  have D4 := Lib.hid (D2.out.pick hI hg)
  have X4 := Lib.hid (X2.out.pick hg)
  have U4 := Lib.hid (kept_grown V0.out hg (by simp; omega))
  clear hI hg V0 D2 X2
  generalize w2.heap.size = TA at *
  go_upto_if 10 with fail
  go_cut [] (fun wz => ∃ (zb : Int) (ab : Option Addr) (qb kb : Nat) (wb : List WireM), qb ≤ 2200 ∧ (i64Lo ≤ zb ∧ zb ≤ i64Hi) ∧ Hid (Drew w wz b a l cap (0 + 4000 + 4000 + 1) ∧ NBox wz b TA zb ab qb kb wb ∧ wz.heap[w.heap.size]? = some (.cells #[.int .i64 0, .slice none 0 0] 26 (0, 0))))
  case first =>
    cases f
    · go_wp2_with fail
      go_meet
      case rel => exact ⟨_, _, _, _, _, hKx, hzx, Lib.hid ⟨D4.out.more (by omega), X4.out, U4.out⟩⟩
    · go_wp2_with fail
      refine (curPick b a l cap _ 4 _ hl (by omega) (by omega) D4.out.I).mono ?_
      rintro e w5 ⟨r, rfl, hr, hI, hg⟩
      have D5 := Lib.hid (D4.out.pick hI hg)
      have X5 := Lib.hid (X4.out.pick hg)
      have U5 := Lib.hid (kept_grown U4.out hg (by simp; omega))
      obtain ⟨n, hn, hn1, hn2⟩ : ∃ n : Nat, (10 : Int) + (r : Int) = n ∧ 1 ≤ n ∧ n ≤ 13 := ⟨10 + r, by omega, by omega, by omega⟩
      clear hI hg hr D4 X4 U4
      go_wp2_with fail
      clear hn
      obtain ⟨bn, bl⟩ := bubble_small hn1 (show n ≤ 64 by omega)
      have bl2 : (bubbleM n).ws.length ≤ 2200 := Nat.le_trans bl (Nat.le_trans (Nat.mul_le_mul hn2 hn2) (by decide))
      have BL := Lib.hid bl2
      clear bl bl2
      refine (uSpecBubble n _ ⟨by omega, by omega⟩).mono ?_
      rintro e w6 ⟨c0, c1, rfl, ho, hb⟩
      obtain ⟨rfl, ad, c, e1, how, _⟩ := netOwn_parts ho
      simp at e1
      subst e1
      rw [bn]
      have D6 := D5.out.below hb
      have X6 := X5.out.below hb
      have U6 := kept_block U5.out hb
      have hO := own_base how (show b + 1 ≤ w5.heap.size by have := D5.out.I.lt; omega)
      have lt := X6.lt
      have S1 := Lib.hid ((X6.set1 hO rfl).set0 (n : Int))
      have S2 := Lib.hid ((X6.set0 (n : Int)).set1 (hO.kept (set_grown _ TA 0 _) (.inr (own_other hO X6.tb (by decide)))) rfl)
      have DD := Lib.hid ((D6.set (k := 0) lt (.int .i64 n)).set (k := 1) lt (.slice ad (bubbleM n).ws.length c))
      have UU := Lib.hid ((Below.heap_setCell _ ⟨TA, 1, none⟩ (.slice ad (bubbleM n).ws.length c) w.heap.size (by simp; omega)).trans ((Below.heap_setCell w6 ⟨TA, 0, none⟩ (.int .i64 n) w.heap.size (by simp; omega)).trans U6))
      have c0 : w6.cell? ⟨TA, 0, none⟩ = some (.int .i64 zx) := cur_cell X6.tb 0
      have c1 : w6.cell? ⟨TA, 1, none⟩ = some (.slice ax qx kx) := cur_cell X6.tb 1
      have f0 := cur_free X6.tb 0
      have f1 := cur_free X6.tb 1
      clear D6 X6 U6 hO how ho hb D5 X5 U5 S1
      generalize (bubbleM n).ws = ws at *
      generalize ws.length = qb at *
      go_wp2_with fail
      go_meet
      case rel => exact ⟨n, ad, qb, c, ws, BL.out, by unfold i64Lo i64Hi; omega, Lib.hid ⟨DD.out.more (by omega), S2.out, UU.out⟩⟩
  case rest =>
    clear D4 X4 U4
    obtain ⟨zb, ab, qb, kb, wb, hqb, hzb, H⟩ := hcut
    obtain ⟨hD, hX, h0⟩ := H.out
    have a0 : wc.cell? ⟨TA, 0, none⟩ = some (.int .i64 zb) := cur_cell hX.tb 0
    have a1 : wc.cell? ⟨TA, 1, none⟩ = some (.slice ab qb kb) := cur_cell hX.tb 1
    have r00 : wc.cell? ⟨w.heap.size, 0, none⟩ = some (.int .i64 0) := cur_cell h0 0
    have r01 : wc.cell? ⟨w.heap.size, 1, none⟩ = some (.slice none 0 0) := cur_cell h0 1
    have f00 := cur_free h0 0
    have f01 := cur_free h0 1
    have lA := hX.lt
    have n1 : ¬ TA = w.heap.size := by omega
    have GV := Lib.hid (fun W' (C : Chg w.heap.size (w.heap.size + 1) wc W') => one_give hD hX hqb hzb hbR C)
    clear hD hX h0
    go_wp2
    exact bodyPost_ret (v := .agg #[.int .i64 zb, .slice ab qb kb]) (by simp [results, Try.results16, go_sem, r00, r01]) rfl (GV.out _ (chg_set (chg_set (Chg.refl _ _ wc) (Nat.le_refl _) (by omega) 0 _) (Nat.le_refl _) (by omega) 1 _))
end Go.Proofs.Ytkifndcfmmdkpaa
