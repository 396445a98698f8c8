/- A net under a drawing: its box, the answer's box, its wires in memory of the call's own, the cursor. -/
import Derived.Test.YtkifndcfmmdkpaaNtB
import Derived.Test.YtkifndcfmmdkpaaCurN
import Derived.Deep.RegionLaw
import Derived.Deep.RegionHeld3
namespace Go.Proofs.Ytkifndcfmmdkpaa
open Go.RowKit
set_option linter.unusedVariables false
set_option maxRecDepth 100000

/-- While a net is drawn: it lies in block T, the answer's place is the first new block, its wires are the call's own. -/
structure NdSt (w W : World) (b T : Nat) (a : Option Addr) (l : List UInt8) (cap m : Nat) (z : Int) (ad : Option Addr) (q c : Nat) (ws : List WireM) : Prop where
  tb : W.heap[T]? = some (.cells #[.int .i64 z, .slice ad q c] 26 (0, 0))
  rb : W.heap[w.heap.size]? = some (.cells #[.int .i64 0, .slice none 0 0] 26 (0, 0))
  O : W.ownsRow (w.heap.size + 1) 63 2 (.slice ad q c) q (flatW ws)
  len : ws.length = q
  h : w.heap.size < T ∧ b < w.heap.size
  I : CurI W b a l cap m
  G : w.grownBy W (some b)
/-- What a drawing of a net leaves. -/
def DrawnNet (b : Nat) (a : Option Addr) (l : List UInt8) (cap m : Nat) (K : Nat) (lo hi : Int) (w : World) (e : Ending) (w' : World) : Prop :=
  ∃ (z : Int) (ad : Option Addr) (q c : Nat) (ws : List WireM), e = .returned (.agg #[.int .i64 z, .slice ad q c]) ∧ w'.ownsRow (w.heap.size + 1) 63 2 (.slice ad q c) q (flatW ws) ∧ ws.length = q ∧ q ≤ K ∧ (lo ≤ z ∧ z ≤ hi) ∧ CurI w' b a l cap m ∧ w.grownBy w' (some b)
section
variable {w W W' : World} {b T : Nat} {a : Option Addr} {l : List UInt8} {cap m m' : Nat} {z : Int} {ad : Option Addr} {q c : Nat} {ws : List WireM}
theorem NdSt.pick (s : NdSt w W b T a l cap m z ad q c ws) (hI : CurI W' b a l cap m') (hg : W.grownBy W' (some b)) : NdSt w W' b T a l cap m' z ad q c ws := by
  obtain ⟨h1, h2⟩ := s.h
  exact ⟨kept_grown s.tb hg (by simp; omega), kept_grown s.rb hg (by simp; omega), s.O.kept hg (own_apart s.O (by omega)), s.len, s.h, hI, grown_trans s.G hg⟩
theorem NdSt.below (s : NdSt w W b T a l cap m z ad q c ws) (hb : Below W.heap.size W W') : NdSt w W' b T a l cap m z ad q c ws :=
  ⟨kept_block s.tb hb, kept_block s.rb hb, own_below s.O hb, s.len, s.h, s.I.below hb, grown_trans s.G (below_grown hb _)⟩
theorem NdSt.more (s : NdSt w W b T a l cap m z ad q c ws) (hm : m ≤ m') : NdSt w W b T a l cap m' z ad q c ws := ⟨s.tb, s.rb, s.O, s.len, s.h, s.I.more hm, s.G⟩
theorem NdSt.low (s : NdSt w W b T a l cap m z ad q c ws) : w.heap.size + 1 ≤ W.heap.size := cur_lt s.rb
/-- A write into the net's first place. -/
theorem NdSt.set0 (s : NdSt w W b T a l cap m z ad q c ws) (y : Int) : NdSt w (W.setCell ⟨T, 0, none⟩ (.int .i64 y)) b T a l cap m y ad q c ws := by
  obtain ⟨h1, h2⟩ := s.h
  have BB : Below (w.heap.size + 1) W (W.setCell ⟨T, 0, none⟩ (.int .i64 y)) := (Below.refl _ W).setCell (p := ⟨T, 0, none⟩) (by simp; omega) _
  exact ⟨cur_set s.tb 0 _, (Below.heap_setCell W _ _ _ (by simp; omega)).trans s.rb, s.O.kept (set_grown W T 0 _) (.inr (own_other s.O s.tb (by decide))), s.len, s.h, s.I.low BB (by omega), grown_low s.G (BB.mono (by omega))⟩
/-- Another row of wires in the net's second place: the row is the call's own. -/
theorem NdSt.set1 (s : NdSt w W b T a l cap m z ad q c ws) {ad' : Option Addr} {q' c' : Nat} {ws' : List WireM} (hO : W.ownsRow (w.heap.size + 1) 63 2 (.slice ad' q' c') q' (flatW ws')) (hl : ws'.length = q') : NdSt w (W.setCell ⟨T, 1, none⟩ (.slice ad' q' c')) b T a l cap m z ad' q' c' ws' := by
  obtain ⟨h1, h2⟩ := s.h
  have BB : Below (w.heap.size + 1) W (W.setCell ⟨T, 1, none⟩ (.slice ad' q' c')) := (Below.refl _ W).setCell (p := ⟨T, 1, none⟩) (by simp; omega) _
  exact ⟨cur_set s.tb 1 _, (Below.heap_setCell W _ _ _ (by simp; omega)).trans s.rb, hO.kept (set_grown W T 1 _) (.inr (own_other hO s.tb (by decide))), hl, s.h, s.I.low BB (by omega), grown_low s.G (BB.mono (by omega))⟩
/-- Behind an append to the net's own row: only that row has turned. -/
theorem NdSt.app {W1 : World} {o : Obj} {ad' : Option Addr} {q' c' : Nat} {ws' : List WireM} (s : NdSt w W b T a l cap m z ad q c ws) (hO : W1.ownsRow (w.heap.size + 1) 63 2 (.slice ad' q' c') q' (flatW ws')) (hl : ws'.length = q') (hg : (W.alloc o).grownBy W1 (Value.ownBlock (.slice ad q c))) :
    NdSt w (W1.setCell ⟨T, 1, none⟩ (.slice ad' q' c')) b T a l cap m z ad' q' c' ws' ∧ W1.heap[T]? = some (.cells #[.int .i64 z, .slice ad q c] 26 (0, 0)) := by
  obtain ⟨h1, h2⟩ := s.h
  have s1 := s.below (W' := W.alloc o) (below_box (Below.refl _ W) o)
  have kt := kept_grown s1.tb hg (own_other s1.O s1.tb (by decide))
  have kr := kept_grown s1.rb hg (own_other s1.O s1.rb (by decide))
  have B1 : Below (w.heap.size + 1) W W1 := ((Below.refl _ W).alloc s.low o).grown hg (by have := s.low; simp; omega) (fun i hi => by have := (s.O.lt i hi).1; omega)
  have BB : Below (w.heap.size + 1) W (W1.setCell ⟨T, 1, none⟩ (.slice ad' q' c')) := B1.setCell (p := ⟨T, 1, none⟩) (by simp; omega) _
  exact ⟨⟨cur_set kt 1 _, (Below.heap_setCell W1 _ _ _ (by simp; omega)).trans kr, hO.kept (set_grown W1 T 1 _) (.inr (own_other hO kt (by decide))), hl, s.h, s.I.low BB (by omega), grown_low s.G (BB.mono (by omega))⟩, kt⟩
/-- The net is handed over. -/
theorem NdSt.done {K : Nat} {lo hi : Int} (s : NdSt w W b T a l cap m z ad q c ws) (hK : q ≤ K) (hz : lo ≤ z ∧ z ≤ hi) (y0 y1 : Value) : DrawnNet b a l cap m K lo hi w (.returned (.agg #[.int .i64 z, .slice ad q c])) ((W.setCell ⟨w.heap.size, 0, none⟩ y0).setCell ⟨w.heap.size, 1, none⟩ y1) := by
  obtain ⟨h1, h2⟩ := s.h
  have BB : Below w.heap.size W ((W.setCell ⟨w.heap.size, 0, none⟩ y0).setCell ⟨w.heap.size, 1, none⟩ y1) := ((Below.refl w.heap.size W).setCell (p := ⟨w.heap.size, 0, none⟩) (Nat.le_refl _) _).setCell (p := ⟨w.heap.size, 1, none⟩) (Nat.le_refl _) _
  have o1 := s.O.kept (set_grown W w.heap.size 0 y0) (own_apart s.O (by omega))
  exact ⟨z, ad, q, c, ws, rfl, o1.kept (set_grown _ w.heap.size 1 y1) (own_apart o1 (by omega)), s.len, hK, hz, s.I.low BB h2, grown_low s.G BB⟩
/-- .. a net that a call has just made, instead of the one in the box. -/
theorem NdSt.give {K : Nat} {lo hi : Int} {W1 : World} {M : NetM} {ae : Option Addr} {q' c' : Nat} (s : NdSt w W b T a l cap m z ad q c ws) (hO : NetOwn W.heap.size W1.heap.size [.int .i64 M.n, .slice ae q' c'] M W1) (hb : Below W.heap.size W W1) (hK : M.ws.length ≤ K) (hz : lo ≤ M.n ∧ M.n ≤ hi) (y0 y1 : Value) : DrawnNet b a l cap m K lo hi w (.returned (.agg #[.int .i64 M.n, .slice ae q' c'])) ((W1.setCell ⟨w.heap.size, 0, none⟩ y0).setCell ⟨w.heap.size, 1, none⟩ y1) := by
  obtain ⟨h1, h2⟩ := s.h
  obtain ⟨c1, e, hw⟩ := hO
  obtain ⟨a2, k2, e2, ho, _⟩ := hw
  simp at e
  subst e
  simp at e2
  obtain ⟨rfl, rfl, rfl⟩ := e2
  have s1 := s.below hb
  have hlo := s.low
  have o0 := own_base ho (show w.heap.size + 1 ≤ W.heap.size from hlo)
  have BB : Below w.heap.size W1 ((W1.setCell ⟨w.heap.size, 0, none⟩ y0).setCell ⟨w.heap.size, 1, none⟩ y1) := ((Below.refl w.heap.size W1).setCell (p := ⟨w.heap.size, 0, none⟩) (Nat.le_refl _) _).setCell (p := ⟨w.heap.size, 1, none⟩) (Nat.le_refl _) _
  have o1 := o0.kept (set_grown W1 w.heap.size 0 y0) (own_apart o0 (by omega))
  exact ⟨_, _, _, _, M.ws, rfl, o1.kept (set_grown _ w.heap.size 1 y1) (own_apart o1 (by omega)), rfl, hK, hz, s1.I.low BB h2, grown_low s1.G BB⟩
end
end Go.Proofs.Ytkifndcfmmdkpaa
