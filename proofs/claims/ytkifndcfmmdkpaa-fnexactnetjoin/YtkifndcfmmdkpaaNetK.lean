/- Behind 'n, ok := f(toNet(a), toNet(b))': the orders in which the variable's box may be made, brought to one. -/
import Derived.Test.YtkifndcfmmdkpaaNetU
import Derived.Test.YtkifndcfmmdkpaaApp
namespace Go.Proofs.Ytkifndcfmmdkpaa
open Go.RowKit
set_option linter.unusedVariables false

/-- The world behind: all that lay lies; a net in memory of its own, its cells in the box bx. -/
def NetCut (W wx : World) (bx : Nat) (z : Int) (a : Option Addr) (n c lo hi : Nat) (m : NetM) : Prop :=
  Below W.heap.size W wx ∧ wx.heap[bx]? = some (.cells #[.int .i64 z, .slice a n c] 26 (0, 0)) ∧ NetOwn lo hi [.int .i64 z, .slice a n c] m wx ∧ hi ≤ wx.heap.size ∧ (bx < lo ∨ hi ≤ bx) ∧ W.heap.size ≤ bx ∧ W.heap.size ≤ lo ∧ lo ≤ hi
theorem NetCut.box {W w4 w5 : World} {z : Int} {a : Option Addr} {n c : Nat} {m : NetM} (hb : Below W.heap.size W w5) (h4 : W.heap.size ≤ w4.heap.size) (h45 : w4.heap.size ≤ w5.heap.size) (ho : NetOwn w4.heap.size w5.heap.size [.int .i64 z, .slice a n c] m w5) :
    NetCut W (w5.alloc (.cells #[.int .i64 z, .slice a n c] 26)) w5.heap.size z a n c w4.heap.size w5.heap.size m :=
  ⟨below_box hb _, alloc_at _ _ _ rfl, ((ho.lies (Nat.le_refl _)).box _).now, by simp, .inr (Nat.le_refl _), hb.size, h4, h45⟩
theorem NetCut.set {W w4 w5 : World} {bx : Nat} {z : Int} {a : Option Addr} {n c : Nat} {m : NetM} (hb : Below W.heap.size W w5) (hx : w5.heap[bx]? = some (.cells #[.int .i64 0, .slice none 0 0] 26 (0, 0))) (h4 : bx < w4.heap.size) (hW : W.heap.size ≤ bx) (h45 : w4.heap.size ≤ w5.heap.size) (ho : NetOwn w4.heap.size w5.heap.size [.int .i64 z, .slice a n c] m w5) :
    NetCut W ((w5.setCell ⟨bx, 0, none⟩ (.int .i64 z)).setCell ⟨bx, 1, none⟩ (.slice a n c)) bx z a n c w4.heap.size w5.heap.size m := by
  refine ⟨(hb.setCell (p := ⟨bx, 0, none⟩) hW _).setCell (p := ⟨bx, 1, none⟩) hW _, ?_, ?_, by simp, .inl h4, hW, by omega, h45⟩
  · have := cur_set (cur_set hx 0 (.int .i64 z)) 1 (.slice a n c)
    simpa using this
  · exact (ho.lies (Nat.le_refl _)).sup _ (fun k k1 k2 => (Below.heap_setCell _ _ _ k (by simp; omega)).trans (Below.heap_setCell _ _ _ k (by simp; omega)))
/-- A box of zeros made ahead: where it lies. -/
def ZeroBox (W w : World) (bx : Nat) : Prop := w.heap[bx]? = some (.cells #[.int .i64 0, .slice none 0 0] 26 (0, 0)) ∧ W.heap.size ≤ bx
theorem ZeroBox.below {W w w' : World} {bx : Nat} (h : ZeroBox W w bx) (hb : Below w.heap.size w w') : ZeroBox W w' bx := ⟨kept_block h.1 hb, h.2⟩
theorem ZeroBox.new {W w : World} (hb : W.heap.size ≤ w.heap.size) : ZeroBox W (w.alloc (.cells #[.int .i64 0, .slice none 0 0] 26)) w.heap.size := ⟨alloc_at _ _ _ rfl, hb⟩
end Go.Proofs.Ytkifndcfmmdkpaa
