/- FnMemBook: a store into a box that nothing else reads. -/
import Derived.Test.YticfnhbjoaecjaaDoorBkI
namespace Go.Proofs.YticfnhbjoaecjaaDoor
open Go.RowKit
set_option linter.unusedVariables false

theorem BInv.side {w wr w' : World} {b5 gB base n lo hi bx : Nat} {c0 c1 c2 : Value} {m : MemM} {V : Nat → Value} {lg : List TouchM} {lv : Value} (h : BInv w wr b5 gB base n lo hi c0 c1 c2 m V lg lv)
    (hg : wr.grownBy w' (some bx)) (hx : base ≤ bx) (hhi : hi ≤ bx) (hd : ∀ g, lv.ownBlock = some g → g < bx) : BInv w w' b5 gB base n lo hi c0 c1 c2 m V lg lv := by
  have h5 := h.or5
  have hB := h.upB
  have hl := h.lo5
  refine ⟨kept_grown h.box hg (by simp; omega), h.mem.chg (Chg.of_grown (lo := bx) (hi := bx + 1) hg (fun k hk => by simp at hk; omega)) (.inl hhi), h.ap, kept_grown h.book hg (by simp; omega), h.log.kept hg (.inr fun e => ?_), below_write h.bel hg (by omega), h.lo5, h.or5, h.upB, Nat.le_trans h.top hg.size⟩
  have := hd bx e
  omega
theorem set3 {w : World} {b : Nat} {x0 x1 x2 : Value} {t : TypeId} (h : w.heap[b]? = some (.cells #[x0, x1, x2] t (0, 0))) (y0 y1 y2 : Value) :
    (((w.setCell ⟨b, 0, none⟩ y0).setCell ⟨b, 1, none⟩ y1).setCell ⟨b, 2, none⟩ y2).heap[b]? = some (.cells #[y0, y1, y2] t (0, 0)) :=
  cur_set (cur_set (cur_set h 0 y0) 1 y1) 2 y2
theorem grown_set3 (w : World) (b : Nat) (y0 y1 y2 : Value) : w.grownBy (((w.setCell ⟨b, 0, none⟩ y0).setCell ⟨b, 1, none⟩ y1).setCell ⟨b, 2, none⟩ y2) (some b) :=
  grown_trans (grown_trans (set_grown w b 0 y0) (set_grown _ b 1 y1)) (set_grown _ b 2 y2)
/-- What stands behind 'next, bad := MemWrite(..)': the box bn of next, its memory, the book as it was, the bytes. -/
structure BNext (w wo wn : World) (b5 gB base n lo hi bn : Nat) (c0 c1 c2 d0 d1 d2 : Value) (m m' : MemM) (V : Nat → Value) (lg : List TouchM) (lv : Value) (ds : List UInt8) (dv : Value) : Prop where
  inv : BInv w wn b5 gB base n lo hi c0 c1 c2 m V lg lv
  box : wn.heap[bn]? = some (.cells #[d0, d1, d2] 28 (0, 0))
  mem : ∃ lo' hi', Lies wn lo' hi' (MemIn [d0, d1, d2] m') ∧ wo.heap.size ≤ lo'
  dat : wn.ownsRow wo.heap.size 5 1 dv ds.length (ds.map bval)
/-- The box made behind the call. -/
theorem BNext.behind {w wo w6 : World} {b5 gB base n lo hi lo' hi' : Nat} {c0 c1 c2 d0 d1 d2 : Value} {m m' : MemM} {V : Nat → Value} {lg : List TouchM} {lv : Value} {ds : List UInt8} {dv : Value}
    (h : BInv w w6 b5 gB base n lo hi c0 c1 c2 m V lg lv) (hm : Lies w6 lo' hi' (MemIn [d0, d1, d2] m')) (hlo : wo.heap.size ≤ lo') (hd : w6.ownsRow wo.heap.size 5 1 dv ds.length (ds.map bval)) :
    BNext w wo (w6.alloc (.cells #[d0, d1, d2] 28)) b5 gB base n lo hi w6.heap.size c0 c1 c2 d0 d1 d2 m m' V lg lv ds dv :=
  have hb : Below w6.heap.size w6 (w6.alloc (.cells #[d0, d1, d2] 28)) := below_box (Below.refl _ _) _
  ⟨h.below hb, alloc_at _ _ _ rfl, ⟨lo', hi', hm.below hb, hlo⟩, own_below hd hb⟩
/-- The box made ahead of the call, at bx. -/
theorem BNext.ahead {w wo w6 : World} {b5 gB base n lo hi lo' hi' bx : Nat} {c0 c1 c2 d0 d1 d2 x0 x1 x2 : Value} {m m' : MemM} {V : Nat → Value} {lg : List TouchM} {lv : Value} {ds : List UInt8} {dv : Value}
    (h : BInv w w6 b5 gB base n lo hi c0 c1 c2 m V lg lv) (hm : Lies w6 lo' hi' (MemIn [d0, d1, d2] m')) (hlo : wo.heap.size ≤ lo') (hd : w6.ownsRow wo.heap.size 5 1 dv ds.length (ds.map bval))
    (hz : w6.heap[bx]? = some (.cells #[x0, x1, x2] 28 (0, 0))) (hbx : bx < lo') (hbase : base ≤ bx) (hhi : hi ≤ bx) (hlg : ∀ g, lv.ownBlock = some g → g < bx) :
    BNext w wo (((w6.setCell ⟨bx, 0, none⟩ d0).setCell ⟨bx, 1, none⟩ d1).setCell ⟨bx, 2, none⟩ d2) b5 gB base n lo hi bx c0 c1 c2 d0 d1 d2 m m' V lg lv ds dv :=
  have hg := grown_set3 w6 bx d0 d1 d2
  ⟨h.side hg hbase hhi hlg, set3 hz _ _ _, ⟨lo', hi', hm.chg (Chg.of_grown (lo := bx) (hi := bx + 1) hg (fun k hk => by simp at hk; omega)) (.inr (by omega)), hlo⟩,
   hd.kept hg (.inr (own_other hd hz (by decide)))⟩
end Go.Proofs.YticfnhbjoaecjaaDoor
