/- A block whose bytes the call owns, appended to a row of blocks that the call owns. No function of the program in it. -/
import Derived.Test.YtmndkpicbmffnaaBlkN
namespace Go.Proofs.Ytmndkpicbmffnaa
open Go.RowKit
set_option linter.unusedVariables false
set_option linter.unusedSimpArgs false
set_option maxRecDepth 100000

theorem NRow.push {w wr w3 w5 : World} {ao : Option Addr} {co : Nat} {es : List (Elt BlkM 3)} {F : Nat → Foot} (s : NRow BlockO 40 3 w.heap.size ao co es F wr) (hB : Below w.heap.size w wr) (g3 : Below wr.heap.size wr w3) {c2 : Value} {r : BlkM} (ho : BlockOwn wr.heap.size w3.heap.size [.int .i64 r.id, .int .i64 r.leaf, c2] r w3) (h2 : c2.oneCell' = true)
    {v5 : Value} (ho5 : w5.ownsRow w.heap.size 40 3 v5 (es.length + 1) (flatG eltL es ++ [.int .i64 r.id, .int .i64 r.leaf, c2])) (hg5 : (w3.alloc (.cells #[.int .i64 r.id, .int .i64 r.leaf, c2] 40)).grownBy w5 (Value.slice ao es.length co).ownBlock) :
    ∃ a5 c5, v5 = .slice a5 (es.length + 1) c5 ∧ ∃ (es' : List (Elt BlkM 3)) (F' : Nat → Foot), es'.length = es.length + 1 ∧ es'.map Elt.m = es.map Elt.m ++ [r] ∧ NRow BlockO 40 3 w.heap.size a5 c5 es' F' w5 ∧ Below w.heap.size w w5 := by
  have bx := below_box (Below.refl w3.heap.size w3) (.cells #[.int .i64 r.id, .int .i64 r.leaf, c2] 40)
  have r5 := s.below block_ong (below_seq g3 bx)
  obtain ⟨f, f1, f2⟩ := ho
  have fat := block_ong.at_ f1
  have f3 := block_ong.sup (w' := w3.alloc (.cells #[.int .i64 r.id, .int .i64 r.leaf, c2] 40)) f1 (fun x hx => alloc_old _ _ _ (f2 x hx))
  have hsz : w.heap.size ≤ wr.heap.size := hB.size
  obtain ⟨el, hecs, hem⟩ : ∃ e : Elt BlkM 3, e.cs = [.int .i64 r.id, .int .i64 r.leaf, c2] ∧ e.m = r := ⟨⟨[.int .i64 r.id, .int .i64 r.leaf, c2], r, rfl, by intro u hu; simp at hu; rcases hu with rfl | rfl | rfl; rfl; rfl; exact h2⟩, rfl, rfl⟩
  have gat := fun i x hi hx => (block_ong.at_ (s.own i hi) x hx).2
  have ob := fun x hx => s.row.lt x hx
  obtain ⟨a5, c5, hv, nr⟩ := r5.snoc f el (by rw [hecs, hem]; exact block_ong.low f3 hsz)
    (fun i x hi hx hF => by have h1 := gat i x hi hx; have h2 := (fat x hF).1; omega) (fun x hF hx => by have h1 := (ob x hx).2; have h2 := (fat x hF).1; omega) (v5 := v5) (by rw [hecs]; exact ho5) hg5
  have hl5 : (es ++ [el]).length = es.length + 1 := by simp
  rw [hl5] at hv
  exact ⟨a5, c5, hv, _, _, hl5, by rw [List.map_append]; simp [hem], nr, (below_seq hB (below_seq g3 bx)).grown hg5 (by have := hB.size; have := g3.size; simp; omega) (fun x hx => (ob x hx).1)⟩
end Go.Proofs.Ytmndkpicbmffnaa
