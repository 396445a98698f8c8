/- TnQ, Word in one. Written by tools/join2.py. -/
import Derived.Test.YtmndkpicbmffnaaJN21
import Derived.Test.YtmndkpicbmffnaaJN24
import Derived.Test.YtmndkpicbmffnaaRows
import Derived.Test.YtmndkpicbmffnaaJN1
import Derived.WalkKit
import Derived.ProofKit
import Derived.Lib.Hide
section
namespace Go.Proofs.Ytmndkpicbmffnaa
open Go.RowKit
set_option linter.unusedVariables false
set_option linter.unusedSimpArgs false
set_option maxRecDepth 100000

theorem node_fin {w wr : World} {W1s n t k n1 n2 : Nat} {d : List UInt8} {a' : Option Addr} {cap' : Nat} {es : List (Elt BlkM 3)} {G : Nat → Foot} (hws : W1s = w.heap.size + 1 + 1) (BX : Below w.heap.size w wr) (e1 : es.map Elt.m = firstN d n k) (FS : firstN d n (k + 1) = firstN d n k ++ [⟨(n1 : Int), (n2 : Int), (d.drop (t + 3)).take n⟩])
    (e2 : wr.heap[w.heap.size + 1]? = some (.cells #[.slice a' k cap'] 26 (0, 0))) (e3 : NRow BlockO 40 3 W1s a' cap' es G wr) (e4 : wr.heap[w.heap.size]? = some (.cells #[.slice none 0 0] 26 (0, 0))) (hel : es.length = k) (hWr : W1s ≤ wr.heap.size)
    (w3 : World) (g3 : Below wr.heap.size wr w3) (a3 : Option Addr) (c3 : Nat) (o3 : w3.ownsRow wr.heap.size 5 1 (.slice a3 n c3) n (((d.drop (t + 3)).take n).map bval)) (v5 : Value) (w5 : World) (ho5 : w5.ownsRow W1s 40 3 v5 (k + 1) (flatG eltL es ++ [.int .i64 (n1 : Int), .int .i64 (n2 : Int), .slice a3 n c3])) (hg5 : (w3.alloc (.cells #[.int .i64 (n1 : Int), .int .i64 (n2 : Int), .slice a3 n c3] 40)).grownBy w5 (Value.slice a' k cap').ownBlock) :
    ∃ (a5 : Option Addr) (cap5 : Nat), v5 = .slice a5 (k + 1) cap5 ∧ Below w.heap.size w w5 ∧ w5.heap[w.heap.size + 1]? = some (.cells #[.slice a' k cap'] 26 (0, 0)) ∧ (∃ (a'' : Option Addr) (cap'' : Nat) (es' : List (Elt BlkM 3)) (G' : Nat → Foot), es'.map Elt.m = firstN d n (k + 1) ∧ (w5.setCell ⟨w.heap.size + 1, 0, none⟩ (.slice a5 (k + 1) cap5)).heap[w.heap.size + 1]? = some (.cells #[.slice a'' es'.length cap''] 26 (0, 0)) ∧ NRow BlockO 40 3 W1s a'' cap'' es' G' (w5.setCell ⟨w.heap.size + 1, 0, none⟩ (.slice a5 (k + 1) cap5)) ∧ (w5.setCell ⟨w.heap.size + 1, 0, none⟩ (.slice a5 (k + 1) cap5)).heap[w.heap.size]? = some (.cells #[.slice none 0 0] 26 (0, 0)) ∧ Below w.heap.size w (w5.setCell ⟨w.heap.size + 1, 0, none⟩ (.slice a5 (k + 1) cap5))) := by
  have g4 := below_box g3 (.cells #[.int .i64 (n1 : Int), .int .i64 (n2 : Int), .slice a3 n c3] 40)
  have nr := e3.below block_ong g4
  have bo : ByteSOwn wr.heap.size w3.heap.size [.slice a3 n c3] ((d.drop (t + 3)).take n) w3 := ByteSOwn.mk o3
  obtain ⟨F, f1, f2⟩ := bo.toO
  have fat := byteS_ong.at_ f1
  have f3 := byteS_ong.sup (w' := w3.alloc (.cells #[.int .i64 (n1 : Int), .int .i64 (n2 : Int), .slice a3 n c3] 40)) f1 (fun x hx => alloc_old _ _ _ (f2 x hx))
  have gat := fun i x hi hx => (block_ong.at_ (e3.own i hi) x hx).2
  have ob : ∀ x, (Value.slice a' es.length cap').ownBlock = some x → W1s ≤ x ∧ x < wr.heap.size := fun x hx => e3.row.lt x hx
  rw [hel] at ob
  obtain ⟨el, hecs, hem⟩ : ∃ e : Elt BlkM 3, e.cs = [.int .i64 (n1 : Int), .int .i64 (n2 : Int), .slice a3 n c3] ∧ e.m = ⟨(n1 : Int), (n2 : Int), (d.drop (t + 3)).take n⟩ := ⟨⟨[.int .i64 (n1 : Int), .int .i64 (n2 : Int), .slice a3 n c3], ⟨(n1 : Int), (n2 : Int), (d.drop (t + 3)).take n⟩, rfl, by intro u hu; simp at hu; rcases hu with rfl | rfl | rfl <;> rfl⟩, rfl, rfl⟩
  obtain ⟨a5, cap5, hv, nr5⟩ := nr.snoc F el (by rw [hecs, hem]; exact ⟨_, rfl, byteS_ong.low f3 hWr⟩)
    (fun i x hi hx hF => by have h1 := gat i x hi hx; have h2 := (fat x hF).1; omega) (fun x hF hx => by rw [hel] at hx; have h1 := (ob x hx).2; have h2 := (fat x hF).1; omega) (v5 := v5) (by rw [hel, hecs]; exact ho5) (by rw [hel]; exact hg5)
  have hl5 : (es ++ [el]).length = k + 1 := by simp [hel]
  rw [hl5] at hv
  have hsz4 : wr.heap.size ≤ (w3.alloc (.cells #[.int .i64 (n1 : Int), .int .i64 (n2 : Int), .slice a3 n c3] 40)).heap.size := g4.size
  have lt2 := cur_lt e2
  have keepb : ∀ x, x < W1s → w5.heap[x]? = wr.heap[x]? := fun x hx => by
    rw [hg5.block x (by omega) (fun e => by have := (ob x e.symm).1; omega)]
    exact g4.block x (by omega)
  have B5 : Below w.heap.size w w5 := (below_seq BX g4).grown hg5 (by have := BX.size; omega) (fun x hx => by have := (ob x hx).1; omega)
  have Q1 : (es ++ [el]).map Elt.m = firstN d n (k + 1) := by rw [List.map_append, e1, FS, List.map_cons, hem]; rfl
  have Q2 : (w5.setCell ⟨w.heap.size + 1, 0, none⟩ (.slice a5 (k + 1) cap5)).heap[w.heap.size + 1]? = some (.cells #[.slice a5 (es ++ [el]).length cap5] 26 (0, 0)) := by rw [hl5]; exact cur_set ((keepb _ (by omega)).trans e2) 0 _
  have Q3 := nr5.sup block_ong (w' := w5.setCell ⟨w.heap.size + 1, 0, none⟩ (.slice a5 (k + 1) cap5)) (fun x hx => Below.heap_setCell _ _ _ x (by have := (nr5.at_ block_ong x hx).1; simp; omega))
  have Q4 : (w5.setCell ⟨w.heap.size + 1, 0, none⟩ (.slice a5 (k + 1) cap5)).heap[w.heap.size]? = some (.cells #[.slice none 0 0] 26 (0, 0)) := (Below.heap_setCell _ _ _ w.heap.size (by simp)).trans ((keepb _ (by omega)).trans e4)
  exact ⟨a5, cap5, hv, B5, (keepb _ (by omega)).trans e2, a5, cap5, _, _, Q1, Q2, Q3, Q4, B5.setCell (p := ⟨w.heap.size + 1, 0, none⟩) (by simp) _⟩
theorem node_end {w wr w5 : World} {W1s k cap' : Nat} {a' : Option Addr} {es : List (Elt BlkM 3)} {G : Nat → Foot} {l : NodeM} (hws : W1s = w.heap.size + 1 + 1) (BX : Below w.heap.size w wr) (e3 : NRow BlockO 40 3 W1s a' cap' es G wr) (hel : es.length = k) (hem : es.map Elt.m = l) (hb : Below wr.heap.size wr w5) :
    NodeOwn w.heap.size (w5.setCell ⟨w.heap.size, 0, none⟩ (.slice a' k cap')).heap.size [.slice a' k cap'] l (w5.setCell ⟨w.heap.size, 0, none⟩ (.slice a' k cap')) ∧ Below w.heap.size w (w5.setCell ⟨w.heap.size, 0, none⟩ (.slice a' k cap')) := by
  subst hel hem
  have n5 := e3.below block_ong hb
  have n6 := n5.sup block_ong (w' := w5.setCell ⟨w.heap.size, 0, none⟩ (.slice a' es.length cap')) (fun x hx => Below.heap_setCell _ _ _ x (by have := (n5.at_ block_ong x hx).1; simp; omega))
  exact ⟨nrow_own (n6.low block_ong (by omega)), (below_seq BX hb).setCell (p := ⟨w.heap.size, 0, none⟩) (by simp) _⟩
end Go.Proofs.Ytmndkpicbmffnaa
end

section
namespace Go.Proofs.Ytmndkpicbmffnaa
open Go.RowKit
end Go.Proofs.Ytmndkpicbmffnaa
end
