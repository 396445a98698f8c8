/- Bubble, Bitonic, OddEven in the model. -/
import Derived.Test.YtaedamnhobcdlaaNtX
import Derived.Deep.DeepMust
namespace Go.Proofs.Ytaedamnhobcdlaa
open Go.RowKit
set_option linter.unusedVariables false
set_option linter.unusedSimpArgs false
set_option maxRecDepth 100000

/-- A net under construction: the result's box holds zeros, the variable's box a net of the wires ws, in memory of its own. -/
def SBox (w : World) (n : Nat) (ws : List WireM) (a : Option Addr) (cap : Nat) (W : World) : Prop :=
  W.heap[w.heap.size]? = some (.cells #[.int .i64 0, .slice none 0 0] 36 (0, 0)) ∧ W.heap[w.heap.size + 1]? = some (.cells #[.int .i64 n, .slice a ws.length cap] 36 (0, 0)) ∧
  W.ownsRow (w.heap.size + 1 + 1) 87 2 (.slice a ws.length cap) ws.length (flatW ws) ∧ Below w.heap.size w W ∧ w.heap.size + 1 + 1 ≤ W.heap.size
theorem SBox.start (w : World) (n : Nat) : SBox w n [] none 0 ((w.alloc (.cells #[.int .i64 0, .slice none 0 0] 36)).alloc (.cells #[.int .i64 n, .slice none 0 0] 36)) :=
  ⟨(alloc_old _ _ _ (by simp)).trans (alloc_at _ _ _ rfl), alloc_at _ _ _ (by simp), ⟨rfl, .inl ⟨rfl, rfl⟩⟩, below_box (below_box (Below.refl _ _) _) _, by simp⟩
/-- One wire more. -/
theorem SBox.push {w W w1 : World} {n cap : Nat} {ws : List WireM} {a a' : Option Addr} {cap' m : Nat} {t : WireM} {o : Obj} (h : SBox w n ws a cap W) (ho : w1.ownsRow (w.heap.size + 1 + 1) 87 2 (.slice a' m cap') m (flatW ws ++ flatW [t])) (hg : (W.alloc o).grownBy w1 (Value.ownBlock (.slice a ws.length cap))) (hm : m = ws.length + 1) :
    SBox w n (ws ++ [t]) a' cap' (w1.setCell ⟨w.heap.size + 1, 1, none⟩ (.slice a' m cap')) ∧ w1.cell? ⟨w.heap.size + 1, 1, none⟩ = some (.slice a ws.length cap) ∧ w1.frozen? ⟨w.heap.size + 1, 1, none⟩ = false := by
  obtain ⟨h1, h2, h3, h4, h5⟩ := h
  have o3 := h3.alloc o
  have k2 : (W.alloc o).heap[w.heap.size + 1]? = _ := (alloc_old _ _ _ (cur_lt h2)).trans h2
  have k1 : (W.alloc o).heap[w.heap.size]? = _ := (alloc_old _ _ _ (cur_lt h1)).trans h1
  have q2 := kept_grown k2 hg (own_other o3 k2 (by decide))
  have q1 := kept_grown k1 hg (own_other o3 k1 (by decide))
  subst hm
  refine ⟨⟨(Below.heap_setCell _ _ _ _ (by simp)).trans q1, ?_, ?_, ?_, ?_⟩, cur_cell q2 1, cur_free q2 1⟩
  · have := cur_set q2 1 (.slice a' (ws.length + 1) cap')
    simpa using this
  · have := ho.kept (set_grown w1 (w.heap.size + 1) 1 (.slice a' (ws.length + 1) cap')) (.inr (own_other ho q2 (by decide)))
    rw [flatW_app]
    simpa using this
  · exact ((below_box h4 o).grown hg (by simp; omega) (fun i hi => by have := (h3.lt i hi).1; omega)).setCell (p := ⟨w.heap.size + 1, 1, none⟩) (by simp) _
  · have := hg.size
    simp at this ⊢
    omega
theorem SBox.row (W : World) (t : WireM) : Row (W.alloc (.cells #[.int .i64 t.a, .int .i64 t.b] 87)) (some ⟨W.heap.size, 0, none⟩) (flatW [t]) := by
  refine .inr ⟨_, _, rfl, fun i hi => ?_⟩
  have hi2 : i < 2 := by simpa [flatW] using hi
  have e := alloc_at W (.cells #[.int .i64 t.a, .int .i64 t.b] 87) _ rfl
  rw [Nat.zero_add]
  rcases (show i = 0 ∨ i = 1 from by omega) with rfl | rfl
  · exact cur_cell e 0
  · exact cur_cell e 1
/-- The net returned. -/
theorem SBox.fin {w W : World} {n cap : Nat} {ws : List WireM} {a : Option Addr} (h : SBox w n ws a cap W) (u v : Value) :
    NetOwn w.heap.size ((W.setCell ⟨w.heap.size, 0, none⟩ u).setCell ⟨w.heap.size, 1, none⟩ v).heap.size [.int .i64 n, .slice a ws.length cap] ⟨n, ws⟩ ((W.setCell ⟨w.heap.size, 0, none⟩ u).setCell ⟨w.heap.size, 1, none⟩ v) ∧ Below w.heap.size w ((W.setCell ⟨w.heap.size, 0, none⟩ u).setCell ⟨w.heap.size, 1, none⟩ v) := by
  obtain ⟨h1, h2, h3, h4, h5⟩ := h
  refine ⟨⟨_, rfl, ?_⟩, (h4.setCell (p := ⟨w.heap.size, 0, none⟩) (by simp) _).setCell (p := ⟨w.heap.size, 1, none⟩) (by simp) _⟩
  exact (((WireSOwn.mk h3).lies (Nat.le_refl _)).sup _ (fun k k1 k2 => (Below.heap_setCell _ _ _ k (by simp; omega)).trans (Below.heap_setCell _ _ _ k (by simp; omega)))).wide (by omega) (by simp)
theorem nei_stop (r : Nat) : ∀ n, r ≤ n → stepW (neiF r) n = stepW (neiF r) r
  | 0, h => by obtain rfl : r = 0 := by omega
               rfl
  | n + 1, h => by
    by_cases e : r = n + 1
    · rw [e]
    · rw [stepW_succ, nei_stop r n (by omega), wireAt_no (by unfold neiF; rw [if_pos (by omega)]; omega), List.append_nil]
end Go.Proofs.Ytaedamnhobcdlaa
