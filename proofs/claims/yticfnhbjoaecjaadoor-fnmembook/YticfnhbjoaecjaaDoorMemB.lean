/- A memory under construction: a box whose cells and log the call owns; one cell more, one access more. -/
import Derived.Test.YticfnhbjoaecjaaDoorMemCelB
import Derived.Test.YticfnhbjoaecjaaDoorMemL
import Derived.Deep.DeepMust
import Derived.Deep.RegionLaw
namespace Go.Proofs.YticfnhbjoaecjaaDoor
open Go.RowKit
set_option linter.unusedVariables false

/-- One cell more: its bytes made, then appended to the row of cells. -/
theorem cells_push {lo n : Nat} {vs : List Value} {ls : List (List UInt8)} {w w1 w2 w3 : World} {c d : Value} {l : List UInt8} (hd : Datas lo w.heap.size vs ls w) (hl : lo ≤ w.heap.size) (ho : w.ownsRow lo 43 1 c n vs)
    (hb : Below w.heap.size w w1) (hn : ByteSOwn w.heap.size w1.heap.size [d] l w1) (hb2 : Below w1.heap.size w1 w2) (hg : w2.grownBy w3 c.ownBlock) : Datas lo w3.heap.size (vs ++ [d]) (ls ++ [l]) w3 := by
  have D1 := hd.snoc (Nat.le_refl _) hb hn hl hb.size
  have D2 := D1.below (Nat.le_refl _) hb2
  have o2 := own_below ho (below_seq hb hb2)
  have D3 := D2.turned (Turned.own o2 hg) (by decide)
  exact D3.wide (Nat.le_refl _) (Nat.le_trans hb2.size hg.size)
theorem CellSOwn.mk' {lo n cap : Nat} {a : Option Addr} {vs : List Value} {ls : List (List UInt8)} {w : World} (h : w.ownsRow lo 43 1 (.slice a n cap) n vs) (hd : Datas lo w.heap.size vs ls w) : CellSOwn lo w.heap.size [.slice a n cap] ls w := by
  have h1 := h.1
  have h2 := hd.len
  have : ls.length = n := by omega
  subst this
  exact ⟨a, cap, vs, rfl, h, own_top h, hd⟩
theorem CellSOwn.open {lo hi n cap : Nat} {a : Option Addr} {ls : List (List UInt8)} {w : World} (h : CellSOwn lo hi [.slice a n cap] ls w) : n = ls.length ∧ ∃ vs, w.ownsRow lo 43 1 (.slice a n cap) n vs ∧ Datas lo hi vs ls w := by
  obtain ⟨a', cap', vs, hc, h1, h2, h3⟩ := h
  simp at hc
  obtain ⟨rfl, rfl, rfl⟩ := hc
  exact ⟨rfl, vs, h1, h3⟩
/-- The box of a memory whose rows the call owns. -/
structure MemBox (lo b : Nat) (z : Int) (a : Option Addr) (n cap : Nat) (x : Option Addr) (k xc : Nat) (ls : List (List UInt8)) (lg : List TouchM) (w : World) : Prop where
  box : w.heap[b]? = some (.cells #[.int .i64 z, .slice a n cap, .slice x k xc] 28 (0, 0))
  cells : CellSOwn lo w.heap.size [.slice a n cap] ls w
  log : TouchSOwn lo w.heap.size [.slice x k xc] lg w
theorem MemBox.below {lo b : Nat} {z : Int} {a : Option Addr} {n cap : Nat} {x : Option Addr} {k xc : Nat} {ls : List (List UInt8)} {lg : List TouchM} {w w' : World} (h : MemBox lo b z a n cap x k xc ls lg w) (hb : Below w.heap.size w w') : MemBox lo b z a n cap x k xc ls lg w' :=
  ⟨kept_block h.box hb, (((h.cells.lies (Nat.le_refl _)).below hb).now).wide (Nat.le_refl _) hb.size, (((h.log.lies (Nat.le_refl _)).below hb).now).wide (Nat.le_refl _) hb.size⟩
/-- 'x.Cells = v' behind an append. -/
theorem MemBox.push {lo b : Nat} {z : Int} {a a' : Option Addr} {n n' cap cap' : Nat} {x : Option Addr} {k xc : Nat} {ls : List (List UInt8)} {lg : List TouchM} {w w1 w2 w3 : World} {d : Value} {l : List UInt8} (h : MemBox lo b z a n cap x k xc ls lg w) (hl : lo ≤ w.heap.size)
    {vs : List Value} (ho : w.ownsRow lo 43 1 (.slice a n cap) n vs) (hd : Datas lo w.heap.size vs ls w)
    (hb : Below w.heap.size w w1) (hn : ByteSOwn w.heap.size w1.heap.size [d] l w1) (hb2 : Below w1.heap.size w1 w2) (hg : w2.grownBy w3 (Value.ownBlock (.slice a n cap))) (ho3 : w3.ownsRow lo 43 1 (.slice a' n' cap') n' (vs ++ [d])) :
    MemBox lo b z a' n' cap' x k xc (ls ++ [l]) lg (w3.setCell ⟨b, 1, none⟩ (.slice a' n' cap')) := by
  have o2 := own_below ho (below_seq hb hb2)
  have T := Turned.own o2 hg
  have D := cells_push hd hl ho hb hn hb2 hg
  have bx : w3.heap[b]? = some (.cells #[.int .i64 z, .slice a n cap, .slice x k xc] 28 (0, 0)) := T b _ _ _ (kept_block (kept_block h.box hb) hb2) (by decide)
  have sz : (w3.setCell ⟨b, 1, none⟩ (.slice a' n' cap')).heap.size = w3.heap.size := by simp
  have tS := turned_set (i := 1) bx (.slice a' n' cap')
  have lg3 : TouchSOwn lo w3.heap.size [.slice x k xc] lg w3 := ((((h.log.lies (Nat.le_refl _)).below (below_seq hb hb2)).now).turned T (by decide)).wide (Nat.le_refl _) (Nat.le_trans hb.size (Nat.le_trans hb2.size hg.size))
  refine ⟨by have := cur_set bx 1 (.slice a' n' cap'); simpa using this, ?_, ?_⟩
  · rw [sz]; exact (CellSOwn.mk' ho3 D).turned tS (by decide) (by decide)
  · rw [sz]; exact lg3.turned tS (by decide)
/-- 'x.Log = v' behind an append. -/
theorem MemBox.logged {lo b : Nat} {z : Int} {a : Option Addr} {n cap : Nat} {x x' : Option Addr} {k xc k' xc' : Nat} {ls : List (List UInt8)} {lg lg' : List TouchM} {w w2 w3 : World} (h : MemBox lo b z a n cap x k xc ls lg w) (hl : lo ≤ w.heap.size)
    (hb2 : Below w.heap.size w w2) (hg : w2.grownBy w3 (Value.ownBlock (.slice x k xc))) (ho3 : w3.ownsRow lo 35 3 (.slice x' k' xc') k' (flatT lg')) :
    MemBox lo b z a n cap x' k' xc' ls lg' (w3.setCell ⟨b, 2, none⟩ (.slice x' k' xc')) := by
  have h2 := h.below hb2
  obtain ⟨x0, xc0, e, o2, _⟩ := h2.log
  simp at e
  obtain ⟨rfl, rfl, rfl⟩ := e
  have T := Turned.own o2 hg
  have bx : w3.heap[b]? = some (.cells #[.int .i64 z, .slice a n cap, .slice x lg.length xc] 28 (0, 0)) := T b _ _ _ h2.box (by decide)
  have sz : (w3.setCell ⟨b, 2, none⟩ (.slice x' k' xc')).heap.size = w3.heap.size := by simp
  have tS := turned_set (i := 2) bx (.slice x' k' xc')
  have c3 : CellSOwn lo w3.heap.size [.slice a n cap] ls w3 := (h2.cells.turned T (by decide) (by decide)).wide (Nat.le_refl _) hg.size
  refine ⟨by have := cur_set bx 2 (.slice x' k' xc'); simpa using this, ?_, ?_⟩
  · rw [sz]; exact c3.turned tS (by decide) (by decide)
  · rw [sz]; exact (TouchSOwn.mk ho3).turned tS (by decide)
theorem MemBox.own {lo b : Nat} {z : Int} {a : Option Addr} {n cap : Nat} {x : Option Addr} {k xc : Nat} {ls : List (List UInt8)} {lg : List TouchM} {w : World} (h : MemBox lo b z a n cap x k xc ls lg w) : MemOwn lo w.heap.size [.int .i64 z, .slice a n cap, .slice x k xc] ⟨z, ls, lg⟩ w :=
  ⟨_, _, rfl, h.cells, h.log⟩
/-- A memory without cells and accesses, all its rows nil. -/
theorem memNil (lo hi : Nat) (z : Int) (w : World) : MemOwn lo hi [.int .i64 z, .slice none 0 0, .slice none 0 0] ⟨z, [], []⟩ w :=
  ⟨_, _, rfl, ⟨none, 0, [], rfl, World.ownsRow_nil _ _ _ _, fun k hk => by simp [Value.ownBlock] at hk, Datas.nil _ _ _⟩, ⟨none, 0, rfl, World.ownsRow_nil _ _ _ _, fun k hk => by simp [Value.ownBlock] at hk⟩⟩
def zeros (n : Nat) : List UInt8 := List.replicate n 0
theorem zeros_row (n : Nat) : (zeros n).map bval = List.replicate n (.int .u8 0) := by simp [zeros, bval]
theorem zeros_len (n : Nat) : (zeros n).length = n := by simp [zeros]
/-- 'make([]byte, n)'. -/
theorem made_bytes {w1 : World} {base g n : Nat} (h : w1.ownsRow base 5 1 (.slice (some ⟨g, 0, none⟩) n n) n (madeCells (Value.int .u8 0).cells (n * 1)).toList) : ByteSOwn base w1.heap.size [.slice (some ⟨g, 0, none⟩) n n] (zeros n) w1 := by
  have e : (madeCells (Value.int .u8 0).cells (n * 1)).toList = (zeros n).map bval := by rw [zeros_row, ← toList_madeCells_one, Nat.mul_one]; rfl
  rw [e] at h
  exact ByteSOwn.mk h
theorem made_bytes' {w1 : World} {base g n : Nat} (h : w1.ownsRow base 5 1 (.slice (some ⟨g, 0, none⟩) n n) n (madeCells #[Value.int .u8 0] n).toList) : ByteSOwn base w1.heap.size [.slice (some ⟨g, 0, none⟩) n n] (zeros n) w1 := by
  rw [toList_madeCells_one, ← zeros_row] at h
  exact ByteSOwn.mk h
end Go.Proofs.YticfnhbjoaecjaaDoor
