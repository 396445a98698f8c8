/- FnMemBook: what lies in memory between two accesses, and how each store carries it on. -/
import Derived.Test.YticfnhbjoaecjaaDoorBkP
import Derived.Test.YticfnhbjoaecjaaDoorMemK
import Derived.Laws.Tables
namespace Go.Proofs.YticfnhbjoaecjaaDoor
open Go.RowKit
set_option linter.unusedVariables false
set_option maxRecDepth 100000

/-- The box of m, its memory (blocks lo to hi), the book, the log. -/
structure BInv (w wr : World) (b5 gB base n lo hi : Nat) (c0 c1 c2 : Value) (m : MemM) (V : Nat → Value) (lg : List TouchM) (lv : Value) : Prop where
  box : wr.heap[b5]? = some (.cells #[c0, c1, c2] 28 (0, 0))
  mem : Lies wr lo hi (MemIn [c0, c1, c2] m)
  ap : hi ≤ b5 ∨ base ≤ lo
  book : ValsAt wr gB 9 n V
  log : wr.ownsRow base 35 3 lv lg.length (flatT lg)
  bel : Below w.heap.size w wr
  lo5 : w.heap.size ≤ b5
  or5 : b5 < gB
  upB : gB < base
  top : base ≤ wr.heap.size
theorem BInv.below {w wr w' : World} {b5 gB base n lo hi : Nat} {c0 c1 c2 : Value} {m : MemM} {V : Nat → Value} {lg : List TouchM} {lv : Value} (h : BInv w wr b5 gB base n lo hi c0 c1 c2 m V lg lv) (hb : Below wr.heap.size wr w') : BInv w w' b5 gB base n lo hi c0 c1 c2 m V lg lv :=
  ⟨kept_block h.box hb, h.mem.below hb, h.ap, kept_block h.book hb, own_below h.log hb, below_seq h.bel hb, h.lo5, h.or5, h.upB, Nat.le_trans h.top hb.size⟩
/-- Another memory into the box. -/
theorem BInv.put {w wr w' : World} {b5 gB base n lo hi lo' hi' : Nat} {c0 c1 c2 d0 d1 d2 : Value} {m m' : MemM} {V : Nat → Value} {lg : List TouchM} {lv : Value} (h : BInv w wr b5 gB base n lo hi c0 c1 c2 m V lg lv)
    (hL : Lies wr lo' hi' (MemIn [d0, d1, d2] m')) (hlo : base ≤ lo') (hx : w'.heap[b5]? = some (.cells #[d0, d1, d2] 28 (0, 0))) (hg : wr.grownBy w' (some b5)) : BInv w w' b5 gB base n lo' hi' d0 d1 d2 m' V lg lv :=
  have hb : b5 < base := Nat.lt_trans h.or5 h.upB
  ⟨hx, hL.chg (Chg.of_grown (lo := b5) (hi := b5 + 1) hg (fun k hk => by simp at hk; omega)) (.inr (by omega)), .inr hlo, kept_grown h.book hg (by have := h.or5; simp; omega), h.log.kept hg (own_apart h.log hb),
   below_write h.bel hg h.lo5, h.lo5, h.or5, h.upB, Nat.le_trans h.top hg.size⟩
/-- A text into the book. -/
theorem BInv.note {w wr : World} {b5 gB base n lo hi : Nat} {c0 c1 c2 : Value} {m : MemM} {V : Nat → Value} {lg : List TouchM} {lv : Value} (h : BInv w wr b5 gB base n lo hi c0 c1 c2 m V lg lv) (k : Nat) (v : Value) :
    BInv w (wr.setCell ⟨gB, k, none⟩ v) b5 gB base n lo hi c0 c1 c2 m (fun j => if j = k then v else V j) lg lv :=
  have hg := set_grown wr gB k v
  have h5 := h.or5
  have hB := h.upB
  ⟨kept_grown h.box hg (by simp; omega), h.mem.chg (Chg.of_grown (lo := gB) (hi := gB + 1) hg (fun k hk => by simp at hk; omega)) (by rcases h.ap with e | e <;> omega), h.ap, h.book.set k v, h.log.kept hg (own_apart h.log hB),
   below_write h.bel hg (by have := h.lo5; omega), h.lo5, h.or5, h.upB, Nat.le_trans h.top hg.size⟩
/-- One access more in the log. -/
theorem BInv.more {w wr w' : World} {b5 gB base n lo hi : Nat} {c0 c1 c2 : Value} {m : MemM} {V : Nat → Value} {lg lg' : List TouchM} {lv lv' : Value} (h : BInv w wr b5 gB base n lo hi c0 c1 c2 m V lg lv)
    (hg : wr.grownBy w' lv.ownBlock) (ho : w'.ownsRow base 35 3 lv' lg'.length (flatT lg')) (hd : ∀ g, lv.ownBlock = some g → g < lo) : BInv w w' b5 gB base n lo hi c0 c1 c2 m V lg' lv' := by
  have h5 := h.or5
  have hB := h.upB
  have hl := h.lo5
  refine ⟨kept_grown h.box hg (fun e => ?_), h.mem.chg (Chg.of_grown (lo := 0) (hi := lo) hg (fun k hk => ⟨Nat.zero_le _, hd k hk⟩)) (.inr (Nat.le_refl _)), h.ap, kept_grown h.book hg (fun e => ?_), ho,
    h.bel.grown hg h.bel.size (fun k hk => ?_), h.lo5, h.or5, h.upB, Nat.le_trans h.top hg.size⟩
  · have := (h.log.lt _ e).1; omega
  · have := (h.log.lt _ e).1; omega
  · have := (h.log.lt k hk).1; omega
theorem BInv.vals {w wr : World} {b5 gB base n lo hi : Nat} {c0 c1 c2 : Value} {m : MemM} {V V' : Nat → Value} {lg : List TouchM} {lv : Value} (h : BInv w wr b5 gB base n lo hi c0 c1 c2 m V lg lv) (e : ∀ j, j < n → V j = V' j) : BInv w wr b5 gB base n lo hi c0 c1 c2 m V' lg lv :=
  ⟨h.box, h.mem, h.ap, h.book.ext e, h.log, h.bel, h.lo5, h.or5, h.upB, h.top⟩
/-- The struct m read and written whole. -/
theorem wp_st_store {P : Program} {w : World} {ops : Array Oper} {rest : List Oper} {o : Oper} {a : Act} {Q : Exit → Act → World → Prop} (hgd : o.guard = none) (ty : TypeId) (x y : Operand) (ho : o.op = .store ty x y) (b : Nat) (t : TypeId) (c0 c1 c2 d0 d1 d2 : Value)
    (hi : (P.info? ty).map (·.size) = some 3) (hx : a.eval x = .pointer (some ⟨b, 0, none⟩)) (hy : a.eval y = .agg #[d0, d1, d2]) (ha : w.heap[b]? = some (.cells #[c0, c1, c2] t (0, 0))) (h1 : d0.oneCell' = true ∧ d1.oneCell' = true ∧ d2.oneCell' = true)
    (h : ∀ w', w'.heap[b]? = some (.cells #[d0, d1, d2] t (0, 0)) → w.grownBy w' (some b) → w'.heap.size = w.heap.size → wpList P ops Q rest (a.put o.dst undef) w') : wpList P ops Q (o :: rest) a w := by
  refine wpList_store_row hgd ty x y ho b #[d0, d1, d2] hx hy t _ ha hi rfl (by simp [h1]) ?_
  exact h _ (setRow_heap w b _ _ t _ ha) ⟨rfl, rfl, rfl, by simp, fun k _ hk => setRow_other w b k _ (by intro e; subst e; exact hk rfl)⟩ (by simp)
/-- .. as one step of a region that draws its order, the world told ahead. -/
theorem step_st_store {P : Program} {ops : Array Oper} {o : Oper} {a : Act} {w : World} {K : Act → World → Prop} {Q : Exit → Act → World → Prop} {E : Prop} (w0 : World) (hw : w = w0) (hgd : o.guard = none) (ty : TypeId) (x y : Operand) (ho : o.op = .store ty x y) (b : Nat) (t : TypeId) (c0 c1 c2 d0 d1 d2 : Value)
    (ha : w0.heap[b]? = some (.cells #[c0, c1, c2] t (0, 0))) (hi : (P.info? ty).map (·.size) = some 3) (hx : a.eval x = .pointer (some ⟨b, 0, none⟩)) (hy : a.eval y = .agg #[d0, d1, d2]) (h1 : d0.oneCell' = true ∧ d1.oneCell' = true ∧ d2.oneCell' = true)
    (h : ∀ w', w'.heap[b]? = some (.cells #[d0, d1, d2] t (0, 0)) → w0.grownBy w' (some b) → w'.heap.size = w0.heap.size → K (a.put o.dst undef) w') :
    if Region.wanted o (yielded ops a.tmps) = true then Oper.wp P o a w K Q else E := by
  subst hw
  have hw : Region.wanted o (yielded ops a.tmps) = true := by simp [Region.wanted, hgd]
  rw [if_pos hw]
  refine wp_store_row ty x y ho b #[d0, d1, d2] hx hy t _ ha hi rfl (by simp [h1]) ?_
  exact h _ (setRow_heap w b _ _ t _ ha) ⟨rfl, rfl, rfl, by simp, fun k _ hk => setRow_other w b k _ (by intro e; subst e; exact hk rfl)⟩ (by simp)
theorem Tryd.sizeMem : (Tryd.prog.info? 28).map (·.size) = some 3 := by kernel_rfl
theorem rowT (w : World) (x y z : Int) : Row (w.alloc (.cells #[.int .i64 x, .int .i64 y, .int .i64 z] 35)) (some ⟨w.heap.size, 0, none⟩) (flatT [⟨x, y, z⟩]) := by
  refine .inr ⟨_, 0, rfl, fun i hi => ?_⟩
  rw [Nat.zero_add, cur_cell (alloc_at w _ _ rfl) i]
  simp [flatT]
end Go.Proofs.YticfnhbjoaecjaaDoor
