/- Seg in one. Written by tools/join2.py. -/
import Derived.Test.YtmndkpicbmffnaaJN2
section
namespace Go.Proofs.Ytmndkpicbmffnaa
open Go.RowKit
set_option linter.unusedVariables false

/-- Of the blocks that lay there none has turned but those from lo to hi. -/
structure Chg (lo hi : Nat) (w w' : World) : Prop where
  os : w'.os = w.os
  tape : w'.tape = w.tape
  output : w'.output = w.output
  size : w.heap.size ≤ w'.heap.size
  block : ∀ k, k < w.heap.size → ¬ (lo ≤ k ∧ k < hi) → w'.heap[k]? = w.heap[k]?
theorem Chg.of_below {lo hi : Nat} {w w' : World} (h : Below w.heap.size w w') : Chg lo hi w w' := ⟨h.os, h.tape, h.output, h.size, fun k hk _ => h.block k hk⟩
theorem Chg.of_grown {lo hi : Nat} {w w' : World} {row : Option Nat} (h : w.grownBy w' row) (hr : ∀ k, row = some k → lo ≤ k ∧ k < hi) : Chg lo hi w w' :=
  ⟨h.os, h.tape, h.output, h.size, fun k hk hn => h.block k hk (fun e => hn (hr k e.symm))⟩
theorem Chg.refl (lo hi : Nat) (w : World) : Chg lo hi w w := ⟨rfl, rfl, rfl, Nat.le_refl _, fun _ _ _ => rfl⟩
theorem Chg.trans {lo hi : Nat} {w w1 w2 : World} (h : Chg lo hi w w1) (k : Chg lo hi w1 w2) : Chg lo hi w w2 :=
  ⟨k.os.trans h.os, k.tape.trans h.tape, k.output.trans h.output, Nat.le_trans h.size k.size, fun i hi hn => (k.block i (Nat.lt_of_lt_of_le hi h.size) hn).trans (h.block i hi hn)⟩
theorem Chg.wide {lo hi lo' hi' : Nat} {w w' : World} (h : Chg lo hi w w') (h1 : lo' ≤ lo) (h2 : hi ≤ hi') : Chg lo' hi' w w' := ⟨h.os, h.tape, h.output, h.size, fun k hk hn => h.block k hk (fun e => hn ⟨by omega, by omega⟩)⟩
/-- What has turned is new since W. -/
theorem Chg.below {lo hi : Nat} {W w w' : World} (hB : Below W.heap.size W w) (h : Chg lo hi w w') (hl : W.heap.size ≤ lo) : Below W.heap.size W w' :=
  ⟨h.os.trans hB.os, h.tape.trans hB.tape, h.output.trans hB.output, Nat.le_trans hB.size h.size, fun k hk => (h.block k (Nat.lt_of_lt_of_le hk hB.size) (fun e => by omega)).trans (hB.block k hk)⟩

/-- P holds of w, by what lies in the blocks from lo to hi alone. -/
structure Lies (w : World) (lo hi : Nat) (P : World → Prop) : Prop where
  now : P w
  top : hi ≤ w.heap.size
  sup : ∀ w' : World, (∀ k, lo ≤ k → k < hi → w'.heap[k]? = w.heap[k]?) → P w'
theorem Lies.chg {w w' : World} {lo hi lo' hi' : Nat} {P : World → Prop} (h : Lies w lo hi P) (c : Chg lo' hi' w w') (ha : hi ≤ lo' ∨ hi' ≤ lo) : Lies w' lo hi P := by
  have ag : ∀ k, lo ≤ k → k < hi → w'.heap[k]? = w.heap[k]? := fun k h1 h2 => c.block k (Nat.lt_of_lt_of_le h2 h.top) (fun e => by omega)
  exact ⟨h.sup w' ag, Nat.le_trans h.top c.size, fun v e => h.sup v (fun k h1 h2 => (e k h1 h2).trans (ag k h1 h2))⟩
theorem Lies.below {w w' : World} {lo hi : Nat} {P : World → Prop} (h : Lies w lo hi P) (hb : Below w.heap.size w w') : Lies w' lo hi P :=
  h.chg (lo' := hi) (hi' := hi) (Chg.of_below hb) (.inl (Nat.le_refl _))
theorem Lies.wide {w : World} {lo hi lo' hi' : Nat} {P : World → Prop} (h : Lies w lo hi P) (h1 : lo' ≤ lo) (h2 : hi ≤ hi') (h3 : hi' ≤ w.heap.size) : Lies w lo' hi' P :=
  ⟨h.now, h3, fun b k => h.sup b (fun i i1 i2 => k i (by omega) (by omega))⟩
theorem Lies.imp {w : World} {lo hi : Nat} {P Q : World → Prop} (h : Lies w lo hi P) (k : ∀ w, P w → Q w) : Lies w lo hi Q :=
  ⟨k w h.now, h.top, fun b e => k b (h.sup b e)⟩
theorem Lies.and {w : World} {lo hi : Nat} {P Q : World → Prop} (h : Lies w lo hi P) (k : Lies w lo hi Q) : Lies w lo hi (fun w => P w ∧ Q w) :=
  ⟨⟨h.now, k.now⟩, h.top, fun b e => ⟨h.sup b e, k.sup b e⟩⟩

theorem Lies.box {w : World} {lo hi : Nat} {P : World → Prop} (h : Lies w lo hi P) (o : Obj) : Lies (w.alloc o) lo hi P := h.below ((Below.refl _ _).alloc (Nat.le_refl _) _)
theorem Lies.drew {w : World} {lo hi : Nat} {P : World → Prop} (h : Lies w lo hi P) : Lies w.drew lo hi P := h.below (belowN 1)
theorem below_drew {W w : World} (h : Below W.heap.size W w) : Below W.heap.size W w.drew := h.drew
theorem below_box {W w : World} (h : Below W.heap.size W w) (o : Obj) : Below W.heap.size W (w.alloc o) := h.alloc h.size o
/-- A block known whole. -/
theorem lies_block {w : World} {b : Nat} {o : Obj} (h : w.heap[b]? = some o) : Lies w b (b + 1) (fun w => w.heap[b]? = some o) :=
  ⟨h, (Array.getElem?_eq_some_iff.1 h).1, fun w2 e => (e b (Nat.le_refl _) (Nat.lt_succ_self _)).trans h⟩
theorem lies_box (w : World) (o : Obj) : Lies (w.alloc o) w.heap.size (w.heap.size + 1) (fun v => v.heap[w.heap.size]? = some o) := lies_block (alloc_at _ _ _ rfl)
theorem own_sup {s : Nat} {w1 w2 : World} {lo hi n : Nat} {e : TypeId} {v : Value} {xs : List Value} (h : w1.ownsRow lo e s v n xs) (hh : ∀ k, v.ownBlock = some k → k < hi) (k : ∀ k, lo ≤ k → k < hi → w2.heap[k]? = w1.heap[k]?) : w2.ownsRow lo e s v n xs := by
  refine ⟨h.1, ?_⟩
  rcases h.2 with h2 | ⟨g, cap, cur, hv, hg, hb, r⟩
  · exact .inl h2
  · refine .inr ⟨g, cap, cur, hv, hg, (k g hg (hh g ?_)).trans hb, r⟩
    rw [hv]; rfl
/-- A row that the call owns. -/
theorem lies_own {s : Nat} {w : World} {lo hi n : Nat} {e : TypeId} {v : Value} {xs : List Value} (h : w.ownsRow lo e s v n xs) (hh : ∀ k, v.ownBlock = some k → k < hi) (ht : hi ≤ w.heap.size) : Lies w lo hi (fun w => w.ownsRow lo e s v n xs) :=
  ⟨h, ht, fun w2 k => own_sup h hh k⟩
theorem own_top {s : Nat} {w : World} {lo n : Nat} {e : TypeId} {v : Value} {xs : List Value} (h : w.ownsRow lo e s v n xs) : ∀ k, v.ownBlock = some k → k < w.heap.size := fun k hk => (h.lt k hk).2
/-- .. made by the call just now. -/
theorem lies_made {s : Nat} {w : World} {lo n : Nat} {e : TypeId} {v : Value} {xs : List Value} (h : w.ownsRow lo e s v n xs) : Lies w lo w.heap.size (fun w => w.ownsRow lo e s v n xs) := lies_own h (own_top h) (Nat.le_refl _)
/-- A row that came in. -/
theorem lies_row {w : World} {a : Option Addr} {xs : List Value} (h : Row w a xs) : Lies w 0 w.heap.size (fun w => Row w a xs) := by
  by_cases h0 : xs = []
  · exact ⟨h, Nat.le_refl _, fun w2 _ => .inl h0⟩
  rcases h with h | ⟨b, off, rfl, hc⟩
  · exact absurd h h0
  have hp : 0 < xs.length := List.length_pos_iff.2 h0
  have hlt : b < w.heap.size := by
    have h1 := hc 0 hp
    rw [List.getElem?_eq_getElem hp] at h1
    exact block_lt_of_cell h1
  refine ⟨.inr ⟨b, off, rfl, hc⟩, Nat.le_refl _, fun w2 e => .inr ⟨b, off, rfl, fun i hi => ?_⟩⟩
  rw [← hc i hi]
  exact World.cell?_of_block (e b (Nat.zero_le _) hlt)
/-- What a marking, a look at marks, a comparison leave. -/
def MarkPost (P : World → Prop) (lo hi K : Nat) (w : World) (e : Ending) (w' : World) : Prop := ∃ k' : Nat, e = .returned (.int .i64 (k' : Int)) ∧ k' = K ∧ P w' ∧ Chg lo hi w w'
def HeldPost (K : Nat) (w : World) (e : Ending) (w' : World) : Prop := ∃ k' : Nat, e = .returned (.int .i64 (k' : Int)) ∧ k' = K ∧ Below w.heap.size w w'
def TruePost (w : World) (e : Ending) (w' : World) : Prop := e = .returned (.bool true) ∧ Below w.heap.size w w'
theorem size_drew (w : World) : w.drew.heap.size = w.heap.size := rfl
theorem size_box (w : World) (o : Obj) : (w.alloc o).heap.size = w.heap.size + 1 := by simp
end Go.Proofs.Ytmndkpicbmffnaa
end
