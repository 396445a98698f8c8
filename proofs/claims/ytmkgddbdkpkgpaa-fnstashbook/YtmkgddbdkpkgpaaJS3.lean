/- FlatG, Seg in one. Written by tools/join2.py. -/
import Derived.Test.YtmkgddbdkpkgpaaJS1
import Derived.Laws.MakeOwn
import Derived.DataReads
section
namespace Go.Proofs.Ytmkgddbdkpkgpaa
open Go.RowKit
set_option linter.unusedVariables false

def flatG {α : Type} (f : α → List Value) : List α → List Value
  | [] => []
  | x :: l => f x ++ flatG f l
section
variable {α : Type} {f : α → List Value} {s : Nat} (hf : ∀ x, (f x).length = s)
include hf
theorem flatG_len : ∀ l : List α, (flatG f l).length = l.length * s
  | [] => by simp [flatG]
  | x :: l => by rw [flatG, List.length_append, hf, flatG_len l, List.length_cons, Nat.add_mul]; omega
theorem flatG_at : ∀ (l : List α) (k j : Nat) (h : k < l.length), j < s → (flatG f l)[k * s + j]? = (f l[k])[j]?
  | x :: l, 0, j, h, hj => by
    simp only [flatG, Nat.zero_mul, Nat.zero_add, List.getElem_cons_zero]
    rw [List.getElem?_append_left (by rw [hf]; exact hj)]
  | x :: l, k + 1, j, h, hj => by
    have e : (k + 1) * s + j = (f x).length + (k * s + j) := by rw [hf, Nat.add_mul]; omega
    rw [flatG, e, List.getElem?_append_right (by omega)]
    simp only [Nat.add_sub_cancel_left, List.getElem_cons_succ]
    exact flatG_at l k j (by simpa using h) hj
end
theorem flatG_app {α : Type} (f : α → List Value) : ∀ l m : List α, flatG f (l ++ m) = flatG f l ++ flatG f m
  | [], m => rfl
  | x :: l, m => by simp [flatG, flatG_app f l m]
theorem flatG_one {α : Type} {f : α → List Value} (h1 : ∀ x, ∀ v ∈ f x, v.oneCell' = true) : ∀ (l : List α), ∀ v ∈ flatG f l, v.oneCell' = true
  | x :: l, v, h => by
    rcases List.mem_append.1 h with h | h
    · exact h1 x v h
    · exact flatG_one h1 l v h
/-- Cells stored one behind the other. -/
def setsL : List Value → Nat → List Value → List Value
  | xs, _, [] => xs
  | xs, o, v :: vs => setsL (xs.set o v) (o + 1) vs
theorem setsL_left (xs ys : List Value) : ∀ (vs : List Value) (o : Nat), o + vs.length ≤ xs.length → setsL (xs ++ ys) o vs = setsL xs o vs ++ ys
  | [], o, h => rfl
  | v :: vs, o, h => by
    simp only [List.length_cons] at h
    rw [setsL, setsL, List.set_append_left _ _ (by omega)]
    exact setsL_left (xs.set o v) ys vs (o + 1) (by simp; omega)
theorem setsL_right (xs ys : List Value) : ∀ (vs : List Value) (o : Nat) (ys : List Value), setsL (xs ++ ys) (xs.length + o) vs = xs ++ setsL ys o vs
  | [], o, ys => rfl
  | v :: vs, o, ys => by
    rw [setsL, setsL, List.set_append_right _ _ (by omega), Nat.add_sub_cancel_left, Nat.add_assoc]
    exact setsL_right xs ys vs (o + 1) _
theorem setsL_full (ps : List Value) : ∀ (vs xs : List Value), vs.length = xs.length → setsL (ps ++ xs) ps.length vs = ps ++ vs
  | [], [], _ => rfl
  | v :: vs, x :: xs, h => by
    have e : (ps ++ x :: xs).set ps.length v = (ps ++ [v]) ++ xs := by
      rw [List.set_append_right _ _ (by omega)]; simp
    rw [setsL, e]
    have := setsL_full (ps ++ [v]) vs xs (by simpa using h)
    rw [List.length_append] at this
    simpa using this
theorem flatG_set {α : Type} {f : α → List Value} {s : Nat} (hf : ∀ x, (f x).length = s) (t : α) : ∀ (l : List α) (k : Nat) (h : k < l.length), setsL (flatG f l) (k * s) (f t) = flatG f (l.set k t)
  | x :: l, 0, h => by
    rw [List.set_cons_zero, flatG, flatG, Nat.zero_mul, setsL_left _ _ _ _ (by rw [hf, hf]; omega)]
    congr 1
    have := setsL_full [] (f t) (f x) (by rw [hf, hf])
    simpa using this
  | x :: l, k + 1, h => by
    rw [List.set_cons_succ, flatG, flatG, show (k + 1) * s = (f x).length + k * s from by rw [hf, Nat.add_mul]; omega, setsL_right (f x) (flatG f l)]
    rw [flatG_set hf t l k (by simpa using h)]
theorem flatG_take {α : Type} {f : α → List Value} {s : Nat} (hf : ∀ x, (f x).length = s) : ∀ (l : List α) (k : Nat), flatG f (l.take k) = (flatG f l).take (k * s)
  | [], k => by simp [flatG]
  | x :: l, 0 => by simp [flatG]
  | x :: l, k + 1 => by
    rw [List.take_succ_cons, flatG, flatG, flatG_take hf l k, show (k + 1) * s = (f x).length + k * s from by rw [hf, Nat.add_mul]; omega, List.take_length_add_append]
theorem flatG_drop {α : Type} {f : α → List Value} {s : Nat} (hf : ∀ x, (f x).length = s) : ∀ (l : List α) (k : Nat), flatG f (l.drop k) = (flatG f l).drop (k * s)
  | [], k => by simp [flatG]
  | x :: l, 0 => by simp
  | x :: l, k + 1 => by
    rw [List.drop_succ_cons, flatG, flatG_drop hf l k, show (k + 1) * s = (f x).length + k * s from by rw [hf, Nat.add_mul]; omega, List.drop_length_add_append]
/-- The cells of element k in a row. -/
theorem Row.elem {α : Type} {f : α → List Value} {s : Nat} (hf : ∀ x, (f x).length = s) (h0 : 0 < s) {w : World} {a : Option Addr} {l : List α} (h : Row w a (flatG f l)) {k : Nat} (hk : k < l.length) : ∃ b off, a = some ⟨b, off, none⟩ ∧ ∀ j, j < s → w.cell? ⟨b, off + k * s + j, none⟩ = (f l[k])[j]? := by
  have hl := flatG_len hf l
  have hlt : k * s + s ≤ (flatG f l).length := by rw [hl, ← Nat.succ_mul]; exact Nat.mul_le_mul_right s hk
  rcases h with h | ⟨b, off, rfl, hc⟩
  · rw [h] at hlt; simp at hlt; omega
  · exact ⟨b, off, rfl, fun j hj => by rw [Nat.add_assoc, hc _ (by omega), flatG_at hf l k j hk hj]⟩
/-- Elements of a row that the call owns. -/
theorem own_elem {α : Type} {f : α → List Value} {s : Nat} (hf : ∀ x, (f x).length = s) {w : World} {base g n cap k : Nat} {e : TypeId} {l : List α} (h : w.ownsRow base e s (.slice (some ⟨g, 0, none⟩) n cap) n (flatG f l)) (hk : k < l.length) : ∀ j, j < s → w.cell? ⟨g, k * s + j, none⟩ = (f l[k])[j]? := fun j hj => by
  have hl := flatG_len hf l
  have hlt : k * s + s ≤ (flatG f l).length := by rw [hl, ← Nat.succ_mul]; exact Nat.mul_le_mul_right s hk
  have := h.cellAt (k * s + j) (by have := h.1; omega)
  rw [this, flatG_at hf l k j hk hj]
def setCellsL : World → Nat → Nat → List Value → World
  | w, _, _, [] => w
  | w, g, o, v :: vs => setCellsL (w.setCell ⟨g, o, none⟩ v) g (o + 1) vs
theorem own_setsL {e : TypeId} {s base g n cap : Nat} : ∀ (vs : List Value) (w : World) (xs : List Value) (o : Nat), w.ownsRow base e s (.slice (some ⟨g, 0, none⟩) n cap) n xs →
    (setCellsL w g o vs).ownsRow base e s (.slice (some ⟨g, 0, none⟩) n cap) n (setsL xs o vs) ∧ w.grownBy (setCellsL w g o vs) (some g)
  | [], w, xs, o, h => ⟨h, World.grownBy.refl _ _⟩
  | v :: vs, w, xs, o, h => by
    obtain ⟨h1, g1⟩ := h.stored o v
    obtain ⟨h2, g2⟩ := own_setsL vs _ _ (o + 1) h1
    exact ⟨h2, grown_trans g1 g2⟩
/-- An element stored into an owned row, cell by cell. -/
theorem own_elem_set {α : Type} {f : α → List Value} {s : Nat} (hf : ∀ x, (f x).length = s) {w : World} {base g n cap k : Nat} {e : TypeId} {l : List α} (h : w.ownsRow base e s (.slice (some ⟨g, 0, none⟩) n cap) n (flatG f l)) (hk : k < l.length) (t : α) :
    (setCellsL w g (k * s) (f t)).ownsRow base e s (.slice (some ⟨g, 0, none⟩) n cap) n (flatG f (l.set k t)) ∧ w.grownBy (setCellsL w g (k * s) (f t)) (some g) := by
  have := own_setsL (f t) w (flatG f l) (k * s) h
  rw [flatG_set hf t l k hk] at this
  exact this
/-- A row out of its elements' cells. -/
theorem row_of_elems {α : Type} {f : α → List Value} {s : Nat} (hf : ∀ x, (f x).length = s) (h0 : 0 < s) {w : World} {a : Addr} {len : Nat} (V : Nat → α) (h : ∀ i, i < len → ∀ j, j < s → w.cell? ((a.add (i * s)).add j) = (f (V i))[j]?) : Row w (some a) (flatG f ((List.range len).map V)) := by
  by_cases hl : len = 0
  · subst hl; exact .inl rfl
  · obtain ⟨b, off, spot⟩ := a
    have hv := h 0 (by omega) 0 h0
    rw [List.getElem?_eq_getElem (by rw [hf]; exact h0)] at hv
    have hspot : spot = none := by simpa [Addr.add] using World.cell?_spot hv
    subst hspot
    have e1 : ∀ o k, (⟨b, o, none⟩ : Addr).add k = ⟨b, o + k, none⟩ := fun o k => by unfold Addr.add; split <;> simp_all
    have ea : ∀ i j, ((⟨b, off, none⟩ : Addr).add i).add j = ⟨b, off + (i + j), none⟩ := fun i j => by rw [e1, e1, Nat.add_assoc]
    refine .inr ⟨b, off, rfl, fun j hj => ?_⟩
    rw [flatG_len hf] at hj
    simp at hj
    have hd := Nat.div_add_mod j s
    have hk : j / s < len := (Nat.div_lt_iff_lt_mul h0).2 hj
    have hm : j % s < s := Nat.mod_lt _ h0
    have g := flatG_at hf ((List.range len).map V) (j / s) (j % s) (by simpa using hk) hm
    have q := h (j / s) hk (j % s) hm
    rw [ea] at q
    rw [show j / s * s + j % s = j from by rw [Nat.mul_comm]; exact hd] at q g
    rw [q, g]
    simp
theorem made_flat {α : Type} {f : α → List Value} {s : Nat} (hf : ∀ x, (f x).length = s) (h0 : 0 < s) (z : α) (zs : Array Value) (hz : zs.toList = f z) (n : Nat) : (madeCells zs (n * s)).toList = flatG f (List.replicate n z) := by
  have hs : zs.size = s := by rw [← Array.length_toList, hz, hf]
  apply List.ext_getElem?
  intro j
  by_cases hj : j < n * s
  · have hd := Nat.div_add_mod j s
    have hk : j / s < n := (Nat.div_lt_iff_lt_mul h0).2 hj
    have hm : j % s < s := Nat.mod_lt _ h0
    have g := flatG_at hf (List.replicate n z) (j / s) (j % s) (by simpa using hk) hm
    rw [show j / s * s + j % s = j from by rw [Nat.mul_comm]; exact hd] at g
    rw [g]
    have hz' : (f z)[j % s]? = zs[j % s]? := by rw [← hz]; simp
    simp only [List.getElem_replicate]
    rw [hz']
    simp [madeCells, hj, hs]
    rw [Array.getElem?_eq_getElem (by omega), getElem!_pos _ _ (by omega)]
  · rw [List.getElem?_eq_none (by simp [madeCells]; omega), List.getElem?_eq_none (by rw [flatG_len hf]; simp; omega)]
end Go.Proofs.Ytmkgddbdkpkgpaa
end

section
namespace Go.Proofs.Ytmkgddbdkpkgpaa
open Go.RowKit
set_option linter.unusedVariables false

/-- Of the blocks that lay there none has turned but those from lo to hi. -/
structure Chg (lo hi : Nat) (w w' : World) : Prop where
  os : w'.os = w.os
  tape : w'.tape = w.tape
  output : w'.output = w.output
  size : w.heap.size ≤ w'.heap.size
  block : ∀ k, k < w.heap.size → ¬ (lo ≤ k ∧ k < hi) → w'.heap[k]? = w.heap[k]?
theorem Chg.of_below {lo hi : Nat} {w w' : World} (h : Below w.heap.size w w') : Chg lo hi w w' := ⟨h.os, h.tape, h.output, h.size, fun k hk _ => h.block k hk⟩
theorem Chg.of_grown {lo hi : Nat} {w w' : World} {row : Option Nat} (h : w.grownBy w' row) (hr : ∀ k, row = some k → lo ≤ k ∧ k < hi) : Chg lo hi w w' :=
  ⟨h.os, h.tape, h.output, h.size, fun k hk hn => h.block k hk (fun e => hn (hr k e.symm))⟩
theorem Chg.refl (lo hi : Nat) (w : World) : Chg lo hi w w := ⟨rfl, rfl, rfl, Nat.le_refl _, fun _ _ _ => rfl⟩
theorem Chg.trans {lo hi : Nat} {w w1 w2 : World} (h : Chg lo hi w w1) (k : Chg lo hi w1 w2) : Chg lo hi w w2 :=
  ⟨k.os.trans h.os, k.tape.trans h.tape, k.output.trans h.output, Nat.le_trans h.size k.size, fun i hi hn => (k.block i (Nat.lt_of_lt_of_le hi h.size) hn).trans (h.block i hi hn)⟩
theorem Chg.wide {lo hi lo' hi' : Nat} {w w' : World} (h : Chg lo hi w w') (h1 : lo' ≤ lo) (h2 : hi ≤ hi') : Chg lo' hi' w w' := ⟨h.os, h.tape, h.output, h.size, fun k hk hn => h.block k hk (fun e => hn ⟨by omega, by omega⟩)⟩
/-- What has turned is new since W. -/
theorem Chg.below {lo hi : Nat} {W w w' : World} (hB : Below W.heap.size W w) (h : Chg lo hi w w') (hl : W.heap.size ≤ lo) : Below W.heap.size W w' :=
  ⟨h.os.trans hB.os, h.tape.trans hB.tape, h.output.trans hB.output, Nat.le_trans hB.size h.size, fun k hk => (h.block k (Nat.lt_of_lt_of_le hk hB.size) (fun e => by omega)).trans (hB.block k hk)⟩

/-- P holds of w, by what lies in the blocks from lo to hi alone. -/
structure Lies (w : World) (lo hi : Nat) (P : World → Prop) : Prop where
  now : P w
  top : hi ≤ w.heap.size
  sup : ∀ w' : World, (∀ k, lo ≤ k → k < hi → w'.heap[k]? = w.heap[k]?) → P w'
theorem Lies.chg {w w' : World} {lo hi lo' hi' : Nat} {P : World → Prop} (h : Lies w lo hi P) (c : Chg lo' hi' w w') (ha : hi ≤ lo' ∨ hi' ≤ lo) : Lies w' lo hi P := by
  have ag : ∀ k, lo ≤ k → k < hi → w'.heap[k]? = w.heap[k]? := fun k h1 h2 => c.block k (Nat.lt_of_lt_of_le h2 h.top) (fun e => by omega)
  exact ⟨h.sup w' ag, Nat.le_trans h.top c.size, fun v e => h.sup v (fun k h1 h2 => (e k h1 h2).trans (ag k h1 h2))⟩
theorem Lies.below {w w' : World} {lo hi : Nat} {P : World → Prop} (h : Lies w lo hi P) (hb : Below w.heap.size w w') : Lies w' lo hi P :=
  h.chg (lo' := hi) (hi' := hi) (Chg.of_below hb) (.inl (Nat.le_refl _))
theorem Lies.wide {w : World} {lo hi lo' hi' : Nat} {P : World → Prop} (h : Lies w lo hi P) (h1 : lo' ≤ lo) (h2 : hi ≤ hi') (h3 : hi' ≤ w.heap.size) : Lies w lo' hi' P :=
  ⟨h.now, h3, fun b k => h.sup b (fun i i1 i2 => k i (by omega) (by omega))⟩
theorem Lies.imp {w : World} {lo hi : Nat} {P Q : World → Prop} (h : Lies w lo hi P) (k : ∀ w, P w → Q w) : Lies w lo hi Q :=
  ⟨k w h.now, h.top, fun b e => k b (h.sup b e)⟩
theorem Lies.and {w : World} {lo hi : Nat} {P Q : World → Prop} (h : Lies w lo hi P) (k : Lies w lo hi Q) : Lies w lo hi (fun w => P w ∧ Q w) :=
  ⟨⟨h.now, k.now⟩, h.top, fun b e => ⟨h.sup b e, k.sup b e⟩⟩

theorem Lies.box {w : World} {lo hi : Nat} {P : World → Prop} (h : Lies w lo hi P) (o : Obj) : Lies (w.alloc o) lo hi P := h.below ((Below.refl _ _).alloc (Nat.le_refl _) _)
theorem Lies.drew {w : World} {lo hi : Nat} {P : World → Prop} (h : Lies w lo hi P) : Lies w.drew lo hi P := h.below (belowN 1)
theorem below_drew {W w : World} (h : Below W.heap.size W w) : Below W.heap.size W w.drew := h.drew
theorem below_box {W w : World} (h : Below W.heap.size W w) (o : Obj) : Below W.heap.size W (w.alloc o) := h.alloc h.size o
/-- A block known whole. -/
theorem lies_block {w : World} {b : Nat} {o : Obj} (h : w.heap[b]? = some o) : Lies w b (b + 1) (fun w => w.heap[b]? = some o) :=
  ⟨h, (Array.getElem?_eq_some_iff.1 h).1, fun w2 e => (e b (Nat.le_refl _) (Nat.lt_succ_self _)).trans h⟩
theorem lies_box (w : World) (o : Obj) : Lies (w.alloc o) w.heap.size (w.heap.size + 1) (fun v => v.heap[w.heap.size]? = some o) := lies_block (alloc_at _ _ _ rfl)
theorem own_sup {s : Nat} {w1 w2 : World} {lo hi n : Nat} {e : TypeId} {v : Value} {xs : List Value} (h : w1.ownsRow lo e s v n xs) (hh : ∀ k, v.ownBlock = some k → k < hi) (k : ∀ k, lo ≤ k → k < hi → w2.heap[k]? = w1.heap[k]?) : w2.ownsRow lo e s v n xs := by
  refine ⟨h.1, ?_⟩
  rcases h.2 with h2 | ⟨g, cap, cur, hv, hg, hb, r⟩
  · exact .inl h2
  · refine .inr ⟨g, cap, cur, hv, hg, (k g hg (hh g ?_)).trans hb, r⟩
    rw [hv]; rfl
/-- A row that the call owns. -/
theorem lies_own {s : Nat} {w : World} {lo hi n : Nat} {e : TypeId} {v : Value} {xs : List Value} (h : w.ownsRow lo e s v n xs) (hh : ∀ k, v.ownBlock = some k → k < hi) (ht : hi ≤ w.heap.size) : Lies w lo hi (fun w => w.ownsRow lo e s v n xs) :=
  ⟨h, ht, fun w2 k => own_sup h hh k⟩
theorem own_top {s : Nat} {w : World} {lo n : Nat} {e : TypeId} {v : Value} {xs : List Value} (h : w.ownsRow lo e s v n xs) : ∀ k, v.ownBlock = some k → k < w.heap.size := fun k hk => (h.lt k hk).2
/-- .. made by the call just now. -/
theorem lies_made {s : Nat} {w : World} {lo n : Nat} {e : TypeId} {v : Value} {xs : List Value} (h : w.ownsRow lo e s v n xs) : Lies w lo w.heap.size (fun w => w.ownsRow lo e s v n xs) := lies_own h (own_top h) (Nat.le_refl _)
/-- A row that came in. -/
theorem lies_row {w : World} {a : Option Addr} {xs : List Value} (h : Row w a xs) : Lies w 0 w.heap.size (fun w => Row w a xs) := by
  by_cases h0 : xs = []
  · exact ⟨h, Nat.le_refl _, fun w2 _ => .inl h0⟩
  rcases h with h | ⟨b, off, rfl, hc⟩
  · exact absurd h h0
  have hp : 0 < xs.length := List.length_pos_iff.2 h0
  have hlt : b < w.heap.size := by
    have h1 := hc 0 hp
    rw [List.getElem?_eq_getElem hp] at h1
    exact block_lt_of_cell h1
  refine ⟨.inr ⟨b, off, rfl, hc⟩, Nat.le_refl _, fun w2 e => .inr ⟨b, off, rfl, fun i hi => ?_⟩⟩
  rw [← hc i hi]
  exact World.cell?_of_block (e b (Nat.zero_le _) hlt)
/-- What a marking, a look at marks, a comparison leave. -/
def MarkPost (P : World → Prop) (lo hi K : Nat) (w : World) (e : Ending) (w' : World) : Prop := ∃ k' : Nat, e = .returned (.int .i64 (k' : Int)) ∧ k' = K ∧ P w' ∧ Chg lo hi w w'
def HeldPost (K : Nat) (w : World) (e : Ending) (w' : World) : Prop := ∃ k' : Nat, e = .returned (.int .i64 (k' : Int)) ∧ k' = K ∧ Below w.heap.size w w'
def TruePost (w : World) (e : Ending) (w' : World) : Prop := e = .returned (.bool true) ∧ Below w.heap.size w w'
theorem size_drew (w : World) : w.drew.heap.size = w.heap.size := rfl
theorem size_box (w : World) (o : Obj) : (w.alloc o).heap.size = w.heap.size + 1 := by simp
end Go.Proofs.Ytmkgddbdkpkgpaa
end
