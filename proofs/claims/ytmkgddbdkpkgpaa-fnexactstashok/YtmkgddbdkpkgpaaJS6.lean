/- NstG in one. Written by tools/join2.py. -/
import Derived.Test.YtmkgddbdkpkgpaaJS3
import Derived.Test.YtmkgddbdkpkgpaaJS5
section
namespace Go.Proofs.Ytmkgddbdkpkgpaa
open Go.RowKit
set_option linter.unusedVariables false

abbrev Foot := Nat → Prop
/-- An element's cells and what they stand for. -/
structure Elt (α : Type) (s : Nat) where
  cs : List Value
  m : α
  len : cs.length = s
  one : ∀ v ∈ cs, v.oneCell' = true
def eltL {α : Type} {s : Nat} (e : Elt α s) : List Value := e.cs
theorem eltL_len {α : Type} {s : Nat} : ∀ e : Elt α s, (eltL e).length = s := Elt.len
theorem eltL_one {α : Type} {s : Nat} : ∀ e : Elt α s, ∀ v ∈ eltL e, v.oneCell' = true := Elt.one
/-- Of the blocks that lay there only those of F have turned. -/
structure ChgF (F : Foot) (w w' : World) : Prop where
  os : w'.os = w.os
  tape : w'.tape = w.tape
  output : w'.output = w.output
  size : w.heap.size ≤ w'.heap.size
  block : ∀ b, b < w.heap.size → ¬ F b → w'.heap[b]? = w.heap[b]?
theorem ChgF.refl (F : Foot) (w : World) : ChgF F w w := ⟨rfl, rfl, rfl, Nat.le_refl _, fun _ _ _ => rfl⟩
theorem ChgF.trans {F : Foot} {w w1 w2 : World} (h : ChgF F w w1) (k : ChgF F w1 w2) : ChgF F w w2 :=
  ⟨k.os.trans h.os, k.tape.trans h.tape, k.output.trans h.output, Nat.le_trans h.size k.size, fun i hi hn => (k.block i (Nat.lt_of_lt_of_le hi h.size) hn).trans (h.block i hi hn)⟩
theorem ChgF.mono {F G : Foot} {w w' : World} (h : ChgF F w w') (k : ∀ b, F b → G b) : ChgF G w w' := ⟨h.os, h.tape, h.output, h.size, fun b hb hn => h.block b hb (fun e => hn (k b e))⟩
theorem ChgF.of_grown {F : Foot} {w w' : World} {row : Option Nat} (h : w.grownBy w' row) (hr : ∀ b, row = some b → F b) : ChgF F w w' := ⟨h.os, h.tape, h.output, h.size, fun k hk hn => h.block k hk (fun e => hn (hr k e.symm))⟩
theorem ChgF.of_below {F : Foot} {w w' : World} (h : Below w.heap.size w w') : ChgF F w w' := ⟨h.os, h.tape, h.output, h.size, fun k hk _ => h.block k hk⟩
theorem ChgF.chg {F : Foot} {lo hi : Nat} {w w' : World} (h : ChgF F w w') (k : ∀ b, F b → lo ≤ b ∧ b < hi) : Chg lo hi w w' := ⟨h.os, h.tape, h.output, h.size, fun b hb hn => h.block b hb (fun e => hn (k b e))⟩
/-- P hangs on the blocks that lay there alone. -/
structure Rdg {α : Type} (P : List Value → α → World → Prop) : Prop where
  keep : ∀ {cs : List Value} {m : α} {w w' : World}, P cs m w → (∀ b, b < w.heap.size → w'.heap[b]? = w.heap[b]?) → P cs m w'
theorem Rdg.lies {α : Type} {P : List Value → α → World → Prop} (h : Rdg P) {cs : List Value} {m : α} {w : World} (k : P cs m w) : Lies w 0 w.heap.size (P cs m) := ⟨k, Nat.le_refl _, fun _ e => h.keep k (fun b hb => e b (Nat.zero_le _) hb)⟩
theorem Rdg.below {α : Type} {P : List Value → α → World → Prop} (h : Rdg P) {cs : List Value} {m : α} {w w' : World} (k : P cs m w) (hb : Below w.heap.size w w') : P cs m w' := h.keep k hb.block
/-- O: the cells stand for m, in memory from lo on that the call owns, of which F tells the blocks. -/
structure Ong {α : Type} (O : Foot → Nat → List Value → α → World → Prop) (P : List Value → α → World → Prop) : Prop where
  sup : ∀ {F : Foot} {lo : Nat} {cs : List Value} {m : α} {w w' : World}, O F lo cs m w → (∀ b, F b → w'.heap[b]? = w.heap[b]?) → O F lo cs m w'
  at_ : ∀ {F : Foot} {lo : Nat} {cs : List Value} {m : α} {w : World}, O F lo cs m w → ∀ b, F b → lo ≤ b ∧ b < w.heap.size
  low : ∀ {F : Foot} {lo lo' : Nat} {cs : List Value} {m : α} {w : World}, O F lo cs m w → lo' ≤ lo → O F lo' cs m w
  rd : ∀ {F : Foot} {lo : Nat} {cs : List Value} {m : α} {w : World}, O F lo cs m w → P cs m w
/-- .. and lies in blocks from lo to hi. -/
def SegO {α : Type} (O : Foot → Nat → List Value → α → World → Prop) (lo hi : Nat) (cs : List Value) (m : α) (w : World) : Prop := ∃ F, O F lo cs m w ∧ ∀ b, F b → b < hi
section
variable {α : Type} {O : Foot → Nat → List Value → α → World → Prop} {P : List Value → α → World → Prop}
theorem Ong.read (hO : Ong O P) {lo hi : Nat} {cs : List Value} {m : α} {w : World} (h : SegO O lo hi cs m w) : P cs m w := by
  obtain ⟨F, h1, _⟩ := h
  exact hO.rd h1
theorem Ong.lies (hO : Ong O P) {lo hi : Nat} {cs : List Value} {m : α} {w : World} (h : SegO O lo hi cs m w) (ht : hi ≤ w.heap.size) : Lies w lo hi (SegO O lo hi cs m) := by
  obtain ⟨F, h1, h2⟩ := h
  exact ⟨⟨F, h1, h2⟩, ht, fun w' e => ⟨F, hO.sup h1 (fun b hb => e b (hO.at_ h1 b hb).1 (h2 b hb)), h2⟩⟩
theorem Ong.wide (hO : Ong O P) {lo hi lo' hi' : Nat} {cs : List Value} {m : α} {w : World} (h : SegO O lo hi cs m w) (h1 : lo' ≤ lo) (h2 : hi ≤ hi') : SegO O lo' hi' cs m w := by
  obtain ⟨F, k1, k2⟩ := h
  exact ⟨F, hO.low k1 h1, fun b hb => Nat.lt_of_lt_of_le (k2 b hb) h2⟩
theorem Ong.seg (hO : Ong O P) {F : Foot} {lo : Nat} {cs : List Value} {m : α} {w : World} (h : O F lo cs m w) : SegO O lo w.heap.size cs m w := ⟨F, h, fun b hb => (hO.at_ h b hb).2⟩
end
theorem own_keptF {s base n : Nat} {e : TypeId} {v : Value} {xs : List Value} {w w' : World} (h : w.ownsRow base e s v n xs) (hk : ∀ b, v.ownBlock = some b → w'.heap[b]? = w.heap[b]?) : w'.ownsRow base e s v n xs := by
  refine ⟨h.1, ?_⟩
  rcases h.2 with h2 | ⟨g, cap, cur, rfl, hg, hb, r⟩
  · exact .inl h2
  · exact .inr ⟨g, cap, cur, rfl, hg, (hk g rfl).trans hb, r⟩
/-- A row of elements, read. -/
def NIn {α : Type} (P : List Value → α → World → Prop) (s : Nat) (cs : List Value) (l : List α) (w : World) : Prop :=
  ∃ (a : Option Addr) (cap : Nat) (es : List (Elt α s)), cs = [.slice a es.length cap] ∧ es.length ≤ cap ∧ es.length ≤ maxLen ∧ Row w a (flatG eltL es) ∧ es.map Elt.m = l ∧ ∀ e ∈ es, P e.cs e.m w
theorem nIn_rdg {α : Type} {P : List Value → α → World → Prop} (hP : Rdg P) (s : Nat) : Rdg (NIn P s) := ⟨by
  intro cs l w w' h k
  obtain ⟨a, cap, es, h1, h2, h3, h4, h5, h6⟩ := h
  exact ⟨a, cap, es, h1, h2, h3, (lies_row h4).sup w' (fun b _ hb => k b hb), h5, fun e he => hP.keep (h6 e he) k⟩⟩
/-- A row of elements that the call owns, each with blocks of its own. -/
structure NRow {α : Type} (O : Foot → Nat → List Value → α → World → Prop) (T : TypeId) (s lo : Nat) (a : Option Addr) (cap : Nat) (es : List (Elt α s)) (G : Nat → Foot) (w : World) : Prop where
  row : w.ownsRow lo T s (.slice a es.length cap) es.length (flatG eltL es)
  own : ∀ i (h : i < es.length), O (G i) lo es[i].cs es[i].m w
  sep : ∀ i j b, i < es.length → j < es.length → i ≠ j → G i b → ¬ G j b
  off : ∀ i b, i < es.length → G i b → (Value.slice a es.length cap).ownBlock ≠ some b
def rowF (v : Value) (n : Nat) (G : Nat → Foot) : Foot := fun b => v.ownBlock = some b ∨ ∃ i, i < n ∧ G i b
def NOwn {α : Type} (O : Foot → Nat → List Value → α → World → Prop) (T : TypeId) (s : Nat) (F : Foot) (lo : Nat) (cs : List Value) (l : List α) (w : World) : Prop :=
  ∃ (a : Option Addr) (cap : Nat) (es : List (Elt α s)) (G : Nat → Foot), cs = [.slice a es.length cap] ∧ es.map Elt.m = l ∧ NRow O T s lo a cap es G w ∧ ∀ b, F b ↔ rowF (.slice a es.length cap) es.length G b
section
variable {α : Type} {O : Foot → Nat → List Value → α → World → Prop} {P : List Value → α → World → Prop} {T : TypeId} {s lo : Nat} {a : Option Addr} {cap : Nat} {es : List (Elt α s)} {G : Nat → Foot} {w w' : World}
theorem NRow.sup (hO : Ong O P) (h : NRow O T s lo a cap es G w) (k : ∀ b, rowF (.slice a es.length cap) es.length G b → w'.heap[b]? = w.heap[b]?) : NRow O T s lo a cap es G w' :=
  ⟨own_keptF h.row (fun b hb => k b (.inl hb)), fun i hi => hO.sup (h.own i hi) (fun b hb => k b (.inr ⟨i, hi, hb⟩)), h.sep, h.off⟩
theorem NRow.at_ (hO : Ong O P) (h : NRow O T s lo a cap es G w) : ∀ b, rowF (.slice a es.length cap) es.length G b → lo ≤ b ∧ b < w.heap.size := by
  rintro b (hb | ⟨i, hi, hb⟩)
  · exact h.row.lt b hb
  · exact hO.at_ (h.own i hi) b hb
theorem NRow.below (hO : Ong O P) (h : NRow O T s lo a cap es G w) (hb : Below w.heap.size w w') : NRow O T s lo a cap es G w' := h.sup hO (fun b k => hb.block b (h.at_ hO b k).2)
theorem NRow.low (hO : Ong O P) (h : NRow O T s lo a cap es G w) {lo' : Nat} (k : lo' ≤ lo) : NRow O T s lo' a cap es G w := ⟨own_base h.row k, fun i hi => hO.low (h.own i hi) k, h.sep, h.off⟩
theorem NRow.max (h : NRow O T s lo a cap es G w) : es.length ≤ maxLen := by
  rcases h.row.2 with ⟨hv, hn⟩ | ⟨g, cap', cur, hv, _, _, _, h2, _⟩
  · rw [hn]; unfold maxLen; omega
  · simp at hv; omega
theorem NRow.rd (hO : Ong O P) (h : NRow O T s lo a cap es G w) : NIn P s [.slice a es.length cap] (es.map Elt.m) w :=
  ⟨a, cap, es, rfl, own_cap h.row, h.max, Row.of_own h.row, rfl, fun e he => by
    obtain ⟨i, hi, rfl⟩ := List.mem_iff_getElem.1 he
    exact hO.rd (h.own i hi)⟩
/-- One element turned. -/
theorem NRow.set (hO : Ong O P) (h : NRow O T s lo a cap es G w) {k : Nat} (hk : k < es.length) (F : Foot) (e : Elt α s) (hrow : w'.ownsRow lo T s (.slice a es.length cap) es.length (flatG eltL (es.set k e))) (hel : O F lo e.cs e.m w')
    (hoth : ∀ i b, i < es.length → i ≠ k → G i b → w'.heap[b]? = w.heap[b]?) (hsep : ∀ i b, i < es.length → i ≠ k → G i b → ¬ F b) (hoff : ∀ b, F b → (Value.slice a es.length cap).ownBlock ≠ some b) :
    NRow O T s lo a cap (es.set k e) (fun i => if i = k then F else G i) w' := by
  refine ⟨by simpa using hrow, fun i hi => ?_, fun i j b hi hj hij => ?_, fun i b hi => ?_⟩
  · have hi : i < es.length := by simpa using hi
    by_cases hik : i = k
    · subst hik; simp [hel]
    · simp only [if_neg hik]
      rw [List.getElem_set_ne (Ne.symm hik)]
      exact hO.sup (h.own i hi) (fun b hb => hoth i b hi hik hb)
  · rw [List.length_set] at hi hj
    by_cases hik : i = k
    · subst hik
      rw [if_pos rfl, if_neg (fun e => hij e.symm)]
      exact fun h1 h2 => hsep j b hj (fun e => hij e.symm) h2 h1
    · rw [if_neg hik]
      by_cases hjk : j = k
      · rw [if_pos hjk]; exact hsep i b hi hik
      · rw [if_neg hjk]; exact h.sep i j b hi hj hij
  · have hi : i < es.length := by simpa using hi
    rw [List.length_set]
    by_cases hik : i = k
    · rw [if_pos hik]; exact hoff b
    · rw [if_neg hik]; exact h.off i b hi
theorem nOwn_ong (hO : Ong O P) (T : TypeId) (s : Nat) : Ong (NOwn O T s) (NIn P s) where
  sup := by
    rintro F lo cs l w w' ⟨a, cap, es, G, h1, h2, h3, h4⟩ k
    exact ⟨a, cap, es, G, h1, h2, h3.sup hO (fun b hb => k b ((h4 b).2 hb)), h4⟩
  at_ := by
    rintro F lo cs l w ⟨a, cap, es, G, h1, h2, h3, h4⟩ b hb
    exact h3.at_ hO b ((h4 b).1 hb)
  low := by
    rintro F lo lo' cs l w ⟨a, cap, es, G, h1, h2, h3, h4⟩ k
    exact ⟨a, cap, es, G, h1, h2, h3.low hO k, h4⟩
  rd := by
    rintro F lo cs l w ⟨a, cap, es, G, rfl, rfl, h3, h4⟩
    exact h3.rd hO
theorem NRow.mk_own (h : NRow O T s lo a cap es G w) : NOwn O T s (rowF (.slice a es.length cap) es.length G) lo [.slice a es.length cap] (es.map Elt.m) w := ⟨a, cap, es, G, rfl, rfl, h, fun _ => Iff.rfl⟩
/-- A row of zeros made just now. -/
theorem NRow.made (z : Elt α s) (hz : ∀ lo w, O (fun _ => False) lo z.cs z.m w) {n : Nat} (h : w.ownsRow lo T s (.slice a n cap) n (flatG eltL (List.replicate n z))) : NRow O T s lo a cap (List.replicate n z) (fun _ _ => False) w :=
  ⟨by simpa using h, fun i hi => by simp; exact hz lo w, fun _ _ _ _ _ _ h => h.elim, fun _ _ _ h => h.elim⟩
end
/-- The cells of an element, of a row that came in. -/
theorem Row.elt {α : Type} {s : Nat} (h0 : 0 < s) {w : World} {a : Option Addr} {es : List (Elt α s)} (h : Row w a (flatG eltL es)) {k : Nat} (hk : k < es.length) : ∃ b off, a = some ⟨b, off, none⟩ ∧ ∀ j, j < s → w.cell? ⟨b, off + k * s + j, none⟩ = es[k].cs[j]? := Row.elem eltL_len h0 h hk
end Go.Proofs.Ytmkgddbdkpkgpaa
end
