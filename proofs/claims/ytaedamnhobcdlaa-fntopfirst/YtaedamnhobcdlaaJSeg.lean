/- Reads, Seg, BigIs, Bytes, ByteSU in one. Written by tools/join.py. -/
import Derived.Test.YtaedamnhobcdlaaJBase
import Derived.Deep.Slices
import Derived.Deep.Fields
import Derived.ChangeArms
import Derived.Deep.QuietTactic
import Derived.BigQuiet
section
namespace Go.Proofs.Ytaedamnhobcdlaa
open Go.RowKit Go.ChangeShapes Go.WideShapes Go.Deep
set_option maxRecDepth 100000

/-- These cells can be read as a value of type t. -/
def Rd (w : World) (t : TypeId) (cs : List Value) : Prop :=
  ∃ (H : Type) (enc : TypeId × Value → H) (fuel : Nat) (x : DataW H × List MemPlace), DataW.trod enc Try.prog w 0 (fun _ => true) true fuel t cs = some x
/-- An argument of type t. -/
structure Arg (w : World) (t : TypeId) (v : Value) : Prop where
  ok : ∃ base, Value.okWide Try.prog w .any base t v
  rd : Rd w t v.cells.toList

theorem Rd.of {H : Type} {enc : TypeId × Value → H} {w : World} {t : TypeId} {v : Value} {d : DataW H} {p : List MemPlace} (h : DataW.Trod enc Try.prog w 0 (fun _ => true) true t v d p) : Rd w t v.cells.toList := by
  obtain ⟨fuel, hf⟩ := h
  exact ⟨H, enc, fuel, _, hf⟩
theorem Rd.int {w : World} {t : TypeId} {k : IntKind} {cs : List Value} (h : Rd w t cs) (ht : Try.prog.underlying t = some (.int k)) : ∃ n, cs = [.int k n] ∧ (Lit.int k n).wf = true := by
  obtain ⟨H, enc, fuel, x, hx⟩ := h
  obtain ⟨n, h1, _, h2⟩ := DataW.trod_int ht hx
  exact ⟨n, h1, h2⟩
theorem Rd.bool {w : World} {t : TypeId} {cs : List Value} (h : Rd w t cs) (ht : Try.prog.underlying t = some .bool) : ∃ b, cs = [.bool b] := by
  obtain ⟨H, enc, fuel, x, hx⟩ := h
  obtain ⟨n, h1, _⟩ := DataW.trod_bool ht hx
  exact ⟨n, h1⟩
theorem Rd.str {w : World} {t : TypeId} {cs : List Value} (h : Rd w t cs) (ht : Try.prog.underlying t = some .string) : ∃ s : ByteArray, cs = [.string s] ∧ s.size ≤ maxLen := by
  obtain ⟨H, enc, fuel, x, hx⟩ := h
  obtain ⟨n, h1, _, h2⟩ := DataW.trod_string ht hx
  exact ⟨n, h1, h2⟩
theorem Rd.struct {w : World} {t : TypeId} {fs : Array Field} {cs : List Value} (h : Rd w t cs) (ht : Try.prog.underlying t = some (.struct fs)) :
    cs.length = Try.prog.cellsOf t ∧ ∀ (i : Nat) (f : Field), fs[i]? = some f → Rd w f.type ((cs.drop f.offset).take (Try.prog.cellsOf f.type)) := by
  obtain ⟨H, enc, fuel, x, hx⟩ := h
  obtain ⟨xs, n, _, _, hl, hxl, hf⟩ := DataW.trod_struct ht hx
  refine ⟨hl, fun i f hi => ?_⟩
  have h1 := hf i f hi
  have hlt : i < xs.length := by rw [hxl]; exact (Array.getElem?_eq_some_iff.1 hi).1
  rw [List.getElem?_eq_getElem hlt] at h1
  exact ⟨H, enc, n, _, h1⟩
theorem Rd.field {w : World} {t : TypeId} {fs : Array Field} {cs : List Value} (h : Rd w t cs) (ht : Try.prog.underlying t = some (.struct fs)) (i : Nat) (f : Field) (e : TypeId) (n : Nat) (vs : List Value)
    (hi : fs[i]? = some f) (he : f.type = e) (hc : Try.prog.cellsOf e = n) (hv : (cs.drop f.offset).take n = vs) : Rd w e vs := by
  have := (h.struct ht).2 i f hi
  rw [he, hc, hv] at this
  exact this
theorem Rd.slice {w : World} {t e : TypeId} {cs : List Value} (h : Rd w t cs) (ht : Try.prog.underlying t = some (.slice e)) :
    cs = [.slice none 0 0] ∨ ∃ (a : Addr) (len cap : Nat), cs = [.slice (some a) len cap] ∧ len ≤ cap ∧ cap ≤ maxLen ∧
      ∀ i, i < cap → ∃ cs', w.cells? 0 (a.add (i * Try.prog.cellsOf e)) (Try.prog.cellsOf e) = some cs' ∧ Rd w e cs' := by
  obtain ⟨H, enc, fuel, x, hx⟩ := h
  rcases open_slice ht hx with ⟨h0, _⟩ | ⟨a, len, cap, m, n, D, Pl, hcs, _, hl, hm, hmm, _, hi⟩
  · exact .inl h0
  · refine .inr ⟨a, len, cap, hcs, hl, hm, fun i hlt => ?_⟩
    simp only [if_true] at hmm
    obtain ⟨cs', h1, h2⟩ := hi i (by omega)
    exact ⟨cs', h1, H, enc, n, _, h2⟩
/-- A slice of integers. -/
theorem Rd.ints {w : World} {t e : TypeId} {k : IntKind} {cs : List Value} (h : Rd w t cs) (ht : Try.prog.underlying t = some (.slice e)) (he : Try.prog.underlying e = some (.int k)) (hc : Try.prog.cellsOf e = 1) :
    ∃ (a : Option Addr) (cap : Nat) (l : List Int), cs = [.slice a l.length cap] ∧ l.length ≤ cap ∧ cap ≤ maxLen ∧ Row w a (l.map (Value.int k)) ∧ ∀ z ∈ l, (Lit.int k z).wf = true := by
  rcases h.slice ht with rfl | ⟨a, len, cap, rfl, hl, hm, hi⟩
  · exact ⟨none, 0, [], rfl, Nat.le_refl _, by unfold maxLen; omega, .inl rfl, fun z hz => by simp at hz⟩
  · have key : ∀ i, i < len → ∃ z, w.cell? (a.add i) = some (.int k z) ∧ (Lit.int k z).wf = true := fun i hlt => by
      obtain ⟨cs', h1, h2⟩ := hi i (by omega)
      rw [hc, Nat.mul_one] at h1
      obtain ⟨z, rfl, hz⟩ := h2.int he
      exact ⟨z, cell_of_cells?_one h1, hz⟩
    obtain ⟨V, hV⟩ := choose_lt key
    refine ⟨some a, cap, (List.range len).map V, by simp, by simpa using hl, hm, ?_, ?_⟩
    · by_cases h0 : len = 0
      · subst h0; exact .inl rfl
      · obtain ⟨b, off, spot⟩ := a
        have hspot : spot = none := by simpa [Addr.add] using World.cell?_spot (hV 0 (by omega)).1
        subst hspot
        refine .inr ⟨b, off, rfl, fun i hi => ?_⟩
        have hlt : i < len := by simpa using hi
        have e := (hV i hlt).1
        have ea : (⟨b, off, none⟩ : Addr).add i = ⟨b, off + i, none⟩ := by simp [Addr.add]
        rw [ea] at e
        rw [e]
        simp [hlt]
    · intro z hz
      obtain ⟨i, hi, rfl⟩ := List.mem_map.1 hz
      exact (hV i (by simpa using hi)).2

theorem Arg.int {w : World} {t : TypeId} {k : IntKind} {v : Value} (h : Arg w t v) (ht : Try.prog.underlying t = some (.int k)) : ∃ n, v = .int k n ∧ (Lit.int k n).wf = true := by
  obtain ⟨base, hv⟩ := h.ok
  obtain ⟨n, rfl⟩ := okWide_int ht hv
  obtain ⟨m, h1, h2⟩ := h.rd.int ht
  simp [Value.cells] at h1
  subst h1
  exact ⟨n, rfl, h2⟩
theorem Arg.bool {w : World} {t : TypeId} {v : Value} (h : Arg w t v) (ht : Try.prog.underlying t = some .bool) : ∃ b, v = .bool b := by
  obtain ⟨base, hv⟩ := h.ok
  exact okWide_bool ht hv
theorem Arg.str {w : World} {t : TypeId} {v : Value} (h : Arg w t v) (ht : Try.prog.underlying t = some .string) : ∃ s : ByteArray, v = .string s ∧ s.size ≤ maxLen := by
  obtain ⟨base, hv⟩ := h.ok
  obtain ⟨n, rfl⟩ := okWide_string ht hv
  obtain ⟨m, h1, h2⟩ := h.rd.str ht
  simp [Value.cells] at h1
  subst h1
  exact ⟨n, rfl, h2⟩
theorem Arg.slice {w : World} {t e : TypeId} {v : Value} (h : Arg w t v) (ht : Try.prog.underlying t = some (.slice e)) : ∃ a len cap, v = .slice a len cap ∧ Rd w t [.slice a len cap] := by
  obtain ⟨base, hv⟩ := h.ok
  obtain ⟨a, len, cap, rfl⟩ := okWide_slice ht hv
  exact ⟨a, len, cap, rfl, by simpa [Value.cells] using h.rd⟩
theorem Arg.agg {w : World} {t : TypeId} {fs : Array Field} {v : Value} (h : Arg w t v) (ht : Try.prog.underlying t = some (.struct fs)) : ∃ cs : List Value, v = .agg ⟨cs⟩ ∧ cs.length = Try.prog.cellsOf t ∧ Rd w t cs := by
  obtain ⟨base, hv⟩ := h.ok
  obtain ⟨cs, rfl, hl⟩ := okWide_struct ht hv
  exact ⟨cs.toList, by simp, by simpa using hl, by simpa [Value.cells] using h.rd⟩
theorem wf_i64 {z : Int} (h : (Lit.int .i64 z).wf = true) : -9223372036854775808 ≤ z ∧ z ≤ 9223372036854775807 := by
  simpa using bounds_i64 h
theorem wf_u64 {z : Int} (h : (Lit.int .u64 z).wf = true) : 0 ≤ z ∧ z ≤ 18446744073709551615 := by
  simpa using bounds_u64 h
theorem arg_int {w : World} {v : Value} (h : Arg w 3 v) : ∃ z : Int, v = .int .i64 z ∧ (-9223372036854775808 ≤ z ∧ z ≤ 9223372036854775807) := by
  obtain ⟨z, rfl, hz⟩ := h.int Try.underlying3
  exact ⟨z, rfl, wf_i64 hz⟩
theorem arg_bool {w : World} {v : Value} (h : Arg w 4 v) : ∃ b : Bool, v = .bool b ∧ True := by
  obtain ⟨b, rfl⟩ := h.bool Try.underlying4
  exact ⟨b, rfl, trivial⟩
theorem arg_string {w : World} {v : Value} (h : Arg w 9 v) : ∃ s : ByteArray, v = .string s ∧ s.size ≤ maxLen := h.str Try.underlying9
end Go.Proofs.Ytaedamnhobcdlaa
end

section
namespace Go.Proofs.Ytaedamnhobcdlaa
open Go.RowKit
set_option linter.unusedVariables false

/-- Of the blocks that lay there none has turned but those from lo to hi. -/
structure Chg (lo hi : Nat) (w w' : World) : Prop where
  os : w'.os = w.os
  tape : w'.tape = w.tape
  output : w'.output = w.output
  size : w.heap.size ≤ w'.heap.size
  block : ∀ k, k < w.heap.size → ¬ (lo ≤ k ∧ k < hi) → w'.heap[k]? = w.heap[k]?
theorem Chg.of_below {lo hi : Nat} {w w' : World} (h : Below w.heap.size w w') : Chg lo hi w w' := ⟨h.os, h.tape, h.output, h.size, fun k hk _ => h.block k hk⟩
theorem Chg.of_grown {lo hi : Nat} {w w' : World} {row : Option Nat} (h : w.grownBy w' row) (hr : ∀ k, row = some k → lo ≤ k ∧ k < hi) : Chg lo hi w w' :=
  ⟨h.os, h.tape, h.output, h.size, fun k hk hn => h.block k hk (fun e => hn (hr k e.symm))⟩
theorem Chg.refl (lo hi : Nat) (w : World) : Chg lo hi w w := ⟨rfl, rfl, rfl, Nat.le_refl _, fun _ _ _ => rfl⟩
theorem Chg.trans {lo hi : Nat} {w w1 w2 : World} (h : Chg lo hi w w1) (k : Chg lo hi w1 w2) : Chg lo hi w w2 :=
  ⟨k.os.trans h.os, k.tape.trans h.tape, k.output.trans h.output, Nat.le_trans h.size k.size, fun i hi hn => (k.block i (Nat.lt_of_lt_of_le hi h.size) hn).trans (h.block i hi hn)⟩
theorem Chg.wide {lo hi lo' hi' : Nat} {w w' : World} (h : Chg lo hi w w') (h1 : lo' ≤ lo) (h2 : hi ≤ hi') : Chg lo' hi' w w' := ⟨h.os, h.tape, h.output, h.size, fun k hk hn => h.block k hk (fun e => hn ⟨by omega, by omega⟩)⟩
/-- What has turned is new since W. -/
theorem Chg.below {lo hi : Nat} {W w w' : World} (hB : Below W.heap.size W w) (h : Chg lo hi w w') (hl : W.heap.size ≤ lo) : Below W.heap.size W w' :=
  ⟨h.os.trans hB.os, h.tape.trans hB.tape, h.output.trans hB.output, Nat.le_trans hB.size h.size, fun k hk => (h.block k (Nat.lt_of_lt_of_le hk hB.size) (fun e => by omega)).trans (hB.block k hk)⟩

/-- P holds of w, by what lies in the blocks from lo to hi alone. -/
structure Lies (w : World) (lo hi : Nat) (P : World → Prop) : Prop where
  now : P w
  top : hi ≤ w.heap.size
  sup : ∀ w' : World, (∀ k, lo ≤ k → k < hi → w'.heap[k]? = w.heap[k]?) → P w'
theorem Lies.chg {w w' : World} {lo hi lo' hi' : Nat} {P : World → Prop} (h : Lies w lo hi P) (c : Chg lo' hi' w w') (ha : hi ≤ lo' ∨ hi' ≤ lo) : Lies w' lo hi P := by
  have ag : ∀ k, lo ≤ k → k < hi → w'.heap[k]? = w.heap[k]? := fun k h1 h2 => c.block k (Nat.lt_of_lt_of_le h2 h.top) (fun e => by omega)
  exact ⟨h.sup w' ag, Nat.le_trans h.top c.size, fun v e => h.sup v (fun k h1 h2 => (e k h1 h2).trans (ag k h1 h2))⟩
theorem Lies.below {w w' : World} {lo hi : Nat} {P : World → Prop} (h : Lies w lo hi P) (hb : Below w.heap.size w w') : Lies w' lo hi P :=
  h.chg (lo' := hi) (hi' := hi) (Chg.of_below hb) (.inl (Nat.le_refl _))
theorem Lies.wide {w : World} {lo hi lo' hi' : Nat} {P : World → Prop} (h : Lies w lo hi P) (h1 : lo' ≤ lo) (h2 : hi ≤ hi') (h3 : hi' ≤ w.heap.size) : Lies w lo' hi' P :=
  ⟨h.now, h3, fun b k => h.sup b (fun i i1 i2 => k i (by omega) (by omega))⟩
theorem Lies.imp {w : World} {lo hi : Nat} {P Q : World → Prop} (h : Lies w lo hi P) (k : ∀ w, P w → Q w) : Lies w lo hi Q :=
  ⟨k w h.now, h.top, fun b e => k b (h.sup b e)⟩
theorem Lies.and {w : World} {lo hi : Nat} {P Q : World → Prop} (h : Lies w lo hi P) (k : Lies w lo hi Q) : Lies w lo hi (fun w => P w ∧ Q w) :=
  ⟨⟨h.now, k.now⟩, h.top, fun b e => ⟨h.sup b e, k.sup b e⟩⟩

theorem Lies.box {w : World} {lo hi : Nat} {P : World → Prop} (h : Lies w lo hi P) (o : Obj) : Lies (w.alloc o) lo hi P := h.below ((Below.refl _ _).alloc (Nat.le_refl _) _)
theorem Lies.drew {w : World} {lo hi : Nat} {P : World → Prop} (h : Lies w lo hi P) : Lies w.drew lo hi P := h.below (belowN 1)
theorem below_drew {W w : World} (h : Below W.heap.size W w) : Below W.heap.size W w.drew := h.drew
theorem below_box {W w : World} (h : Below W.heap.size W w) (o : Obj) : Below W.heap.size W (w.alloc o) := h.alloc h.size o
/-- A block known whole. -/
theorem lies_block {w : World} {b : Nat} {o : Obj} (h : w.heap[b]? = some o) : Lies w b (b + 1) (fun w => w.heap[b]? = some o) :=
  ⟨h, (Array.getElem?_eq_some_iff.1 h).1, fun w2 e => (e b (Nat.le_refl _) (Nat.lt_succ_self _)).trans h⟩
theorem lies_box (w : World) (o : Obj) : Lies (w.alloc o) w.heap.size (w.heap.size + 1) (fun v => v.heap[w.heap.size]? = some o) := lies_block (alloc_at _ _ _ rfl)
theorem own_sup {s : Nat} {w1 w2 : World} {lo hi n : Nat} {e : TypeId} {v : Value} {xs : List Value} (h : w1.ownsRow lo e s v n xs) (hh : ∀ k, v.ownBlock = some k → k < hi) (k : ∀ k, lo ≤ k → k < hi → w2.heap[k]? = w1.heap[k]?) : w2.ownsRow lo e s v n xs := by
  refine ⟨h.1, ?_⟩
  rcases h.2 with h2 | ⟨g, cap, cur, hv, hg, hb, r⟩
  · exact .inl h2
  · refine .inr ⟨g, cap, cur, hv, hg, (k g hg (hh g ?_)).trans hb, r⟩
    rw [hv]; rfl
/-- A row that the call owns. -/
theorem lies_own {s : Nat} {w : World} {lo hi n : Nat} {e : TypeId} {v : Value} {xs : List Value} (h : w.ownsRow lo e s v n xs) (hh : ∀ k, v.ownBlock = some k → k < hi) (ht : hi ≤ w.heap.size) : Lies w lo hi (fun w => w.ownsRow lo e s v n xs) :=
  ⟨h, ht, fun w2 k => own_sup h hh k⟩
theorem own_top {s : Nat} {w : World} {lo n : Nat} {e : TypeId} {v : Value} {xs : List Value} (h : w.ownsRow lo e s v n xs) : ∀ k, v.ownBlock = some k → k < w.heap.size := fun k hk => (h.lt k hk).2
/-- .. made by the call just now. -/
theorem lies_made {s : Nat} {w : World} {lo n : Nat} {e : TypeId} {v : Value} {xs : List Value} (h : w.ownsRow lo e s v n xs) : Lies w lo w.heap.size (fun w => w.ownsRow lo e s v n xs) := lies_own h (own_top h) (Nat.le_refl _)
/-- A row that came in. -/
theorem lies_row {w : World} {a : Option Addr} {xs : List Value} (h : Row w a xs) : Lies w 0 w.heap.size (fun w => Row w a xs) := by
  by_cases h0 : xs = []
  · exact ⟨h, Nat.le_refl _, fun w2 _ => .inl h0⟩
  rcases h with h | ⟨b, off, rfl, hc⟩
  · exact absurd h h0
  have hp : 0 < xs.length := List.length_pos_iff.2 h0
  have hlt : b < w.heap.size := by
    have h1 := hc 0 hp
    rw [List.getElem?_eq_getElem hp] at h1
    exact block_lt_of_cell h1
  refine ⟨.inr ⟨b, off, rfl, hc⟩, Nat.le_refl _, fun w2 e => .inr ⟨b, off, rfl, fun i hi => ?_⟩⟩
  rw [← hc i hi]
  exact World.cell?_of_block (e b (Nat.zero_le _) hlt)
/-- What a marking, a look at marks, a comparison leave. -/
def MarkPost (P : World → Prop) (lo hi K : Nat) (w : World) (e : Ending) (w' : World) : Prop := ∃ k' : Nat, e = .returned (.int .i64 (k' : Int)) ∧ k' = K ∧ P w' ∧ Chg lo hi w w'
def HeldPost (K : Nat) (w : World) (e : Ending) (w' : World) : Prop := ∃ k' : Nat, e = .returned (.int .i64 (k' : Int)) ∧ k' = K ∧ Below w.heap.size w w'
def TruePost (w : World) (e : Ending) (w' : World) : Prop := e = .returned (.bool true) ∧ Below w.heap.size w w'
theorem size_drew (w : World) : w.drew.heap.size = w.heap.size := rfl
theorem size_box (w : World) (o : Obj) : (w.alloc o).heap.size = w.heap.size + 1 := by simp
end Go.Proofs.Ytaedamnhobcdlaa
end

section
namespace Go.Proofs.Ytaedamnhobcdlaa
open Go.RowKit
set_option linter.unusedVariables false
set_option maxHeartbeats 400000 in
theorem bigIs (a : Option Addr) (n cap : Nat) (w : World) (hn : n ≤ maxLen) :
    Calls Try.prog 11 #[.slice a n cap] w fun e w' => e = .returned (.bool (decide (1048576 < n))) ∧ w = w' := by
  unfold maxLen at hn
  go_enter Try.func11, Try.ntmps11
  go_wp2
  go_ret
  exact ⟨ret_bool (by simp; omega), rfl⟩
/-- What came in as a slice of bytes lies in memory as a list of bytes. -/
theorem row_of_isRow {w : World} {a : Option Addr} {len cap : Nat} {zs : List Int} (h : IsRow .u8 w a len cap zs) :
    ∃ l : List UInt8, l.length = len ∧ len ≤ cap ∧ cap ≤ maxLen ∧ Row w a (l.map bval) := by
  rcases h with ⟨rfl, rfl, rfl, rfl⟩ | ⟨x, rfl, hl, hm, hz, hcell, hwf⟩
  · exact ⟨[], rfl, Nat.le_refl _, by unfold maxLen; omega, .inl rfl⟩
  · refine ⟨(zs.take len).map fun n => UInt8.ofNat n.toNat, by simp; omega, hl, hm, ?_⟩
    by_cases h0 : len = 0
    · subst h0; exact .inl (by simp)
    · obtain ⟨b, off, spot⟩ := x
      have hc := hcell 0 (by omega)
      have hspot : spot = none := by simpa [Addr.add] using World.cell?_spot hc
      subst hspot
      refine .inr ⟨b, off, rfl, fun i hi => ?_⟩
      have hi' : i < len := by simp at hi; omega
      have hiz : i < zs.length := by omega
      have e := hcell i hiz
      have hw : 0 ≤ zs[i] ∧ zs[i] ≤ 255 := by
        have := hwf zs[i] (List.getElem_mem hiz)
        simpa using bounds_u8 this
      have ea : (⟨b, off, none⟩ : Addr).add i = ⟨b, off + i, none⟩ := by simp [Addr.add]
      rw [ea] at e
      rw [e]
      have e2 : ((zs[i].toNat % 256 : Nat) : Int) = zs[i] := by omega
      simp [bval, hi', hiz, e2]
end Go.Proofs.Ytaedamnhobcdlaa
end

section
namespace Go.Proofs.Ytaedamnhobcdlaa
open Go.RowKit
set_option linter.unusedVariables false

theorem beq_take {l m : List UInt8} (hl : l.length = m.length) (k : Nat) (hk : l.length ≤ k) (h : l.take k = m.take k) : (l == m) = true := by
  rw [List.take_of_length_le hk, List.take_of_length_le (by omega)] at h; simp [h]
theorem beq_at {l m : List UInt8} {k : Nat} (h1 : k < l.length) (h2 : k < m.length) (h : l[k].toNat ≠ m[k].toNat) : (l == m) = false := by
  rw [beq_eq_false_iff_ne]; intro e; subst e; exact h rfl
theorem take_both {l m : List UInt8} {k : Nat} (h1 : k < l.length) (h2 : k < m.length) (e : l.take k = m.take k) (h : l[k].toNat = m[k].toNat) : l.take (k + 1) = m.take (k + 1) := by
  rw [List.take_succ_eq_append_getElem h1, List.take_succ_eq_append_getElem h2, e, UInt8.toNat_inj.1 h]


/-- The marks k, k+1, .. (as bytes). -/
def marks (k n : Nat) : List UInt8 := (List.range n).map fun i => UInt8.ofNat (k + i)
theorem marks_length (k n : Nat) : (marks k n).length = n := by simp [marks]
theorem marks_succ (k n : Nat) : marks k (n + 1) = marks k n ++ [UInt8.ofNat (k + n)] := by simp [marks, List.range_succ]
def markRow (k j : Nat) (xs : List Value) : List Value := (marks k j).map bval ++ xs.drop j
theorem markRow_zero (k : Nat) (xs : List Value) : markRow k 0 xs = xs := by simp [markRow, marks]
theorem markRow_set (k j : Nat) (xs : List Value) (h : j < xs.length) : (markRow k j xs).set j (.int .u8 (((k : Int) + (j : Int)) % 256)) = markRow k (j + 1) xs := by
  unfold markRow
  rw [marks_succ, List.set_append_right _ _ (by simp [marks_length])]
  rw [show j - ((marks k j).map bval).length = 0 from by simp [marks_length], List.drop_eq_getElem_cons h, List.set_cons_zero]
  simp [bval]
theorem marks_at {k n i : Nat} (h : i < n) : ((marks k n).map bval)[i]? = some (.int .u8 (((k : Int) + (i : Int)) % 256)) := by
  simp [marks, h, bval]
theorem markRow_done (k : Nat) (xs : List Value) : markRow k xs.length xs = (marks k xs.length).map bval := by simp [markRow]
theorem markRow_length (k j : Nat) (xs : List Value) (h : j ≤ xs.length) : (markRow k j xs).length = xs.length := by simp [markRow, marks_length]; omega



def copyRow (l : List UInt8) (k : Nat) : List Value := (l.take k).map bval ++ List.replicate (l.length - k) (.int .u8 0)
theorem copyRow_length (l : List UInt8) (k : Nat) (h : k ≤ l.length) : (copyRow l k).length = l.length := by unfold copyRow; simp; omega
theorem copyRow_zero (l : List UInt8) : copyRow l 0 = List.replicate l.length (.int .u8 0) := by simp [copyRow]
theorem copyRow_set (l : List UInt8) (k : Nat) (h : k < l.length) : (copyRow l k).set k (.int .u8 (l[k].toNat : Int)) = copyRow l (k + 1) := by
  unfold copyRow
  rw [List.take_succ_eq_append_getElem h, List.set_append_right _ _ (by simp; omega)]
  obtain ⟨m, hm⟩ : ∃ m, l.length - k = m + 1 := ⟨l.length - k - 1, by omega⟩
  rw [hm, show l.length - (k + 1) = m from by omega, List.replicate_succ]
  rw [show k - ((l.take k).map bval).length = 0 from by simp; omega]
  rw [List.set_cons_zero, List.map_append, List.append_assoc]; rfl
theorem copyRow_done (l : List UInt8) : copyRow l l.length = l.map bval := by unfold copyRow; simp


end Go.Proofs.Ytaedamnhobcdlaa
end

section
namespace Go.Proofs.Ytaedamnhobcdlaa
open Go.RowKit
set_option linter.unusedVariables false

/-- The one cell holds a slice that reads as l. -/
def ByteSIn (cs : List Value) (l : List UInt8) (w : World) : Prop := ∃ a cap, cs = [.slice a l.length cap] ∧ l.length ≤ cap ∧ l.length ≤ maxLen ∧ Row w a (l.map bval)
/-- .. and lies in blocks from lo to hi, which the call owns. -/
def ByteSOwn (lo hi : Nat) (cs : List Value) (l : List UInt8) (w : World) : Prop :=
  ∃ a cap, cs = [.slice a l.length cap] ∧ w.ownsRow lo 5 1 (.slice a l.length cap) l.length (l.map bval) ∧ ∀ k, Value.ownBlock (.slice a l.length cap) = some k → k < hi
theorem ByteSOwn.read {lo hi : Nat} {cs : List Value} {l : List UInt8} {w : World} (h : ByteSOwn lo hi cs l w) : ByteSIn cs l w := by
  obtain ⟨a, cap, rfl, ho, _⟩ := h
  have hc := own_cap ho
  refine ⟨a, cap, rfl, hc, ?_, Row.of_own ho⟩
  rcases ho.2 with ⟨hv, hn⟩ | ⟨g, cap', cur, hv, _, _, _, h2, _⟩
  · rw [hn]; unfold maxLen; omega
  · simp at hv; omega
theorem ByteSOwn.lies {lo hi : Nat} {cs : List Value} {l : List UInt8} {w : World} (h : ByteSOwn lo hi cs l w) (ht : hi ≤ w.heap.size) : Lies w lo hi (ByteSOwn lo hi cs l) := by
  refine ⟨h, ht, fun w2 e => ?_⟩
  obtain ⟨a, cap, rfl, ho, hh⟩ := h
  exact ⟨a, cap, rfl, own_sup ho hh e, hh⟩
theorem ByteSIn.lies {cs : List Value} {l : List UInt8} {w : World} (h : ByteSIn cs l w) : Lies w 0 w.heap.size (ByteSIn cs l) := by
  obtain ⟨a, cap, rfl, h1, h2, hr⟩ := h
  exact ⟨⟨a, cap, rfl, h1, h2, hr⟩, Nat.le_refl _, fun w2 e => ⟨a, cap, rfl, h1, h2, (lies_row hr).sup w2 e⟩⟩
theorem ByteSOwn.wide {lo hi lo' hi' : Nat} {cs : List Value} {l : List UInt8} {w : World} (h : ByteSOwn lo hi cs l w) (h1 : lo' ≤ lo) (h2 : hi ≤ hi') : ByteSOwn lo' hi' cs l w := by
  obtain ⟨a, cap, rfl, ho, hh⟩ := h
  exact ⟨a, cap, rfl, own_base ho h1, fun k hk => Nat.lt_of_lt_of_le (hh k hk) h2⟩
theorem ByteSOwn.mk {lo n cap : Nat} {a : Option Addr} {l : List UInt8} {w : World} (h : w.ownsRow lo 5 1 (.slice a n cap) n (l.map bval)) : ByteSOwn lo w.heap.size [.slice a n cap] l w := by
  have hn : l.length = n := by simpa using h.1
  subst hn
  exact ⟨a, cap, rfl, h, own_top h⟩
def szByteS (l : List UInt8) : Nat := l.length
def mkByteS (k : Nat) (l : List UInt8) : List UInt8 := marks k l.length
theorem ByteSOwn.shape {lo hi : Nat} {c : Value} {l : List UInt8} {w : World} (h : ByteSOwn lo hi [c] l w) : ∃ a n cap, c = .slice a n cap := by
  obtain ⟨a, cap, hc, _⟩ := h
  simp at hc
  exact ⟨a, _, cap, hc⟩
theorem byteSIn_shape {c : Value} {l : List UInt8} {w : World} (h : ByteSIn [c] l w) : ∃ a cap, c = .slice a l.length cap ∧ l.length ≤ cap ∧ l.length ≤ maxLen ∧ Row w a (l.map bval) := by
  obtain ⟨a, cap, hc, h1, h2, h3⟩ := h
  simp at hc
  exact ⟨a, cap, hc, h1, h2, h3⟩
/-- The bytes that a list of numbers 0 to 255 spells. -/
theorem bytes_of : ∀ (l : List Int), (∀ z ∈ l, (Lit.int .u8 z).wf = true) → ∃ m : List UInt8, m.length = l.length ∧ m.map bval = l.map (Value.int .u8)
  | [], _ => ⟨[], rfl, rfl⟩
  | z :: l, h => by
    obtain ⟨m, h1, h2⟩ := bytes_of l (fun y hy => h y (List.mem_cons_of_mem _ hy))
    have hz : 0 ≤ z ∧ z ≤ 255 := by simpa using bounds_u8 (h z List.mem_cons_self)
    refine ⟨UInt8.ofNat z.toNat :: m, by simp [h1], ?_⟩
    rw [List.map_cons, List.map_cons, h2]
    congr 1
    unfold bval
    congr 1
    rw [UInt8.toNat_ofNat']
    omega
theorem argByteS {w : World} {v : Value} (h : Arg w 22 v) : ∃ c m, v = c ∧ ByteSIn [c] m w ∧ True := by
  obtain ⟨a, len, cap, rfl, hr⟩ := h.slice Try.underlying22
  obtain ⟨a', cap', l, hc, h1, h2, h3, h4⟩ := hr.ints Try.underlying22 Try.underlying5 (by kernel_rfl)
  simp at hc
  obtain ⟨rfl, rfl, rfl⟩ := hc
  obtain ⟨m, e1, e2⟩ := bytes_of l h4
  exact ⟨_, m, rfl, ⟨a, cap, by rw [e1], by omega, by omega, by rw [e2]; exact h3⟩, trivial⟩
def ByteSRet (l : List UInt8) (w : World) (e : Ending) (w' : World) : Prop := ∃ c, e = .returned c ∧ ByteSOwn w.heap.size w'.heap.size [c] l w' ∧ Below w.heap.size w w'
end Go.Proofs.Ytaedamnhobcdlaa
end
