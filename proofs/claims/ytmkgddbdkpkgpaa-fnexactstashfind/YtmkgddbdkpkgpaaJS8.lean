/- Reads, ByteSU in one. Written by tools/join2.py. -/
import Derived.Test.YtmkgddbdkpkgpaaJS1
import Derived.Deep.Slices
import Derived.Deep.Fields
import Derived.ChangeArms
import Derived.Test.YtmkgddbdkpkgpaaJS7
import Derived.Test.YtmkgddbdkpkgpaaJS2
import Derived.Test.YtmkgddbdkpkgpaaJS3
section
namespace Go.Proofs.Ytmkgddbdkpkgpaa
open Go.RowKit Go.ChangeShapes Go.WideShapes Go.Deep
set_option maxRecDepth 100000

/-- These cells can be read as a value of type t. -/
def Rd (w : World) (t : TypeId) (cs : List Value) : Prop :=
  ∃ (H : Type) (enc : TypeId × Value → H) (fuel : Nat) (x : DataW H × List MemPlace), DataW.trod enc Try.prog w 0 (fun _ => true) true fuel t cs = some x
/-- An argument of type t. -/
structure Arg (w : World) (t : TypeId) (v : Value) : Prop where
  ok : ∃ base, Value.okWide Try.prog w .any base t v
  rd : Rd w t v.cells.toList

theorem Rd.of {H : Type} {enc : TypeId × Value → H} {w : World} {t : TypeId} {v : Value} {d : DataW H} {p : List MemPlace} (h : DataW.Trod enc Try.prog w 0 (fun _ => true) true t v d p) : Rd w t v.cells.toList := by
  obtain ⟨fuel, hf⟩ := h
  exact ⟨H, enc, fuel, _, hf⟩
theorem Rd.int {w : World} {t : TypeId} {k : IntKind} {cs : List Value} (h : Rd w t cs) (ht : Try.prog.underlying t = some (.int k)) : ∃ n, cs = [.int k n] ∧ (Lit.int k n).wf = true := by
  obtain ⟨H, enc, fuel, x, hx⟩ := h
  obtain ⟨n, h1, _, h2⟩ := DataW.trod_int ht hx
  exact ⟨n, h1, h2⟩
theorem Rd.bool {w : World} {t : TypeId} {cs : List Value} (h : Rd w t cs) (ht : Try.prog.underlying t = some .bool) : ∃ b, cs = [.bool b] := by
  obtain ⟨H, enc, fuel, x, hx⟩ := h
  obtain ⟨n, h1, _⟩ := DataW.trod_bool ht hx
  exact ⟨n, h1⟩
theorem Rd.str {w : World} {t : TypeId} {cs : List Value} (h : Rd w t cs) (ht : Try.prog.underlying t = some .string) : ∃ s : ByteArray, cs = [.string s] ∧ s.size ≤ maxLen := by
  obtain ⟨H, enc, fuel, x, hx⟩ := h
  obtain ⟨n, h1, _, h2⟩ := DataW.trod_string ht hx
  exact ⟨n, h1, h2⟩
theorem Rd.struct {w : World} {t : TypeId} {fs : Array Field} {cs : List Value} (h : Rd w t cs) (ht : Try.prog.underlying t = some (.struct fs)) :
    cs.length = Try.prog.cellsOf t ∧ ∀ (i : Nat) (f : Field), fs[i]? = some f → Rd w f.type ((cs.drop f.offset).take (Try.prog.cellsOf f.type)) := by
  obtain ⟨H, enc, fuel, x, hx⟩ := h
  obtain ⟨xs, n, _, _, hl, hxl, hf⟩ := DataW.trod_struct ht hx
  refine ⟨hl, fun i f hi => ?_⟩
  have h1 := hf i f hi
  have hlt : i < xs.length := by rw [hxl]; exact (Array.getElem?_eq_some_iff.1 hi).1
  rw [List.getElem?_eq_getElem hlt] at h1
  exact ⟨H, enc, n, _, h1⟩
theorem Rd.field {w : World} {t : TypeId} {fs : Array Field} {cs : List Value} (h : Rd w t cs) (ht : Try.prog.underlying t = some (.struct fs)) (i : Nat) (f : Field) (e : TypeId) (n : Nat) (vs : List Value)
    (hi : fs[i]? = some f) (he : f.type = e) (hc : Try.prog.cellsOf e = n) (hv : (cs.drop f.offset).take n = vs) : Rd w e vs := by
  have := (h.struct ht).2 i f hi
  rw [he, hc, hv] at this
  exact this
theorem Rd.slice {w : World} {t e : TypeId} {cs : List Value} (h : Rd w t cs) (ht : Try.prog.underlying t = some (.slice e)) :
    cs = [.slice none 0 0] ∨ ∃ (a : Addr) (len cap : Nat), cs = [.slice (some a) len cap] ∧ len ≤ cap ∧ cap ≤ maxLen ∧
      ∀ i, i < cap → ∃ cs', w.cells? 0 (a.add (i * Try.prog.cellsOf e)) (Try.prog.cellsOf e) = some cs' ∧ Rd w e cs' := by
  obtain ⟨H, enc, fuel, x, hx⟩ := h
  rcases open_slice ht hx with ⟨h0, _⟩ | ⟨a, len, cap, m, n, D, Pl, hcs, _, hl, hm, hmm, _, hi⟩
  · exact .inl h0
  · refine .inr ⟨a, len, cap, hcs, hl, hm, fun i hlt => ?_⟩
    simp only [if_true] at hmm
    obtain ⟨cs', h1, h2⟩ := hi i (by omega)
    exact ⟨cs', h1, H, enc, n, _, h2⟩
/-- A slice of integers. -/
theorem Rd.ints {w : World} {t e : TypeId} {k : IntKind} {cs : List Value} (h : Rd w t cs) (ht : Try.prog.underlying t = some (.slice e)) (he : Try.prog.underlying e = some (.int k)) (hc : Try.prog.cellsOf e = 1) :
    ∃ (a : Option Addr) (cap : Nat) (l : List Int), cs = [.slice a l.length cap] ∧ l.length ≤ cap ∧ cap ≤ maxLen ∧ Row w a (l.map (Value.int k)) ∧ ∀ z ∈ l, (Lit.int k z).wf = true := by
  rcases h.slice ht with rfl | ⟨a, len, cap, rfl, hl, hm, hi⟩
  · exact ⟨none, 0, [], rfl, Nat.le_refl _, by unfold maxLen; omega, .inl rfl, fun z hz => by simp at hz⟩
  · have key : ∀ i, i < len → ∃ z, w.cell? (a.add i) = some (.int k z) ∧ (Lit.int k z).wf = true := fun i hlt => by
      obtain ⟨cs', h1, h2⟩ := hi i (by omega)
      rw [hc, Nat.mul_one] at h1
      obtain ⟨z, rfl, hz⟩ := h2.int he
      exact ⟨z, cell_of_cells?_one h1, hz⟩
    obtain ⟨V, hV⟩ := choose_lt key
    refine ⟨some a, cap, (List.range len).map V, by simp, by simpa using hl, hm, ?_, ?_⟩
    · by_cases h0 : len = 0
      · subst h0; exact .inl rfl
      · obtain ⟨b, off, spot⟩ := a
        have hspot : spot = none := by simpa [Addr.add] using World.cell?_spot (hV 0 (by omega)).1
        subst hspot
        refine .inr ⟨b, off, rfl, fun i hi => ?_⟩
        have hlt : i < len := by simpa using hi
        have e := (hV i hlt).1
        have ea : (⟨b, off, none⟩ : Addr).add i = ⟨b, off + i, none⟩ := by simp [Addr.add]
        rw [ea] at e
        rw [e]
        simp [hlt]
    · intro z hz
      obtain ⟨i, hi, rfl⟩ := List.mem_map.1 hz
      exact (hV i (by simpa using hi)).2

theorem Arg.int {w : World} {t : TypeId} {k : IntKind} {v : Value} (h : Arg w t v) (ht : Try.prog.underlying t = some (.int k)) : ∃ n, v = .int k n ∧ (Lit.int k n).wf = true := by
  obtain ⟨base, hv⟩ := h.ok
  obtain ⟨n, rfl⟩ := okWide_int ht hv
  obtain ⟨m, h1, h2⟩ := h.rd.int ht
  simp [Value.cells] at h1
  subst h1
  exact ⟨n, rfl, h2⟩
theorem Arg.bool {w : World} {t : TypeId} {v : Value} (h : Arg w t v) (ht : Try.prog.underlying t = some .bool) : ∃ b, v = .bool b := by
  obtain ⟨base, hv⟩ := h.ok
  exact okWide_bool ht hv
theorem Arg.str {w : World} {t : TypeId} {v : Value} (h : Arg w t v) (ht : Try.prog.underlying t = some .string) : ∃ s : ByteArray, v = .string s ∧ s.size ≤ maxLen := by
  obtain ⟨base, hv⟩ := h.ok
  obtain ⟨n, rfl⟩ := okWide_string ht hv
  obtain ⟨m, h1, h2⟩ := h.rd.str ht
  simp [Value.cells] at h1
  subst h1
  exact ⟨n, rfl, h2⟩
theorem Arg.slice {w : World} {t e : TypeId} {v : Value} (h : Arg w t v) (ht : Try.prog.underlying t = some (.slice e)) : ∃ a len cap, v = .slice a len cap ∧ Rd w t [.slice a len cap] := by
  obtain ⟨base, hv⟩ := h.ok
  obtain ⟨a, len, cap, rfl⟩ := okWide_slice ht hv
  exact ⟨a, len, cap, rfl, by simpa [Value.cells] using h.rd⟩
theorem Arg.agg {w : World} {t : TypeId} {fs : Array Field} {v : Value} (h : Arg w t v) (ht : Try.prog.underlying t = some (.struct fs)) : ∃ cs : List Value, v = .agg ⟨cs⟩ ∧ cs.length = Try.prog.cellsOf t ∧ Rd w t cs := by
  obtain ⟨base, hv⟩ := h.ok
  obtain ⟨cs, rfl, hl⟩ := okWide_struct ht hv
  exact ⟨cs.toList, by simp, by simpa using hl, by simpa [Value.cells] using h.rd⟩
theorem wf_i64 {z : Int} (h : (Lit.int .i64 z).wf = true) : -9223372036854775808 ≤ z ∧ z ≤ 9223372036854775807 := by
  simpa using bounds_i64 h
theorem wf_u64 {z : Int} (h : (Lit.int .u64 z).wf = true) : 0 ≤ z ∧ z ≤ 18446744073709551615 := by
  simpa using bounds_u64 h
theorem arg_int {w : World} {v : Value} (h : Arg w 3 v) : ∃ z : Int, v = .int .i64 z ∧ (-9223372036854775808 ≤ z ∧ z ≤ 9223372036854775807) := by
  obtain ⟨z, rfl, hz⟩ := h.int Try.underlying3
  exact ⟨z, rfl, wf_i64 hz⟩
theorem arg_uint64 {w : World} {v : Value} (h : Arg w 111 v) : ∃ z : Nat, v = .int .u64 z ∧ z < 18446744073709551616 := by
  obtain ⟨z, rfl, hz⟩ := h.int Try.underlying111
  have := wf_u64 hz
  exact ⟨z.toNat, by rw [Int.toNat_of_nonneg this.1], by omega⟩
theorem arg_bool {w : World} {v : Value} (h : Arg w 4 v) : ∃ b : Bool, v = .bool b ∧ True := by
  obtain ⟨b, rfl⟩ := h.bool Try.underlying4
  exact ⟨b, rfl, trivial⟩
theorem arg_string {w : World} {v : Value} (h : Arg w 9 v) : ∃ s : ByteArray, v = .string s ∧ s.size ≤ maxLen := h.str Try.underlying9
end Go.Proofs.Ytmkgddbdkpkgpaa
end

section
namespace Go.Proofs.Ytmkgddbdkpkgpaa
open Go.RowKit
set_option linter.unusedVariables false

/-- The one cell holds a slice that reads as l. -/
def ByteSIn (cs : List Value) (l : List UInt8) (w : World) : Prop := ∃ a cap, cs = [.slice a l.length cap] ∧ l.length ≤ cap ∧ l.length ≤ maxLen ∧ Row w a (l.map bval)
/-- .. and lies in blocks from lo to hi, which the call owns. -/
def ByteSOwn (lo hi : Nat) (cs : List Value) (l : List UInt8) (w : World) : Prop :=
  ∃ a cap, cs = [.slice a l.length cap] ∧ w.ownsRow lo 5 1 (.slice a l.length cap) l.length (l.map bval) ∧ ∀ k, Value.ownBlock (.slice a l.length cap) = some k → k < hi
theorem ByteSOwn.read {lo hi : Nat} {cs : List Value} {l : List UInt8} {w : World} (h : ByteSOwn lo hi cs l w) : ByteSIn cs l w := by
  obtain ⟨a, cap, rfl, ho, _⟩ := h
  have hc := own_cap ho
  refine ⟨a, cap, rfl, hc, ?_, Row.of_own ho⟩
  rcases ho.2 with ⟨hv, hn⟩ | ⟨g, cap', cur, hv, _, _, _, h2, _⟩
  · rw [hn]; unfold maxLen; omega
  · simp at hv; omega
theorem ByteSOwn.lies {lo hi : Nat} {cs : List Value} {l : List UInt8} {w : World} (h : ByteSOwn lo hi cs l w) (ht : hi ≤ w.heap.size) : Lies w lo hi (ByteSOwn lo hi cs l) := by
  refine ⟨h, ht, fun w2 e => ?_⟩
  obtain ⟨a, cap, rfl, ho, hh⟩ := h
  exact ⟨a, cap, rfl, own_sup ho hh e, hh⟩
theorem ByteSIn.lies {cs : List Value} {l : List UInt8} {w : World} (h : ByteSIn cs l w) : Lies w 0 w.heap.size (ByteSIn cs l) := by
  obtain ⟨a, cap, rfl, h1, h2, hr⟩ := h
  exact ⟨⟨a, cap, rfl, h1, h2, hr⟩, Nat.le_refl _, fun w2 e => ⟨a, cap, rfl, h1, h2, (lies_row hr).sup w2 e⟩⟩
theorem ByteSOwn.wide {lo hi lo' hi' : Nat} {cs : List Value} {l : List UInt8} {w : World} (h : ByteSOwn lo hi cs l w) (h1 : lo' ≤ lo) (h2 : hi ≤ hi') : ByteSOwn lo' hi' cs l w := by
  obtain ⟨a, cap, rfl, ho, hh⟩ := h
  exact ⟨a, cap, rfl, own_base ho h1, fun k hk => Nat.lt_of_lt_of_le (hh k hk) h2⟩
theorem ByteSOwn.mk {lo n cap : Nat} {a : Option Addr} {l : List UInt8} {w : World} (h : w.ownsRow lo 5 1 (.slice a n cap) n (l.map bval)) : ByteSOwn lo w.heap.size [.slice a n cap] l w := by
  have hn : l.length = n := by simpa using h.1
  subst hn
  exact ⟨a, cap, rfl, h, own_top h⟩
def szByteS (l : List UInt8) : Nat := l.length
def mkByteS (k : Nat) (l : List UInt8) : List UInt8 := marks k l.length
theorem ByteSOwn.shape {lo hi : Nat} {c : Value} {l : List UInt8} {w : World} (h : ByteSOwn lo hi [c] l w) : ∃ a n cap, c = .slice a n cap := by
  obtain ⟨a, cap, hc, _⟩ := h
  simp at hc
  exact ⟨a, _, cap, hc⟩
theorem byteSIn_shape {c : Value} {l : List UInt8} {w : World} (h : ByteSIn [c] l w) : ∃ a cap, c = .slice a l.length cap ∧ l.length ≤ cap ∧ l.length ≤ maxLen ∧ Row w a (l.map bval) := by
  obtain ⟨a, cap, hc, h1, h2, h3⟩ := h
  simp at hc
  exact ⟨a, cap, hc, h1, h2, h3⟩
/-- The bytes that a list of numbers 0 to 255 spells. -/
theorem bytes_of : ∀ (l : List Int), (∀ z ∈ l, (Lit.int .u8 z).wf = true) → ∃ m : List UInt8, m.length = l.length ∧ m.map bval = l.map (Value.int .u8)
  | [], _ => ⟨[], rfl, rfl⟩
  | z :: l, h => by
    obtain ⟨m, h1, h2⟩ := bytes_of l (fun y hy => h y (List.mem_cons_of_mem _ hy))
    have hz : 0 ≤ z ∧ z ≤ 255 := by simpa using bounds_u8 (h z List.mem_cons_self)
    refine ⟨UInt8.ofNat z.toNat :: m, by simp [h1], ?_⟩
    rw [List.map_cons, List.map_cons, h2]
    congr 1
    unfold bval
    congr 1
    rw [UInt8.toNat_ofNat']
    omega
theorem argByteS {w : World} {v : Value} (h : Arg w 22 v) : ∃ c m, v = c ∧ ByteSIn [c] m w ∧ True := by
  obtain ⟨a, len, cap, rfl, hr⟩ := h.slice Try.underlying22
  obtain ⟨a', cap', l, hc, h1, h2, h3, h4⟩ := hr.ints Try.underlying22 Try.underlying5 (by kernel_rfl)
  simp at hc
  obtain ⟨rfl, rfl, rfl⟩ := hc
  obtain ⟨m, e1, e2⟩ := bytes_of l h4
  exact ⟨_, m, rfl, ⟨a, cap, by rw [e1], by omega, by omega, by rw [e2]; exact h3⟩, trivial⟩
def ByteSRet (l : List UInt8) (w : World) (e : Ending) (w' : World) : Prop := ∃ c, e = .returned c ∧ ByteSOwn w.heap.size w'.heap.size [c] l w' ∧ Below w.heap.size w w'
theorem uMarkByteS (lo hi k : Nat) (c : Value) (l : List UInt8) (w : World) (hk : k + szByteS l ≤ 4611686018427387904) (h : ByteSOwn lo hi [c] l w) :
    Calls Try.prog 67 #[c, .int .i64 k] w (MarkPost (ByteSOwn lo hi [c] (mkByteS k l)) lo hi (k + szByteS l) w) := by
  obtain ⟨a, cap, hc, ho, hh⟩ := h
  simp at hc
  subst hc
  refine (lawsMarkByteAny lo l.length cap k a _ w hk ho).mono ?_
  rintro e w' ⟨rfl, h1, h2⟩
  unfold mkByteS
  refine ⟨_, rfl, rfl, ⟨a, cap, by rw [marks_length], by rw [marks_length]; exact h1, by rw [marks_length]; exact hh⟩, Chg.of_grown h2 (fun g hg => ⟨(ho.lt g hg).1, hh g hg⟩)⟩
theorem uHeldByteS (k : Nat) (c : Value) (l : List UInt8) (w : World) (hk : k + szByteS l ≤ 4611686018427387904) (h : ByteSIn [c] (mkByteS k l) w) :
    Calls Try.prog 68 #[c, .int .i64 k] w (HeldPost (k + szByteS l) w) := by
  unfold mkByteS at h
  obtain ⟨a, cap, hc, _, _, hr⟩ := h
  simp at hc
  subst hc
  rw [marks_length]
  exact (lawsHeldByteS a l.length cap k w hk hr).mono (by rintro e w' ⟨rfl, rfl⟩; exact ⟨_, rfl, rfl, Below.refl _ _⟩)
theorem uEqByteS (c d : Value) (l : List UInt8) (w : World) (h1 : ByteSIn [c] l w) (h2 : ByteSIn [d] l w) :
    Calls Try.prog 66 #[c, d] w (TruePost w) := by
  obtain ⟨a, cap, hc, _, hm1, hr⟩ := h1
  obtain ⟨a2, cap2, hc2, _, hm2, hr2⟩ := h2
  simp at hc hc2
  subst hc hc2
  refine (lawsEqByteS a a2 cap cap2 l l w hm1 hm2 hr hr2).mono ?_
  rintro e w' ⟨rfl, n, rfl⟩
  exact ⟨by rw [beq_self_eq_true], belowN n⟩
theorem uToByteS (c : Value) (l : List UInt8) (w : World) (hl : szByteS l ≤ 1048576) (h : ByteSIn [c] l w) : Calls Try.prog 65 #[c] w (ByteSRet l w) := by
  obtain ⟨a, cap, hc, _, _, hr⟩ := h
  simp at hc
  subst hc
  unfold szByteS at hl
  refine (lawsToByteS a cap l w (by omega) hr).mono ?_
  rintro e w' ⟨rfl, ho, hb⟩
  exact ⟨_, rfl, ByteSOwn.mk ho, hb⟩
end Go.Proofs.Ytmkgddbdkpkgpaa
end
