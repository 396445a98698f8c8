/- Slices of bytes in the laws' uniform form: read, owned; the helpers over them. -/
import Derived.Test.YtaedamnhobcdlaaBytes
import Derived.Test.YtaedamnhobcdlaaReads
import Derived.Test.YtaedamnhobcdlaaBigIs
import Derived.Test.YtaedamnhobcdlaaSeg
namespace Go.Proofs.Ytaedamnhobcdlaa
open Go.RowKit
set_option linter.unusedVariables false

/-- The one cell holds a slice that reads as l. -/
def ByteSIn (cs : List Value) (l : List UInt8) (w : World) : Prop := ∃ a cap, cs = [.slice a l.length cap] ∧ l.length ≤ cap ∧ l.length ≤ maxLen ∧ Row w a (l.map bval)
/-- .. and lies in blocks from lo to hi, which the call owns. -/
def ByteSOwn (lo hi : Nat) (cs : List Value) (l : List UInt8) (w : World) : Prop :=
  ∃ a cap, cs = [.slice a l.length cap] ∧ w.ownsRow lo 5 1 (.slice a l.length cap) l.length (l.map bval) ∧ ∀ k, Value.ownBlock (.slice a l.length cap) = some k → k < hi
theorem ByteSOwn.read {lo hi : Nat} {cs : List Value} {l : List UInt8} {w : World} (h : ByteSOwn lo hi cs l w) : ByteSIn cs l w := by
  obtain ⟨a, cap, rfl, ho, _⟩ := h
  have hc := own_cap ho
  refine ⟨a, cap, rfl, hc, ?_, Row.of_own ho⟩
  rcases ho.2 with ⟨hv, hn⟩ | ⟨g, cap', cur, hv, _, _, _, h2, _⟩
  · rw [hn]; unfold maxLen; omega
  · simp at hv; omega
theorem ByteSOwn.lies {lo hi : Nat} {cs : List Value} {l : List UInt8} {w : World} (h : ByteSOwn lo hi cs l w) (ht : hi ≤ w.heap.size) : Lies w lo hi (ByteSOwn lo hi cs l) := by
  refine ⟨h, ht, fun w2 e => ?_⟩
  obtain ⟨a, cap, rfl, ho, hh⟩ := h
  exact ⟨a, cap, rfl, own_sup ho hh e, hh⟩
theorem ByteSIn.lies {cs : List Value} {l : List UInt8} {w : World} (h : ByteSIn cs l w) : Lies w 0 w.heap.size (ByteSIn cs l) := by
  obtain ⟨a, cap, rfl, h1, h2, hr⟩ := h
  exact ⟨⟨a, cap, rfl, h1, h2, hr⟩, Nat.le_refl _, fun w2 e => ⟨a, cap, rfl, h1, h2, (lies_row hr).sup w2 e⟩⟩
theorem ByteSOwn.wide {lo hi lo' hi' : Nat} {cs : List Value} {l : List UInt8} {w : World} (h : ByteSOwn lo hi cs l w) (h1 : lo' ≤ lo) (h2 : hi ≤ hi') : ByteSOwn lo' hi' cs l w := by
  obtain ⟨a, cap, rfl, ho, hh⟩ := h
  exact ⟨a, cap, rfl, own_base ho h1, fun k hk => Nat.lt_of_lt_of_le (hh k hk) h2⟩
theorem ByteSOwn.mk {lo n cap : Nat} {a : Option Addr} {l : List UInt8} {w : World} (h : w.ownsRow lo 5 1 (.slice a n cap) n (l.map bval)) : ByteSOwn lo w.heap.size [.slice a n cap] l w := by
  have hn : l.length = n := by simpa using h.1
  subst hn
  exact ⟨a, cap, rfl, h, own_top h⟩
def szByteS (l : List UInt8) : Nat := l.length
def mkByteS (k : Nat) (l : List UInt8) : List UInt8 := marks k l.length
theorem ByteSOwn.shape {lo hi : Nat} {c : Value} {l : List UInt8} {w : World} (h : ByteSOwn lo hi [c] l w) : ∃ a n cap, c = .slice a n cap := by
  obtain ⟨a, cap, hc, _⟩ := h
  simp at hc
  exact ⟨a, _, cap, hc⟩
theorem byteSIn_shape {c : Value} {l : List UInt8} {w : World} (h : ByteSIn [c] l w) : ∃ a cap, c = .slice a l.length cap ∧ l.length ≤ cap ∧ l.length ≤ maxLen ∧ Row w a (l.map bval) := by
  obtain ⟨a, cap, hc, h1, h2, h3⟩ := h
  simp at hc
  exact ⟨a, cap, hc, h1, h2, h3⟩
/-- The bytes that a list of numbers 0 to 255 spells. -/
theorem bytes_of : ∀ (l : List Int), (∀ z ∈ l, (Lit.int .u8 z).wf = true) → ∃ m : List UInt8, m.length = l.length ∧ m.map bval = l.map (Value.int .u8)
  | [], _ => ⟨[], rfl, rfl⟩
  | z :: l, h => by
    obtain ⟨m, h1, h2⟩ := bytes_of l (fun y hy => h y (List.mem_cons_of_mem _ hy))
    have hz : 0 ≤ z ∧ z ≤ 255 := by simpa using bounds_u8 (h z List.mem_cons_self)
    refine ⟨UInt8.ofNat z.toNat :: m, by simp [h1], ?_⟩
    rw [List.map_cons, List.map_cons, h2]
    congr 1
    unfold bval
    congr 1
    rw [UInt8.toNat_ofNat']
    omega
theorem argByteS {w : World} {v : Value} (h : Arg w 22 v) : ∃ c m, v = c ∧ ByteSIn [c] m w ∧ True := by
  obtain ⟨a, len, cap, rfl, hr⟩ := h.slice Try.underlying22
  obtain ⟨a', cap', l, hc, h1, h2, h3, h4⟩ := hr.ints Try.underlying22 Try.underlying5 (by kernel_rfl)
  simp at hc
  obtain ⟨rfl, rfl, rfl⟩ := hc
  obtain ⟨m, e1, e2⟩ := bytes_of l h4
  exact ⟨_, m, rfl, ⟨a, cap, by rw [e1], by omega, by omega, by rw [e2]; exact h3⟩, trivial⟩
def ByteSRet (l : List UInt8) (w : World) (e : Ending) (w' : World) : Prop := ∃ c, e = .returned c ∧ ByteSOwn w.heap.size w'.heap.size [c] l w' ∧ Below w.heap.size w w'
end Go.Proofs.Ytaedamnhobcdlaa
