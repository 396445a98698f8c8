/- IntsU in one. Written by tools/join2.py. -/
import Derived.Test.YtmndkpicbmffnaaJN14
import Derived.Test.YtmndkpicbmffnaaJN6
section
namespace Go.Proofs.Ytmndkpicbmffnaa
open Go.RowKit
set_option linter.unusedVariables false

/-- The one cell holds a slice that reads as l. -/
def IntSIn (cs : List Value) (l : List Int) (w : World) : Prop := ∃ a cap, cs = [.slice a l.length cap] ∧ l.length ≤ cap ∧ l.length ≤ maxLen ∧ Row w a (l.map ival)
/-- .. and lies in blocks from lo to hi, which the call owns. -/
def IntSOwn (lo hi : Nat) (cs : List Value) (l : List Int) (w : World) : Prop :=
  ∃ a cap, cs = [.slice a l.length cap] ∧ w.ownsRow lo 3 1 (.slice a l.length cap) l.length (l.map ival) ∧ ∀ k, Value.ownBlock (.slice a l.length cap) = some k → k < hi
theorem IntSOwn.read {lo hi : Nat} {cs : List Value} {l : List Int} {w : World} (h : IntSOwn lo hi cs l w) : IntSIn cs l w := by
  obtain ⟨a, cap, rfl, ho, _⟩ := h
  have hc := own_cap ho
  refine ⟨a, cap, rfl, hc, ?_, Row.of_own ho⟩
  rcases ho.2 with ⟨hv, hn⟩ | ⟨g, cap', cur, hv, _, _, _, h2, _⟩
  · rw [hn]; unfold maxLen; omega
  · simp at hv; omega
theorem IntSOwn.lies {lo hi : Nat} {cs : List Value} {l : List Int} {w : World} (h : IntSOwn lo hi cs l w) (ht : hi ≤ w.heap.size) : Lies w lo hi (IntSOwn lo hi cs l) := by
  refine ⟨h, ht, fun w2 e => ?_⟩
  obtain ⟨a, cap, rfl, ho, hh⟩ := h
  exact ⟨a, cap, rfl, own_sup ho hh e, hh⟩
theorem IntSIn.lies {cs : List Value} {l : List Int} {w : World} (h : IntSIn cs l w) : Lies w 0 w.heap.size (IntSIn cs l) := by
  obtain ⟨a, cap, rfl, h1, h2, hr⟩ := h
  exact ⟨⟨a, cap, rfl, h1, h2, hr⟩, Nat.le_refl _, fun w2 e => ⟨a, cap, rfl, h1, h2, (lies_row hr).sup w2 e⟩⟩
theorem IntSOwn.wide {lo hi lo' hi' : Nat} {cs : List Value} {l : List Int} {w : World} (h : IntSOwn lo hi cs l w) (h1 : lo' ≤ lo) (h2 : hi ≤ hi') : IntSOwn lo' hi' cs l w := by
  obtain ⟨a, cap, rfl, ho, hh⟩ := h
  exact ⟨a, cap, rfl, own_base ho h1, fun k hk => Nat.lt_of_lt_of_le (hh k hk) h2⟩
theorem IntSOwn.mk {lo n cap : Nat} {a : Option Addr} {l : List Int} {w : World} (h : w.ownsRow lo 3 1 (.slice a n cap) n (l.map ival)) : IntSOwn lo w.heap.size [.slice a n cap] l w := by
  have hn : l.length = n := by simpa using h.1
  subst hn
  exact ⟨a, cap, rfl, h, own_top h⟩
def szIntS (l : List Int) : Nat := l.length
def mkIntS (k : Nat) (l : List Int) : List Int := marksI k l.length
theorem IntSOwn.shape {lo hi : Nat} {c : Value} {l : List Int} {w : World} (h : IntSOwn lo hi [c] l w) : ∃ a n cap, c = .slice a n cap := by
  obtain ⟨a, cap, hc, _⟩ := h
  simp at hc
  exact ⟨a, _, cap, hc⟩
theorem intSIn_shape {c : Value} {l : List Int} {w : World} (h : IntSIn [c] l w) : ∃ a cap, c = .slice a l.length cap ∧ l.length ≤ cap ∧ l.length ≤ maxLen ∧ Row w a (l.map ival) := by
  obtain ⟨a, cap, hc, h1, h2, h3⟩ := h
  simp at hc
  exact ⟨a, cap, hc, h1, h2, h3⟩
def IntSRet (l : List Int) (w : World) (e : Ending) (w' : World) : Prop := ∃ c, e = .returned c ∧ IntSOwn w.heap.size w'.heap.size [c] l w' ∧ Below w.heap.size w w'
end Go.Proofs.Ytmndkpicbmffnaa
end
