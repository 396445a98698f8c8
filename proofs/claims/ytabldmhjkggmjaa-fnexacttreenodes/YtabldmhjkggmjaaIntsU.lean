/- Slices of integers in the laws' uniform form: read, owned; the helpers over them. -/
import Derived.Test.YtabldmhjkggmjaaInts
import Derived.Test.YtabldmhjkggmjaaSeg
namespace Go.Proofs.Ytabldmhjkggmjaa
open Go.RowKit
set_option linter.unusedVariables false

/-- The one cell holds a slice that reads as l. -/
def IntSIn (cs : List Value) (l : List Int) (w : World) : Prop := ∃ a cap, cs = [.slice a l.length cap] ∧ l.length ≤ cap ∧ l.length ≤ maxLen ∧ Row w a (l.map ival)
/-- .. and lies in blocks from lo to hi, which the call owns. -/
def IntSOwn (lo hi : Nat) (cs : List Value) (l : List Int) (w : World) : Prop :=
  ∃ a cap, cs = [.slice a l.length cap] ∧ w.ownsRow lo 3 1 (.slice a l.length cap) l.length (l.map ival) ∧ ∀ k, Value.ownBlock (.slice a l.length cap) = some k → k < hi
theorem IntSOwn.read {lo hi : Nat} {cs : List Value} {l : List Int} {w : World} (h : IntSOwn lo hi cs l w) : IntSIn cs l w := by
  obtain ⟨a, cap, rfl, ho, _⟩ := h
  have hc := own_cap ho
  refine ⟨a, cap, rfl, hc, ?_, Row.of_own ho⟩
  rcases ho.2 with ⟨hv, hn⟩ | ⟨g, cap', cur, hv, _, _, _, h2, _⟩
  · rw [hn]; unfold maxLen; omega
  · simp at hv; omega
theorem IntSOwn.lies {lo hi : Nat} {cs : List Value} {l : List Int} {w : World} (h : IntSOwn lo hi cs l w) (ht : hi ≤ w.heap.size) : Lies w lo hi (IntSOwn lo hi cs l) := by
  refine ⟨h, ht, fun w2 e => ?_⟩
  obtain ⟨a, cap, rfl, ho, hh⟩ := h
  exact ⟨a, cap, rfl, own_sup ho hh e, hh⟩
theorem IntSIn.lies {cs : List Value} {l : List Int} {w : World} (h : IntSIn cs l w) : Lies w 0 w.heap.size (IntSIn cs l) := by
  obtain ⟨a, cap, rfl, h1, h2, hr⟩ := h
  exact ⟨⟨a, cap, rfl, h1, h2, hr⟩, Nat.le_refl _, fun w2 e => ⟨a, cap, rfl, h1, h2, (lies_row hr).sup w2 e⟩⟩
theorem IntSOwn.wide {lo hi lo' hi' : Nat} {cs : List Value} {l : List Int} {w : World} (h : IntSOwn lo hi cs l w) (h1 : lo' ≤ lo) (h2 : hi ≤ hi') : IntSOwn lo' hi' cs l w := by
  obtain ⟨a, cap, rfl, ho, hh⟩ := h
  exact ⟨a, cap, rfl, own_base ho h1, fun k hk => Nat.lt_of_lt_of_le (hh k hk) h2⟩
theorem IntSOwn.mk {lo n cap : Nat} {a : Option Addr} {l : List Int} {w : World} (h : w.ownsRow lo 3 1 (.slice a n cap) n (l.map ival)) : IntSOwn lo w.heap.size [.slice a n cap] l w := by
  have hn : l.length = n := by simpa using h.1
  subst hn
  exact ⟨a, cap, rfl, h, own_top h⟩
def szIntS (l : List Int) : Nat := l.length
def mkIntS (k : Nat) (l : List Int) : List Int := marksI k l.length
theorem IntSOwn.shape {lo hi : Nat} {c : Value} {l : List Int} {w : World} (h : IntSOwn lo hi [c] l w) : ∃ a n cap, c = .slice a n cap := by
  obtain ⟨a, cap, hc, _⟩ := h
  simp at hc
  exact ⟨a, _, cap, hc⟩
theorem intSIn_shape {c : Value} {l : List Int} {w : World} (h : IntSIn [c] l w) : ∃ a cap, c = .slice a l.length cap ∧ l.length ≤ cap ∧ l.length ≤ maxLen ∧ Row w a (l.map ival) := by
  obtain ⟨a, cap, hc, h1, h2, h3⟩ := h
  simp at hc
  exact ⟨a, cap, hc, h1, h2, h3⟩
def IntSRet (l : List Int) (w : World) (e : Ending) (w' : World) : Prop := ∃ c, e = .returned c ∧ IntSOwn w.heap.size w'.heap.size [c] l w' ∧ Below w.heap.size w w'
theorem uMarkIntS (lo hi k : Nat) (c : Value) (l : List Int) (w : World) (hk : k + szIntS l ≤ 4611686018427387904) (h : IntSOwn lo hi [c] l w) :
    Calls Try.prog 28 #[c, .int .i64 k] w (MarkPost (IntSOwn lo hi [c] (mkIntS k l)) lo hi (k + szIntS l) w) := by
  obtain ⟨a, cap, hc, ho, hh⟩ := h
  simp at hc
  subst hc
  refine (lawsMarkIntS lo l.length cap k a _ w hk ho).mono ?_
  rintro e w' ⟨rfl, h1, h2⟩
  unfold mkIntS
  refine ⟨_, rfl, rfl, ⟨a, cap, by rw [marksI_length], by rw [marksI_length]; exact h1, by rw [marksI_length]; exact hh⟩, Chg.of_grown h2 (fun g hg => ⟨(ho.lt g hg).1, hh g hg⟩)⟩
theorem uHeldIntS (k : Nat) (c : Value) (l : List Int) (w : World) (hk : k + szIntS l ≤ 4611686018427387904) (h : IntSIn [c] (mkIntS k l) w) :
    Calls Try.prog 29 #[c, .int .i64 k] w (HeldPost (k + szIntS l) w) := by
  unfold mkIntS at h
  obtain ⟨a, cap, hc, _, _, hr⟩ := h
  simp at hc
  subst hc
  rw [marksI_length]
  exact (lawsHeldIntS a l.length cap k w hk hr).mono (by rintro e w' ⟨rfl, rfl⟩; exact ⟨_, rfl, rfl, Below.refl _ _⟩)
theorem uEqIntS (c d : Value) (l : List Int) (w : World) (h1 : IntSIn [c] l w) (h2 : IntSIn [d] l w) :
    Calls Try.prog 27 #[c, d] w (TruePost w) := by
  obtain ⟨a, cap, hc, _, hm1, hr⟩ := h1
  obtain ⟨a2, cap2, hc2, _, hm2, hr2⟩ := h2
  simp at hc hc2
  subst hc hc2
  refine (lawsEqIntS a a2 cap cap2 l l w hm1 hm2 hr hr2).mono ?_
  rintro e w' ⟨rfl, n, rfl⟩
  exact ⟨by rw [beq_self_eq_true], belowN n⟩
end Go.Proofs.Ytabldmhjkggmjaa
