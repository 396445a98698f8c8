/- Slices of integers in the laws' uniform form: read, owned; the helpers over them. -/
import Derived.Test.YtfdlmpjccoaejaaU64
import Derived.Test.YtfdlmpjccoaejaaSeg
namespace Go.Proofs.Ytfdlmpjccoaejaa
open Go.RowKit
set_option linter.unusedVariables false

/-- The one cell holds a slice that reads as l. -/
def Uint64SIn (cs : List Value) (l : List Nat) (w : World) : Prop := ∃ a cap, cs = [.slice a l.length cap] ∧ l.length ≤ cap ∧ l.length ≤ maxLen ∧ Row w a (l.map uval)
/-- .. and lies in blocks from lo to hi, which the call owns. -/
def Uint64SOwn (lo hi : Nat) (cs : List Value) (l : List Nat) (w : World) : Prop :=
  ∃ a cap, cs = [.slice a l.length cap] ∧ w.ownsRow lo 43 1 (.slice a l.length cap) l.length (l.map uval) ∧ ∀ k, Value.ownBlock (.slice a l.length cap) = some k → k < hi
theorem Uint64SOwn.read {lo hi : Nat} {cs : List Value} {l : List Nat} {w : World} (h : Uint64SOwn lo hi cs l w) : Uint64SIn cs l w := by
  obtain ⟨a, cap, rfl, ho, _⟩ := h
  have hc := own_cap ho
  refine ⟨a, cap, rfl, hc, ?_, Row.of_own ho⟩
  rcases ho.2 with ⟨hv, hn⟩ | ⟨g, cap', cur, hv, _, _, _, h2, _⟩
  · rw [hn]; unfold maxLen; omega
  · simp at hv; omega
theorem Uint64SOwn.lies {lo hi : Nat} {cs : List Value} {l : List Nat} {w : World} (h : Uint64SOwn lo hi cs l w) (ht : hi ≤ w.heap.size) : Lies w lo hi (Uint64SOwn lo hi cs l) := by
  refine ⟨h, ht, fun w2 e => ?_⟩
  obtain ⟨a, cap, rfl, ho, hh⟩ := h
  exact ⟨a, cap, rfl, own_sup ho hh e, hh⟩
theorem Uint64SIn.lies {cs : List Value} {l : List Nat} {w : World} (h : Uint64SIn cs l w) : Lies w 0 w.heap.size (Uint64SIn cs l) := by
  obtain ⟨a, cap, rfl, h1, h2, hr⟩ := h
  exact ⟨⟨a, cap, rfl, h1, h2, hr⟩, Nat.le_refl _, fun w2 e => ⟨a, cap, rfl, h1, h2, (lies_row hr).sup w2 e⟩⟩
theorem Uint64SOwn.wide {lo hi lo' hi' : Nat} {cs : List Value} {l : List Nat} {w : World} (h : Uint64SOwn lo hi cs l w) (h1 : lo' ≤ lo) (h2 : hi ≤ hi') : Uint64SOwn lo' hi' cs l w := by
  obtain ⟨a, cap, rfl, ho, hh⟩ := h
  exact ⟨a, cap, rfl, own_base ho h1, fun k hk => Nat.lt_of_lt_of_le (hh k hk) h2⟩
theorem Uint64SOwn.mk {lo n cap : Nat} {a : Option Addr} {l : List Nat} {w : World} (h : w.ownsRow lo 43 1 (.slice a n cap) n (l.map uval)) : Uint64SOwn lo w.heap.size [.slice a n cap] l w := by
  have hn : l.length = n := by simpa using h.1
  subst hn
  exact ⟨a, cap, rfl, h, own_top h⟩
def szUint64S (l : List Nat) : Nat := l.length
def mkUint64S (k : Nat) (l : List Nat) : List Nat := marksU k l.length
theorem Uint64SOwn.shape {lo hi : Nat} {c : Value} {l : List Nat} {w : World} (h : Uint64SOwn lo hi [c] l w) : ∃ a n cap, c = .slice a n cap := by
  obtain ⟨a, cap, hc, _⟩ := h
  simp at hc
  exact ⟨a, _, cap, hc⟩
theorem uint64SIn_shape {c : Value} {l : List Nat} {w : World} (h : Uint64SIn [c] l w) : ∃ a cap, c = .slice a l.length cap ∧ l.length ≤ cap ∧ l.length ≤ maxLen ∧ Row w a (l.map uval) := by
  obtain ⟨a, cap, hc, h1, h2, h3⟩ := h
  simp at hc
  exact ⟨a, cap, hc, h1, h2, h3⟩
theorem uMarkUint64S (lo hi k : Nat) (c : Value) (l : List Nat) (w : World) (hk : k + szUint64S l ≤ 4611686018427387904) (h : Uint64SOwn lo hi [c] l w) :
    Calls Try.prog 48 #[c, .int .i64 k] w (MarkPost (Uint64SOwn lo hi [c] (mkUint64S k l)) lo hi (k + szUint64S l) w) := by
  obtain ⟨a, cap, hc, ho, hh⟩ := h
  simp at hc
  subst hc
  refine (lawsMarkU64S lo l.length cap k a _ w hk ho).mono ?_
  rintro e w' ⟨rfl, h1, h2⟩
  unfold mkUint64S
  refine ⟨_, rfl, rfl, ⟨a, cap, by rw [marksU_length], by rw [marksU_length]; exact h1, by rw [marksU_length]; exact hh⟩, Chg.of_grown h2 (fun g hg => ⟨(ho.lt g hg).1, hh g hg⟩)⟩
theorem uHeldUint64S (k : Nat) (c : Value) (l : List Nat) (w : World) (hk : k + szUint64S l ≤ 4611686018427387904) (h : Uint64SIn [c] (mkUint64S k l) w) :
    Calls Try.prog 49 #[c, .int .i64 k] w (HeldPost (k + szUint64S l) w) := by
  unfold mkUint64S at h
  obtain ⟨a, cap, hc, _, _, hr⟩ := h
  simp at hc
  subst hc
  rw [marksU_length]
  exact (lawsHeldU64S a l.length cap k w hk hr).mono (by rintro e w' ⟨rfl, rfl⟩; exact ⟨_, rfl, rfl, Below.refl _ _⟩)
theorem uEqUint64S (c d : Value) (l : List Nat) (w : World) (h1 : Uint64SIn [c] l w) (h2 : Uint64SIn [d] l w) :
    Calls Try.prog 45 #[c, d] w (TruePost w) := by
  obtain ⟨a, cap, hc, _, hm1, hr⟩ := h1
  obtain ⟨a2, cap2, hc2, _, hm2, hr2⟩ := h2
  simp at hc hc2
  subst hc hc2
  refine (lawsEqU64S a a2 cap cap2 l l w hm1 hm2 hr hr2).mono ?_
  rintro e w' ⟨rfl, n, rfl⟩
  exact ⟨by rw [beq_self_eq_true], belowN n⟩
def Uint64SRet (l : List Nat) (w : World) (e : Ending) (w' : World) : Prop := ∃ c, e = .returned c ∧ Uint64SOwn w.heap.size w'.heap.size [c] l w' ∧ Below w.heap.size w w'
theorem uToUint64S (c : Value) (l : List Nat) (w : World) (hl : szUint64S l ≤ 1048576) (h : Uint64SIn [c] l w) : Calls Try.prog 51 #[c] w (Uint64SRet l w) := by
  obtain ⟨a, cap, hc, _, _, hr⟩ := h
  simp at hc
  subst hc
  unfold szUint64S at hl
  refine (lawsToU64S a cap l w (by omega) hr).mono ?_
  rintro e w' ⟨rfl, ho, hb⟩
  exact ⟨_, rfl, Uint64SOwn.mk ho, hb⟩
end Go.Proofs.Ytfdlmpjccoaejaa
