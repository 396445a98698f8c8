/- ByteSU in one. Written by tools/join2.py. -/
import Derived.Test.YtmndkpicbmffnaaJN11
import Derived.Test.YtmndkpicbmffnaaJN12
import Derived.Test.YtmndkpicbmffnaaJN3
import Derived.Test.YtmndkpicbmffnaaJN6
section
namespace Go.Proofs.Ytmndkpicbmffnaa
open Go.RowKit
set_option linter.unusedVariables false

/-- The one cell holds a slice that reads as l. -/
def ByteSIn (cs : List Value) (l : List UInt8) (w : World) : Prop := ∃ a cap, cs = [.slice a l.length cap] ∧ l.length ≤ cap ∧ l.length ≤ maxLen ∧ Row w a (l.map bval)
/-- .. and lies in blocks from lo to hi, which the call owns. -/
def ByteSOwn (lo hi : Nat) (cs : List Value) (l : List UInt8) (w : World) : Prop :=
  ∃ a cap, cs = [.slice a l.length cap] ∧ w.ownsRow lo 5 1 (.slice a l.length cap) l.length (l.map bval) ∧ ∀ k, Value.ownBlock (.slice a l.length cap) = some k → k < hi
theorem ByteSOwn.read {lo hi : Nat} {cs : List Value} {l : List UInt8} {w : World} (h : ByteSOwn lo hi cs l w) : ByteSIn cs l w := by
  obtain ⟨a, cap, rfl, ho, _⟩ := h
  have hc := own_cap ho
  refine ⟨a, cap, rfl, hc, ?_, Row.of_own ho⟩
  rcases ho.2 with ⟨hv, hn⟩ | ⟨g, cap', cur, hv, _, _, _, h2, _⟩
  · rw [hn]; unfold maxLen; omega
  · simp at hv; omega
theorem ByteSOwn.lies {lo hi : Nat} {cs : List Value} {l : List UInt8} {w : World} (h : ByteSOwn lo hi cs l w) (ht : hi ≤ w.heap.size) : Lies w lo hi (ByteSOwn lo hi cs l) := by
  refine ⟨h, ht, fun w2 e => ?_⟩
  obtain ⟨a, cap, rfl, ho, hh⟩ := h
  exact ⟨a, cap, rfl, own_sup ho hh e, hh⟩
theorem ByteSIn.lies {cs : List Value} {l : List UInt8} {w : World} (h : ByteSIn cs l w) : Lies w 0 w.heap.size (ByteSIn cs l) := by
  obtain ⟨a, cap, rfl, h1, h2, hr⟩ := h
  exact ⟨⟨a, cap, rfl, h1, h2, hr⟩, Nat.le_refl _, fun w2 e => ⟨a, cap, rfl, h1, h2, (lies_row hr).sup w2 e⟩⟩
theorem ByteSOwn.wide {lo hi lo' hi' : Nat} {cs : List Value} {l : List UInt8} {w : World} (h : ByteSOwn lo hi cs l w) (h1 : lo' ≤ lo) (h2 : hi ≤ hi') : ByteSOwn lo' hi' cs l w := by
  obtain ⟨a, cap, rfl, ho, hh⟩ := h
  exact ⟨a, cap, rfl, own_base ho h1, fun k hk => Nat.lt_of_lt_of_le (hh k hk) h2⟩
theorem ByteSOwn.mk {lo n cap : Nat} {a : Option Addr} {l : List UInt8} {w : World} (h : w.ownsRow lo 5 1 (.slice a n cap) n (l.map bval)) : ByteSOwn lo w.heap.size [.slice a n cap] l w := by
  have hn : l.length = n := by simpa using h.1
  subst hn
  exact ⟨a, cap, rfl, h, own_top h⟩
def szByteS (l : List UInt8) : Nat := l.length
def mkByteS (k : Nat) (l : List UInt8) : List UInt8 := marks k l.length
theorem ByteSOwn.shape {lo hi : Nat} {c : Value} {l : List UInt8} {w : World} (h : ByteSOwn lo hi [c] l w) : ∃ a n cap, c = .slice a n cap := by
  obtain ⟨a, cap, hc, _⟩ := h
  simp at hc
  exact ⟨a, _, cap, hc⟩
theorem byteSIn_shape {c : Value} {l : List UInt8} {w : World} (h : ByteSIn [c] l w) : ∃ a cap, c = .slice a l.length cap ∧ l.length ≤ cap ∧ l.length ≤ maxLen ∧ Row w a (l.map bval) := by
  obtain ⟨a, cap, hc, h1, h2, h3⟩ := h
  simp at hc
  exact ⟨a, cap, hc, h1, h2, h3⟩
/-- The bytes that a list of numbers 0 to 255 spells. -/
theorem bytes_of : ∀ (l : List Int), (∀ z ∈ l, (Lit.int .u8 z).wf = true) → ∃ m : List UInt8, m.length = l.length ∧ m.map bval = l.map (Value.int .u8)
  | [], _ => ⟨[], rfl, rfl⟩
  | z :: l, h => by
    obtain ⟨m, h1, h2⟩ := bytes_of l (fun y hy => h y (List.mem_cons_of_mem _ hy))
    have hz : 0 ≤ z ∧ z ≤ 255 := by simpa using bounds_u8 (h z List.mem_cons_self)
    refine ⟨UInt8.ofNat z.toNat :: m, by simp [h1], ?_⟩
    rw [List.map_cons, List.map_cons, h2]
    congr 1
    unfold bval
    congr 1
    rw [UInt8.toNat_ofNat']
    omega
theorem argByteS {w : World} {v : Value} (h : Arg w 22 v) : ∃ c m, v = c ∧ ByteSIn [c] m w ∧ True := by
  obtain ⟨a, len, cap, rfl, hr⟩ := h.slice Try.underlying22
  obtain ⟨a', cap', l, hc, h1, h2, h3, h4⟩ := hr.ints Try.underlying22 Try.underlying5 (by kernel_rfl)
  simp at hc
  obtain ⟨rfl, rfl, rfl⟩ := hc
  obtain ⟨m, e1, e2⟩ := bytes_of l h4
  exact ⟨_, m, rfl, ⟨a, cap, by rw [e1], by omega, by omega, by rw [e2]; exact h3⟩, trivial⟩
def ByteSRet (l : List UInt8) (w : World) (e : Ending) (w' : World) : Prop := ∃ c, e = .returned c ∧ ByteSOwn w.heap.size w'.heap.size [c] l w' ∧ Below w.heap.size w w'
theorem uMarkByteS (lo hi k : Nat) (c : Value) (l : List UInt8) (w : World) (hk : k + szByteS l ≤ 4611686018427387904) (h : ByteSOwn lo hi [c] l w) :
    Calls Try.prog 36 #[c, .int .i64 k] w (MarkPost (ByteSOwn lo hi [c] (mkByteS k l)) lo hi (k + szByteS l) w) := by
  obtain ⟨a, cap, hc, ho, hh⟩ := h
  simp at hc
  subst hc
  refine (lawsMarkByteAny lo l.length cap k a _ w hk ho).mono ?_
  rintro e w' ⟨rfl, h1, h2⟩
  unfold mkByteS
  refine ⟨_, rfl, rfl, ⟨a, cap, by rw [marks_length], by rw [marks_length]; exact h1, by rw [marks_length]; exact hh⟩, Chg.of_grown h2 (fun g hg => ⟨(ho.lt g hg).1, hh g hg⟩)⟩
theorem uHeldByteS (k : Nat) (c : Value) (l : List UInt8) (w : World) (hk : k + szByteS l ≤ 4611686018427387904) (h : ByteSIn [c] (mkByteS k l) w) :
    Calls Try.prog 37 #[c, .int .i64 k] w (HeldPost (k + szByteS l) w) := by
  unfold mkByteS at h
  obtain ⟨a, cap, hc, _, _, hr⟩ := h
  simp at hc
  subst hc
  rw [marks_length]
  exact (lawsHeldByteS a l.length cap k w hk hr).mono (by rintro e w' ⟨rfl, rfl⟩; exact ⟨_, rfl, rfl, Below.refl _ _⟩)
theorem uEqByteS (c d : Value) (l : List UInt8) (w : World) (h1 : ByteSIn [c] l w) (h2 : ByteSIn [d] l w) :
    Calls Try.prog 34 #[c, d] w (TruePost w) := by
  obtain ⟨a, cap, hc, _, hm1, hr⟩ := h1
  obtain ⟨a2, cap2, hc2, _, hm2, hr2⟩ := h2
  simp at hc hc2
  subst hc hc2
  refine (lawsEqByteS a a2 cap cap2 l l w hm1 hm2 hr hr2).mono ?_
  rintro e w' ⟨rfl, n, rfl⟩
  exact ⟨by rw [beq_self_eq_true], belowN n⟩
theorem uToByteS (c : Value) (l : List UInt8) (w : World) (hl : szByteS l ≤ 1048576) (h : ByteSIn [c] l w) : Calls Try.prog 39 #[c] w (ByteSRet l w) := by
  obtain ⟨a, cap, hc, _, _, hr⟩ := h
  simp at hc
  subst hc
  unfold szByteS at hl
  refine (lawsToByteS a cap l w (by omega) hr).mono ?_
  rintro e w' ⟨rfl, ho, hb⟩
  exact ⟨_, rfl, ByteSOwn.mk ho, hb⟩
end Go.Proofs.Ytmndkpicbmffnaa
end
