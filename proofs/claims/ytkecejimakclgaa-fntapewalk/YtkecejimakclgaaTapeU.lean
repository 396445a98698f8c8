/- Tapes in the laws' uniform form: read, owned; the helpers over them; what the functions over tapes answer. -/
import Derived.Test.YtkecejimakclgaaIntsU
import Derived.Test.YtkecejimakclgaaTapeL
namespace Go.Proofs.Ytkecejimakclgaa
open Go.RowKit
set_option linter.unusedVariables false

structure TapeM where
  l : List Int
  z : Int
def TapeIn (cs : List Value) (m : TapeM) (w : World) : Prop := ∃ c, cs = [c, .int .i64 m.z] ∧ IntSIn [c] m.l w
def TapeOwn (lo hi : Nat) (cs : List Value) (m : TapeM) (w : World) : Prop := ∃ c, cs = [c, .int .i64 m.z] ∧ IntSOwn lo hi [c] m.l w
theorem TapeOwn.read {lo hi : Nat} {cs : List Value} {m : TapeM} {w : World} (h : TapeOwn lo hi cs m w) : TapeIn cs m w := by
  obtain ⟨c, rfl, h1⟩ := h
  exact ⟨c, rfl, h1.read⟩
theorem TapeOwn.lies {lo hi : Nat} {cs : List Value} {m : TapeM} {w : World} (h : TapeOwn lo hi cs m w) (ht : hi ≤ w.heap.size) : Lies w lo hi (TapeOwn lo hi cs m) := by
  obtain ⟨c, rfl, h1⟩ := h
  have L := h1.lies ht
  refine ⟨⟨c, rfl, h1⟩, ht, fun w1 w2 e h2 => ?_⟩
  obtain ⟨c', hc, h3⟩ := h2
  simp at hc
  subst hc
  exact ⟨c, rfl, L.sup w1 w2 e h3⟩
theorem TapeOwn.shape {lo hi : Nat} {c0 c1 : Value} {m : TapeM} {w : World} (h : TapeOwn lo hi [c0, c1] m w) : ∃ a n cap z, c0 = .slice a n cap ∧ c1 = .int .i64 z := by
  obtain ⟨c, hc, a, cap, hc2, _⟩ := h
  simp at hc hc2
  exact ⟨a, _, cap, _, hc.1.trans hc2, hc.2⟩
theorem TapeIn.lies {cs : List Value} {m : TapeM} {w : World} (h : TapeIn cs m w) : Lies w 0 w.heap.size (TapeIn cs m) := by
  obtain ⟨c, rfl, h1⟩ := h
  have L := h1.lies
  refine ⟨⟨c, rfl, h1⟩, Nat.le_refl _, fun w1 w2 e h2 => ?_⟩
  obtain ⟨c', hc, h3⟩ := h2
  simp at hc
  subst hc
  exact ⟨c, rfl, L.sup w1 w2 e h3⟩
theorem argTape {w : World} {v : Value} (h : Arg w 33 v) : ∃ c0 c1 m, v = .agg #[c0, c1] ∧ TapeIn [c0, c1] m w ∧ (-9223372036854775808 ≤ m.z ∧ m.z ≤ 9223372036854775807) := by
  obtain ⟨a, cap, l, z, rfl, h1, h2, h3, h4⟩ := arg_tape h
  exact ⟨_, _, ⟨l, z⟩, rfl, ⟨_, rfl, a, cap, rfl, h1, Nat.le_trans h1 h2, h3⟩, h4⟩
def szTape (m : TapeM) : Nat := m.l.length
def mkTape (k : Nat) (m : TapeM) : TapeM := ⟨marksI k m.l.length, m.z⟩
def TapeRet (m : TapeM) (w : World) (e : Ending) (w' : World) : Prop := ∃ c0 c1, e = .returned (.agg #[c0, c1]) ∧ TapeOwn w.heap.size w'.heap.size [c0, c1] m w' ∧ Below w.heap.size w w'
theorem tapeIn_shape {c0 c1 : Value} {m : TapeM} {w : World} (h : TapeIn [c0, c1] m w) : ∃ a cap, c0 = .slice a m.l.length cap ∧ c1 = .int .i64 m.z ∧ m.l.length ≤ cap ∧ m.l.length ≤ maxLen ∧ Row w a (m.l.map ival) := by
  obtain ⟨c, hc, a, cap, hc2, h1, h2, h3⟩ := h
  simp at hc hc2
  obtain ⟨rfl, rfl⟩ := hc
  subst hc2
  exact ⟨a, cap, rfl, rfl, h1, h2, h3⟩
theorem uSzTape (c0 c1 : Value) (m : TapeM) (left : Int) (w : World) (h0 : 0 ≤ left) (h1 : left ≤ 1048576) (h : TapeIn [c0, c1] m w) :
    Calls Try.prog 15 #[.agg #[c0, c1], .int .i64 left] w fun e w' => e = .returned (.int .i64 (szI left (szTape m))) ∧ Below w.heap.size w w' := by
  obtain ⟨a, cap, rfl, rfl, _, h2, _⟩ := tapeIn_shape h
  exact lawsSzTape a m.l.length cap m.z left w h2 h0 h1
theorem uToTape (c0 c1 : Value) (m : TapeM) (w : World) (hl : szTape m ≤ 1048576) (h : TapeIn [c0, c1] m w) : Calls Try.prog 17 #[.agg #[c0, c1]] w (TapeRet m w) := by
  obtain ⟨a, cap, rfl, rfl, _, h2, h3⟩ := tapeIn_shape h
  unfold szTape at hl
  refine (lawsToTape a cap m.l m.z w (by omega) h3).mono ?_
  rintro e w' ⟨a', cap', rfl, ho, hb⟩
  exact ⟨_, _, rfl, ⟨_, rfl, IntSOwn.mk ho⟩, hb⟩
theorem uEqTape (c0 c1 d0 d1 : Value) (m : TapeM) (w : World) (h : TapeIn [c0, c1] m w) (k : TapeIn [d0, d1] m w) : Calls Try.prog 19 #[.agg #[c0, c1], .agg #[d0, d1]] w (TruePost w) := by
  obtain ⟨a, cap, rfl, rfl, _, h2, h3⟩ := tapeIn_shape h
  obtain ⟨a', cap', rfl, rfl, _, k2, k3⟩ := tapeIn_shape k
  refine (lawsEqTape a a' cap cap' m.l m.l m.z m.z w h2 k2 h3 k3).mono ?_
  rintro e w' ⟨rfl, hb⟩
  exact ⟨by rw [beq_self_eq_true, beq_self_eq_true]; rfl, hb⟩
theorem uMarkTape (lo hi k : Nat) (c0 c1 : Value) (m : TapeM) (w : World) (hk : k + szTape m ≤ 4611686018427387904) (h : TapeOwn lo hi [c0, c1] m w) :
    Calls Try.prog 21 #[.agg #[c0, c1], .int .i64 k] w (MarkPost (TapeOwn lo hi [c0, c1] (mkTape k m)) lo hi (k + szTape m) w) := by
  obtain ⟨c, hc, a, cap, hc2, ho, hh⟩ := h
  simp at hc hc2
  obtain ⟨rfl, rfl⟩ := hc
  subst hc2
  refine (lawsMarkTape lo m.l.length cap k a m.z _ w hk ho).mono ?_
  rintro e w' ⟨rfl, h1, h2⟩
  refine ⟨_, rfl, rfl, ⟨_, rfl, a, cap, by simp [mkTape, marksI_length], ?_, ?_⟩, Chg.of_grown h2 (fun g hg => ⟨(ho.lt g hg).1, hh g hg⟩)⟩
  · simp only [mkTape, marksI_length]; exact h1
  · simp only [mkTape, marksI_length]; exact hh
theorem uHeldTape (k : Nat) (c0 c1 : Value) (m : TapeM) (w : World) (hk : k + szTape m ≤ 4611686018427387904) (h : TapeIn [c0, c1] (mkTape k m) w) :
    Calls Try.prog 22 #[.agg #[c0, c1], .int .i64 k] w (HeldPost (k + szTape m) w) := by
  obtain ⟨a, cap, rfl, rfl, _, h2, h3⟩ := tapeIn_shape h
  have e1 : (mkTape k m).l = marksI k m.l.length := rfl
  rw [e1, marksI_length]
  rw [e1] at h3
  refine (lawsHeldTape a m.l.length cap k _ w hk h3).mono ?_
  rintro e w' ⟨rfl, hb⟩
  exact ⟨_, rfl, rfl, hb⟩
def tapeOkB (m : TapeM) : Bool := tapeB m.l m.z
theorem uSpecTapeOk (c0 c1 : Value) (m : TapeM) (w : World) (h : TapeIn [c0, c1] m w) : Calls Try.prog 16 #[.agg #[c0, c1]] w fun e w' => e = .returned (.bool (tapeOkB m)) ∧ Below w.heap.size w w' := by
  obtain ⟨a, cap, rfl, rfl, _, h2, h3⟩ := tapeIn_shape h
  exact specTapeOk a cap m.l m.z w h2 h3
theorem uImplTapeOk (c0 c1 : Value) (m : TapeM) (w : World) (h : TapeIn [c0, c1] m w) : Calls Try.prog 18 #[.agg #[c0, c1]] w fun e w' => e = .returned (.bool (tapeOkB m)) ∧ Below w.heap.size w w' := by
  obtain ⟨a, cap, rfl, rfl, _, h2, h3⟩ := tapeIn_shape h
  exact implTapeOk a cap m.l m.z w h2 h3
def tapeLeftI (m : TapeM) : Int := leftI m.l m.z
theorem uSpecTapeLeft (c0 c1 : Value) (m : TapeM) (w : World) (h : TapeIn [c0, c1] m w) : Calls Try.prog 11 #[.agg #[c0, c1]] w fun e w' => e = .returned (.int .i64 (tapeLeftI m)) ∧ Below w.heap.size w w' := by
  obtain ⟨a, cap, rfl, rfl, _, h2, h3⟩ := tapeIn_shape h
  exact specTapeLeft a cap m.l m.z w h2 h3
theorem uImplTapeLeft (c0 c1 : Value) (m : TapeM) (w : World) (h : TapeIn [c0, c1] m w) : Calls Try.prog 12 #[.agg #[c0, c1]] w fun e w' => e = .returned (.int .i64 (tapeLeftI m)) ∧ Below w.heap.size w w' := by
  obtain ⟨a, cap, rfl, rfl, _, h2, h3⟩ := tapeIn_shape h
  exact implTapeLeft a cap m.l m.z w h2 h3
end Go.Proofs.Ytkecejimakclgaa
