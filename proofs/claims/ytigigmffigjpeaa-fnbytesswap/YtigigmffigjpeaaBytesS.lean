/- Chapter 3 (masks) over bytes: BytesSwap, and the uniform contracts of the three functions. -/
import Derived.Test.YtigigmffigjpeaaBytesM
namespace Go.Proofs.Ytigigmffigjpeaa
open Go.RowKit
set_option linter.unusedVariables false

theorem uSpecBytesEq (c : Value) (l1 : List UInt8) (d : Value) (l2 : List UInt8) (w : World) (h1 : ByteSIn [c] l1 w) (h2 : ByteSIn [d] l2 w) :
    Calls Try.prog 32 #[c, d] w fun e w' => e = .returned (.int .u64 ((eqB l1 l2 : Nat) : Int)) ∧ Below w.heap.size w w' := by
  obtain ⟨a, cap, rfl, _, _, r1⟩ := byteSIn_shape h1
  obtain ⟨a2, cap2, rfl, _, _, r2⟩ := byteSIn_shape h2
  refine (specBytesEq a a2 cap cap2 l1 l2 w r1 r2).mono ?_
  rintro e w' ⟨rfl, rfl⟩
  exact ⟨rfl, Below.refl _ _⟩
theorem uImplBytesEq (c : Value) (l1 : List UInt8) (d : Value) (l2 : List UInt8) (w : World) (h1 : ByteSIn [c] l1 w) (h2 : ByteSIn [d] l2 w) :
    Calls Try.prog 24 #[c, d] w fun e w' => e = .returned (.int .u64 ((eqB l1 l2 : Nat) : Int)) ∧ Below w.heap.size w w' := by
  obtain ⟨a, cap, rfl, _, m1, r1⟩ := byteSIn_shape h1
  obtain ⟨a2, cap2, rfl, _, m2, r2⟩ := byteSIn_shape h2
  refine (implBytesEq a a2 cap cap2 l1 l2 w m1 m2 r1 r2).mono ?_
  rintro e w' ⟨rfl, n, rfl⟩
  exact ⟨rfl, belowN n⟩
theorem uSpecBytesSelect (m : Nat) (c : Value) (l1 : List UInt8) (d : Value) (l2 : List UInt8) (w : World) (h1 : ByteSIn [c] l1 w) (h2 : ByteSIn [d] l2 w) (hm : m < 18446744073709551616) :
    Calls Try.prog 35 #[.int .u64 m, c, d] w (SelRet m l1 l2 w) := by
  obtain ⟨a, cap, rfl, _, m1, r1⟩ := byteSIn_shape h1
  obtain ⟨a2, cap2, rfl, _, m2, r2⟩ := byteSIn_shape h2
  exact specBytesSelect m a a2 cap cap2 l1 l2 w hm m1 m2 r1 r2
theorem uImplBytesSelect (m : Nat) (c : Value) (l1 : List UInt8) (d : Value) (l2 : List UInt8) (w : World) (h1 : ByteSIn [c] l1 w) (h2 : ByteSIn [d] l2 w) (hm : m < 18446744073709551616) :
    Calls Try.prog 36 #[.int .u64 m, c, d] w (SelRet m l1 l2 w) := by
  obtain ⟨a, cap, rfl, _, m1, r1⟩ := byteSIn_shape h1
  obtain ⟨a2, cap2, rfl, _, m2, r2⟩ := byteSIn_shape h2
  exact implBytesSelect m a a2 cap cap2 l1 l2 w hm m1 m2 r1 r2
theorem selB_bd (m : Nat) (l1 l2 : List UInt8) : szByteS (selB m l1 l2) ≤ 1000000000000 := by
  have := selB_le m l1 l2
  unfold szByteS; omega
/-- What BytesSwap leaves: two rows of bytes, each in memory of its own. -/
def SwapRet (m : Nat) (l1 l2 : List UInt8) (w : World) (e : Ending) (w' : World) : Prop :=
  ∃ c d mid, e = .returned (.tuple #[c, d]) ∧ ByteSOwn w.heap.size mid [c] (selB m l2 l1) w' ∧ ByteSOwn mid w'.heap.size [d] (selB m l1 l2) w' ∧ w.heap.size ≤ mid ∧ mid ≤ w'.heap.size ∧ Below w.heap.size w w'
theorem swap_ret {m : Nat} {l1 l2 : List UInt8} {w w1 w2 : World} {c d : Value} (h1 : ByteSOwn w.heap.size w1.heap.size [c] (selB m l2 l1) w1) (h2 : ByteSOwn w1.heap.size w2.heap.size [d] (selB m l1 l2) w2)
    (b1 : Below w.heap.size w w1) (b2 : Below w1.heap.size w1 w2) : SwapRet m l1 l2 w (.returned (.tuple #[c, d])) w2 :=
  ⟨c, d, w1.heap.size, rfl, ((h1.lies (Nat.le_refl _)).below b2).now, h2, b1.size, b2.size, below_seq b1 b2⟩
set_option maxHeartbeats 800000 in
theorem uSpecBytesSwap (m : Nat) (c : Value) (l1 : List UInt8) (d : Value) (l2 : List UInt8) (w : World) (h1 : ByteSIn [c] l1 w) (h2 : ByteSIn [d] l2 w) (hm : m < 18446744073709551616) :
    Calls Try.prog 39 #[.int .u64 m, c, d] w (SwapRet m l1 l2 w) := by
  have H1 := Lib.hid h1.lies
  have H2 := Lib.hid h2.lies
  obtain ⟨a, cap, rfl, _⟩ := byteSIn_shape h1
  obtain ⟨a2, cap2, rfl, _⟩ := byteSIn_shape h2
  clear h1 h2
  go_enter Try.func39, Try.ntmps39
  go_wp2_with fail
  refine (uSpecBytesSelect m _ l2 _ l1 _ H2.out.now H1.out.now hm).mono ?_
  rintro e w1 ⟨v1, rfl, ho1, hb1⟩
  obtain ⟨x1, n1, k1, rfl⟩ := ho1.shape
  have O1 := Lib.hid ho1
  have B1 := Lib.hid hb1
  replace H1 := Lib.hid (H1.out.below hb1)
  replace H2 := Lib.hid (H2.out.below hb1)
  clear ho1 hb1
  go_wp2_with fail
  refine (uSpecBytesSelect m _ l1 _ l2 _ H1.out.now H2.out.now hm).mono ?_
  rintro e w2 ⟨v2, rfl, ho2, hb2⟩
  obtain ⟨x2, n2, k2, rfl⟩ := ho2.shape
  have X := Lib.hid (swap_ret O1.out ho2 B1.out hb2)
  clear ho2 hb2
  go_wp2
  go_ret2
  exact X.out
set_option maxHeartbeats 800000 in
theorem uImplBytesSwap (m : Nat) (c : Value) (l1 : List UInt8) (d : Value) (l2 : List UInt8) (w : World) (h1 : ByteSIn [c] l1 w) (h2 : ByteSIn [d] l2 w) (hm : m < 18446744073709551616) :
    Calls Try.prog 22 #[.int .u64 m, c, d] w (SwapRet m l1 l2 w) := by
  have H1 := Lib.hid h1.lies
  have H2 := Lib.hid h2.lies
  obtain ⟨a, cap, rfl, _⟩ := byteSIn_shape h1
  obtain ⟨a2, cap2, rfl, _⟩ := byteSIn_shape h2
  clear h1 h2
  go_enter Try.func22, Try.ntmps22
  go_wp2_with fail
  refine (uImplBytesSelect m _ l2 _ l1 _ H2.out.now H1.out.now hm).mono ?_
  rintro e w1 ⟨v1, rfl, ho1, hb1⟩
  obtain ⟨x1, n1, k1, rfl⟩ := ho1.shape
  have O1 := Lib.hid ho1
  have B1 := Lib.hid hb1
  replace H1 := Lib.hid (H1.out.below hb1)
  replace H2 := Lib.hid (H2.out.below hb1)
  clear ho1 hb1
  go_wp2_with fail
  refine (uImplBytesSelect m _ l1 _ l2 _ H1.out.now H2.out.now hm).mono ?_
  rintro e w2 ⟨v2, rfl, ho2, hb2⟩
  obtain ⟨x2, n2, k2, rfl⟩ := ho2.shape
  have X := Lib.hid (swap_ret O1.out ho2 B1.out hb2)
  clear ho2 hb2
  go_wp2
  go_ret2
  exact X.out
end Go.Proofs.Ytigigmffigjpeaa
