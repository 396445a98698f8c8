/- BitsP, CurM in one. Written by tools/join2.py. -/
import Derived.WalkKit
import Derived.Laws.BitsAllLaws
import Derived.Test.YtmkgddbdkpkgpaaJS28
import Derived.Test.YtmkgddbdkpkgpaaJS4
import Derived.Test.YtmkgddbdkpkgpaaJS8
import Derived.Deep.RegionLaw
section
namespace Go.Proofs.Ytmkgddbdkpkgpaa
set_option linter.unusedVariables false

/-- The bits of a where m has a 1, and those of b where m has a 0. -/
def selN (m a b : Nat) : Nat := b ^^^ (m &&& (a ^^^ b))
theorem selN_bit (m a b i : Nat) : (selN m a b).testBit i = if m.testBit i then a.testBit i else b.testBit i := by
  unfold selN
  rw [Nat.testBit_xor, Nat.testBit_and, Nat.testBit_xor]
  cases m.testBit i <;> cases a.testBit i <;> cases b.testBit i <;> rfl
theorem selN_lt_pow {n m a b : Nat} (ha : a < 2 ^ n) (hb : b < 2 ^ n) : selN m a b < 2 ^ n :=
  Nat.xor_lt_two_pow hb (Nat.and_lt_two_pow _ (Nat.xor_lt_two_pow ha hb))
theorem selN_lt {m a b : Nat} (ha : a < 18446744073709551616) (hb : b < 18446744073709551616) : selN m a b < 18446744073709551616 := selN_lt_pow (n := 64) ha hb
theorem selN_lt8 {m a b : Nat} (ha : a < 256) (hb : b < 256) : selN m a b < 256 := selN_lt_pow (n := 8) ha hb
theorem selN_zero (a b : Nat) : selN 0 a b = b := by simp [selN]
theorem selN_ones {n m a b : Nat} (hm : ∀ i, i < n → m.testBit i = true) (ha : a < 2 ^ n) (hb : b < 2 ^ n) : selN m a b = a := by
  apply Nat.eq_of_testBit_eq
  intro i
  rw [selN_bit]
  by_cases h : i < n
  · rw [hm i h]; rfl
  · have h2 : 2 ^ n ≤ 2 ^ i := Nat.pow_le_pow_right (by omega) (by omega)
    rw [Nat.testBit_lt_two_pow (x := a) (Nat.lt_of_lt_of_le ha h2), Nat.testBit_lt_two_pow (x := b) (Nat.lt_of_lt_of_le hb h2)]; simp
theorem selN_all {a b : Nat} (ha : a < 18446744073709551616) (hb : b < 18446744073709551616) : selN 18446744073709551615 a b = a :=
  selN_ones (n := 64) (fun i hi => by rw [show (18446744073709551615 : Nat) = 2 ^ 64 - 1 from by decide, Nat.testBit_two_pow_sub_one]; simpa using hi) ha hb
theorem selN_all8 {a b : Nat} (ha : a < 256) (hb : b < 256) : selN 18446744073709551615 a b = a :=
  selN_ones (n := 8) (fun i hi => by rw [show (18446744073709551615 : Nat) = 2 ^ 64 - 1 from by decide, Nat.testBit_two_pow_sub_one]; simp; omega) ha hb
/-- Swapped back by the same mask. -/
theorem selN_back1 (m a b : Nat) : selN m (selN m a b) (selN m b a) = a := by
  apply Nat.eq_of_testBit_eq
  intro i
  simp only [selN_bit]
  cases m.testBit i <;> rfl
theorem selN_same (m a : Nat) : selN m a a = a := by
  apply Nat.eq_of_testBit_eq
  intro i
  rw [selN_bit]
  cases m.testBit i <;> rfl
/-- Of the mask only the lowest 8 bits are asked for bytes. -/
theorem selN_low8 {m a b : Nat} (ha : a < 256) (hb : b < 256) : selN (m % 256) a b = selN m a b := by
  apply Nat.eq_of_testBit_eq
  intro i
  rw [selN_bit, selN_bit, show (256 : Nat) = 2 ^ 8 from rfl, Nat.testBit_mod_two_pow]
  by_cases h : i < 8
  · simp [h]
  · have h2 : 2 ^ 8 ≤ 2 ^ i := Nat.pow_le_pow_right (by omega) (by omega)
    rw [Nat.testBit_lt_two_pow (x := a) (Nat.lt_of_lt_of_le ha h2), Nat.testBit_lt_two_pow (x := b) (Nat.lt_of_lt_of_le hb h2)]
    simp
theorem half_bit (x i : Nat) : x / 2 ^ i = 2 * (x / 2 ^ (i + 1)) + (x.testBit i).toNat := by
  rw [Nat.testBit_eq_decide_div_mod_eq, Nat.pow_succ, ← Nat.div_div_eq_div_mul]
  have := Nat.div_add_mod (x / 2 ^ i) 2
  rcases Nat.mod_two_eq_zero_or_one (x / 2 ^ i) with h | h <;> simp [h] <;> omega
theorem bit_and1 (x : Nat) : x &&& 1 = x % 2 := Nat.and_one_is_mod x
theorem bit_is (x i : Nat) : decide (x / 2 ^ i % 2 = 1) = x.testBit i := (Nat.testBit_eq_decide_div_mod_eq (x := x) (i := i)).symm

/-- All 64 bits 1 for true, all 0 for false. -/
def maskN (b : Bool) : Nat := if b then 18446744073709551615 else 0
theorem maskN_lt (b : Bool) : maskN b < 18446744073709551616 := by cases b <;> decide
/-- (d | -d) >> 63 is 0 for 0 alone. -/
theorem top_zero : (0 ||| (0 : Nat)) / 9223372036854775808 = 0 := by decide
theorem top_one {d : Nat} (h0 : 0 < d) (h : d < 18446744073709551616) : (d ||| (18446744073709551616 - d)) / 9223372036854775808 = 1 := by
  have hlt : d ||| (18446744073709551616 - d) < 2 ^ 64 := Nat.or_lt_two_pow (by omega) (by omega)
  have h1 : d ≤ d ||| (18446744073709551616 - d) := Nat.left_le_or
  have h2 : 18446744073709551616 - d ≤ d ||| (18446744073709551616 - d) := Nat.right_le_or
  omega
theorem xor_zero {a b : Nat} : a ^^^ b = 0 ↔ a = b := by
  constructor
  · intro h
    apply Nat.eq_of_testBit_eq
    intro i
    have := congrArg (fun x => x.testBit i) h
    simp only [Nat.testBit_xor, Nat.zero_testBit] at this
    revert this
    cases a.testBit i <;> cases b.testBit i <;> simp
  · rintro rfl; exact Nat.xor_self _

/-- The mask of the n lowest bits. -/
def lowN (n : Int) : Nat := 2 ^ min n.toNat 64 - 1
theorem pow64 {k : Nat} (h : k ≤ 64) : 2 ^ k ≤ 18446744073709551616 := Nat.pow_le_pow_right (n := 2) (by omega) h
theorem lowN_lt (n : Int) : lowN n < 18446744073709551616 := by
  unfold lowN
  have := pow64 (show min n.toNat 64 ≤ 64 by omega)
  omega
/-- How many of the f lowest bits are 1. -/
def popN : Nat → Nat → Nat
  | 0, _ => 0
  | f + 1, x => x % 2 + popN f (x / 2)
theorem pop_split : ∀ (f k x : Nat), popN (f + k) x = popN f (x % 2 ^ f) + popN k (x / 2 ^ f)
  | 0, k, x => by simp [popN]
  | f + 1, k, x => by
    rw [show f + 1 + k = (f + k) + 1 from by omega, popN, popN, pop_split f k (x / 2)]
    have e1 : x % 2 ^ (f + 1) % 2 = x % 2 := by
      rw [Nat.pow_succ, Nat.mod_mul_left_mod]
    have e2 : x % 2 ^ (f + 1) / 2 = x / 2 % 2 ^ f := by
      rw [Nat.pow_succ, Nat.mul_comm, Nat.mod_mul_right_div_self]
    have e3 : x / 2 ^ (f + 1) = x / 2 / 2 ^ f := by rw [Nat.div_div_eq_div_mul, Nat.pow_succ, Nat.mul_comm]
    rw [e1, e2, e3]; omega
theorem pop_le : ∀ (f x : Nat), popN f x ≤ f
  | 0, x => by simp [popN]
  | f + 1, x => by rw [popN]; have := pop_le f (x / 2); omega
end Go.Proofs.Ytmkgddbdkpkgpaa
end

section
namespace Go.Proofs.Ytmkgddbdkpkgpaa
open Go.RowKit
set_option linter.unusedVariables false

/-- What a drawing of bytes leaves. -/
def DrawnBytes (b : Nat) (a : Option Addr) (l : List UInt8) (cap m n : Nat) (w : World) (e : Ending) (w' : World) : Prop :=
  ∃ (c : Value) (bs : List UInt8), e = .returned c ∧ ByteSOwn w.heap.size w'.heap.size [c] bs w' ∧ bs.length ≤ n ∧ CurI w' b a l cap m ∧ w.grownBy w' (some b)
set_option maxHeartbeats 2000000 in
theorem curBytes (b : Nat) (a : Option Addr) (l : List UInt8) (cap m n : Nat) (w : World) (hl : l.length ≤ 1048576) (hm : m ≤ 1000000000000000000) (hn : n ≤ 1000000) (h : CurI w b a l cap m) :
    Calls Try.prog 81 #[.pointer (some ⟨b, 0, none⟩), .int .i64 n] w (DrawnBytes b a l cap (m + 1 + n) n w) := by
  have hbl := h.lt
  have H := Lib.hid (h.below ((Below.refl _ _).alloc (Nat.le_refl _) (.cells #[] 5)))
  clear h
  go_enter Try.func81, Try.ntmps81
  go_wp2_with fail
  refine (curSize b a l cap m n _ hl (by omega) hn H.out).mono ?_
  rintro e w1 ⟨r, rfl, hr, hI1, hg1⟩
  have hrn : r ≤ n := by omega
  have I1 := Lib.hid hI1
  have G1 := Lib.hid (grown_trans (World.grownBy_alloc w (.cells #[] 5) (some b)) hg1)
  have O0 : (w.alloc (.cells #[] 5)).ownsRow w.heap.size 5 1 (.slice (some ⟨w.heap.size, 0, none⟩) 0 0) 0 [] := World.ownsRow_made w #[] 0 (Nat.le_refl _) (by unfold maxLen; omega) rfl
  have O1 := Lib.hid (O0.kept hg1 (own_apart O0 hbl))
  clear O0
  clear hI1 hg1 H hr
  go_wp2
  go_loopw [5, 6] (fun o k wr => ∃ (q : Nat) (ao : Option Addr) (c1 : Nat) (bs : List UInt8), q ≤ r ∧ k = .int .i64 ((r : Int) - (q : Int)) ∧ o = .slice ao q c1 ∧ bs.length = q ∧ wr.ownsRow w.heap.size 5 1 (.slice ao q c1) q (bs.map bval) ∧ CurI wr b a l cap (m + 1 + q) ∧ w.grownBy wr (some b)) (fun _ k _ => (intOf k).toNat)
  case atStart => exact ⟨0, _, _, [], Nat.zero_le _, by simp, rfl, rfl, O1.out, I1.out, G1.out⟩
  case round =>
    clear I1 G1 O1
    obtain ⟨q, ao, c1, bs, hq, rfl, rfl, hbs, hown, hI, hg⟩ := hrel
    have HB := Lib.hid hbs
    have hsz : w.heap.size ≤ wr.heap.size := hg.size
    clear hbs
    by_cases hlt : q < r
    · have O3 := Lib.hid hown
      have I3 := Lib.hid hI
      have G3 := Lib.hid hg
      clear hown hI hg
      go_wp2_with fail
      refine (curPick b a l cap _ 256 _ hl (by omega) (by omega) I3.out).mono ?_
      rintro e w4 ⟨r4, rfl, hr4, hI4, hg4⟩
      have hr4' : r4 < 256 := by omega
      have O4 := O3.out.kept hg4 (own_apart O3.out hbl)
      have I4 := Lib.hid hI4
      have G4 := Lib.hid (grown_trans G3.out hg4)
      have hsz4 : w.heap.size ≤ w4.heap.size := G4.out.size
      clear hI4 hg4 I3 O3 G3
      have HU : Hid (Value.int .u8 (r4 : Int) = bval (UInt8.ofNat r4)) := Lib.hid (by unfold bval; rw [UInt8.toNat_ofNat', Nat.mod_eq_of_lt (by omega)])
      have h1u : (bval (UInt8.ofNat r4)).oneCell' = true := rfl
      go_wp2_with (at_builtin; rw [HU.out]; refine wp_app1 w4 w4 (bval (UInt8.ofNat r4)) rfl _ _ 22 rfl w.heap.size 5 (.int .u8 0) 1 Try.underlying22 Try.info5 rfl _ _ _ (by rfl) O4 (by rfl) h1u (by unfold maxLen; omega) (by omega) hsz4 (Below.refl _ _) ?_; clear O4; intro v' w6 O6 B6)
      obtain ⟨a6, cap6, rfl⟩ := own_shape O6
      go_roundw
      case rel => exact ⟨q + 1, a6, cap6, bs ++ [UInt8.ofNat r4], by omega, by go_num, rfl, by simp [HB.out], by rw [List.map_append]; exact O6, (I4.out.low B6 hbl).more (by omega), grown_low G4.out B6⟩
      case measure => simp [intOf]; omega
    · have hq' : q = r := by omega
      subst hq'
      have X := Lib.hid (And.intro (ByteSOwn.mk hown) (And.intro hI hg))
      clear hown hI hg
      go_wp2
      go_ret
      exact ⟨_, bs, rfl, X.out.1, by rw [HB.out]; exact hrn, X.out.2.1.more (by omega), X.out.2.2⟩
end Go.Proofs.Ytmkgddbdkpkgpaa
end
