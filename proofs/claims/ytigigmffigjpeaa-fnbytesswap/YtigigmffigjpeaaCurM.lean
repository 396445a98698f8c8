/- Drawn masks and bytes: what 'bits' and 'bytes' leave. -/
import Derived.Test.YtigigmffigjpeaaCurN
import Derived.Test.YtigigmffigjpeaaApp
import Derived.Test.YtigigmffigjpeaaByteSU
import Derived.Test.YtigigmffigjpeaaBitsP
import Derived.Deep.RegionLaw
namespace Go.Proofs.Ytigigmffigjpeaa
open Go.RowKit
set_option linter.unusedVariables false

/-- What a drawing of 64 bits leaves. -/
def DrawnBits (b : Nat) (a : Option Addr) (l : List UInt8) (cap m : Nat) (w : World) (e : Ending) (w' : World) : Prop :=
  ∃ r : Nat, e = .returned (.int .u64 r) ∧ r < 18446744073709551616 ∧ CurI w' b a l cap m ∧ w.grownBy w' (some b)
set_option maxHeartbeats 2000000 in
theorem curBits (b : Nat) (a : Option Addr) (l : List UInt8) (cap m : Nat) (w : World) (hl : l.length ≤ 1048576) (hm : m ≤ 1000000000000000000) (h : CurI w b a l cap m) :
    Calls Try.prog 41 #[.pointer (some ⟨b, 0, none⟩)] w (DrawnBits b a l cap (m + 9) w) := by
  have H := Lib.hid h
  clear h
  go_enter Try.func41, Try.ntmps41
  go_wp2_with fail
  refine (curPick b a l cap m 6 _ hl (by omega) (by omega) H.out).mono ?_
  rintro e w1 ⟨r, rfl, hr, hI1, hg1⟩
  have I1 := Lib.hid hI1
  have G1 := Lib.hid hg1
  clear hI1 hg1 H
  by_cases h0 : r = 0
  · subst h0
    go_wp2
    go_ret
    exact ⟨18446744073709551615, rfl, by omega, I1.out.more (by omega), G1.out⟩
  have hr0 : ((r : Int) == 0) = false := by simp; omega
  by_cases h1 : r = 1
  · subst h1
    go_wp2_with fail
    refine (curPick b a l cap _ 4 _ hl (by omega) (by omega) I1.out).mono ?_
    rintro e w2 ⟨k, rfl, hk, hI2, hg2⟩
    have hk' : k < 4 := by omega
    have I2 := Lib.hid hI2
    have G2 := Lib.hid (grown_trans G1.out hg2)
    clear hI2 hg2 I1 G1
    go_wp2
    go_ret
    exact ⟨k, rfl, by omega, I2.out.more (by omega), G2.out⟩
  have hr1 : ((r : Int) == 1) = false := by simp; omega
  by_cases h2 : r = 2
  · subst h2
    go_wp2_with fail
    refine (curPick b a l cap _ 3 _ hl (by omega) (by omega) I1.out).mono ?_
    rintro e w2 ⟨k, rfl, hk, hI2, hg2⟩
    have hk' : k < 3 := by omega
    have I2 := Lib.hid hI2
    have G2 := Lib.hid (grown_trans G1.out hg2)
    clear hI2 hg2 I1 G1
    go_wp2
    go_ret
    exact ⟨9223372036854775808 + k, ret_int (by simp), by omega, I2.out.more (by omega), G2.out⟩
  have hr2 : ((r : Int) == 2) = false := by simp; omega
  clear h0 h1 h2 hr
  go_wp2
  go_loopw [3, 4] (fun x i wr => ∃ k X : Nat, k ≤ 8 ∧ i = .int .i64 k ∧ x = .int .u64 X ∧ Hid (X < 256 ^ k) ∧ CurI wr b a l cap (m + 1 + k) ∧ w.grownBy wr (some b)) (fun _ i _ => 8 - (intOf i).toNat)
  case atStart => exact ⟨0, 0, by omega, rfl, rfl, Lib.hid (by omega), I1.out, G1.out⟩
  case round =>
    clear I1 G1
    obtain ⟨k, X, hk, rfl, rfl, HX, hI, hg⟩ := hrel
    have II := Lib.hid hI
    have GG := Lib.hid hg
    clear hI hg
    by_cases hlt : k < 8
    · have hx : X < 72057594037927936 := Nat.lt_of_lt_of_le HX.out (Nat.pow_le_pow_right (n := 256) (by omega) (show k ≤ 7 by omega))
      go_wp2_with fail
      refine (curPick b a l cap _ 256 _ hl (by omega) (by omega) II.out).mono ?_
      rintro e w2 ⟨q, rfl, hq, hI2, hg2⟩
      have hq' : q < 256 := by omega
      have I2 := Lib.hid hI2
      have G2 := Lib.hid (grown_trans GG.out hg2)
      have HY : Hid (256 * X + q < 256 ^ (k + 1)) := Lib.hid (by have := HX.out; rw [Nat.pow_succ]; omega)
      clear hI2 hg2 II GG HX
      go_wp2
      go_roundw
      case rel => exact ⟨k + 1, 256 * X + q, by omega, by go_num, by go_num, HY, I2.out, G2.out⟩
      case measure => simp [intOf]; omega
    · have hk8 : k = 8 := by omega
      subst hk8
      have hx : X < 18446744073709551616 := HX.out
      clear HX
      go_wp2
      go_ret
      exact ⟨X, rfl, hx, II.out, GG.out⟩
/-- What a drawing of bytes leaves. -/
def DrawnBytes (b : Nat) (a : Option Addr) (l : List UInt8) (cap m n : Nat) (w : World) (e : Ending) (w' : World) : Prop :=
  ∃ (c : Value) (bs : List UInt8), e = .returned c ∧ ByteSOwn w.heap.size w'.heap.size [c] bs w' ∧ bs.length ≤ n ∧ CurI w' b a l cap m ∧ w.grownBy w' (some b)
set_option maxHeartbeats 2000000 in
theorem curBytes (b : Nat) (a : Option Addr) (l : List UInt8) (cap m n : Nat) (w : World) (hl : l.length ≤ 1048576) (hm : m ≤ 1000000000000000000) (hn : n ≤ 1000000) (h : CurI w b a l cap m) :
    Calls Try.prog 46 #[.pointer (some ⟨b, 0, none⟩), .int .i64 n] w (DrawnBytes b a l cap (m + 1 + n) n w) := by
  have hbl := h.lt
  have H := Lib.hid (h.below ((Below.refl _ _).alloc (Nat.le_refl _) (.cells #[] 5)))
  clear h
  go_enter Try.func46, Try.ntmps46
  go_wp2_with fail
  refine (curSize b a l cap m n _ hl (by omega) hn H.out).mono ?_
  rintro e w1 ⟨r, rfl, hr, hI1, hg1⟩
  have hrn : r ≤ n := by omega
  have I1 := Lib.hid hI1
  have G1 := Lib.hid (grown_trans (World.grownBy_alloc w (.cells #[] 5) (some b)) hg1)
  have O0 : (w.alloc (.cells #[] 5)).ownsRow w.heap.size 5 1 (.slice (some ⟨w.heap.size, 0, none⟩) 0 0) 0 [] := World.ownsRow_made w #[] 0 (Nat.le_refl _) (by unfold maxLen; omega) rfl
  have O1 := Lib.hid (O0.kept hg1 (own_apart O0 hbl))
  clear O0
  clear hI1 hg1 H hr
  go_wp2
  go_loopw [5, 6] (fun o k wr => ∃ (q : Nat) (ao : Option Addr) (c1 : Nat) (bs : List UInt8), q ≤ r ∧ k = .int .i64 ((r : Int) - (q : Int)) ∧ o = .slice ao q c1 ∧ bs.length = q ∧ wr.ownsRow w.heap.size 5 1 (.slice ao q c1) q (bs.map bval) ∧ CurI wr b a l cap (m + 1 + q) ∧ w.grownBy wr (some b)) (fun _ k _ => (intOf k).toNat)
  case atStart => exact ⟨0, _, _, [], Nat.zero_le _, by simp, rfl, rfl, O1.out, I1.out, G1.out⟩
  case round =>
    clear I1 G1 O1
    obtain ⟨q, ao, c1, bs, hq, rfl, rfl, hbs, hown, hI, hg⟩ := hrel
    have HB := Lib.hid hbs
    have hsz : w.heap.size ≤ wr.heap.size := hg.size
    clear hbs
    by_cases hlt : q < r
    · have O3 := Lib.hid hown
      have I3 := Lib.hid hI
      have G3 := Lib.hid hg
      clear hown hI hg
      go_wp2_with fail
      refine (curPick b a l cap _ 256 _ hl (by omega) (by omega) I3.out).mono ?_
      rintro e w4 ⟨r4, rfl, hr4, hI4, hg4⟩
      have hr4' : r4 < 256 := by omega
      have O4 := O3.out.kept hg4 (own_apart O3.out hbl)
      have I4 := Lib.hid hI4
      have G4 := Lib.hid (grown_trans G3.out hg4)
      have hsz4 : w.heap.size ≤ w4.heap.size := G4.out.size
      clear hI4 hg4 I3 O3 G3
      have HU : Hid (Value.int .u8 (r4 : Int) = bval (UInt8.ofNat r4)) := Lib.hid (by unfold bval; rw [UInt8.toNat_ofNat', Nat.mod_eq_of_lt (by omega)])
      have h1u : (bval (UInt8.ofNat r4)).oneCell' = true := rfl
      go_wp2_with (at_builtin; rw [HU.out]; refine wp_app1 w4 w4 (bval (UInt8.ofNat r4)) rfl _ _ 22 rfl w.heap.size 5 (.int .u8 0) 1 Try.underlying22 Try.info5 rfl _ _ _ (by rfl) O4 (by rfl) h1u (by unfold maxLen; omega) (by omega) hsz4 (Below.refl _ _) ?_; clear O4; intro v' w6 O6 B6)
      obtain ⟨a6, cap6, rfl⟩ := own_shape O6
      go_roundw
      case rel => exact ⟨q + 1, a6, cap6, bs ++ [UInt8.ofNat r4], by omega, by go_num, rfl, by simp [HB.out], by rw [List.map_append]; exact O6, (I4.out.low B6 hbl).more (by omega), grown_low G4.out B6⟩
      case measure => simp [intOf]; omega
    · have hq' : q = r := by omega
      subst hq'
      have X := Lib.hid (And.intro (ByteSOwn.mk hown) (And.intro hI hg))
      clear hown hI hg
      go_wp2
      go_ret
      exact ⟨_, bs, rfl, X.out.1, by rw [HB.out]; exact hrn, X.out.2.1.more (by omega), X.out.2.2⟩
end Go.Proofs.Ytigigmffigjpeaa
