/- Drawn masks and bytes: what 'bits' and 'bytes' leave. -/
import Derived.Test.YtfdlmpjccoaejaaCurN
import Derived.Test.YtfdlmpjccoaejaaApp
import Derived.Test.YtfdlmpjccoaejaaByteSU
import Derived.Test.YtfdlmpjccoaejaaBitsP
import Derived.Deep.RegionLaw
namespace Go.Proofs.Ytfdlmpjccoaejaa
open Go.RowKit
set_option linter.unusedVariables false

/-- What a drawing of 64 bits leaves. -/
def DrawnBits (b : Nat) (a : Option Addr) (l : List UInt8) (cap m : Nat) (w : World) (e : Ending) (w' : World) : Prop :=
  ∃ r : Nat, e = .returned (.int .u64 r) ∧ r < 18446744073709551616 ∧ CurI w' b a l cap m ∧ w.grownBy w' (some b)
set_option maxHeartbeats 2000000 in
theorem curBits (b : Nat) (a : Option Addr) (l : List UInt8) (cap m : Nat) (w : World) (hl : l.length ≤ 1048576) (hm : m ≤ 1000000000000000000) (h : CurI w b a l cap m) :
    Calls Try.prog 89 #[.pointer (some ⟨b, 0, none⟩)] w (DrawnBits b a l cap (m + 9) w) := by
  have H := Lib.hid h
  clear h
  go_enter Try.func89, Try.ntmps89
  go_wp2_with fail
  refine (curPick b a l cap m 6 _ hl (by omega) (by omega) H.out).mono ?_
  rintro e w1 ⟨r, rfl, hr, hI1, hg1⟩
  have I1 := Lib.hid hI1
  have G1 := Lib.hid hg1
  clear hI1 hg1 H
  by_cases h0 : r = 0
  · subst h0
    go_wp2
    go_ret
    exact ⟨18446744073709551615, rfl, by omega, I1.out.more (by omega), G1.out⟩
  have hr0 : ((r : Int) == 0) = false := by simp; omega
  by_cases h1 : r = 1
  · subst h1
    go_wp2_with fail
    refine (curPick b a l cap _ 4 _ hl (by omega) (by omega) I1.out).mono ?_
    rintro e w2 ⟨k, rfl, hk, hI2, hg2⟩
    have hk' : k < 4 := by omega
    have I2 := Lib.hid hI2
    have G2 := Lib.hid (grown_trans G1.out hg2)
    clear hI2 hg2 I1 G1
    go_wp2
    go_ret
    exact ⟨k, rfl, by omega, I2.out.more (by omega), G2.out⟩
  have hr1 : ((r : Int) == 1) = false := by simp; omega
  by_cases h2 : r = 2
  · subst h2
    go_wp2_with fail
    refine (curPick b a l cap _ 3 _ hl (by omega) (by omega) I1.out).mono ?_
    rintro e w2 ⟨k, rfl, hk, hI2, hg2⟩
    have hk' : k < 3 := by omega
    have I2 := Lib.hid hI2
    have G2 := Lib.hid (grown_trans G1.out hg2)
    clear hI2 hg2 I1 G1
    go_wp2
    go_ret
    exact ⟨9223372036854775808 + k, ret_int (by simp), by omega, I2.out.more (by omega), G2.out⟩
  have hr2 : ((r : Int) == 2) = false := by simp; omega
  clear h0 h1 h2 hr
  go_wp2
  go_loopw [3, 4] (fun x i wr => ∃ k X : Nat, k ≤ 8 ∧ i = .int .i64 k ∧ x = .int .u64 X ∧ Hid (X < 256 ^ k) ∧ CurI wr b a l cap (m + 1 + k) ∧ w.grownBy wr (some b)) (fun _ i _ => 8 - (intOf i).toNat)
  case atStart => exact ⟨0, 0, by omega, rfl, rfl, Lib.hid (by omega), I1.out, G1.out⟩
  case round =>
    clear I1 G1
    obtain ⟨k, X, hk, rfl, rfl, HX, hI, hg⟩ := hrel
    have II := Lib.hid hI
    have GG := Lib.hid hg
    clear hI hg
    by_cases hlt : k < 8
    · have hx : X < 72057594037927936 := Nat.lt_of_lt_of_le HX.out (Nat.pow_le_pow_right (n := 256) (by omega) (show k ≤ 7 by omega))
      go_wp2_with fail
      refine (curPick b a l cap _ 256 _ hl (by omega) (by omega) II.out).mono ?_
      rintro e w2 ⟨q, rfl, hq, hI2, hg2⟩
      have hq' : q < 256 := by omega
      have I2 := Lib.hid hI2
      have G2 := Lib.hid (grown_trans GG.out hg2)
      have HY : Hid (256 * X + q < 256 ^ (k + 1)) := Lib.hid (by have := HX.out; rw [Nat.pow_succ]; omega)
      clear hI2 hg2 II GG HX
      go_wp2
      go_roundw
      case rel => exact ⟨k + 1, 256 * X + q, by omega, by go_num, by go_num, HY, I2.out, G2.out⟩
      case measure => simp [intOf]; omega
    · have hk8 : k = 8 := by omega
      subst hk8
      have hx : X < 18446744073709551616 := HX.out
      clear HX
      go_wp2
      go_ret
      exact ⟨X, rfl, hx, II.out, GG.out⟩
end Go.Proofs.Ytfdlmpjccoaejaa
