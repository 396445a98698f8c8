/- CurM in one. Written by tools/join2.py. -/
import Derived.Test.YtmndkpicbmffnaaJN30
import Derived.Test.YtmndkpicbmffnaaJN7
import Derived.Test.YtmndkpicbmffnaaJN13
import Derived.Test.YtmndkpicbmffnaaJN31
import Derived.Deep.RegionLaw
section
namespace Go.Proofs.Ytmndkpicbmffnaa
open Go.RowKit
set_option linter.unusedVariables false

/-- What a drawing of bytes leaves. -/
def DrawnBytes (b : Nat) (a : Option Addr) (l : List UInt8) (cap m n : Nat) (w : World) (e : Ending) (w' : World) : Prop :=
  ∃ (c : Value) (bs : List UInt8), e = .returned c ∧ ByteSOwn w.heap.size w'.heap.size [c] bs w' ∧ bs.length ≤ n ∧ CurI w' b a l cap m ∧ w.grownBy w' (some b)
set_option maxHeartbeats 2000000 in
theorem curBytes (b : Nat) (a : Option Addr) (l : List UInt8) (cap m n : Nat) (w : World) (hl : l.length ≤ 1048576) (hm : m ≤ 1000000000000000000) (hn : n ≤ 1000000) (h : CurI w b a l cap m) :
    Calls Try.prog 62 #[.pointer (some ⟨b, 0, none⟩), .int .i64 n] w (DrawnBytes b a l cap (m + 1 + n) n w) := by
  have hbl := h.lt
  have H := Lib.hid (h.below ((Below.refl _ _).alloc (Nat.le_refl _) (.cells #[] 5)))
  clear h
  go_enter Try.func62, Try.ntmps62
  go_wp2_with fail
  refine (curSize b a l cap m n _ hl (by omega) hn H.out).mono ?_
  rintro e w1 ⟨r, rfl, hr, hI1, hg1⟩
  have hrn : r ≤ n := by omega
  have I1 := Lib.hid hI1
  have G1 := Lib.hid (grown_trans (World.grownBy_alloc w (.cells #[] 5) (some b)) hg1)
  have O0 : (w.alloc (.cells #[] 5)).ownsRow w.heap.size 5 1 (.slice (some ⟨w.heap.size, 0, none⟩) 0 0) 0 [] := World.ownsRow_made w #[] 0 (Nat.le_refl _) (by unfold maxLen; omega) rfl
  have O1 := Lib.hid (O0.kept hg1 (own_apart O0 hbl))
  clear O0
  clear hI1 hg1 H hr
  go_wp2
  go_loopw [5, 6] (fun o k wr => ∃ (q : Nat) (ao : Option Addr) (c1 : Nat) (bs : List UInt8), q ≤ r ∧ k = .int .i64 ((r : Int) - (q : Int)) ∧ o = .slice ao q c1 ∧ bs.length = q ∧ wr.ownsRow w.heap.size 5 1 (.slice ao q c1) q (bs.map bval) ∧ CurI wr b a l cap (m + 1 + q) ∧ w.grownBy wr (some b)) (fun _ k _ => (intOf k).toNat)
  case atStart => exact ⟨0, _, _, [], Nat.zero_le _, by simp, rfl, rfl, O1.out, I1.out, G1.out⟩
  case round =>
    clear I1 G1 O1
    obtain ⟨q, ao, c1, bs, hq, rfl, rfl, hbs, hown, hI, hg⟩ := hrel
    have HB := Lib.hid hbs
    have hsz : w.heap.size ≤ wr.heap.size := hg.size
    clear hbs
    by_cases hlt : q < r
    · have O3 := Lib.hid hown
      have I3 := Lib.hid hI
      have G3 := Lib.hid hg
      clear hown hI hg
      go_wp2_with fail
      refine (curPick b a l cap _ 256 _ hl (by omega) (by omega) I3.out).mono ?_
      rintro e w4 ⟨r4, rfl, hr4, hI4, hg4⟩
      have hr4' : r4 < 256 := by omega
      have O4 := O3.out.kept hg4 (own_apart O3.out hbl)
      have I4 := Lib.hid hI4
      have G4 := Lib.hid (grown_trans G3.out hg4)
      have hsz4 : w.heap.size ≤ w4.heap.size := G4.out.size
      clear hI4 hg4 I3 O3 G3
      have HU : Hid (Value.int .u8 (r4 : Int) = bval (UInt8.ofNat r4)) := Lib.hid (by unfold bval; rw [UInt8.toNat_ofNat', Nat.mod_eq_of_lt (by omega)])
      have h1u : (bval (UInt8.ofNat r4)).oneCell' = true := rfl
      go_wp2_with (at_builtin; rw [HU.out]; refine wp_app1 w4 w4 (bval (UInt8.ofNat r4)) rfl _ _ 22 rfl w.heap.size 5 (.int .u8 0) 1 Try.underlying22 Try.info5 rfl _ _ _ (by rfl) O4 (by rfl) h1u (by unfold maxLen; omega) (by omega) hsz4 (Below.refl _ _) ?_; clear O4; intro v' w6 O6 B6)
      obtain ⟨a6, cap6, rfl⟩ := own_shape O6
      go_roundw
      case rel => exact ⟨q + 1, a6, cap6, bs ++ [UInt8.ofNat r4], by omega, by go_num, rfl, by simp [HB.out], by rw [List.map_append]; exact O6, (I4.out.low B6 hbl).more (by omega), grown_low G4.out B6⟩
      case measure => simp [intOf]; omega
    · have hq' : q = r := by omega
      subst hq'
      have X := Lib.hid (And.intro (ByteSOwn.mk hown) (And.intro hI hg))
      clear hown hI hg
      go_wp2
      go_ret
      exact ⟨_, bs, rfl, X.out.1, by rw [HB.out]; exact hrn, X.out.2.1.more (by omega), X.out.2.2⟩
end Go.Proofs.Ytmndkpicbmffnaa
end
