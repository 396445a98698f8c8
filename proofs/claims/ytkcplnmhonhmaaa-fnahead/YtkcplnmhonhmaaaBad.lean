/- The drawn word, at times spoilt: what 'badWord' leaves. -/
import Derived.Test.YtkcplnmhonhmaaaCurW
import Derived.Test.YtkcplnmhonhmaaaCurN
import Derived.Deep.RegionWith
namespace Go.Proofs.Ytkcplnmhonhmaaa
open Go.RowKit
set_option linter.unusedVariables false

def lits6 : Array Value := #[.string ⟨#[]⟩, .string ⟨#[65]⟩, .string ⟨#[45]⟩, .string ⟨#[0]⟩, .string ⟨#[122, 122]⟩, .string ⟨#[123]⟩]
theorem lits6_at (r : Nat) (h : r < 6 ∨ r = 0) : ∃ x : ByteArray, x.size ≤ 2 ∧ lits6[r]? = some (.string x) := by
  rcases (show r = 0 ∨ r = 1 ∨ r = 2 ∨ r = 3 ∨ r = 4 ∨ r = 5 from by omega) with rfl | rfl | rfl | rfl | rfl | rfl
  · exact ⟨_, by decide, rfl⟩
  · exact ⟨_, by decide, rfl⟩
  · exact ⟨_, by decide, rfl⟩
  · exact ⟨_, by decide, rfl⟩
  · exact ⟨_, by decide, rfl⟩
  · exact ⟨_, by decide, rfl⟩

set_option maxHeartbeats 2000000 in
theorem curBadWord (b : Nat) (a : Option Addr) (l : List UInt8) (cap m : Nat) (w : World) (hl : l.length ≤ 1048576) (hm : m ≤ 4000000000000000000) (h : CurI w b a l cap m) :
    Calls Try.prog 54 #[.pointer (some ⟨b, 0, none⟩)] w (DrawnStr b a l cap (m + 69) 96 w) := by
  have H := Lib.hid h
  clear h
  go_enter Try.func54, Try.ntmps54
  go_wp2_with fail
  refine (curWord b a l cap m _ hl hm H.out).mono ?_
  rintro e w1 ⟨s, rfl, hs, hI1, hg1⟩
  have I1 := Lib.hid hI1
  have G1 := Lib.hid hg1
  clear hI1 hg1 H
  go_wp2_with fail
  refine (curPick b a l cap _ 9 _ hl (by omega) (by omega) I1.out).mono ?_
  rintro e w2 ⟨r, rfl, hr, hI2, hg2⟩
  have I2 := Lib.hid hI2
  have G2 := Lib.hid (grown_trans G1.out hg2)
  clear hI2 hg2 I1 G1
  by_cases h0 : r = 0
  · subst h0
    go_wp2_with fail
    refine (curPick b a l cap _ (s.size + 1) _ hl (by omega) (by omega) I2.out).mono ?_
    rintro e w3 ⟨k, rfl, hk, hI3, hg3⟩
    have hks : k ≤ s.size := by omega
    have I3 := Lib.hid hI3
    have G3 := Lib.hid (grown_trans G2.out hg3)
    have hb3 := I3.out.lt
    clear hI3 hg3 I2 G2
    have IA := Lib.hid (I3.out.below (w' := w3.drew) (belowN 1))
    have IB := Lib.hid (I3.out.below (w' := (w3.alloc (.cells lits6 9)).drew) (((Below.refl _ _).alloc (Nat.le_refl _) _).drew))
    go_wp2
    go_region_with (go_at_call 52; refine (curPick b a l cap (m + 66 + 1 + 1) 6 _ hl (by omega) (by omega) (by first | exact IA.out | exact IB.out)).mono ?_; rintro e w4 ⟨r4, rfl, hr4, hI4, hg4⟩; obtain ⟨x, hx, hxl⟩ := lits6_at r4 hr4; have hr46 : r4 < 6 := (by omega); first | (have hq : w4.cell? ⟨w3.heap.size, r4, none⟩ = some (.string x) := hg4.cell ((lit_new w3 lits6 9 r4).trans hxl) (by simp; omega)) | (have hq : (w4.alloc (.cells #[.string ⟨#[]⟩, .string ⟨#[65]⟩, .string ⟨#[45]⟩, .string ⟨#[0]⟩, .string ⟨#[122, 122]⟩, .string ⟨#[123]⟩] 9)).cell? ⟨w4.heap.size, r4, none⟩ = some (.string x) := (lit_new w4 lits6 9 r4).trans hxl))
    all_goals
      clear hq
      go_wp2
      go_ret
    · exact ⟨_, rfl, by simp only [ByteArray.size_append, ByteArray.size_extract]; omega, hI4.more (by omega), grown_trans (grown_trans G3.out (grown_trans (World.grownBy_alloc w3 (.cells lits6 9) (some b)) (drewN_grown _ 1 _))) hg4⟩
    · exact ⟨_, rfl, by simp only [ByteArray.size_append, ByteArray.size_extract]; omega, (hI4.below ((Below.refl _ _).alloc (Nat.le_refl _) _)).more (by omega), grown_trans (grown_trans G3.out (grown_trans (drewN_grown _ 1 _) hg4)) (World.grownBy_alloc w4 _ (some b))⟩
  · have hr0 : ((r : Int) == 0) = false := by simp; omega
    by_cases h1 : r = 1
    · subst h1
      go_wp2
      go_ret
      exact ⟨_, rfl, Nat.zero_le _, I2.out.more (by omega), G2.out⟩
    · have hr1 : ((r : Int) == 1) = false := by simp; omega
      by_cases h2 : r = 2
      · subst h2
        go_wp2_with fail
        refine (curPick b a l cap _ 33 _ hl (by omega) (by omega) I2.out).mono ?_
        rintro e w3 ⟨k, rfl, hk, hI3, hg3⟩
        have hk2 : k ≤ 32 := by omega
        have I3 := Lib.hid hI3
        have G3 := Lib.hid (grown_trans G2.out hg3)
        clear hI3 hg3 I2 G2
        go_wp2
        go_ret
        exact ⟨_, rfl, by simp only [ByteArray.size_append, ByteArray.size_extract]; omega, I3.out.more (by omega), G3.out⟩
      · have hr2 : ((r : Int) == 2) = false := by simp; omega
        go_wp2
        go_ret
        exact ⟨_, rfl, by omega, I2.out.more (by omega), G2.out⟩
end Go.Proofs.Ytkcplnmhonhmaaa
