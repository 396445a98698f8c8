/- Words drawn: what is drawn is a word. -/
import Derived.Test.YtkcplnmhonhmaaaCurW
import Derived.Test.YtkcplnmhonhmaaaPlain1
namespace Go.Proofs.Ytkcplnmhonhmaaa
open Go.RowKit
set_option linter.unusedVariables false

theorem low97 {r : Nat} (h : r < 26) : lowB (UInt8.ofNat (97 + r)) = true := by
  have e : (UInt8.ofNat (97 + r)).toNat = 97 + r := by rw [UInt8.toNat_ofNat']; exact Nat.mod_eq_of_lt (by omega)
  unfold lowB
  rw [e]
  simp
  omega
def DrawnWord (b : Nat) (a : Option Addr) (l : List UInt8) (cap m : Nat) (w : World) (e : Ending) (w' : World) : Prop :=
  ∃ s : ByteArray, e = .returned (.string s) ∧ wordB s.data.toList = true ∧ CurI w' b a l cap m ∧ w.grownBy w' (some b)
set_option maxRecDepth 100000 in
set_option maxHeartbeats 1000000 in
theorem curWordW (b : Nat) (a : Option Addr) (l : List UInt8) (cap m : Nat) (w : World) (hl : l.length ≤ 1048576) (hm : m ≤ 4000000000000000000) (h : CurI w b a l cap m) :
    Calls Try.prog 57 #[.pointer (some ⟨b, 0, none⟩)] w (DrawnWord b a l cap (m + 66) w) := by
  have hbl := h.lt
  have H0 := Lib.hid (h.below ((Below.refl _ _).alloc (Nat.le_refl _) (.cells #[.int .i64 3, .int .i64 5, .int .i64 8, .int .i64 32] 3)))
  have G0 := Lib.hid (World.grownBy_alloc w (.cells #[.int .i64 3, .int .i64 5, .int .i64 8, .int .i64 32] 3) (some b))
  clear h
  go_enter Try.func57, Try.ntmps57
  go_wp2_with fail
  refine (curPick b a l cap m 4 _ hl (by omega) (by omega) H0.out).mono ?_
  rintro e w1 ⟨r, rfl, hr, hI1, hg1⟩
  have I1 := Lib.hid hI1
  have G1 := Lib.hid (grown_trans G0.out hg1)
  have k1 : ∀ i v, (#[.int .i64 3, .int .i64 5, .int .i64 8, .int .i64 32] : Array Value)[i]? = some v → w1.cell? ⟨w.heap.size, i, none⟩ = some v := fun i v hv => hg1.cell (by simpa using hv) (by simp; omega)
  clear hI1 hg1
  have hr4 : r < 4 := by omega
  have hrow : ∃ q : Nat, q ≤ 32 ∧ 2 ≤ q ∧ w1.cell? ⟨w.heap.size, r, none⟩ = some (.int .i64 q) := by
    rcases (show r = 0 ∨ r = 1 ∨ r = 2 ∨ r = 3 from by omega) with rfl | rfl | rfl | rfl
    · exact ⟨3, by omega, by omega, k1 0 _ rfl⟩
    · exact ⟨5, by omega, by omega, k1 1 _ rfl⟩
    · exact ⟨8, by omega, by omega, k1 2 _ rfl⟩
    · exact ⟨32, by omega, by omega, k1 3 _ rfl⟩
  obtain ⟨q, hq, hq2, hcq⟩ := hrow
  clear k1
  go_wp2_with fail
  refine (curPick b a l cap (m + 1) q _ hl (by omega) (by omega) I1.out).mono ?_
  rintro e w2 ⟨r2, rfl, hr2, hI2, hg2⟩
  have hr2' : r2 < 32 := by omega
  have I2 := Lib.hid hI2
  have G2 := Lib.hid (grown_trans G1.out hg2)
  clear hI2 hg2 I1 G1 H0 G0 hcq
  have hsz2 : w.heap.size ≤ w2.heap.size := G2.out.size
  go_wp2
  go_loopw [4] (fun v wr => ∃ (q1 : Nat) (ao : Option Addr) (cap1 : Nat) (bs : List UInt8), q1 ≤ r2 + 1 ∧ (bs.length = q1 ∧ bs.all lowB = true) ∧ v = .slice ao q1 cap1 ∧
      wr.ownsRow w.heap.size 5 1 (.slice ao q1 cap1) q1 (bs.map bval) ∧ CurI wr b a l cap (m + 2 + 2 * q1) ∧ w.grownBy wr (some b)) (fun v _ => r2 + 1 - lenOf v)
  case atStart =>
    refine ⟨0, _, _, [], Nat.zero_le _, ⟨rfl, rfl⟩, rfl, World.ownsRow_made w2 #[] 0 hsz2 (by unfold maxLen; omega) rfl, I2.out.below ((Below.refl _ _).alloc (Nat.le_refl _) _), ?_⟩
    exact grown_trans G2.out (World.grownBy_alloc w2 _ (some b))
  case round =>
    clear I2 G2
    obtain ⟨q1, ao, cap1, bs, hq1, hbs, rfl, hown, hI, hg⟩ := hrel
    have HB := Lib.hid hbs
    clear hbs
    have hszr : w.heap.size ≤ wr.heap.size := hg.size
    by_cases hlt : q1 < r2 + 1
    · have I3 := Lib.hid (hI.below ((Below.refl _ _).alloc (Nat.le_refl _) (.cells #[.int .i64 2, .int .i64 3, .int .i64 26] 3)))
      have O3 := Lib.hid (hown.alloc (.cells #[.int .i64 2, .int .i64 3, .int .i64 26] 3))
      have G3 := Lib.hid (grown_trans hg (World.grownBy_alloc wr (.cells #[.int .i64 2, .int .i64 3, .int .i64 26] 3) (some b)))
      clear hown hI hg
      go_wp2_with fail
      refine (curPick b a l cap _ 3 _ hl (by omega) (by omega) I3.out).mono ?_
      rintro e w4 ⟨r4, rfl, hr4, hI4, hg4⟩
      have k4 : ∀ i v, (#[.int .i64 2, .int .i64 3, .int .i64 26] : Array Value)[i]? = some v → w4.cell? ⟨wr.heap.size, i, none⟩ = some v := fun i v hv => hg4.cell (by simpa using hv) (by simp; omega)
      have O4 := Lib.hid (O3.out.kept hg4 (own_apart O3.out hbl))
      have I4 := Lib.hid hI4
      have G4 := Lib.hid (grown_trans G3.out hg4)
      clear hI4 hg4 I3 O3 G3
      have hrow : ∃ q : Nat, q ≤ 26 ∧ 2 ≤ q ∧ w4.cell? ⟨wr.heap.size, r4, none⟩ = some (.int .i64 q) := by
        rcases (show r4 = 0 ∨ r4 = 1 ∨ r4 = 2 from by omega) with rfl | rfl | rfl
        · exact ⟨2, by omega, by omega, k4 0 _ rfl⟩
        · exact ⟨3, by omega, by omega, k4 1 _ rfl⟩
        · exact ⟨26, by omega, by omega, k4 2 _ rfl⟩
      obtain ⟨q5, hq5, hq52, hcq⟩ := hrow
      have hr43 : r4 < 3 := by omega
      clear k4
      go_wp2_with fail
      refine (curPick b a l cap _ q5 _ hl (by omega) (by omega) I4.out).mono ?_
      rintro e w5 ⟨r5, rfl, hr5, hI5, hg5⟩
      have hr5' : r5 < 26 := by omega
      have O5 := O4.out.kept hg5 (own_apart O4.out hbl)
      have I5 := Lib.hid hI5
      have G5 := Lib.hid (grown_trans G4.out hg5)
      have hsz5 : w.heap.size ≤ w5.heap.size := G5.out.size
      clear hI5 hg5 I4 O4 G4 hcq
      have HU : Hid (Value.int .u8 (97 + (r5 : Int)) = bval (UInt8.ofNat (97 + r5))) := Lib.hid (by unfold bval; simp; omega)
      have h1u : (bval (UInt8.ofNat (97 + r5))).oneCell' = true := rfl
      go_wp2_with (at_builtin; rw [HU.out]; refine wp_app1 w5 w5 (bval (UInt8.ofNat (97 + r5))) rfl _ _ 22 rfl w.heap.size 5 (.int .u8 0) 1 Try.underlying22 Try.info5 rfl _ _ _ (by rfl) O5 (by rfl) h1u (by unfold maxLen; omega) (by omega) hsz5 (Below.refl _ _) ?_; clear O5; intro v' w6 O6 B6)
      obtain ⟨a6, cap6, rfl⟩ := own_shape O6
      go_roundw
      case rel => exact ⟨q1 + 1, a6, cap6, bs ++ [UInt8.ofNat (97 + r5)], by omega, ⟨by simp [HB.out.1], by rw [List.all_append, HB.out.2, Bool.true_and, List.all_cons, low97 hr5']; rfl⟩, rfl, by rw [List.map_append]; exact O6, (I5.out.low B6 hbl).more (by omega), grown_low G5.out B6⟩
      case measure => simp [lenOf]; omega
    · have hcv := conv_any hown
      have II := Lib.hid (hI.more (show m + 2 + 2 * q1 ≤ m + 66 by omega))
      have GG := Lib.hid hg
      clear hI hg hown
      go_wp2
      go_ret
      exact ⟨strL bs, rfl, by rw [strL_data]; unfold wordB; rw [HB.out.2, HB.out.1]; simp; omega, II.out, GG.out⟩
end Go.Proofs.Ytkcplnmhonhmaaa
