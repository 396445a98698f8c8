/- What FnBatch alone wants: words, lists and planes drawn; lists compared; batches. -/
import Derived.Test.YtfdlmpjccoaejaaCurW
import Derived.Test.YtfdlmpjccoaejaaPlain1
import Derived.Test.YtfdlmpjccoaejaaCurN
import Derived.Test.YtfdlmpjccoaejaaDrN
import Derived.Test.YtfdlmpjccoaejaaPlT
import Derived.Deep.RegionWith
import Derived.Test.YtfdlmpjccoaejaaCurM
import Derived.Test.YtfdlmpjccoaejaaPlS
import Derived.Deep.RegionLaw
import Derived.Deep.RegionHeld3
import Derived.Test.YtfdlmpjccoaejaaStrs
import Derived.Test.YtfdlmpjccoaejaaBaJ
import Derived.Test.YtfdlmpjccoaejaaEdD
namespace Go.Proofs.Ytfdlmpjccoaejaa
open Go.RowKit
set_option linter.unusedVariables false

theorem low97 {r : Nat} (h : r < 26) : lowB (UInt8.ofNat (97 + r)) = true := by
  have e : (UInt8.ofNat (97 + r)).toNat = 97 + r := by rw [UInt8.toNat_ofNat']; exact Nat.mod_eq_of_lt (by omega)
  unfold lowB
  rw [e]
  simp
  omega
def DrawnWord (b : Nat) (a : Option Addr) (l : List UInt8) (cap m : Nat) (w : World) (e : Ending) (w' : World) : Prop :=
  ∃ s : ByteArray, e = .returned (.string s) ∧ wordB s.data.toList = true ∧ CurI w' b a l cap m ∧ w.grownBy w' (some b)
set_option maxRecDepth 100000 in
set_option maxHeartbeats 1000000 in
theorem curWordW (b : Nat) (a : Option Addr) (l : List UInt8) (cap m : Nat) (w : World) (hl : l.length ≤ 1048576) (hm : m ≤ 4000000000000000000) (h : CurI w b a l cap m) :
    Calls Try.prog 61 #[.pointer (some ⟨b, 0, none⟩)] w (DrawnWord b a l cap (m + 66) w) := by
  have hbl := h.lt
  have H0 := Lib.hid (h.below ((Below.refl _ _).alloc (Nat.le_refl _) (.cells #[.int .i64 3, .int .i64 5, .int .i64 8, .int .i64 32] 3)))
  have G0 := Lib.hid (World.grownBy_alloc w (.cells #[.int .i64 3, .int .i64 5, .int .i64 8, .int .i64 32] 3) (some b))
  clear h
  go_enter Try.func61, Try.ntmps61
  go_wp2_with fail
  refine (curPick b a l cap m 4 _ hl (by omega) (by omega) H0.out).mono ?_
  rintro e w1 ⟨r, rfl, hr, hI1, hg1⟩
  have I1 := Lib.hid hI1
  have G1 := Lib.hid (grown_trans G0.out hg1)
  have k1 : ∀ i v, (#[.int .i64 3, .int .i64 5, .int .i64 8, .int .i64 32] : Array Value)[i]? = some v → w1.cell? ⟨w.heap.size, i, none⟩ = some v := fun i v hv => hg1.cell (by simpa using hv) (by simp; omega)
  clear hI1 hg1
  have hr4 : r < 4 := by omega
  have hrow : ∃ q : Nat, q ≤ 32 ∧ 2 ≤ q ∧ w1.cell? ⟨w.heap.size, r, none⟩ = some (.int .i64 q) := by
    rcases (show r = 0 ∨ r = 1 ∨ r = 2 ∨ r = 3 from by omega) with rfl | rfl | rfl | rfl
    · exact ⟨3, by omega, by omega, k1 0 _ rfl⟩
    · exact ⟨5, by omega, by omega, k1 1 _ rfl⟩
    · exact ⟨8, by omega, by omega, k1 2 _ rfl⟩
    · exact ⟨32, by omega, by omega, k1 3 _ rfl⟩
  obtain ⟨q, hq, hq2, hcq⟩ := hrow
  clear k1
  go_wp2_with fail
  refine (curPick b a l cap (m + 1) q _ hl (by omega) (by omega) I1.out).mono ?_
  rintro e w2 ⟨r2, rfl, hr2, hI2, hg2⟩
  have hr2' : r2 < 32 := by omega
  have I2 := Lib.hid hI2
  have G2 := Lib.hid (grown_trans G1.out hg2)
  clear hI2 hg2 I1 G1 H0 G0 hcq
  have hsz2 : w.heap.size ≤ w2.heap.size := G2.out.size
  go_wp2
  go_loopw [4] (fun v wr => ∃ (q1 : Nat) (ao : Option Addr) (cap1 : Nat) (bs : List UInt8), q1 ≤ r2 + 1 ∧ (bs.length = q1 ∧ bs.all lowB = true) ∧ v = .slice ao q1 cap1 ∧
      wr.ownsRow w.heap.size 5 1 (.slice ao q1 cap1) q1 (bs.map bval) ∧ CurI wr b a l cap (m + 2 + 2 * q1) ∧ w.grownBy wr (some b)) (fun v _ => r2 + 1 - lenOf v)
  case atStart =>
    refine ⟨0, _, _, [], Nat.zero_le _, ⟨rfl, rfl⟩, rfl, World.ownsRow_made w2 #[] 0 hsz2 (by unfold maxLen; omega) rfl, I2.out.below ((Below.refl _ _).alloc (Nat.le_refl _) _), ?_⟩
    exact grown_trans G2.out (World.grownBy_alloc w2 _ (some b))
  case round =>
    clear I2 G2
    obtain ⟨q1, ao, cap1, bs, hq1, hbs, rfl, hown, hI, hg⟩ := hrel
    have HB := Lib.hid hbs
    clear hbs
    have hszr : w.heap.size ≤ wr.heap.size := hg.size
    by_cases hlt : q1 < r2 + 1
    · have I3 := Lib.hid (hI.below ((Below.refl _ _).alloc (Nat.le_refl _) (.cells #[.int .i64 2, .int .i64 3, .int .i64 26] 3)))
      have O3 := Lib.hid (hown.alloc (.cells #[.int .i64 2, .int .i64 3, .int .i64 26] 3))
      have G3 := Lib.hid (grown_trans hg (World.grownBy_alloc wr (.cells #[.int .i64 2, .int .i64 3, .int .i64 26] 3) (some b)))
      clear hown hI hg
      go_wp2_with fail
      refine (curPick b a l cap _ 3 _ hl (by omega) (by omega) I3.out).mono ?_
      rintro e w4 ⟨r4, rfl, hr4, hI4, hg4⟩
      have k4 : ∀ i v, (#[.int .i64 2, .int .i64 3, .int .i64 26] : Array Value)[i]? = some v → w4.cell? ⟨wr.heap.size, i, none⟩ = some v := fun i v hv => hg4.cell (by simpa using hv) (by simp; omega)
      have O4 := Lib.hid (O3.out.kept hg4 (own_apart O3.out hbl))
      have I4 := Lib.hid hI4
      have G4 := Lib.hid (grown_trans G3.out hg4)
      clear hI4 hg4 I3 O3 G3
      have hrow : ∃ q : Nat, q ≤ 26 ∧ 2 ≤ q ∧ w4.cell? ⟨wr.heap.size, r4, none⟩ = some (.int .i64 q) := by
        rcases (show r4 = 0 ∨ r4 = 1 ∨ r4 = 2 from by omega) with rfl | rfl | rfl
        · exact ⟨2, by omega, by omega, k4 0 _ rfl⟩
        · exact ⟨3, by omega, by omega, k4 1 _ rfl⟩
        · exact ⟨26, by omega, by omega, k4 2 _ rfl⟩
      obtain ⟨q5, hq5, hq52, hcq⟩ := hrow
      have hr43 : r4 < 3 := by omega
      clear k4
      go_wp2_with fail
      refine (curPick b a l cap _ q5 _ hl (by omega) (by omega) I4.out).mono ?_
      rintro e w5 ⟨r5, rfl, hr5, hI5, hg5⟩
      have hr5' : r5 < 26 := by omega
      have O5 := O4.out.kept hg5 (own_apart O4.out hbl)
      have I5 := Lib.hid hI5
      have G5 := Lib.hid (grown_trans G4.out hg5)
      have hsz5 : w.heap.size ≤ w5.heap.size := G5.out.size
      clear hI5 hg5 I4 O4 G4 hcq
      have HU : Hid (Value.int .u8 (97 + (r5 : Int)) = bval (UInt8.ofNat (97 + r5))) := Lib.hid (by unfold bval; simp; omega)
      have h1u : (bval (UInt8.ofNat (97 + r5))).oneCell' = true := rfl
      go_wp2_with (at_builtin; rw [HU.out]; refine wp_app1 w5 w5 (bval (UInt8.ofNat (97 + r5))) rfl _ _ 22 rfl w.heap.size 5 (.int .u8 0) 1 Try.underlying22 Try.info5 rfl _ _ _ (by rfl) O5 (by rfl) h1u (by unfold maxLen; omega) (by omega) hsz5 (Below.refl _ _) ?_; clear O5; intro v' w6 O6 B6)
      obtain ⟨a6, cap6, rfl⟩ := own_shape O6
      go_roundw
      case rel => exact ⟨q1 + 1, a6, cap6, bs ++ [UInt8.ofNat (97 + r5)], by omega, ⟨by simp [HB.out.1], by rw [List.all_append, HB.out.2, Bool.true_and, List.all_cons, low97 hr5']; rfl⟩, rfl, by rw [List.map_append]; exact O6, (I5.out.low B6 hbl).more (by omega), grown_low G5.out B6⟩
      case measure => simp [lenOf]; omega
    · have hcv := conv_any hown
      have II := Lib.hid (hI.more (show m + 2 + 2 * q1 ≤ m + 66 by omega))
      have GG := Lib.hid hg
      clear hI hg hown
      go_wp2
      go_ret
      exact ⟨strL bs, rfl, by rw [strL_data]; unfold wordB; rw [HB.out.2, HB.out.1]; simp; omega, II.out, GG.out⟩
end Go.Proofs.Ytfdlmpjccoaejaa
namespace Go.Proofs.Ytfdlmpjccoaejaa
open Go.RowKit
set_option linter.unusedVariables false
set_option maxRecDepth 100000

def strsB (ws : List (List UInt8)) : Prop := ∀ s ∈ ws, strB s = true
theorem strB_word {s : List UInt8} (h : wordB s = true) : strB s = true := by unfold strB; rw [h]; simp
theorem strsB_snoc {ws : List (List UInt8)} {s : List UInt8} (h : strsB ws) (hs : strB s = true) : strsB (ws ++ [s]) := by
  intro x hx
  rcases List.mem_append.1 hx with h1 | h1
  · exact h x h1
  · have : x = s := by simpa using h1
    rw [this]; exact hs
theorem map_snoc (ws : List (List UInt8)) (s : ByteArray) : (ws ++ [s.data.toList]).map sval = ws.map sval ++ [.string s] := by
  rw [List.map_append]
  rfl
def DrawnWords (b : Nat) (a : Option Addr) (l : List UInt8) (cap m n : Nat) (w : World) (e : Ending) (w' : World) : Prop :=
  ∃ (c : Value) (ws : List (List UInt8)), e = .returned c ∧ StringSOwn w.heap.size w'.heap.size [c] ws w' ∧ ws.length ≤ n ∧ strsB ws ∧ CurI w' b a l cap m ∧ w.grownBy w' (some b)
set_option maxHeartbeats 4000000 in
theorem curWords (b : Nat) (a : Option Addr) (l : List UInt8) (cap m n : Nat) (w : World) (hl : l.length ≤ 1048576) (hm : m ≤ 1000000000000000000) (hn : n ≤ 1000) (h : CurI w b a l cap m) :
    Calls Try.prog 58 #[.pointer (some ⟨b, 0, none⟩), .int .i64 n] w (DrawnWords b a l cap (m + 1 + 67 * n) n w) := by
  have hbl := h.lt
  have H := Lib.hid (h.below ((Below.refl _ _).alloc (Nat.le_refl _) (.cells #[] 9)))
  clear h
  go_enter Try.func58, Try.ntmps58
  go_wp2_with fail
  refine (curSize b a l cap m n _ hl (by omega) (by omega) H.out).mono ?_
  rintro e w1 ⟨r, rfl, hr, hI1, hg1⟩
  have hrn : r ≤ n := by omega
  have O0 := nil_strsW w
  have X1 : Hid (w1.ownsRow w.heap.size 9 1 (.slice (some ⟨w.heap.size, 0, none⟩) 0 0) 0 (([] : List (List UInt8)).map sval) ∧ CurI w1 b a l cap (m + 1) ∧ w.grownBy w1 (some b)) := Lib.hid ⟨O0.kept hg1 (own_apart O0 hbl), hI1, grown_trans (World.grownBy_alloc w (.cells #[] 9) (some b)) hg1⟩
  clear O0 hI1 hg1 H hr
  go_wp2
  go_loopw [5, 6, 7] (fun o k _ wr => ∃ (q : Nat) (ao : Option Addr) (c1 : Nat) (ws : List (List UInt8)), q ≤ r ∧ k = .int .i64 ((r : Int) - (q : Int)) ∧ o = .slice ao q c1 ∧ Hid (ws.length = q ∧ strsB ws) ∧ Hid (wr.ownsRow w.heap.size 9 1 (.slice ao q c1) q (ws.map sval) ∧ CurI wr b a l cap (m + 1 + 67 * q) ∧ w.grownBy wr (some b))) (fun _ k _ _ => (intOf k).toNat)
  case atStart => exact ⟨0, _, _, [], Nat.zero_le _, by simp, rfl, Lib.hid ⟨rfl, fun s hs => by simp at hs⟩, X1⟩
  case round =>
    clear X1
    obtain ⟨q, ao, c1, ws, hq, rfl, rfl, HB, H⟩ := hrel
    by_cases hlt : q < r
    · go_wp2_with fail
      refine (curWordW b a l cap _ _ hl (by omega) H.out.2.1).mono ?_
      rintro e w4 ⟨s, rfl, hs, hI4, hg4⟩
      have O4 := Lib.hid (H.out.1.kept hg4 (own_apart H.out.1 hbl))
      have G4 := Lib.hid (grown_trans H.out.2.2 hg4)
      have I4 := Lib.hid hI4
      have HS := Lib.hid hs
      clear hI4 hg4 H hs
      go_wp2_with fail
      refine (curOnce b a l cap _ 6 _ hl (by omega) (by omega) I4.out).mono ?_
      rintro e w5 ⟨f, rfl, hI5, hg5⟩
      have O5 := Lib.hid (O4.out.kept hg5 (own_apart O4.out hbl))
      have G5 := Lib.hid (grown_trans G4.out hg5)
      have I5 := Lib.hid hI5
      have hsz : w.heap.size ≤ w5.heap.size := G5.out.size
      clear hI5 hg5 O4 G4 I4
      cases f
      · have SN := Lib.hid (map_snoc ws s)
        have HB2 : Hid ((ws ++ [s.data.toList]).length = q + 1 ∧ strsB (ws ++ [s.data.toList])) := Lib.hid ⟨by simp [HB.out.1], strsB_snoc HB.out.2 (strB_word HS.out)⟩
        go_wp2_with (at_builtin; go_must (refine wp_app_row rfl _ _ 24 rfl 9 (.string ⟨#[]⟩) 16 Try.underlying24 Try.infoStr rfl w.heap.size q (.slice ao q c1) (ws.map sval) (by rfl) (O5.out.alloc _) (some ⟨w5.heap.size, 0, none⟩) 1 1 [.string s] (by rfl) rfl (row_one w5 (.string s) 9) (by simp [Value.oneCell']) (by unfold maxLen; omega) (by omega) (by simp; omega) ?_); intro v6 w6 ho6 hg6; have LW := app_low hsz O5.out _ hg6; rw [← SN.out] at ho6; have X6 := Lib.hid (And.intro ho6 (And.intro (I5.out.low LW hbl) (grown_low G5.out LW))); obtain ⟨a6, c6, rfl⟩ := own_shape ho6; clear ho6 hg6 LW)
        go_roundw
        case rel => exact ⟨q + 1, a6, c6, _, by omega, by go_num, rfl, HB2, Lib.hid ⟨X6.out.1, X6.out.2.1.more (by omega), X6.out.2.2⟩⟩
        case measure => simp [intOf]; omega
      · have SN := Lib.hid (map_snoc ws ⟨#[]⟩)
        have HB2 : Hid ((ws ++ [(⟨#[]⟩ : ByteArray).data.toList]).length = q + 1 ∧ strsB (ws ++ [(⟨#[]⟩ : ByteArray).data.toList])) := Lib.hid ⟨by simp [HB.out.1], strsB_snoc HB.out.2 rfl⟩
        go_wp2_with (at_builtin; go_must (refine wp_app_row rfl _ _ 24 rfl 9 (.string ⟨#[]⟩) 16 Try.underlying24 Try.infoStr rfl w.heap.size q (.slice ao q c1) (ws.map sval) (by rfl) (O5.out.alloc _) (some ⟨w5.heap.size, 0, none⟩) 1 1 [.string ⟨#[]⟩] (by rfl) rfl (row_one w5 (.string ⟨#[]⟩) 9) (by simp [Value.oneCell']) (by unfold maxLen; omega) (by omega) (by simp; omega) ?_); intro v6 w6 ho6 hg6; have LW := app_low hsz O5.out _ hg6; rw [← SN.out] at ho6; have X6 := Lib.hid (And.intro ho6 (And.intro (I5.out.low LW hbl) (grown_low G5.out LW))); obtain ⟨a6, c6, rfl⟩ := own_shape ho6; clear ho6 hg6 LW)
        go_roundw
        case rel => exact ⟨q + 1, a6, c6, _, by omega, by go_num, rfl, HB2, Lib.hid ⟨X6.out.1, X6.out.2.1.more (by omega), X6.out.2.2⟩⟩
        case measure => simp [intOf]; omega
    · have hq' : q = r := by omega
      subst hq'
      go_wp2
      go_ret
      exact ⟨_, ws, rfl, StringSOwn.mk H.out.1, by rw [HB.out.1]; exact hrn, HB.out.2, H.out.2.1.more (by omega), H.out.2.2⟩
end Go.Proofs.Ytfdlmpjccoaejaa
namespace Go.Proofs.Ytfdlmpjccoaejaa
open Go.RowKit
set_option linter.unusedVariables false

def lits6 : Array Value := #[.string ⟨#[]⟩, .string ⟨#[65]⟩, .string ⟨#[45]⟩, .string ⟨#[0]⟩, .string ⟨#[122, 122]⟩, .string ⟨#[123]⟩]
theorem lits6_at (r : Nat) (h : r < 6 ∨ r = 0) : ∃ x : ByteArray, x.size ≤ 2 ∧ lits6[r]? = some (.string x) := by
  rcases (show r = 0 ∨ r = 1 ∨ r = 2 ∨ r = 3 ∨ r = 4 ∨ r = 5 from by omega) with rfl | rfl | rfl | rfl | rfl | rfl
  · exact ⟨_, by decide, rfl⟩
  · exact ⟨_, by decide, rfl⟩
  · exact ⟨_, by decide, rfl⟩
  · exact ⟨_, by decide, rfl⟩
  · exact ⟨_, by decide, rfl⟩
  · exact ⟨_, by decide, rfl⟩

set_option maxHeartbeats 2000000 in
theorem curBadWord (b : Nat) (a : Option Addr) (l : List UInt8) (cap m : Nat) (w : World) (hl : l.length ≤ 1048576) (hm : m ≤ 4000000000000000000) (h : CurI w b a l cap m) :
    Calls Try.prog 60 #[.pointer (some ⟨b, 0, none⟩)] w (DrawnStr b a l cap (m + 69) 96 w) := by
  have H := Lib.hid h
  clear h
  go_enter Try.func60, Try.ntmps60
  go_wp2_with fail
  refine (curWord b a l cap m _ hl hm H.out).mono ?_
  rintro e w1 ⟨s, rfl, hs, hI1, hg1⟩
  have I1 := Lib.hid hI1
  have G1 := Lib.hid hg1
  clear hI1 hg1 H
  go_wp2_with fail
  refine (curPick b a l cap _ 9 _ hl (by omega) (by omega) I1.out).mono ?_
  rintro e w2 ⟨r, rfl, hr, hI2, hg2⟩
  have I2 := Lib.hid hI2
  have G2 := Lib.hid (grown_trans G1.out hg2)
  clear hI2 hg2 I1 G1
  by_cases h0 : r = 0
  · subst h0
    go_wp2_with fail
    refine (curPick b a l cap _ (s.size + 1) _ hl (by omega) (by omega) I2.out).mono ?_
    rintro e w3 ⟨k, rfl, hk, hI3, hg3⟩
    have hks : k ≤ s.size := by omega
    have I3 := Lib.hid hI3
    have G3 := Lib.hid (grown_trans G2.out hg3)
    have hb3 := I3.out.lt
    clear hI3 hg3 I2 G2
    have IA := Lib.hid (I3.out.below (w' := w3.drew) (belowN 1))
    have IB := Lib.hid (I3.out.below (w' := (w3.alloc (.cells lits6 9)).drew) (((Below.refl _ _).alloc (Nat.le_refl _) _).drew))
    go_wp2
    go_region_with (go_at_call 59; refine (curPick b a l cap (m + 66 + 1 + 1) 6 _ hl (by omega) (by omega) (by first | exact IA.out | exact IB.out)).mono ?_; rintro e w4 ⟨r4, rfl, hr4, hI4, hg4⟩; obtain ⟨x, hx, hxl⟩ := lits6_at r4 hr4; have hr46 : r4 < 6 := (by omega); first | (have hq : w4.cell? ⟨w3.heap.size, r4, none⟩ = some (.string x) := hg4.cell ((lit_new w3 lits6 9 r4).trans hxl) (by simp; omega)) | (have hq : (w4.alloc (.cells #[.string ⟨#[]⟩, .string ⟨#[65]⟩, .string ⟨#[45]⟩, .string ⟨#[0]⟩, .string ⟨#[122, 122]⟩, .string ⟨#[123]⟩] 9)).cell? ⟨w4.heap.size, r4, none⟩ = some (.string x) := (lit_new w4 lits6 9 r4).trans hxl))
    all_goals
      clear hq
      go_wp2
      go_ret
    · exact ⟨_, rfl, by simp only [ByteArray.size_append, ByteArray.size_extract]; omega, hI4.more (by omega), grown_trans (grown_trans G3.out (grown_trans (World.grownBy_alloc w3 (.cells lits6 9) (some b)) (drewN_grown _ 1 _))) hg4⟩
    · exact ⟨_, rfl, by simp only [ByteArray.size_append, ByteArray.size_extract]; omega, (hI4.below ((Below.refl _ _).alloc (Nat.le_refl _) _)).more (by omega), grown_trans (grown_trans G3.out (grown_trans (drewN_grown _ 1 _) hg4)) (World.grownBy_alloc w4 _ (some b))⟩
  · have hr0 : ((r : Int) == 0) = false := by simp; omega
    by_cases h1 : r = 1
    · subst h1
      go_wp2
      go_ret
      exact ⟨_, rfl, Nat.zero_le _, I2.out.more (by omega), G2.out⟩
    · have hr1 : ((r : Int) == 1) = false := by simp; omega
      by_cases h2 : r = 2
      · subst h2
        go_wp2_with fail
        refine (curPick b a l cap _ 33 _ hl (by omega) (by omega) I2.out).mono ?_
        rintro e w3 ⟨k, rfl, hk, hI3, hg3⟩
        have hk2 : k ≤ 32 := by omega
        have I3 := Lib.hid hI3
        have G3 := Lib.hid (grown_trans G2.out hg3)
        clear hI3 hg3 I2 G2
        go_wp2
        go_ret
        exact ⟨_, rfl, by simp only [ByteArray.size_append, ByteArray.size_extract]; omega, I3.out.more (by omega), G3.out⟩
      · have hr2 : ((r : Int) == 2) = false := by simp; omega
        go_wp2
        go_ret
        exact ⟨_, rfl, by omega, I2.out.more (by omega), G2.out⟩
end Go.Proofs.Ytfdlmpjccoaejaa
namespace Go.Proofs.Ytfdlmpjccoaejaa
open Go.RowKit
set_option linter.unusedVariables false
set_option maxRecDepth 100000

def DrawnList (w : World) (e : Ending) (w' : World) : Prop :=
  ∃ (c : Value) (ws : List (List UInt8)), e = .returned c ∧ StringSIn [c] ws w' ∧ ws.length ≤ 100 ∧ (∀ s ∈ ws, s.length ≤ maxLen) ∧ Below w.heap.size w w'
theorem small_str {s : List UInt8} (h : strB s = true) : s.length ≤ maxLen := by have := str_len h; unfold maxLen; omega
theorem small_snoc {ws : List (List UInt8)} {s : List UInt8} (h : ∀ s ∈ ws, s.length ≤ maxLen) (hs : s.length ≤ maxLen) : ∀ x ∈ ws ++ [s], x.length ≤ maxLen := by
  intro x hx
  rcases List.mem_append.1 hx with h1 | h1
  · exact h x h1
  · have : x = s := by simpa using h1
    rw [this]; exact hs
set_option maxHeartbeats 4000000 in
theorem drawPlanesOf (a : Option Addr) (l : List UInt8) (cap : Nat) (w : World) (hl : l.length ≤ 1048576) (r : Row w a (l.map bval)) :
    Calls Try.prog 15 #[.slice a l.length cap] w (DrawnList w) := by
  have CO := Lib.hid (curOpen a l cap w hl r)
  clear r
  go_enter Try.func15, Try.ntmps15
  go_wp2_with fail
  refine CO.out.mono ?_
  rintro e w1 ⟨rfl, hI1, hB1⟩
  have I1 := Lib.hid hI1
  have B1 := Lib.hid hB1
  have hb1 : w.heap.size < w1.heap.size := hI1.lt
  clear hI1 hB1 CO
  go_wp2_with fail
  refine (curWords w.heap.size a l cap _ 12 _ hl (by omega) (by omega) I1.out).mono ?_
  rintro e w2 ⟨c, ws, rfl, ho2, hlen, hst, hI2, hg2⟩
  obtain ⟨ad, cp, e2, ow, _⟩ := ho2
  simp at e2
  subst e2
  have HS : Hid (ws.length ≤ 12 ∧ ∀ s ∈ ws, s.length ≤ maxLen) := Lib.hid ⟨hlen, fun s hs => small_str (hst s hs)⟩
  have X2 : Hid (w2.ownsRow (w.heap.size + 1) 9 1 (.slice ad ws.length cp) ws.length (ws.map sval) ∧ CurI w2 w.heap.size a l cap 1000 ∧ Below w.heap.size w w2) := Lib.hid ⟨own_base ow hb1, hI2.more (by omega), below_write B1.out hg2 (Nat.le_refl _)⟩
  obtain ⟨q, hq⟩ : ∃ q, ws.length = q := ⟨_, rfl⟩
  have HQ := Lib.hid hq
  rw [hq] at X2 hlen ⊢
  clear ow hst hI2 hg2 I1 B1 hq
  go_wp2_with fail
  refine (curPick w.heap.size a l cap _ 8 _ hl (by omega) (by omega) X2.out.2.1).mono ?_
  rintro e w3 ⟨t, rfl, ht, hI3, hg3⟩
  have X3 : Hid (w3.ownsRow (w.heap.size + 1) 9 1 (.slice ad q cp) q (ws.map sval) ∧ CurI w3 w.heap.size a l cap 1001 ∧ Below w.heap.size w w3) := Lib.hid ⟨X2.out.1.kept hg3 (own_apart X2.out.1 (by omega)), hI3, below_write X2.out.2.2 hg3 (Nat.le_refl _)⟩
  have hb3 : w.heap.size < w3.heap.size := hI3.lt
  clear X2 hI3 hg3 ht
  have MK : Hid (∀ (wz : World) (ad' : Option Addr) (q' c' : Nat) (ws' : List (List UInt8)), wz.ownsRow (w.heap.size + 1) 9 1 (.slice ad' q' c') q' (ws'.map sval) → ws'.length ≤ 100 → (∀ s ∈ ws', s.length ≤ maxLen) → Below w.heap.size w wz → DrawnList w (.returned (.slice ad' q' c')) wz) := Lib.hid (fun wz ad' q' c' ws' h1 h2 h3 h4 => ⟨_, ws', rfl, (StringSOwn.mk h1).read, h2, h3, h4⟩)
  by_cases t0 : t = 0
  · subst t0
    go_wp2_with fail
    refine (curBadWord w.heap.size a l cap _ _ hl (by omega) X3.out.2.1).mono ?_
    rintro e w4 ⟨s, rfl, hs, hI4, hg4⟩
    have O4 := Lib.hid (X3.out.1.kept hg4 (own_apart X3.out.1 (by omega)))
    have B4 := Lib.hid (below_write X3.out.2.2 hg4 (Nat.le_refl _))
    have hsz : w.heap.size + 1 ≤ w4.heap.size := hI4.lt
    have SN := Lib.hid (map_snoc ws s)
    have HW := Lib.hid (small_snoc (s := s.data.toList) HS.out.2 (by rw [len_data]; unfold maxLen; omega))
    clear hI4 hg4 X3
    go_wp2_with (at_builtin; go_must (refine wp_app_row rfl _ _ 24 rfl 9 (.string ⟨#[]⟩) 16 Try.underlying24 Try.infoStr rfl (w.heap.size + 1) q (.slice ad q cp) (ws.map sval) (by rfl) (O4.out.alloc _) (some ⟨w4.heap.size, 0, none⟩) 1 1 [.string s] (by rfl) rfl (row_one w4 (.string s) 9) (by simp [Value.oneCell']) (by unfold maxLen; omega) (by omega) (by simp; omega) ?_); intro v6 w6 ho6 hg6; have LW := app_low hsz O4.out _ hg6; rw [← SN.out] at ho6; have X6 := Lib.hid (And.intro ho6 (B4.out.trans (LW.mono (by omega)))); obtain ⟨a6, c6, rfl⟩ := own_shape ho6; clear ho6 hg6 LW)
    go_ret
    exact MK.out _ _ _ _ _ X6.out.1 (by have := HS.out.1; simp; omega) HW.out X6.out.2
  have t0B : ((t : Int) == 0) = false := by simp; omega
  by_cases t1 : t = 1
  · subst t1
    go_wp2
    go_loopw [4] (fun v wr => ∃ (q c : Nat) (ad : Option Addr) (ws : List (List UInt8)), q ≤ 65 ∧ v = .slice ad q c ∧ Hid (ws.length = q ∧ ∀ s ∈ ws, s.length ≤ maxLen) ∧ Hid (wr.ownsRow (w.heap.size + 1) 9 1 (.slice ad q c) q (ws.map sval) ∧ CurI wr w.heap.size a l cap (1001 + 100 * q) ∧ Below w.heap.size w wr)) (fun v _ => 66 - lenOf v)
    case atStart => exact ⟨q, cp, ad, ws, by omega, rfl, Lib.hid ⟨HQ.out, HS.out.2⟩, Lib.hid ⟨X3.out.1, X3.out.2.1.more (by omega), X3.out.2.2⟩⟩
    case round =>
      clear X3 HS HQ
      obtain ⟨q, c, ad, ws, hq, rfl, HW, H⟩ := hrel
      go_wp2_with fail
      refine (curPick w.heap.size a l cap _ 2 _ hl (by omega) (by omega) H.out.2.1).mono ?_
      rintro e w4 ⟨x, rfl, hx, hI4, hg4⟩
      have hx2 : x < 2 := by omega
      have X4 : Hid (w4.ownsRow (w.heap.size + 1) 9 1 (.slice ad q c) q (ws.map sval) ∧ CurI w4 w.heap.size a l cap (1001 + 100 * q + 1) ∧ Below w.heap.size w w4) := Lib.hid ⟨H.out.1.kept hg4 (own_apart H.out.1 (by omega)), hI4, below_write H.out.2.2 hg4 (Nat.le_refl _)⟩
      clear H hI4 hg4 hx
      by_cases hlt : q < 64 + x
      · go_wp2_with fail
        refine (curWordW w.heap.size a l cap _ _ hl (by omega) X4.out.2.1).mono ?_
        rintro e w5 ⟨s, rfl, hs, hI5, hg5⟩
        have O5 := Lib.hid (X4.out.1.kept hg5 (own_apart X4.out.1 (by omega)))
        have B5 := Lib.hid (below_write X4.out.2.2 hg5 (Nat.le_refl _))
        have I5 := Lib.hid hI5
        have hsz : w.heap.size + 1 ≤ w5.heap.size := hI5.lt
        have SN := Lib.hid (map_snoc ws s)
        have HW2 : Hid ((ws ++ [s.data.toList]).length = q + 1 ∧ ∀ x ∈ ws ++ [s.data.toList], x.length ≤ maxLen) := Lib.hid ⟨by simp [HW.out.1], small_snoc HW.out.2 (small_str (strB_word hs))⟩
        clear hI5 hg5 X4 hs
        go_wp2_with (at_builtin; go_must (refine wp_app_row rfl _ _ 24 rfl 9 (.string ⟨#[]⟩) 16 Try.underlying24 Try.infoStr rfl (w.heap.size + 1) q (.slice ad q c) (ws.map sval) (by rfl) (O5.out.alloc _) (some ⟨w5.heap.size, 0, none⟩) 1 1 [.string s] (by rfl) rfl (row_one w5 (.string s) 9) (by simp [Value.oneCell']) (by unfold maxLen; omega) (by omega) (by simp; omega) ?_); intro v6 w6 ho6 hg6; have LW := app_low hsz O5.out _ hg6; rw [← SN.out] at ho6; have X6 := Lib.hid (And.intro ho6 (And.intro (I5.out.low LW (by omega)) (B5.out.trans (LW.mono (by omega))))); obtain ⟨a6, c6, rfl⟩ := own_shape ho6; clear ho6 hg6 LW)
        go_roundw
        case rel => exact ⟨q + 1, c6, a6, _, by omega, rfl, HW2, Lib.hid ⟨X6.out.1, X6.out.2.1.more (by omega), X6.out.2.2⟩⟩
        case measure => simp [lenOf]; omega
      · go_wp2
        go_ret
        exact MK.out _ _ _ _ _ X4.out.1 (by have := HW.out.1; omega) HW.out.2 X4.out.2.2
  have t1B : ((t : Int) == 1) = false := by simp; omega
  go_wp2
  go_ret
  exact MK.out _ _ _ _ _ X3.out.1 (by have := HS.out.1; omega) HS.out.2 X3.out.2.2
end Go.Proofs.Ytfdlmpjccoaejaa
namespace Go.Proofs.Ytfdlmpjccoaejaa
open Go.RowKit
set_option linter.unusedVariables false
set_option maxRecDepth 100000

def DrawnAny (b : Nat) (w : World) (e : Ending) (w' : World) : Prop := ∃ (z : Int) (a1 : Option Addr) (n1 k1 : Nat) (a2 : Option Addr) (n2 k2 : Nat), e = .returned (.agg #[.int .i64 z, .slice a1 n1 k1, .slice a2 n2 k2]) ∧ w.grownBy w' (some b)
/-- While 'planes' runs: the planes lie in block T, the answer's place is the first new block, both rows are the call's own. -/
structure PlSt (w W : World) (b T : Nat) (a : Option Addr) (l : List UInt8) (cap m : Nat) (z : Int) (a1 : Option Addr) (c1 : Nat) (l1 : List Nat) (a2 : Option Addr) (c2 : Nat) (l2 : List Nat) : Prop where
  tb : W.heap[T]? = some (.cells #[.int .i64 z, .slice a1 6 c1, .slice a2 160 c2] 28 (0, 0))
  rb : W.heap[w.heap.size]? = some (.cells #[.int .i64 0, .slice none 0 0, .slice none 0 0] 28 (0, 0))
  O1 : W.ownsRow (w.heap.size + 1) 43 1 (.slice a1 6 c1) 6 (l1.map uval)
  O2 : W.ownsRow (w.heap.size + 1) 43 1 (.slice a2 160 c2) 160 (l2.map uval)
  h : w.heap.size < T ∧ b < w.heap.size
  I : CurI W b a l cap m
  G : w.grownBy W (some b)
theorem PlSt.pick {w W W' : World} {b T : Nat} {a : Option Addr} {l : List UInt8} {cap m m' : Nat} {z : Int} {a1 a2 : Option Addr} {c1 c2 : Nat} {l1 l2 : List Nat} (s : PlSt w W b T a l cap m z a1 c1 l1 a2 c2 l2) (hI : CurI W' b a l cap m') (hg : W.grownBy W' (some b)) : PlSt w W' b T a l cap m' z a1 c1 l1 a2 c2 l2 := by
  obtain ⟨h1, h2⟩ := s.h
  exact ⟨kept_grown s.tb hg (by simp; omega), kept_grown s.rb hg (by simp; omega), s.O1.kept hg (own_apart s.O1 (by omega)), s.O2.kept hg (own_apart s.O2 (by omega)), s.h, hI, grown_trans s.G hg⟩
theorem PlSt.below {w W W' : World} {b T : Nat} {a : Option Addr} {l : List UInt8} {cap m : Nat} {z : Int} {a1 a2 : Option Addr} {c1 c2 : Nat} {l1 l2 : List Nat} (s : PlSt w W b T a l cap m z a1 c1 l1 a2 c2 l2) (hb : Below W.heap.size W W') : PlSt w W' b T a l cap m z a1 c1 l1 a2 c2 l2 :=
  ⟨kept_block s.tb hb, kept_block s.rb hb, own_below s.O1 hb, own_below s.O2 hb, s.h, s.I.below hb, grown_trans s.G (below_grown hb _)⟩
/-- Near the end: only the two blocks matter. -/
structure PlFin (w W : World) (b T : Nat) (c0 c1 c2 : Value) : Prop where
  tb : W.heap[T]? = some (.cells #[c0, c1, c2] 28 (0, 0))
  rb : W.heap[w.heap.size]? = some (.cells #[.int .i64 0, .slice none 0 0, .slice none 0 0] 28 (0, 0))
  h : w.heap.size < T ∧ b < w.heap.size
  G : w.grownBy W (some b)
theorem PlSt.fin {w W : World} {b T : Nat} {a : Option Addr} {l : List UInt8} {cap m : Nat} {z : Int} {a1 a2 : Option Addr} {c1 c2 : Nat} {l1 l2 : List Nat} (s : PlSt w W b T a l cap m z a1 c1 l1 a2 c2 l2) : PlFin w W b T (.int .i64 z) (.slice a1 6 c1) (.slice a2 160 c2) := ⟨s.tb, s.rb, s.h, s.G⟩
/-- A write into a block of its own that is neither. -/
theorem PlFin.other {w W : World} {b T g i : Nat} {c0 c1 c2 : Value} (s : PlFin w W b T c0 c1 c2) (hg : w.heap.size < g) (hT : g ≠ T) (v : Value) : PlFin w (W.setCell ⟨g, i, none⟩ v) b T c0 c1 c2 := by
  obtain ⟨h1, h2⟩ := s.h
  have BB : Below w.heap.size W (W.setCell ⟨g, i, none⟩ v) := (Below.refl w.heap.size W).setCell (p := ⟨g, i, none⟩) (by simp; omega) _
  exact ⟨(Below.heap_setCell W _ v T (by simp; omega)).trans s.tb, (Below.heap_setCell W _ v _ (by simp; omega)).trans s.rb, s.h, grown_low s.G BB⟩
theorem PlFin.set0 {w W : World} {b T : Nat} {c0 c1 c2 : Value} (s : PlFin w W b T c0 c1 c2) (v : Value) : PlFin w (W.setCell ⟨T, 0, none⟩ v) b T v c1 c2 := by
  obtain ⟨h1, h2⟩ := s.h
  have BB : Below w.heap.size W (W.setCell ⟨T, 0, none⟩ v) := (Below.refl w.heap.size W).setCell (p := ⟨T, 0, none⟩) (by simp; omega) _
  exact ⟨cur_set s.tb 0 v, (Below.heap_setCell W _ v _ (by simp; omega)).trans s.rb, s.h, grown_low s.G BB⟩
theorem PlFin.set1 {w W : World} {b T : Nat} {c0 c1 c2 : Value} (s : PlFin w W b T c0 c1 c2) (v : Value) : PlFin w (W.setCell ⟨T, 1, none⟩ v) b T c0 v c2 := by
  obtain ⟨h1, h2⟩ := s.h
  have BB : Below w.heap.size W (W.setCell ⟨T, 1, none⟩ v) := (Below.refl w.heap.size W).setCell (p := ⟨T, 1, none⟩) (by simp; omega) _
  exact ⟨cur_set s.tb 1 v, (Below.heap_setCell W _ v _ (by simp; omega)).trans s.rb, s.h, grown_low s.G BB⟩
theorem PlFin.done {w W : World} {b T : Nat} {z : Int} {a1 a2 : Option Addr} {n1 k1 n2 k2 : Nat} (s : PlFin w W b T (.int .i64 z) (.slice a1 n1 k1) (.slice a2 n2 k2)) (y0 y1 y2 : Value) : DrawnAny b w (.returned (.agg #[.int .i64 z, .slice a1 n1 k1, .slice a2 n2 k2])) (((W.setCell ⟨w.heap.size, 0, none⟩ y0).setCell ⟨w.heap.size, 1, none⟩ y1).setCell ⟨w.heap.size, 2, none⟩ y2) := by
  have BB : Below w.heap.size W (((W.setCell ⟨w.heap.size, 0, none⟩ y0).setCell ⟨w.heap.size, 1, none⟩ y1).setCell ⟨w.heap.size, 2, none⟩ y2) := (((Below.refl w.heap.size W).setCell (p := ⟨w.heap.size, 0, none⟩) (Nat.le_refl _) _).setCell (p := ⟨w.heap.size, 1, none⟩) (Nat.le_refl _) _).setCell (p := ⟨w.heap.size, 2, none⟩) (Nat.le_refl _) _
  exact ⟨z, a1, n1, k1, a2, n2, k2, rfl, grown_low s.G BB⟩

theorem planesOf_sizes {ws : List (List UInt8)} (h : planesB ws = true) : (planesOfM ws).len.length = 6 ∧ (planesOfM ws).lts.length = 160 ∧ (planesOfM ws).n = ws.length := by
  unfold planesOfM
  rw [if_pos h]
  unfold planesOf
  refine ⟨?_, ?_, rfl⟩
  · simp [lensN, putN_length]
  · simp [lettersN_length]
theorem three_at (z y x : Int) (r : Nat) (h : r < 3 ∨ r = 0) : ∃ v : Int, (#[.int .i64 z, .int .i64 y, .int .i64 x] : Array Value)[r]? = some (.int .i64 v) := by
  rcases (show r = 0 ∨ r = 1 ∨ r = 2 from by omega) with rfl | rfl | rfl
  · exact ⟨z, rfl⟩
  · exact ⟨y, rfl⟩
  · exact ⟨x, rfl⟩
set_option maxHeartbeats 4000000 in
theorem curPlanes (b : Nat) (a : Option Addr) (l : List UInt8) (cap m : Nat) (w : World) (hl : l.length ≤ 1048576) (hm : m ≤ 100000000000000000) (h : CurI w b a l cap m) :
    Calls Try.prog 62 #[.pointer (some ⟨b, 0, none⟩)] w (DrawnAny b w) := by
  have hbl := h.lt
  have hb0 : Below w.heap.size w (w.alloc (.cells #[.int .i64 0, .slice none 0 0, .slice none 0 0] 28)) := (Below.refl _ _).alloc (Nat.le_refl _) _
  have I0 := Lib.hid (h.below hb0)
  have G0 := Lib.hid (below_grown hb0 (some b))
  have K0 := Lib.hid (alloc_at w (.cells #[.int .i64 0, .slice none 0 0, .slice none 0 0] 28) _ rfl)
  clear h hb0
  go_enter Try.func62, Try.ntmps62
  go_wp2_with fail
  refine (curWords b a l cap m 12 _ hl (by omega) (by omega) I0.out).mono ?_
  rintro e w1 ⟨c, ws, rfl, ho1, hlen, hst, hI1, hg1⟩
  obtain ⟨ad, cp, e2, ow, _⟩ := ho1
  simp at e2
  subst e2
  have K1 := Lib.hid (kept_grown K0.out hg1 (by simp; omega))
  have s1 : w.heap.size + 1 ≤ w1.heap.size := cur_lt K1.out
  have X1 : Hid (w1.ownsRow (w.heap.size + 1) 9 1 (.slice ad ws.length cp) ws.length (ws.map sval) ∧ CurI w1 b a l cap (m + 1000) ∧ w.grownBy w1 (some b)) := Lib.hid ⟨own_base ow (by simp), hI1.more (by omega), grown_trans G0.out hg1⟩
  obtain ⟨q, hq⟩ : ∃ q, ws.length = q := ⟨_, rfl⟩
  have HW : Hid (ws.length = q ∧ strsB ws) := Lib.hid ⟨hq, hst⟩
  rw [hq] at X1 hlen ⊢
  clear ow hst hI1 hg1 I0 G0 K0 hq
  go_wp2_with fail
  refine (curOnce b a l cap _ 9 _ hl (by omega) (by omega) X1.out.2.1).mono ?_
  rintro e w2 ⟨f, rfl, hI2, hg2⟩
  have K2 := Lib.hid (kept_grown K1.out hg2 (by simp; omega))
  have s2 : w.heap.size + 1 ≤ w2.heap.size := cur_lt K2.out
  have X2 : Hid (w2.ownsRow (w.heap.size + 1) 9 1 (.slice ad q cp) q (ws.map sval) ∧ CurI w2 b a l cap (m + 1001) ∧ w.grownBy w2 (some b)) := Lib.hid ⟨X1.out.1.kept hg2 (own_apart X1.out.1 (by omega)), hI2, grown_trans X1.out.2.2 hg2⟩
  clear X1 K1 hI2 hg2
  have hq64 : q ≤ 64 := by omega
  clear hlen
  cases f
  · have PB := Lib.hid (planesB_iff.2 ⟨by rw [HW.out.1]; exact hq64, HW.out.2⟩)
    have SP := Lib.hid (specPlanesOf (.slice ad q cp) ws w2 ((StringSOwn.mk X2.out.1).read) (fun s hs => small_str (HW.out.2 s hs)))
    go_wp2_with fail
    refine SP.out.mono ?_
    rintro e w6 ⟨d0, d1, d2, rfl, ho6, hb6⟩
    rw [PB.out]
    obtain ⟨mid, rfl, o1, o2, hm1, hm2⟩ := planesOwn_parts ho6
    have ZZ := planesOf_sizes PB.out
    obtain ⟨a1, c1, e1, ow1, hh1⟩ := o1
    obtain ⟨a2, c2, e2, ow2, hh2⟩ := o2
    simp at e1 e2
    subst e1
    subst e2
    rw [ZZ.1] at ow1 ⊢
    rw [ZZ.2.1] at ow2 ⊢
    have hz : 0 ≤ (planesOfM ws).n ∧ (planesOfM ws).n ≤ 64 := by rw [ZZ.2.2, HW.out.1]; omega
    generalize (planesOfM ws).len = l1 at *
    generalize (planesOfM ws).lts = l2 at *
    generalize (planesOfM ws).n = z at *
    have s6 := hb6.size
    have S6 : Hid (PlSt w (w6.alloc (.cells #[.int .i64 z, .slice a1 6 c1, .slice a2 160 c2] 28)) b w6.heap.size a l cap (m + 1001) z a1 c1 l1 a2 c2 l2) := Lib.hid ⟨alloc_at _ _ _ rfl, kept_grown (kept_block K2.out hb6) (World.grownBy_alloc w6 _ none) (by simp), own_base (ow1.alloc _) (by omega), own_base (ow2.alloc _) (by omega), ⟨by omega, hbl⟩, (X2.out.2.1.below hb6).below ((Below.refl _ _).alloc (Nat.le_refl _) _), grown_trans (grown_trans X2.out.2.2 (below_grown hb6 _)) (World.grownBy_alloc w6 _ (some b))⟩
    clear ho6 hb6 ow1 ow2 hh1 hh2 ZZ SP PB X2 K2 HW hm1 hm2 mid
    go_wp2_with fail
    refine (curPick b a l cap _ 12 _ hl (by omega) (by omega) S6.out.I).mono ?_
    rintro e w7 ⟨t, rfl, ht, hI7, hg7⟩
    have S7 := Lib.hid (S6.out.pick hI7 hg7)
    clear S6 hI7 hg7
    generalize w6.heap.size = T at *
    by_cases e0 : t = 0
    · subst e0
      obtain ⟨g, rfl, hg⟩ := own_some S7.out.O2 (by omega)
      have SD := Lib.hid (S7.out.below (belowN 1))
      have PK := Lib.hid (curPick b a l cap _ 160 w7.drew hl (by omega) (by omega) SD.out.I)
      have k7 : w7.drew.cell? ⟨T, 2, none⟩ = some (.slice (some ⟨g, 0, none⟩) 160 c2) := cur_cell SD.out.tb 2
      have hgT : T ≠ g := fun e => own_other S7.out.O2 S7.out.tb (by decide) (by rw [e]; rfl)
      go_wp2_with fail
      go_region_held3 (fun w' => w'.cell? ⟨T, 2, none⟩ = some (.slice (some ⟨g, 0, none⟩) 160 c2))
        (first | exact k7 | exact k8 | exact k9 | exact kA)
        (first
          | (go_at_call 59; refine PK.out.mono ?_; rintro e w8 ⟨r, rfl, hr, hI8, hg8⟩; have S8 := Lib.hid (SD.out.pick hI8 hg8); have k8 : w8.cell? ⟨T, 2, none⟩ = some (.slice (some ⟨g, 0, none⟩) 160 c2) := cur_cell S8.out.tb 2; have BT := Lib.hid (curBits b a l cap _ w8 hl (by omega) S8.out.I); have hrN : r < 160 := (by omega); have hrZ : (r : Int) < 160 := (by omega); have hr0 : (0 : Int) ≤ (r : Int) := (by omega); clear hI8 hg8)
          | (go_at_call 89; refine BT.out.mono ?_; rintro e w9 ⟨v, rfl, hv, hI9, hg9⟩; have S9 := Lib.hid (S8.out.pick hI9 hg9); have k9 : w9.cell? ⟨T, 2, none⟩ = some (.slice (some ⟨g, 0, none⟩) 160 c2) := cur_cell S9.out.tb 2; have c1' : w9.cell? ⟨g, r, none⟩ = some ((l2.map uval)[r]'(by have := S9.out.O2.1; simp at this ⊢; omega)) := (by rw [S9.out.O2.cellAt r (by omega), List.getElem?_eq_getElem]); have fr1 := S9.out.O2.frozenAt r; have kA := cell_set (b' := g) (i := r) (u := .int .u64 v) k9 hgT; clear hI9 hg9))
      have F : Hid (PlFin w (w9.setCell ⟨g, r, none⟩ (.int .u64 v)) b T (.int .i64 z) (.slice a1 6 c1) (.slice (some ⟨g, 0, none⟩) 160 c2)) := Lib.hid (S9.out.fin.other (by omega) hgT.symm _)
      clear k7 k8 k9 kA c1' fr1 S9 S8 SD PK BT S7
      generalize w9.setCell ⟨g, r, none⟩ (.int .u64 v) = wE at *
      have t0 : wE.cell? ⟨T, 0, none⟩ = some (.int .i64 z) := cur_cell F.out.tb 0
      have t1 : wE.cell? ⟨T, 1, none⟩ = some (.slice a1 6 c1) := cur_cell F.out.tb 1
      have t2 : wE.cell? ⟨T, 2, none⟩ = some (.slice (some ⟨g, 0, none⟩) 160 c2) := cur_cell F.out.tb 2
      have r0 : wE.cell? ⟨w.heap.size, 0, none⟩ = some (.int .i64 0) := cur_cell F.out.rb 0
      have r1 : wE.cell? ⟨w.heap.size, 1, none⟩ = some (.slice none 0 0) := cur_cell F.out.rb 1
      have r2 : wE.cell? ⟨w.heap.size, 2, none⟩ = some (.slice none 0 0) := cur_cell F.out.rb 2
      have f0 := cur_free F.out.rb 0
      have f1 := cur_free F.out.rb 1
      have f2 := cur_free F.out.rb 2
      have hT0 : w.heap.size < T := F.out.h.1
      have hT1 : ¬ T = w.heap.size := by omega
      have hT2 : ¬ w.heap.size = T := by omega
      go_wp2
      exact bodyPost_ret (v := .agg #[.int .i64 z, .slice a1 6 c1, .slice (some ⟨g, 0, none⟩) 160 c2]) (by simp [results, Try.results62, go_sem, r0, r1, r2]) rfl (F.out.done _ _ _)
    have n0 : ((t : Int) == 0) = false := by simp; omega
    by_cases e1 : t = 1
    · subst e1
      have SD := Lib.hid (S7.out.below (belowN 1))
      have cT7 : w7.cell? ⟨T, 0, none⟩ = some (.int .i64 z) := cur_cell S7.out.tb 0
      have RW := Lib.hid (curRaw b a l cap _ w7.drew hl (by omega) SD.out.I)
      have hwr : IntKind.i64.wrap (z + 1) = z + 1 := by simp [IntKind.wrap, IntKind.bits, IntKind.signed]; omega
      have hTR : w.heap.size < T := S7.out.h.1
      have hTR2 : ¬ T = w.heap.size := by omega
      have hTR3 : ¬ w.heap.size = T := by omega
      go_wp2_with fail
      go_region_law (first
        | (refine step_call (by rfl) 78 #[.pointer (some ⟨b, 0, none⟩)] (by kernel_rfl) _ RW.out ?_; rintro e w8 ⟨y, rfl, hy, hI8, hg8⟩; refine ⟨_, rfl, ?_⟩; have S8 := Lib.hid (SD.out.pick hI8 hg8); have cT8 : w8.cell? ⟨T, 0, none⟩ = some (.int .i64 z) := cur_cell S8.out.tb 0; have hb8 : b < w8.heap.size := hI8.lt; have SB := Lib.hid (S8.out.below (W' := w8.alloc (.cells #[.int .i64 y, .int .i64 (z + 1), .int .i64 64] 3)) ((Below.refl _ _).alloc (Nat.le_refl _) _)); have PA := Lib.hid (curPick b a l cap _ 3 _ hl (by omega) (by omega) S8.out.I); have PB := Lib.hid (curPick b a l cap _ 3 _ hl (by omega) (by omega) SB.out.I); clear hI8 hg8)
        | (refine step_call (by rfl) 59 #[.pointer (some ⟨b, 0, none⟩), .int .i64 3] (by kernel_rfl) _ PB.out ?_; rintro e w9 ⟨r, rfl, hr, hI9, hg9⟩; refine ⟨_, rfl, ?_⟩; obtain ⟨x, hx⟩ := three_at y (z + 1) 64 r hr; have hr3 : r < 3 := (by omega); have hrZ : (r : Int) < 3 := (by omega); have hr0 : (0 : Int) ≤ (r : Int) := (by omega); have hq : w9.cell? ⟨w8.heap.size, r, none⟩ = some (.int .i64 x) := hg9.cell ((lit_new w8 #[.int .i64 y, .int .i64 (z + 1), .int .i64 64] 3 r).trans hx) (by simp; omega); have S9 := SB.out.pick hI9 hg9; have t0 : w9.cell? ⟨T, 0, none⟩ = some (.int .i64 z) := cur_cell S9.tb 0; have t1 : w9.cell? ⟨T, 1, none⟩ = some (.slice a1 6 c1) := cur_cell S9.tb 1; have t2 : w9.cell? ⟨T, 2, none⟩ = some (.slice a2 160 c2) := cur_cell S9.tb 2; have r0 : w9.cell? ⟨w.heap.size, 0, none⟩ = some (.int .i64 0) := cur_cell S9.rb 0; have r1 : w9.cell? ⟨w.heap.size, 1, none⟩ = some (.slice none 0 0) := cur_cell S9.rb 1; have r2 : w9.cell? ⟨w.heap.size, 2, none⟩ = some (.slice none 0 0) := cur_cell S9.rb 2; have f0 := cur_free S9.rb 0; have f1 := cur_free S9.rb 1; have f2 := cur_free S9.rb 2; have fT := cur_free S9.tb 0; have F := Lib.hid (S9.fin.set0 (.int .i64 x)); clear hI9 hg9 hx S9)
        | (refine step_call (by rfl) 59 #[.pointer (some ⟨b, 0, none⟩), .int .i64 3] (by kernel_rfl) _ PA.out ?_; rintro e w9 ⟨r, rfl, hr, hI9, hg9⟩; refine ⟨_, rfl, ?_⟩; obtain ⟨x, hx⟩ := three_at y (z + 1) 64 r hr; have hr3 : r < 3 := (by omega); have hrZ : (r : Int) < 3 := (by omega); have hr0 : (0 : Int) ≤ (r : Int) := (by omega); have hq : (w9.alloc (.cells #[.int .i64 y, .int .i64 (z + 1), .int .i64 64] 3)).cell? ⟨w9.heap.size, r, none⟩ = some (.int .i64 x) := (lit_new w9 #[.int .i64 y, .int .i64 (z + 1), .int .i64 64] 3 r).trans hx; have S9' := S8.out.pick hI9 hg9; have cT9 : w9.cell? ⟨T, 0, none⟩ = some (.int .i64 z) := cur_cell S9'.tb 0; have S9 := S9'.below (W' := (w9.alloc (.cells #[.int .i64 y, .int .i64 (z + 1), .int .i64 64] 3))) ((Below.refl _ _).alloc (Nat.le_refl _) _); have t0 : (w9.alloc (.cells #[.int .i64 y, .int .i64 (z + 1), .int .i64 64] 3)).cell? ⟨T, 0, none⟩ = some (.int .i64 z) := cur_cell S9.tb 0; have t1 : (w9.alloc (.cells #[.int .i64 y, .int .i64 (z + 1), .int .i64 64] 3)).cell? ⟨T, 1, none⟩ = some (.slice a1 6 c1) := cur_cell S9.tb 1; have t2 : (w9.alloc (.cells #[.int .i64 y, .int .i64 (z + 1), .int .i64 64] 3)).cell? ⟨T, 2, none⟩ = some (.slice a2 160 c2) := cur_cell S9.tb 2; have r0 : (w9.alloc (.cells #[.int .i64 y, .int .i64 (z + 1), .int .i64 64] 3)).cell? ⟨w.heap.size, 0, none⟩ = some (.int .i64 0) := cur_cell S9.rb 0; have r1 : (w9.alloc (.cells #[.int .i64 y, .int .i64 (z + 1), .int .i64 64] 3)).cell? ⟨w.heap.size, 1, none⟩ = some (.slice none 0 0) := cur_cell S9.rb 1; have r2 : (w9.alloc (.cells #[.int .i64 y, .int .i64 (z + 1), .int .i64 64] 3)).cell? ⟨w.heap.size, 2, none⟩ = some (.slice none 0 0) := cur_cell S9.rb 2; have f0 := cur_free S9.rb 0; have f1 := cur_free S9.rb 1; have f2 := cur_free S9.rb 2; have fT := cur_free S9.tb 0; have F := Lib.hid (S9.fin.set0 (.int .i64 x)); clear hI9 hg9 hx S9 S9'))
      all_goals
        clear hq
        go_wp2
        exact bodyPost_ret (v := .agg #[.int .i64 x, .slice a1 6 c1, .slice a2 160 c2]) (by simp [results, Try.results62, go_sem, r0, r1, r2]) rfl (F.out.done _ _ _)
    have n1 : ((t : Int) == 1) = false := by simp; omega
    by_cases e2 : t = 2
    · subst e2
      have cT7 : w7.cell? ⟨T, 1, none⟩ = some (.slice a1 6 c1) := cur_cell S7.out.tb 1
      have s7 : w.heap.size + 1 ≤ w7.heap.size := cur_lt S7.out.rb
      have hTR : w.heap.size < T := S7.out.h.1
      have hTR2 : ¬ T = w.heap.size := by omega
      have hTR3 : ¬ w.heap.size = T := by omega
      go_wp2_with (at_builtin; go_must (refine wp_app_row rfl _ _ 26 rfl 43 (.int .u64 0) 8 Try.underlying26 Try.infoU64 rfl (w.heap.size + 1) 6 (.slice a1 6 c1) (l1.map uval) (by rfl) (S7.out.O1.alloc _) (some ⟨w7.heap.size, 0, none⟩) 1 1 [.int .u64 0] (by rfl) rfl (row_one w7 (.int .u64 0) 43) (by simp [Value.oneCell']) (by unfold maxLen; omega) (by omega) (by simp; omega) ?_); intro v8 w8 ho8 hg8; have LW := app_low s7 S7.out.O1 _ hg8; have I8 := Lib.hid (S7.out.I.low LW (by omega)); have F8 : Hid (PlFin w w8 b T (.int .i64 z) (.slice a1 6 c1) (.slice a2 160 c2)) := Lib.hid ⟨kept_grown (kept_grown S7.out.tb (World.grownBy_alloc w7 _ none) (by simp)) hg8 (own_other S7.out.O1 S7.out.tb (by decide)), (LW.block w.heap.size (by omega)).trans S7.out.rb, S7.out.h, grown_low S7.out.G (LW.mono (by omega))⟩; obtain ⟨a8, c8, rfl⟩ := own_shape ho8; obtain ⟨g8, rfl, _⟩ := own_some ho8 (by omega); have hc8 : 7 ≤ c8 := own_cap ho8; clear ho8 hg8 LW)
      refine (curPick b a l cap _ 2 _ hl (by omega) (by omega) I8.out).mono ?_
      rintro e w9 ⟨r, rfl, hr, hI9, hg9⟩
      have F9 : Hid (PlFin w w9 b T (.int .i64 z) (.slice a1 6 c1) (.slice a2 160 c2)) := Lib.hid ⟨kept_grown F8.out.tb hg9 (by simp; omega), kept_grown F8.out.rb hg9 (by simp; omega), F8.out.h, grown_trans F8.out.G hg9⟩
      clear hI9 hg9 F8 I8 S7 cT7
      rcases (show r = 0 ∨ r = 1 from by omega) with rfl | rfl
      · have t1 : w9.cell? ⟨T, 1, none⟩ = some (.slice a1 6 c1) := cur_cell F9.out.tb 1
        have fT := cur_free F9.out.tb 1
        have F := Lib.hid (F9.out.set1 (.slice (some ⟨g8, 0, none⟩) 7 c8))
        have t0 : w9.cell? ⟨T, 0, none⟩ = some (.int .i64 z) := cur_cell F9.out.tb 0
        have t2 : w9.cell? ⟨T, 2, none⟩ = some (.slice a2 160 c2) := cur_cell F9.out.tb 2
        have r0 : w9.cell? ⟨w.heap.size, 0, none⟩ = some (.int .i64 0) := cur_cell F9.out.rb 0
        have r1 : w9.cell? ⟨w.heap.size, 1, none⟩ = some (.slice none 0 0) := cur_cell F9.out.rb 1
        have r2 : w9.cell? ⟨w.heap.size, 2, none⟩ = some (.slice none 0 0) := cur_cell F9.out.rb 2
        have f0 := cur_free F9.out.rb 0
        have f1 := cur_free F9.out.rb 1
        have f2 := cur_free F9.out.rb 2
        clear F9
        go_wp2
        exact bodyPost_ret (v := .agg #[.int .i64 z, .slice (some ⟨g8, 0, none⟩) 7 c8, .slice a2 160 c2]) (by simp [results, Try.results62, go_sem, r0, r1, r2]) rfl (F.out.done _ _ _)
      · have t1 : w9.cell? ⟨T, 1, none⟩ = some (.slice a1 6 c1) := cur_cell F9.out.tb 1
        have fT := cur_free F9.out.tb 1
        have F := Lib.hid (F9.out.set1 (.slice (some ⟨g8, 1, none⟩) 6 (c8 - 1)))
        have t0 : w9.cell? ⟨T, 0, none⟩ = some (.int .i64 z) := cur_cell F9.out.tb 0
        have t2 : w9.cell? ⟨T, 2, none⟩ = some (.slice a2 160 c2) := cur_cell F9.out.tb 2
        have r0 : w9.cell? ⟨w.heap.size, 0, none⟩ = some (.int .i64 0) := cur_cell F9.out.rb 0
        have r1 : w9.cell? ⟨w.heap.size, 1, none⟩ = some (.slice none 0 0) := cur_cell F9.out.rb 1
        have r2 : w9.cell? ⟨w.heap.size, 2, none⟩ = some (.slice none 0 0) := cur_cell F9.out.rb 2
        have f0 := cur_free F9.out.rb 0
        have f1 := cur_free F9.out.rb 1
        have f2 := cur_free F9.out.rb 2
        clear F9
        go_wp2
        exact bodyPost_ret (v := .agg #[.int .i64 z, .slice (some ⟨g8, 1, none⟩) 6 (c8 - 1), .slice a2 160 c2]) (by simp [results, Try.results62, go_sem, r0, r1, r2]) rfl (F.out.done _ _ _)
    have n2 : ((t : Int) == 2) = false := by simp; omega
    by_cases e3 : t = 3
    · subst e3
      obtain ⟨g, rfl, hg⟩ := own_some S7.out.O1 (by omega)
      have SD := Lib.hid (S7.out.below (belowN 1))
      have PK := Lib.hid (curPick b a l cap _ 6 w7.drew hl (by omega) (by omega) SD.out.I)
      have k7 : w7.drew.cell? ⟨T, 1, none⟩ = some (.slice (some ⟨g, 0, none⟩) 6 c1) := cur_cell SD.out.tb 1
      have hgT : T ≠ g := fun e => own_other S7.out.O1 S7.out.tb (by decide) (by rw [e]; rfl)
      go_wp2_with fail
      go_region_held3 (fun w' => w'.cell? ⟨T, 1, none⟩ = some (.slice (some ⟨g, 0, none⟩) 6 c1))
        (first | exact k7 | exact k8 | exact k9 | exact kA)
        (first
          | (go_at_call 59; refine PK.out.mono ?_; rintro e w8 ⟨r, rfl, hr, hI8, hg8⟩; have S8 := Lib.hid (SD.out.pick hI8 hg8); have k8 : w8.cell? ⟨T, 1, none⟩ = some (.slice (some ⟨g, 0, none⟩) 6 c1) := cur_cell S8.out.tb 1; have BT := Lib.hid (curBits b a l cap _ w8 hl (by omega) S8.out.I); have hrN : r < 6 := (by omega); have hrZ : (r : Int) < 6 := (by omega); have hr0 : (0 : Int) ≤ (r : Int) := (by omega); clear hI8 hg8)
          | (go_at_call 89; refine BT.out.mono ?_; rintro e w9 ⟨v, rfl, hv, hI9, hg9⟩; have S9 := Lib.hid (S8.out.pick hI9 hg9); have k9 : w9.cell? ⟨T, 1, none⟩ = some (.slice (some ⟨g, 0, none⟩) 6 c1) := cur_cell S9.out.tb 1; have c1' : w9.cell? ⟨g, r, none⟩ = some ((l1.map uval)[r]'(by have := S9.out.O1.1; simp at this ⊢; omega)) := (by rw [S9.out.O1.cellAt r (by omega), List.getElem?_eq_getElem]); have fr1 := S9.out.O1.frozenAt r; have kA := cell_set (b' := g) (i := r) (u := .int .u64 v) k9 hgT; clear hI9 hg9))
      have F : Hid (PlFin w (w9.setCell ⟨g, r, none⟩ (.int .u64 v)) b T (.int .i64 z) (.slice (some ⟨g, 0, none⟩) 6 c1) (.slice a2 160 c2)) := Lib.hid (S9.out.fin.other (by omega) hgT.symm _)
      clear k7 k8 k9 kA c1' fr1 S9 S8 SD PK BT S7
      generalize w9.setCell ⟨g, r, none⟩ (.int .u64 v) = wE at *
      have t0 : wE.cell? ⟨T, 0, none⟩ = some (.int .i64 z) := cur_cell F.out.tb 0
      have t1 : wE.cell? ⟨T, 1, none⟩ = some (.slice (some ⟨g, 0, none⟩) 6 c1) := cur_cell F.out.tb 1
      have t2 : wE.cell? ⟨T, 2, none⟩ = some (.slice a2 160 c2) := cur_cell F.out.tb 2
      have r0 : wE.cell? ⟨w.heap.size, 0, none⟩ = some (.int .i64 0) := cur_cell F.out.rb 0
      have r1 : wE.cell? ⟨w.heap.size, 1, none⟩ = some (.slice none 0 0) := cur_cell F.out.rb 1
      have r2 : wE.cell? ⟨w.heap.size, 2, none⟩ = some (.slice none 0 0) := cur_cell F.out.rb 2
      have f0 := cur_free F.out.rb 0
      have f1 := cur_free F.out.rb 1
      have f2 := cur_free F.out.rb 2
      have hT0 : w.heap.size < T := F.out.h.1
      have hT1 : ¬ T = w.heap.size := by omega
      have hT2 : ¬ w.heap.size = T := by omega
      go_wp2
      exact bodyPost_ret (v := .agg #[.int .i64 z, .slice (some ⟨g, 0, none⟩) 6 c1, .slice a2 160 c2]) (by simp [results, Try.results62, go_sem, r0, r1, r2]) rfl (F.out.done _ _ _)
    have n3 : ((t : Int) == 3) = false := by simp; omega
    have F := Lib.hid S7.out.fin
    clear S7
    have t0 : w7.cell? ⟨T, 0, none⟩ = some (.int .i64 z) := cur_cell F.out.tb 0
    have t1 : w7.cell? ⟨T, 1, none⟩ = some (.slice a1 6 c1) := cur_cell F.out.tb 1
    have t2 : w7.cell? ⟨T, 2, none⟩ = some (.slice a2 160 c2) := cur_cell F.out.tb 2
    have r0 : w7.cell? ⟨w.heap.size, 0, none⟩ = some (.int .i64 0) := cur_cell F.out.rb 0
    have r1 : w7.cell? ⟨w.heap.size, 1, none⟩ = some (.slice none 0 0) := cur_cell F.out.rb 1
    have r2 : w7.cell? ⟨w.heap.size, 2, none⟩ = some (.slice none 0 0) := cur_cell F.out.rb 2
    have f0 := cur_free F.out.rb 0
    have f1 := cur_free F.out.rb 1
    have f2 := cur_free F.out.rb 2
    have hT0 : w.heap.size < T := F.out.h.1
    have hT1 : ¬ T = w.heap.size := by omega
    have hT2 : ¬ w.heap.size = T := by omega
    go_wp2
    exact bodyPost_ret (v := .agg #[.int .i64 z, .slice a1 6 c1, .slice a2 160 c2]) (by simp [results, Try.results62, go_sem, r0, r1, r2]) rfl (F.out.done _ _ _)
  · go_wp2
    go_loopw [3] (fun v wr => ∃ (q c : Nat) (ad : Option Addr) (ws : List (List UInt8)), q ≤ 64 ∧ v = .slice ad q c ∧ Hid (ws.length = q ∧ strsB ws) ∧ Hid (wr.ownsRow (w.heap.size + 1) 9 1 (.slice ad q c) q (ws.map sval) ∧ CurI wr b a l cap (m + 1001 + 100 * q) ∧ w.grownBy wr (some b)) ∧ Hid (wr.heap[w.heap.size]? = some (.cells #[.int .i64 0, .slice none 0 0, .slice none 0 0] 28 (0, 0)))) (fun v _ => 65 - lenOf v)
    case atStart => exact ⟨q, cp, ad, ws, hq64, rfl, HW, Lib.hid ⟨X2.out.1, X2.out.2.1.more (by omega), X2.out.2.2⟩, K2⟩
    case round =>
      clear X2 HW K2 hq64
      obtain ⟨q, cp, ad, ws, hq64, rfl, HW, H, K3⟩ := hrel
      have s3 : w.heap.size + 1 ≤ wr.heap.size := cur_lt K3.out
      by_cases hlt : q < 64
      · go_wp2_with fail
        refine (curWordW b a l cap _ _ hl (by omega) H.out.2.1).mono ?_
        rintro e w5 ⟨s, rfl, hs, hI5, hg5⟩
        have O5 := Lib.hid (H.out.1.kept hg5 (own_apart H.out.1 (by omega)))
        have G5 := Lib.hid (grown_trans H.out.2.2 hg5)
        have I5 := Lib.hid hI5
        have K5 := Lib.hid (kept_grown K3.out hg5 (by simp; omega))
        have hsz : w.heap.size + 1 ≤ w5.heap.size := cur_lt K5.out
        have SN := Lib.hid (map_snoc ws s)
        have HW2 : Hid ((ws ++ [s.data.toList]).length = q + 1 ∧ strsB (ws ++ [s.data.toList])) := Lib.hid ⟨by simp [HW.out.1], strsB_snoc HW.out.2 (strB_word hs)⟩
        clear hI5 hg5 H hs K3
        go_wp2_with (at_builtin; go_must (refine wp_app_row rfl _ _ 24 rfl 9 (.string ⟨#[]⟩) 16 Try.underlying24 Try.infoStr rfl (w.heap.size + 1) q (.slice ad q cp) (ws.map sval) (by rfl) (O5.out.alloc _) (some ⟨w5.heap.size, 0, none⟩) 1 1 [.string s] (by rfl) rfl (row_one w5 (.string s) 9) (by simp [Value.oneCell']) (by unfold maxLen; omega) (by omega) (by simp; omega) ?_); intro v6 w6 ho6 hg6; have LW := app_low hsz O5.out _ hg6; rw [← SN.out] at ho6; have K6 := Lib.hid (K5.out.symm ▸ LW.block w.heap.size (by omega)); have X6 := Lib.hid (And.intro ho6 (And.intro (I5.out.low LW (by omega)) (grown_low G5.out (LW.mono (by omega))))); obtain ⟨a6, c6, rfl⟩ := own_shape ho6; clear ho6 hg6 LW)
        go_roundw
        case rel => exact ⟨q + 1, c6, a6, _, by omega, rfl, HW2, Lib.hid ⟨X6.out.1, X6.out.2.1.more (by omega), X6.out.2.2⟩, K6⟩
        case measure => simp [lenOf]; omega
      · have PB := Lib.hid (planesB_iff.2 ⟨by rw [HW.out.1]; exact hq64, HW.out.2⟩)
        have SP := Lib.hid (specPlanesOf (.slice ad q cp) ws wr ((StringSOwn.mk H.out.1).read) (fun s hs => small_str (HW.out.2 s hs)))
        go_wp2_with fail
        refine SP.out.mono ?_
        rintro e w6 ⟨d0, d1, d2, rfl, ho6, hb6⟩
        rw [PB.out]
        obtain ⟨mid, rfl, o1, o2, hm1, hm2⟩ := planesOwn_parts ho6
        have ZZ := planesOf_sizes PB.out
        obtain ⟨a1, c1, e1, ow1, hh1⟩ := o1
        obtain ⟨a2, c2, e2, ow2, hh2⟩ := o2
        simp at e1 e2
        subst e1
        subst e2
        rw [ZZ.1] at ow1 ⊢
        rw [ZZ.2.1] at ow2 ⊢
        have hz : 0 ≤ (planesOfM ws).n ∧ (planesOfM ws).n ≤ 64 := by rw [ZZ.2.2, HW.out.1]; omega
        generalize (planesOfM ws).len = l1 at *
        generalize (planesOfM ws).lts = l2 at *
        generalize (planesOfM ws).n = z at *
        have s6 := hb6.size
        have S6 : Hid (PlSt w (w6.alloc (.cells #[.int .i64 z, .slice a1 6 c1, .slice a2 160 c2] 28)) b w6.heap.size a l cap (m + 1001 + 100 * q) z a1 c1 l1 a2 c2 l2) := Lib.hid ⟨alloc_at _ _ _ rfl, kept_grown (kept_block K3.out hb6) (World.grownBy_alloc w6 _ none) (by simp), own_base (ow1.alloc _) (by omega), own_base (ow2.alloc _) (by omega), ⟨by omega, hbl⟩, (H.out.2.1.below hb6).below ((Below.refl _ _).alloc (Nat.le_refl _) _), grown_trans (grown_trans H.out.2.2 (below_grown hb6 _)) (World.grownBy_alloc w6 _ (some b))⟩
        clear ho6 hb6 ow1 ow2 hh1 hh2 ZZ SP PB H K3 HW hm1 hm2 mid
        go_wp2_with fail
        refine (curPick b a l cap _ 12 _ hl (by omega) (by omega) S6.out.I).mono ?_
        rintro e w7 ⟨t, rfl, ht, hI7, hg7⟩
        have S7 := Lib.hid (S6.out.pick hI7 hg7)
        clear S6 hI7 hg7
        generalize w6.heap.size = T at *
        by_cases e0 : t = 0
        · subst e0
          obtain ⟨g, rfl, hg⟩ := own_some S7.out.O2 (by omega)
          have SD := Lib.hid (S7.out.below (belowN 1))
          have PK := Lib.hid (curPick b a l cap _ 160 w7.drew hl (by omega) (by omega) SD.out.I)
          have k7 : w7.drew.cell? ⟨T, 2, none⟩ = some (.slice (some ⟨g, 0, none⟩) 160 c2) := cur_cell SD.out.tb 2
          have hgT : T ≠ g := fun e => own_other S7.out.O2 S7.out.tb (by decide) (by rw [e]; rfl)
          go_wp2_with fail
          go_region_held3 (fun w' => w'.cell? ⟨T, 2, none⟩ = some (.slice (some ⟨g, 0, none⟩) 160 c2))
            (first | exact k7 | exact k8 | exact k9 | exact kA)
            (first
              | (go_at_call 59; refine PK.out.mono ?_; rintro e w8 ⟨r, rfl, hr, hI8, hg8⟩; have S8 := Lib.hid (SD.out.pick hI8 hg8); have k8 : w8.cell? ⟨T, 2, none⟩ = some (.slice (some ⟨g, 0, none⟩) 160 c2) := cur_cell S8.out.tb 2; have BT := Lib.hid (curBits b a l cap _ w8 hl (by omega) S8.out.I); have hrN : r < 160 := (by omega); have hrZ : (r : Int) < 160 := (by omega); have hr0 : (0 : Int) ≤ (r : Int) := (by omega); clear hI8 hg8)
              | (go_at_call 89; refine BT.out.mono ?_; rintro e w9 ⟨v, rfl, hv, hI9, hg9⟩; have S9 := Lib.hid (S8.out.pick hI9 hg9); have k9 : w9.cell? ⟨T, 2, none⟩ = some (.slice (some ⟨g, 0, none⟩) 160 c2) := cur_cell S9.out.tb 2; have c1' : w9.cell? ⟨g, r, none⟩ = some ((l2.map uval)[r]'(by have := S9.out.O2.1; simp at this ⊢; omega)) := (by rw [S9.out.O2.cellAt r (by omega), List.getElem?_eq_getElem]); have fr1 := S9.out.O2.frozenAt r; have kA := cell_set (b' := g) (i := r) (u := .int .u64 v) k9 hgT; clear hI9 hg9))
          have F : Hid (PlFin w (w9.setCell ⟨g, r, none⟩ (.int .u64 v)) b T (.int .i64 z) (.slice a1 6 c1) (.slice (some ⟨g, 0, none⟩) 160 c2)) := Lib.hid (S9.out.fin.other (by omega) hgT.symm _)
          clear k7 k8 k9 kA c1' fr1 S9 S8 SD PK BT S7
          generalize w9.setCell ⟨g, r, none⟩ (.int .u64 v) = wE at *
          have t0 : wE.cell? ⟨T, 0, none⟩ = some (.int .i64 z) := cur_cell F.out.tb 0
          have t1 : wE.cell? ⟨T, 1, none⟩ = some (.slice a1 6 c1) := cur_cell F.out.tb 1
          have t2 : wE.cell? ⟨T, 2, none⟩ = some (.slice (some ⟨g, 0, none⟩) 160 c2) := cur_cell F.out.tb 2
          have r0 : wE.cell? ⟨w.heap.size, 0, none⟩ = some (.int .i64 0) := cur_cell F.out.rb 0
          have r1 : wE.cell? ⟨w.heap.size, 1, none⟩ = some (.slice none 0 0) := cur_cell F.out.rb 1
          have r2 : wE.cell? ⟨w.heap.size, 2, none⟩ = some (.slice none 0 0) := cur_cell F.out.rb 2
          have f0 := cur_free F.out.rb 0
          have f1 := cur_free F.out.rb 1
          have f2 := cur_free F.out.rb 2
          have hT0 : w.heap.size < T := F.out.h.1
          have hT1 : ¬ T = w.heap.size := by omega
          have hT2 : ¬ w.heap.size = T := by omega
          go_wp2
          exact bodyPost_ret (v := .agg #[.int .i64 z, .slice a1 6 c1, .slice (some ⟨g, 0, none⟩) 160 c2]) (by simp [results, Try.results62, go_sem, r0, r1, r2]) rfl (F.out.done _ _ _)
        have n0 : ((t : Int) == 0) = false := by simp; omega
        by_cases e1 : t = 1
        · subst e1
          have SD := Lib.hid (S7.out.below (belowN 1))
          have cT7 : w7.cell? ⟨T, 0, none⟩ = some (.int .i64 z) := cur_cell S7.out.tb 0
          have RW := Lib.hid (curRaw b a l cap _ w7.drew hl (by omega) SD.out.I)
          have hwr : IntKind.i64.wrap (z + 1) = z + 1 := by simp [IntKind.wrap, IntKind.bits, IntKind.signed]; omega
          have hTR : w.heap.size < T := S7.out.h.1
          have hTR2 : ¬ T = w.heap.size := by omega
          have hTR3 : ¬ w.heap.size = T := by omega
          go_wp2_with fail
          go_region_law (first
            | (refine step_call (by rfl) 78 #[.pointer (some ⟨b, 0, none⟩)] (by kernel_rfl) _ RW.out ?_; rintro e w8 ⟨y, rfl, hy, hI8, hg8⟩; refine ⟨_, rfl, ?_⟩; have S8 := Lib.hid (SD.out.pick hI8 hg8); have cT8 : w8.cell? ⟨T, 0, none⟩ = some (.int .i64 z) := cur_cell S8.out.tb 0; have hb8 : b < w8.heap.size := hI8.lt; have SB := Lib.hid (S8.out.below (W' := w8.alloc (.cells #[.int .i64 y, .int .i64 (z + 1), .int .i64 64] 3)) ((Below.refl _ _).alloc (Nat.le_refl _) _)); have PA := Lib.hid (curPick b a l cap _ 3 _ hl (by omega) (by omega) S8.out.I); have PB := Lib.hid (curPick b a l cap _ 3 _ hl (by omega) (by omega) SB.out.I); clear hI8 hg8)
            | (refine step_call (by rfl) 59 #[.pointer (some ⟨b, 0, none⟩), .int .i64 3] (by kernel_rfl) _ PB.out ?_; rintro e w9 ⟨r, rfl, hr, hI9, hg9⟩; refine ⟨_, rfl, ?_⟩; obtain ⟨x, hx⟩ := three_at y (z + 1) 64 r hr; have hr3 : r < 3 := (by omega); have hrZ : (r : Int) < 3 := (by omega); have hr0 : (0 : Int) ≤ (r : Int) := (by omega); have hq : w9.cell? ⟨w8.heap.size, r, none⟩ = some (.int .i64 x) := hg9.cell ((lit_new w8 #[.int .i64 y, .int .i64 (z + 1), .int .i64 64] 3 r).trans hx) (by simp; omega); have S9 := SB.out.pick hI9 hg9; have t0 : w9.cell? ⟨T, 0, none⟩ = some (.int .i64 z) := cur_cell S9.tb 0; have t1 : w9.cell? ⟨T, 1, none⟩ = some (.slice a1 6 c1) := cur_cell S9.tb 1; have t2 : w9.cell? ⟨T, 2, none⟩ = some (.slice a2 160 c2) := cur_cell S9.tb 2; have r0 : w9.cell? ⟨w.heap.size, 0, none⟩ = some (.int .i64 0) := cur_cell S9.rb 0; have r1 : w9.cell? ⟨w.heap.size, 1, none⟩ = some (.slice none 0 0) := cur_cell S9.rb 1; have r2 : w9.cell? ⟨w.heap.size, 2, none⟩ = some (.slice none 0 0) := cur_cell S9.rb 2; have f0 := cur_free S9.rb 0; have f1 := cur_free S9.rb 1; have f2 := cur_free S9.rb 2; have fT := cur_free S9.tb 0; have F := Lib.hid (S9.fin.set0 (.int .i64 x)); clear hI9 hg9 hx S9)
            | (refine step_call (by rfl) 59 #[.pointer (some ⟨b, 0, none⟩), .int .i64 3] (by kernel_rfl) _ PA.out ?_; rintro e w9 ⟨r, rfl, hr, hI9, hg9⟩; refine ⟨_, rfl, ?_⟩; obtain ⟨x, hx⟩ := three_at y (z + 1) 64 r hr; have hr3 : r < 3 := (by omega); have hrZ : (r : Int) < 3 := (by omega); have hr0 : (0 : Int) ≤ (r : Int) := (by omega); have hq : (w9.alloc (.cells #[.int .i64 y, .int .i64 (z + 1), .int .i64 64] 3)).cell? ⟨w9.heap.size, r, none⟩ = some (.int .i64 x) := (lit_new w9 #[.int .i64 y, .int .i64 (z + 1), .int .i64 64] 3 r).trans hx; have S9' := S8.out.pick hI9 hg9; have cT9 : w9.cell? ⟨T, 0, none⟩ = some (.int .i64 z) := cur_cell S9'.tb 0; have S9 := S9'.below (W' := (w9.alloc (.cells #[.int .i64 y, .int .i64 (z + 1), .int .i64 64] 3))) ((Below.refl _ _).alloc (Nat.le_refl _) _); have t0 : (w9.alloc (.cells #[.int .i64 y, .int .i64 (z + 1), .int .i64 64] 3)).cell? ⟨T, 0, none⟩ = some (.int .i64 z) := cur_cell S9.tb 0; have t1 : (w9.alloc (.cells #[.int .i64 y, .int .i64 (z + 1), .int .i64 64] 3)).cell? ⟨T, 1, none⟩ = some (.slice a1 6 c1) := cur_cell S9.tb 1; have t2 : (w9.alloc (.cells #[.int .i64 y, .int .i64 (z + 1), .int .i64 64] 3)).cell? ⟨T, 2, none⟩ = some (.slice a2 160 c2) := cur_cell S9.tb 2; have r0 : (w9.alloc (.cells #[.int .i64 y, .int .i64 (z + 1), .int .i64 64] 3)).cell? ⟨w.heap.size, 0, none⟩ = some (.int .i64 0) := cur_cell S9.rb 0; have r1 : (w9.alloc (.cells #[.int .i64 y, .int .i64 (z + 1), .int .i64 64] 3)).cell? ⟨w.heap.size, 1, none⟩ = some (.slice none 0 0) := cur_cell S9.rb 1; have r2 : (w9.alloc (.cells #[.int .i64 y, .int .i64 (z + 1), .int .i64 64] 3)).cell? ⟨w.heap.size, 2, none⟩ = some (.slice none 0 0) := cur_cell S9.rb 2; have f0 := cur_free S9.rb 0; have f1 := cur_free S9.rb 1; have f2 := cur_free S9.rb 2; have fT := cur_free S9.tb 0; have F := Lib.hid (S9.fin.set0 (.int .i64 x)); clear hI9 hg9 hx S9 S9'))
          all_goals
            clear hq
            go_wp2
            exact bodyPost_ret (v := .agg #[.int .i64 x, .slice a1 6 c1, .slice a2 160 c2]) (by simp [results, Try.results62, go_sem, r0, r1, r2]) rfl (F.out.done _ _ _)
        have n1 : ((t : Int) == 1) = false := by simp; omega
        by_cases e2 : t = 2
        · subst e2
          have cT7 : w7.cell? ⟨T, 1, none⟩ = some (.slice a1 6 c1) := cur_cell S7.out.tb 1
          have s7 : w.heap.size + 1 ≤ w7.heap.size := cur_lt S7.out.rb
          have hTR : w.heap.size < T := S7.out.h.1
          have hTR2 : ¬ T = w.heap.size := by omega
          have hTR3 : ¬ w.heap.size = T := by omega
          go_wp2_with (at_builtin; go_must (refine wp_app_row rfl _ _ 26 rfl 43 (.int .u64 0) 8 Try.underlying26 Try.infoU64 rfl (w.heap.size + 1) 6 (.slice a1 6 c1) (l1.map uval) (by rfl) (S7.out.O1.alloc _) (some ⟨w7.heap.size, 0, none⟩) 1 1 [.int .u64 0] (by rfl) rfl (row_one w7 (.int .u64 0) 43) (by simp [Value.oneCell']) (by unfold maxLen; omega) (by omega) (by simp; omega) ?_); intro v8 w8 ho8 hg8; have LW := app_low s7 S7.out.O1 _ hg8; have I8 := Lib.hid (S7.out.I.low LW (by omega)); have F8 : Hid (PlFin w w8 b T (.int .i64 z) (.slice a1 6 c1) (.slice a2 160 c2)) := Lib.hid ⟨kept_grown (kept_grown S7.out.tb (World.grownBy_alloc w7 _ none) (by simp)) hg8 (own_other S7.out.O1 S7.out.tb (by decide)), (LW.block w.heap.size (by omega)).trans S7.out.rb, S7.out.h, grown_low S7.out.G (LW.mono (by omega))⟩; obtain ⟨a8, c8, rfl⟩ := own_shape ho8; obtain ⟨g8, rfl, _⟩ := own_some ho8 (by omega); have hc8 : 7 ≤ c8 := own_cap ho8; clear ho8 hg8 LW)
          refine (curPick b a l cap _ 2 _ hl (by omega) (by omega) I8.out).mono ?_
          rintro e w9 ⟨r, rfl, hr, hI9, hg9⟩
          have F9 : Hid (PlFin w w9 b T (.int .i64 z) (.slice a1 6 c1) (.slice a2 160 c2)) := Lib.hid ⟨kept_grown F8.out.tb hg9 (by simp; omega), kept_grown F8.out.rb hg9 (by simp; omega), F8.out.h, grown_trans F8.out.G hg9⟩
          clear hI9 hg9 F8 I8 S7 cT7
          rcases (show r = 0 ∨ r = 1 from by omega) with rfl | rfl
          · have t1 : w9.cell? ⟨T, 1, none⟩ = some (.slice a1 6 c1) := cur_cell F9.out.tb 1
            have fT := cur_free F9.out.tb 1
            have F := Lib.hid (F9.out.set1 (.slice (some ⟨g8, 0, none⟩) 7 c8))
            have t0 : w9.cell? ⟨T, 0, none⟩ = some (.int .i64 z) := cur_cell F9.out.tb 0
            have t2 : w9.cell? ⟨T, 2, none⟩ = some (.slice a2 160 c2) := cur_cell F9.out.tb 2
            have r0 : w9.cell? ⟨w.heap.size, 0, none⟩ = some (.int .i64 0) := cur_cell F9.out.rb 0
            have r1 : w9.cell? ⟨w.heap.size, 1, none⟩ = some (.slice none 0 0) := cur_cell F9.out.rb 1
            have r2 : w9.cell? ⟨w.heap.size, 2, none⟩ = some (.slice none 0 0) := cur_cell F9.out.rb 2
            have f0 := cur_free F9.out.rb 0
            have f1 := cur_free F9.out.rb 1
            have f2 := cur_free F9.out.rb 2
            clear F9
            go_wp2
            exact bodyPost_ret (v := .agg #[.int .i64 z, .slice (some ⟨g8, 0, none⟩) 7 c8, .slice a2 160 c2]) (by simp [results, Try.results62, go_sem, r0, r1, r2]) rfl (F.out.done _ _ _)
          · have t1 : w9.cell? ⟨T, 1, none⟩ = some (.slice a1 6 c1) := cur_cell F9.out.tb 1
            have fT := cur_free F9.out.tb 1
            have F := Lib.hid (F9.out.set1 (.slice (some ⟨g8, 1, none⟩) 6 (c8 - 1)))
            have t0 : w9.cell? ⟨T, 0, none⟩ = some (.int .i64 z) := cur_cell F9.out.tb 0
            have t2 : w9.cell? ⟨T, 2, none⟩ = some (.slice a2 160 c2) := cur_cell F9.out.tb 2
            have r0 : w9.cell? ⟨w.heap.size, 0, none⟩ = some (.int .i64 0) := cur_cell F9.out.rb 0
            have r1 : w9.cell? ⟨w.heap.size, 1, none⟩ = some (.slice none 0 0) := cur_cell F9.out.rb 1
            have r2 : w9.cell? ⟨w.heap.size, 2, none⟩ = some (.slice none 0 0) := cur_cell F9.out.rb 2
            have f0 := cur_free F9.out.rb 0
            have f1 := cur_free F9.out.rb 1
            have f2 := cur_free F9.out.rb 2
            clear F9
            go_wp2
            exact bodyPost_ret (v := .agg #[.int .i64 z, .slice (some ⟨g8, 1, none⟩) 6 (c8 - 1), .slice a2 160 c2]) (by simp [results, Try.results62, go_sem, r0, r1, r2]) rfl (F.out.done _ _ _)
        have n2 : ((t : Int) == 2) = false := by simp; omega
        by_cases e3 : t = 3
        · subst e3
          obtain ⟨g, rfl, hg⟩ := own_some S7.out.O1 (by omega)
          have SD := Lib.hid (S7.out.below (belowN 1))
          have PK := Lib.hid (curPick b a l cap _ 6 w7.drew hl (by omega) (by omega) SD.out.I)
          have k7 : w7.drew.cell? ⟨T, 1, none⟩ = some (.slice (some ⟨g, 0, none⟩) 6 c1) := cur_cell SD.out.tb 1
          have hgT : T ≠ g := fun e => own_other S7.out.O1 S7.out.tb (by decide) (by rw [e]; rfl)
          go_wp2_with fail
          go_region_held3 (fun w' => w'.cell? ⟨T, 1, none⟩ = some (.slice (some ⟨g, 0, none⟩) 6 c1))
            (first | exact k7 | exact k8 | exact k9 | exact kA)
            (first
              | (go_at_call 59; refine PK.out.mono ?_; rintro e w8 ⟨r, rfl, hr, hI8, hg8⟩; have S8 := Lib.hid (SD.out.pick hI8 hg8); have k8 : w8.cell? ⟨T, 1, none⟩ = some (.slice (some ⟨g, 0, none⟩) 6 c1) := cur_cell S8.out.tb 1; have BT := Lib.hid (curBits b a l cap _ w8 hl (by omega) S8.out.I); have hrN : r < 6 := (by omega); have hrZ : (r : Int) < 6 := (by omega); have hr0 : (0 : Int) ≤ (r : Int) := (by omega); clear hI8 hg8)
              | (go_at_call 89; refine BT.out.mono ?_; rintro e w9 ⟨v, rfl, hv, hI9, hg9⟩; have S9 := Lib.hid (S8.out.pick hI9 hg9); have k9 : w9.cell? ⟨T, 1, none⟩ = some (.slice (some ⟨g, 0, none⟩) 6 c1) := cur_cell S9.out.tb 1; have c1' : w9.cell? ⟨g, r, none⟩ = some ((l1.map uval)[r]'(by have := S9.out.O1.1; simp at this ⊢; omega)) := (by rw [S9.out.O1.cellAt r (by omega), List.getElem?_eq_getElem]); have fr1 := S9.out.O1.frozenAt r; have kA := cell_set (b' := g) (i := r) (u := .int .u64 v) k9 hgT; clear hI9 hg9))
          have F : Hid (PlFin w (w9.setCell ⟨g, r, none⟩ (.int .u64 v)) b T (.int .i64 z) (.slice (some ⟨g, 0, none⟩) 6 c1) (.slice a2 160 c2)) := Lib.hid (S9.out.fin.other (by omega) hgT.symm _)
          clear k7 k8 k9 kA c1' fr1 S9 S8 SD PK BT S7
          generalize w9.setCell ⟨g, r, none⟩ (.int .u64 v) = wE at *
          have t0 : wE.cell? ⟨T, 0, none⟩ = some (.int .i64 z) := cur_cell F.out.tb 0
          have t1 : wE.cell? ⟨T, 1, none⟩ = some (.slice (some ⟨g, 0, none⟩) 6 c1) := cur_cell F.out.tb 1
          have t2 : wE.cell? ⟨T, 2, none⟩ = some (.slice a2 160 c2) := cur_cell F.out.tb 2
          have r0 : wE.cell? ⟨w.heap.size, 0, none⟩ = some (.int .i64 0) := cur_cell F.out.rb 0
          have r1 : wE.cell? ⟨w.heap.size, 1, none⟩ = some (.slice none 0 0) := cur_cell F.out.rb 1
          have r2 : wE.cell? ⟨w.heap.size, 2, none⟩ = some (.slice none 0 0) := cur_cell F.out.rb 2
          have f0 := cur_free F.out.rb 0
          have f1 := cur_free F.out.rb 1
          have f2 := cur_free F.out.rb 2
          have hT0 : w.heap.size < T := F.out.h.1
          have hT1 : ¬ T = w.heap.size := by omega
          have hT2 : ¬ w.heap.size = T := by omega
          go_wp2
          exact bodyPost_ret (v := .agg #[.int .i64 z, .slice (some ⟨g, 0, none⟩) 6 c1, .slice a2 160 c2]) (by simp [results, Try.results62, go_sem, r0, r1, r2]) rfl (F.out.done _ _ _)
        have n3 : ((t : Int) == 3) = false := by simp; omega
        have F := Lib.hid S7.out.fin
        clear S7
        have t0 : w7.cell? ⟨T, 0, none⟩ = some (.int .i64 z) := cur_cell F.out.tb 0
        have t1 : w7.cell? ⟨T, 1, none⟩ = some (.slice a1 6 c1) := cur_cell F.out.tb 1
        have t2 : w7.cell? ⟨T, 2, none⟩ = some (.slice a2 160 c2) := cur_cell F.out.tb 2
        have r0 : w7.cell? ⟨w.heap.size, 0, none⟩ = some (.int .i64 0) := cur_cell F.out.rb 0
        have r1 : w7.cell? ⟨w.heap.size, 1, none⟩ = some (.slice none 0 0) := cur_cell F.out.rb 1
        have r2 : w7.cell? ⟨w.heap.size, 2, none⟩ = some (.slice none 0 0) := cur_cell F.out.rb 2
        have f0 := cur_free F.out.rb 0
        have f1 := cur_free F.out.rb 1
        have f2 := cur_free F.out.rb 2
        have hT0 : w.heap.size < T := F.out.h.1
        have hT1 : ¬ T = w.heap.size := by omega
        have hT2 : ¬ w.heap.size = T := by omega
        go_wp2
        exact bodyPost_ret (v := .agg #[.int .i64 z, .slice a1 6 c1, .slice a2 160 c2]) (by simp [results, Try.results62, go_sem, r0, r1, r2]) rfl (F.out.done _ _ _)
end Go.Proofs.Ytfdlmpjccoaejaa
namespace Go.Proofs.Ytfdlmpjccoaejaa
open Go.RowKit
set_option linter.unusedVariables false
set_option maxRecDepth 100000

def DrawnPW (w : World) (e : Ending) (w' : World) : Prop :=
  ∃ (p : ByteArray) (z : Int) (a1 : Option Addr) (n1 k1 : Nat) (a2 : Option Addr) (n2 k2 : Nat), e = .returned (.tuple #[.string p, .agg #[.int .i64 z, .slice a1 n1 k1, .slice a2 n2 k2]]) ∧ p.size ≤ 96 ∧ Below w.heap.size w w'
set_option maxHeartbeats 4000000 in
theorem drawBatchCapped (a : Option Addr) (l : List UInt8) (cap : Nat) (w : World) (hl : l.length ≤ 1048576) (r : Row w a (l.map bval)) :
    Calls Try.prog 16 #[.slice a l.length cap] w (DrawnPW w) := by
  have hb0 : Below w.heap.size w (w.alloc (.cells #[.int .i64 0, .slice none 0 0, .slice none 0 0] 28)) := (Below.refl _ _).alloc (Nat.le_refl _) _
  have K0 := Lib.hid (alloc_at w (.cells #[.int .i64 0, .slice none 0 0, .slice none 0 0] 28) _ rfl)
  have CO := Lib.hid (curOpen a l cap (w.alloc (.cells #[.int .i64 0, .slice none 0 0, .slice none 0 0] 28)) hl (r.below hb0))
  have B0 := Lib.hid hb0
  have z0 : (w.alloc (.cells #[.int .i64 0, .slice none 0 0, .slice none 0 0] 28)).heap.size = w.heap.size + 1 := by simp
  clear r hb0
  go_enter Try.func16, Try.ntmps16
  go_wp2_with fail
  refine CO.out.mono ?_
  rintro e w1 ⟨rfl, hI1, hB1⟩
  rw [z0] at hI1 ⊢
  have I1 := Lib.hid hI1
  have B1 := Lib.hid (below_seq B0.out hB1)
  have K1 := Lib.hid (kept_block K0.out hB1)
  clear hI1 hB1 CO B0 K0
  go_wp2_with fail
  refine (curBadWord (w.heap.size + 1) a l cap _ _ hl (by omega) I1.out).mono ?_
  rintro e w2 ⟨s, rfl, hs, hI2, hg2⟩
  have I2 := Lib.hid hI2
  have B2 := Lib.hid (below_write B1.out hg2 (by omega))
  have K2 := Lib.hid (kept_grown K1.out hg2 (by simp))
  clear hI2 hg2 I1 B1 K1
  go_wp2_with fail
  refine (curPlanes (w.heap.size + 1) a l cap _ _ hl (by omega) I2.out).mono ?_
  rintro e w3 ⟨z, a1, n1, k1, a2, n2, k2, rfl, hg3⟩
  have B3 := Lib.hid (below_write B2.out hg3 (by omega))
  have K3 := kept_grown K2.out hg3 (by simp)
  have r0 : w3.cell? ⟨w.heap.size, 0, none⟩ = some (.int .i64 0) := cur_cell K3 0
  have r1 : w3.cell? ⟨w.heap.size, 1, none⟩ = some (.slice none 0 0) := cur_cell K3 1
  have r2 : w3.cell? ⟨w.heap.size, 2, none⟩ = some (.slice none 0 0) := cur_cell K3 2
  have f0 := cur_free K3 0
  have f1 := cur_free K3 1
  have f2 := cur_free K3 2
  have BB : Hid (Below w.heap.size w (((w3.setCell ⟨w.heap.size, 0, none⟩ (.int .i64 z)).setCell ⟨w.heap.size, 1, none⟩ (.slice a1 n1 k1)).setCell ⟨w.heap.size, 2, none⟩ (.slice a2 n2 k2))) := Lib.hid (((B3.out.setCell (p := ⟨w.heap.size, 0, none⟩) (Nat.le_refl _) _).setCell (p := ⟨w.heap.size, 1, none⟩) (Nat.le_refl _) _).setCell (p := ⟨w.heap.size, 2, none⟩) (Nat.le_refl _) _)
  clear hg3 B3 K3 B2 K2 I2
  go_wp2
  exact bodyPost_ret (v := .tuple #[.string s, .agg #[.int .i64 z, .slice a1 n1 k1, .slice a2 n2 k2]]) (by simp [results, Try.results16, go_sem, r0, r1, r2]) rfl ⟨s, z, a1, n1, k1, a2, n2, k2, rfl, hs, BB.out⟩
end Go.Proofs.Ytfdlmpjccoaejaa
namespace Go.Proofs.Ytfdlmpjccoaejaa
open Go.RowKit
set_option linter.unusedVariables false

set_option maxHeartbeats 800000 in
theorem lawsSameWords (a1 a2 : Option Addr) (c1 c2 : Nat) (l1 l2 : List (List UInt8)) (w : World) (h1 : l1.length ≤ maxLen) (h2 : l2.length ≤ maxLen) (r1 : Row w a1 (l1.map sval)) (r2 : Row w a2 (l2.map sval)) :
    Calls Try.prog 19 #[.slice a1 l1.length c1, .slice a2 l2.length c2] w fun e w' => e = .returned (.bool (l1 == l2)) ∧ ∃ n, w' = w.drewN n := by
  unfold maxLen at h1 h2
  by_cases hl : l1.length = l2.length
  · have hlB : ((l1.length : Int) != (l2.length : Int)) = false := by simp [hl]
    have HL := Lib.hid hl
    have hll : l1.length ≤ l2.length := by omega
    clear hl
    have R1 := Lib.hid r1
    have R2 := Lib.hid r2
    clear r1 r2
    go_enter Try.func19, Try.ntmps19
    go_wp2
    go_loopw [5] (fun i wr => ∃ k n : Nat, k ≤ l1.length ∧ i = .int .i64 k ∧ wr = w.drewN n ∧ Hid (l1.take k = l2.take k)) (fun i _ => l1.length - (intOf i).toNat)
    case atStart => exact ⟨0, 0, Nat.zero_le _, rfl, rfl, Lib.hid rfl⟩
    case round =>
      obtain ⟨k, n, hk, rfl, rfl, H⟩ := hrel
      by_cases hlt : k < l1.length
      · have hlt2 : k < l2.length := by omega
        obtain ⟨b1, o1, rfl, q1⟩ := R1.out.at (i := k) (by simpa using hlt)
        obtain ⟨b2, o2, rfl, q2⟩ := R2.out.at (i := k) (by simpa using hlt2)
        rw [sval_at hlt] at q1
        rw [sval_at hlt2] at q2
        have E1 := Lib.hid (seq_at hlt hlt2)
        have E2 := Lib.hid (seq_both hlt hlt2 H.out)
        have e1 : (strL l1[k]).toList = l1[k] := ByteArray.toList_mk _
        have e2 : (strL l2[k]).toList = l2[k] := ByteArray.toList_mk _
        by_cases hxy : l1[k] = l2[k]
        · have hB : ((strL l1[k]).toList == (strL l2[k]).toList) = true := by rw [e1, e2]; simpa using hxy
          have E3 := Lib.hid (E2.out hxy)
          clear hxy e1 e2
          generalize strL l1[k] = x at *
          generalize strL l2[k] = y at *
          go_wp2
          go_quiet (fail)
          go_wp2
          go_roundw
          case rel => exact ⟨k + 1, _, by omega, by go_num, rfl, E3⟩
          case measure => simp [intOf]; omega
        · have hB : ((strL l1[k]).toList == (strL l2[k]).toList) = false := by rw [e1, e2]; simpa using hxy
          have E3 := Lib.hid (E1.out hxy)
          clear hxy e1 e2
          generalize strL l1[k] = x at *
          generalize strL l2[k] = y at *
          go_wp2
          go_quiet (fail)
          go_wp2
          go_ret
          exact ⟨ret_bool E3.out.symm, _, World.drewN_drewN _ _ _⟩
      · have E3 := Lib.hid (seq_take HL.out k (by omega) H.out)
        go_wp2
        go_ret
        exact ⟨ret_bool E3.out.symm, n, rfl⟩
  · have HE : Hid ((l1 == l2) = false) := Lib.hid (by rw [beq_eq_false_iff_ne]; intro e; subst e; exact hl rfl)
    have hlB : ((l1.length : Int) != (l2.length : Int)) = true := by simp; omega
    clear hl
    go_enter Try.func19, Try.ntmps19
    go_wp2
    go_ret
    exact ⟨ret_bool HE.out.symm, 0, rfl⟩

end Go.Proofs.Ytfdlmpjccoaejaa
namespace Go.Proofs.Ytfdlmpjccoaejaa
open Go.RowKit
set_option linter.unusedVariables false
set_option maxRecDepth 100000

theorem run_index {V : Nat → Value} {k vc : Nat} {va : Option Addr} (hk : k < 33) (ev : V k = .slice va 6 vc) (w : World) : (Instr.index 75 (.agg (cellsG 33 V)) (.int .i64 (k : Nat))).run Try.prog w = .ok (.slice va 6 vc) w := by
  have h1 := cellsG_at V hk
  rw [ev] at h1
  simp [Instr.index, asIntOf, run_underlying Try.underlying75, hk, part]
  rw [h1]
  rfl
set_option maxHeartbeats 4000000 in
theorem implAt (V : Nat → Value) (N : Nat → List Nat) (c1 : Value) (lens : List Nat) (w : World) (hR : RowIn V N w) (hI : Uint64SIn [c1] lens w) (h6 : lens.length = 6) (hb : bd64 lens) :
    Calls Try.prog 71 #[.agg (cellsG 33 V), c1] w (Uint64SRet (atL N lens) w) := by
  obtain ⟨a1, x1, rfl, _, _, _⟩ := uint64SIn_shape hI
  have HR := Lib.hid hR
  have LW := Lib.hid (fun (n : Nat) w' (hn : n < 64) (hb' : Below w.heap.size w w') => implLanesWith _ lens n w' (hI.below hb') hb (by omega) hn)
  obtain ⟨i0, hi, hz0, hz1, hz2⟩ := info_parts Try.infoU64
  clear hR hI h6 hb
  go_enter Try.func71, Try.ntmps71
  go_wp2_with (refine wp_arrG_box rfl 75 _ rfl 33 V rfl ?_)
  intro w1 A1 G1 S1
  go_wp2_with (at_make; refine wpList_make_full _ rfl _ _ 26 rfl (w.heap.size + 1) 43 i0 (.int .u64 0) 1 Try.underlying26 hi hz0 hz1 .i64 .i64 _ _ 6 rfl rfl rfl rfl (by rw [hz2]; omega) (by unfold maxLen; omega) (by omega) ?_)
  clear hi hz0 hz1 hz2
  intro w2 hown hgr
  rw [toList_madeCells_one] at hown
  have B2 := (grown_below G1).trans ((grown_below hgr).mono (by omega))
  have A2 : ArrG w2 w.heap.size 75 33 V := A1.kept hgr (by simp)
  have U2 : ArrU w2 (w.heap.size + 1) 43 6 (atR N lens 0) := own_arrG hown
  have H0 := Lib.hid (And.intro U2 B2)
  clear hown hgr A1 G1 B2 U2
  go_wp2_with (refine wp_arrG_load rfl 75 _ rfl _ _ 33 _ _ Try.underlying75 rfl Try.sizeRow rfl A2 ?_)
  clear A2 S1
  have hL : w.heap.size < w.heap.size + 1 := by omega
  generalize w.heap.size + 1 = D at *
  go_loopw [12, 6, 7, 8, 9] (fun i _ _ _ _ wr => ∃ k : Nat, k ≤ 33 ∧ i = .int .i64 k ∧ Hid (ArrU wr D 43 6 (atR N lens k) ∧ Below w.heap.size w wr)) (fun i _ _ _ _ _ => 33 - (intOf i).toNat)
  case atStart => exact ⟨0, by omega, rfl, H0⟩
  case round =>
    clear H0
    obtain ⟨k, hk, rfl, H⟩ := hrel
    by_cases hlt : k < 33
    · have hd : decide ((k : Int) < 33) = true := by simp; omega
      have C := Lib.hid (LW.out k wr (by omega) H.out.2)
      obtain ⟨va, vc, ev⟩ := HR.out.shape hlt
      have ek := run_index hlt ev
      have IK : Hid (∀ w', Below w.heap.size w w' → Uint64SIn [.slice va 6 vc] (N k) w') := Lib.hid (fun w' hb' => by have := (HR.out.below hb').rd k hlt; rw [ev] at this; exact this)
      have lw := withN_lt lens k
      have lN := HR.out.bd k hlt
      have A1 : Hid (ArrU wr D 43 6 (progN (atR N lens (k + 1)) (atR N lens k) 0) ∧ Below w.heap.size w wr) := Lib.hid ⟨by rw [progN_zero]; exact H.out.1, H.out.2⟩
      have SR : Hid (∀ i, atR N lens (k + 1) i = atR N lens k i ||| ((N k).getD i 0 &&& withN lens k)) := Lib.hid (fun i => rfl)
      have LR : Hid (∀ i, atR N lens k i < 18446744073709551616) := Lib.hid (fun i => atR_lt lens k i)
      generalize hG1 : atR N lens (k + 1) = G1 at *
      have HG1 := Lib.hid hG1
      generalize atR N lens k = G0 at *
      generalize withN lens k = mv at *
      have l6 := Lib.hid (HR.out.six k hlt)
      clear H ev hG1
      go_wp2_with fail
      refine C.out.mono ?_
      rintro e w3 ⟨rfl, rfl⟩
      clear C ek hd
      go_wp2
      go_loopw [21, 9] (fun i _ wq => ∃ j : Nat, j ≤ 6 ∧ i = .int .i64 j ∧ Hid (ArrU wq D 43 6 (progN G1 G0 j) ∧ Below w.heap.size w wq)) (fun i _ _ => 6 - (intOf i).toNat)
      case atStart => exact ⟨0, by omega, rfl, A1⟩
      case round =>
        clear A1
        obtain ⟨j, hj, rfl, H⟩ := hrel
        by_cases hj6 : j < 6
        · obtain ⟨b, off, cap', e, q⟩ := in_at (IK.out wr H.out.2) (i := j) (by rw [l6.out]; exact hj6)
          simp at e
          obtain ⟨rfl, -, rfl⟩ := e
          have hc := H.out.1.cell hj6
          rw [progN_at] at hc
          have hf := H.out.1.free j
          have RS := Lib.hid (progN_set G1 G0 j)
          have ej := SR.out j
          have R := Lib.hid (And.intro ((H.out.1.drew 1).set j (G1 j)) ((below_seq H.out.2 (belowN 1)).setCell (p := ⟨D, j, none⟩) (by simp; omega) (.int .u64 ((G1 j : Nat) : Int))))
          rw [RS.out] at R
          have hu := LR.out j
          have hx := lN.at j
          generalize (N k).getD j 0 = x at *
          generalize G0 j = u at *
          generalize G1 j = v at *
          have q1 := u64_and_nat x mv hx lw
          have l1 : x &&& mv < 18446744073709551616 := Nat.and_lt_two_pow (n := 64) _ lw
          generalize x &&& mv = y at *
          have q2 := u64_or_nat u y hu l1
          rw [← ej] at q2
          have i1 : (0 : Int) ≤ (j : Int) := by omega
          have i2 : (j : Int) < 6 := by omega
          clear H RS ej
          go_wp2
          go_region
          go_wp2
          go_roundw
          case rel => exact ⟨j + 1, by omega, by go_num, R⟩
          case measure => simp [intOf]; omega
        · have hj' : j = 6 := by omega
          subst hj'
          have Dn : Hid (ArrU wr D 43 6 G1 ∧ Below w.heap.size w wr) := Lib.hid ⟨H.out.1.ext fun i hi => by unfold progN; rw [if_pos hi], H.out.2⟩
          clear H
          go_wp2
          go_roundw
          case rel => exact ⟨k + 1, by omega, by go_num, Lib.hid ⟨by rw [HG1.out]; exact Dn.out.1, Dn.out.2⟩⟩
          case measure => simp [intOf]; omega
    · have hk' : k = 33 := by omega
      subst hk'
      go_wp2
      go_ret
      exact ⟨_, rfl, H.out.1.mk (by omega) (by unfold maxLen; omega) rfl, H.out.2⟩
end Go.Proofs.Ytfdlmpjccoaejaa
namespace Go.Proofs.Ytfdlmpjccoaejaa
open Go.RowKit
set_option linter.unusedVariables false
set_option maxRecDepth 100000

theorem still_arrG_load {P : Program} {w : World} {ops : Array Oper} {rest : List Oper} {o : Oper} {a : Act} {Q : Act → Prop} (hgd : o.guard = none) (ty : TypeId) (x : Operand) (ho : o.op = .load ty x) (d : TypeDesc) (b n : Nat) (t : TypeId) (F : Nat → Value)
    (hu : P.underlying ty = some d) (hd : (match d with | .struct _ | .array _ _ => true | _ => false) = true) (hi : (P.info? ty).map (·.size) = some n)
    (hx : a.eval x = .pointer (some ⟨b, 0, none⟩)) (ha : ArrG w b t n F) (h : wpStill P ops w Q rest (a.put o.dst (.agg (cellsG n F)))) : wpStill P ops w Q (o :: rest) a := by
  refine wpStill_step fun K hK => ?_
  have hw : Region.wanted o (yielded ops a.tmps) = true := by simp [Region.wanted, hgd]
  rw [if_pos hw]
  unfold Oper.still execOp
  simp only [ho, hx, Instr.loadAt, Instr.sureAddr, Sem.run_bind, Sem.run_pure, Result.andThen_ok, run_loadVar_row w b t ty (cellsG n F) (0, 0) d ha hu hd (by rw [cellsG_size]; exact hi)]
  rw [Oper.stillUpon_value]
  exact hK _ h
/-- A call that leaves the world as it was, in the head of a region that draws its order. -/
theorem still_call {P : Program} {w : World} {ops : Array Oper} {rest : List Oper} {o : Oper} {a : Act} {Q : Act → Prop} (hgd : o.guard = none) (f : FuncId) (xs : Array Operand) (ts : Array TypeId)
    (ho : o.op = .call { callee := .value (.func f), args := xs, argTypes := ts }) (args : Array Value) (hargs : xs.map a.eval = args) (hcf : ∀ args w, (callFunc f args).run P w = .ok (.enter f args) w)
    (v : Value) (hc : Calls P f args w (fun e w' => e = .returned v ∧ w' = w)) (h : wpStill P ops w Q rest (a.put o.dst v)) : wpStill P ops w Q (o :: rest) a := by
  refine wpStill_step fun K hK => ?_
  have hw : Region.wanted o (yielded ops a.tmps) = true := by simp [Region.wanted, hgd]
  rw [if_pos hw]
  have hfun : a.eval (.func f) = .func (.func f) #[] #[] := rfl
  have hx : (execOp a.eval o).run P w = .ok (.enter f args) w := by
    unfold execOp
    simp [ho, resolve, Deferred.ofValue, invoke, hfun, hargs, hcf]
  unfold Oper.still
  rw [hx]
  exact ⟨rfl, v, hc, hK _ h⟩
theorem nil_intsO (lo hi : Nat) (w : World) : IntSOwn lo hi [.slice none 0 0] [] w := ⟨none, 0, rfl, ⟨rfl, .inl ⟨rfl, rfl⟩⟩, fun k hk => by simp [Value.ownBlock] at hk⟩
theorem ok_fits {m : PlanesM} (h : planesOkB m = true) : 0 ≤ m.n ∧ m.n ≤ 64 ∧ m.len.length = 6 ∧ m.lts.length = 160 := by
  unfold planesOkB okOf fitsB at h
  simp only [Bool.and_eq_true, decide_eq_true_eq] at h
  exact ⟨h.1.1.1.1.1.1, h.1.1.1.1.1.2, h.1.1.1.1.2, h.1.1.1.2⟩
set_option maxHeartbeats 8000000 in
theorem implBatch (p : ByteArray) (c0 c1 c2 : Value) (m : PlanesM) (w : World) (hp : p.size ≤ maxLen) (h : PlanesIn [c0, c1, c2] m w) (hb : planesBd m) :
    Calls Try.prog 22 #[.string p, .agg #[c0, c1, c2]] w (IntSRet (batchM p.data.toList m) w) := by
  obtain ⟨a1, x1, a2, x2, rfl, rfl, rfl, l1, l2⟩ := planesIn_cells h
  unfold maxLen at hp
  have B1 := Lib.hid (below_box (Below.refl w.heap.size w) (.cells #[.int .i64 m.n, .slice a1 m.len.length x1, .slice a2 m.lts.length x2] 28))
  have C := Lib.hid (implPlanesOk _ _ _ m _ ((h.lies.below B1.out).now) hb)
  have BLK := Lib.hid (alloc_at w (.cells #[.int .i64 m.n, .slice a1 m.len.length x1, .slice a2 m.lts.length x2] 28) _ rfl)
  have LP := Lib.hid (len_data p)
  cases hP : planesOkB m
  · rw [hP] at C
    have E := Lib.hid (batch_no (p := p.data.toList) (.inl hP))
    clear h hb l1 l2 hP
    go_enter Try.func22, Try.ntmps22
    go_wp2_with fail
    refine C.out.mono ?_
    rintro e w2 ⟨rfl, hb2⟩
    go_wp2
    go_ret
    exact ⟨_, rfl, by rw [E.out]; exact nil_intsO _ _ _, below_seq B1.out hb2⟩
  rw [hP] at C
  by_cases hp32 : 32 < p.size
  · have E := Lib.hid (batch_no (p := p.data.toList) (m := m) (.inr (by rw [LP.out]; exact hp32)))
    clear h hb l1 l2 hP
    go_enter Try.func22, Try.ntmps22
    go_wp2_with fail
    refine C.out.mono ?_
    rintro e w2 ⟨rfl, hb2⟩
    go_wp2
    go_ret
    exact ⟨_, rfl, by rw [E.out]; exact nil_intsO _ _ _, below_seq B1.out hb2⟩
  obtain ⟨f1, f2, f3, f4⟩ := ok_fits hP
  have HM := Lib.hid h
  have HB := Lib.hid hb
  have HF := Lib.hid (And.intro f3 (And.intro f4 hP))
  have E := Lib.hid (batch_yes (p := p.data.toList) hP (by rw [LP.out]; omega))
  have WL := Lib.hid (wordsS_length m)
  obtain ⟨n, hn⟩ : ∃ n : Nat, m.n = n := ⟨m.n.toNat, by omega⟩
  rw [hn] at WL
  rw [Int.toNat_natCast] at WL
  have hn64 : n ≤ 64 := by omega
  rw [hn] at B1 C BLK ⊢
  clear h hb l1 l2 hP f1 f2 f3 f4 hn
  go_enter Try.func22, Try.ntmps22
  go_wp2_with fail
  refine C.out.mono ?_
  rintro e w2 ⟨rfl, hb2⟩
  have K2 := Lib.hid (And.intro (kept_block BLK.out hb2) (below_seq B1.out hb2))
  clear hb2 C BLK B1
  have FD := Lib.hid (implFirst w2)
  go_wp2_with fail
  refine FD.out.mono ?_
  rintro e w3 ⟨V0, rfl, hR0, hb3⟩
  have R0 := Lib.hid hR0
  have K3 := Lib.hid (And.intro (kept_block K2.out.1 hb3) (below_seq K2.out.2 hb3))
  clear hR0 hb3 K2 FD
  go_wp2_with (refine wp_arrG_new rfl 75 rfl 33 _ Try.zeroRow ?_)
  intro w4 A4 G4 S4
  have hb4 := grown_below G4
  have R4 := Lib.hid (R0.out.below hb4)
  have K4 := Lib.hid (And.intro (kept_block K3.out.1 hb4) (below_seq K3.out.2 hb4))
  have hBR : w.heap.size < w3.heap.size := cur_lt K3.out.1
  clear K3 R0 G4 hb4
  go_wp2_with (refine wp_arrG_store rfl 75 _ _ rfl _ 33 _ _ _ Try.sizeRow R4.out.one rfl rfl A4 ?_)
  intro w5 A5 G5 S5
  have R5 := Lib.hid (R4.out.keep A4 nil_slices G5)
  have K5 := Lib.hid (And.intro (kept_grown K4.out.1 G5 (by simp; omega)) (below_write K4.out.2 G5 (by omega)))
  have X0 : Hid (ArrG w5 w3.heap.size 75 33 V0 ∧ RowIn V0 allN w5 ∧ (∀ j, j < 33 → ∀ l, l < 64 → getN (allN j) l = dN p.data.toList m 0 j l) ∧ w5.heap[w.heap.size]? = some (.cells #[.int .i64 n, .slice a1 m.len.length x1, .slice a2 m.lts.length x2] 28 (0, 0)) ∧ Below w.heap.size w w5) := Lib.hid ⟨A5, R5.out, fun j hj l hl => by rw [allN_get (by omega) hl, dN_zero _ _ _ _ (by omega)], K5.out.1, K5.out.2⟩
  clear A4 A5 G5 S4 S5 R4 R5 K4 K5
  generalize w3.heap.size = BR at *
  go_wp2
  go_loopw [21, 6] (fun i _ wr => ∃ (k : Nat) (V : Nat → Value) (N : Nat → List Nat), k ≤ p.size ∧ i = .int .i64 k ∧ Hid (ArrG wr BR 75 33 V ∧ RowIn V N wr ∧ (∀ j, j < 33 → ∀ l, l < 64 → getN (N j) l = dN p.data.toList m k j l) ∧ wr.heap[w.heap.size]? = some (.cells #[.int .i64 n, .slice a1 m.len.length x1, .slice a2 m.lts.length x2] 28 (0, 0)) ∧ Below w.heap.size w wr)) (fun i _ _ => p.size - (intOf i).toNat)
  case atStart => exact ⟨0, V0, allN, Nat.zero_le _, rfl, X0⟩
  case round =>
    clear X0
    obtain ⟨k, V, N, hk, rfl, H⟩ := hrel
    by_cases hlt : k < p.size
    · obtain ⟨_, s1, s2⟩ := planesIn_shape ((HM.out.lies.below H.out.2.2.2.2).now)
      have LN := Lib.hid ((implLetter p[k] wr.drew).mono (fun e w' (h : e = .returned (.int .i64 ((letN p[k] : Nat) : Int)) ∧ wr.drew = w') => And.intro h.1 h.2.symm))
      have hln := letN_lt p[k]
      have NX := Lib.hid (implNext V N (.slice a2 m.lts.length x2) m (letN p[k]) wr.drew (H.out.2.1.below (belowN 1)) (s2.below (belowN 1)) HF.out.2.1 HB.out.2.2 (by omega))
      have ND := Lib.hid (next_get (N := N) (m := m) (p := p.data.toList) (i := k) HF.out.2.1 HB.out.2.2 (by rw [LP.out]; exact hlt) (by rw [LP.out]; omega) H.out.2.1.six H.out.2.2.1)
      have eb : p.data.toList[k]'(by rw [LP.out]; exact hlt) = p[k] := rfl
      rw [eb] at ND
      have q2 : wr.drew.cell? ⟨w.heap.size, 2, none⟩ = some (.slice a2 m.lts.length x2) := cur_cell H.out.2.2.2.1 2
      have AA : ArrG wr.drew BR 75 33 V := H.out.1
      have SLV := Lib.hid H.out.2.1.slices
      have HD := Lib.hid (And.intro (show wr.drew.heap[w.heap.size]? = _ from H.out.2.2.2.1) (below_drew H.out.2.2.2.2))
      have hi0 : (0 : Int) ≤ (k : Int) := by omega
      have hi1 : (k : Int) < (p.size : Int) := by omega
      clear s1 s2 eb
      generalize letN p[k] = num at *
      go_wp2
      refine wp_region_still_tail 7 (by kernel_rfl) (by kernel_rfl) ?_
      simp only [List.take_succ_cons, List.take_zero, List.drop_succ_cons, List.drop_zero]
      refine still_arrG_load rfl 75 _ rfl _ BR 33 _ V Try.underlying75 rfl Try.sizeRow rfl AA ?_
      iterate 5 still_step
      refine still_call rfl 70 _ _ rfl _ (by kernel_rfl) Try.call70 _ LN.out ?_
      refine wpStill_nil ?_
      change wpList _ _ _ _ _ wr.drew
      go_wp2_with fail
      refine NX.out.mono ?_
      rintro e w7 ⟨V7, rfl, hR7, hb7⟩
      have R7 := Lib.hid hR7
      have A7 := AA.below hb7
      have K7 := Lib.hid (And.intro (kept_block HD.out.1 hb7) (below_seq HD.out.2 hb7))
      clear hR7 hb7 NX AA
      go_wp2_with (refine wp_arrG_store rfl 75 _ _ rfl _ 33 _ _ _ Try.sizeRow R7.out.one rfl rfl A7 ?_)
      intro w8 A8 G8 S8
      have X8 := Lib.hid (And.intro A8 (And.intro (R7.out.keep A7 SLV.out G8) (And.intro (kept_grown K7.out.1 G8 (by simp; omega)) (below_write K7.out.2 G8 (by omega)))))
      clear A7 A8 G8 S8 R7 K7
      go_wp2
      go_roundw
      case rel => exact ⟨k + 1, V7, _, by omega, by go_num, Lib.hid ⟨X8.out.1, X8.out.2.1, ND.out, X8.out.2.2.1, X8.out.2.2.2⟩⟩
      case measure => simp [intOf]; omega
    · have hk' : k = p.size := by omega
      subst hk'
      have AA := H.out.1
      have q1 : wr.cell? ⟨w.heap.size, 1, none⟩ = some (.slice a1 m.len.length x1) := cur_cell H.out.2.2.2.1 1
      obtain ⟨_, s1, s2⟩ := planesIn_shape ((HM.out.lies.below H.out.2.2.2.2).now)
      have AT := Lib.hid (implAt V N _ m.len wr H.out.2.1 s1 HF.out.1 HB.out.2.1)
      clear s1 s2
      go_wp2_with (refine wp_arrG_load rfl 75 _ rfl _ _ 33 _ _ Try.underlying75 rfl Try.sizeRow rfl AA ?_)
      clear AA
      go_wp2_with fail
      refine AT.out.mono ?_
      rintro e w6 ⟨c6, rfl, ho6, hb6⟩
      obtain ⟨a6, n6, k6, rfl⟩ := ho6.shape
      have I6 := Lib.hid ho6.read
      have K6 := Lib.hid (And.intro (kept_block H.out.2.2.2.1 hb6) (below_seq H.out.2.2.2.2 hb6))
      have C7 := Lib.hid (implInAll 7 w6 (by omega))
      clear ho6 hb6 AT q1
      go_wp2_with fail
      refine C7.out.mono ?_
      rintro e w7 ⟨c7, rfl, ho7, hb7⟩
      obtain ⟨a7, n7, k7, rfl⟩ := ho7.shape
      have K7 := Lib.hid (And.intro (kept_block K6.out.1 hb7) (below_seq K6.out.2 hb7))
      have C8 := Lib.hid (implNumsMin _ _ _ _ w7 (I6.out.below hb7) ho7.read (atL_lt N m.len) (allN_lt 7))
      clear ho7 hb7 C7 I6 K6
      go_wp2_with fail
      refine C8.out.mono ?_
      rintro e w8 ⟨c8, rfl, ho8, hb8⟩
      obtain ⟨a8, n8, k8, rfl⟩ := ho8.shape
      have K8 := Lib.hid (And.intro (kept_block K7.out.1 hb8) (below_seq K7.out.2 hb8))
      have I8 := Lib.hid ho8.read
      have CAP : Hid (∀ l (hl : l < (wordsS m).length), ((getN (minM (atL N m.len) (allN 7)) l : Nat) : Int) = capN p.data.toList (wordsS m)[l]) := Lib.hid (fun l hl => lane_cap HF.out.2.2 (by rw [LP.out]; omega) HF.out.1 HB.out.2.1 H.out.2.1.six (by rw [LP.out]; exact H.out.2.2.1) hl)
      have NL : Hid ((minM (atL N m.len) (allN 7)).length ≤ 16 ∧ bd64 (minM (atL N m.len) (allN 7))) := Lib.hid ⟨minM_length _ _, minM_lt _ _⟩
      clear ho8 hb8 C8 K7 H
      generalize minM (atL N m.len) (allN 7) = M at *
      have q0 : w8.cell? ⟨w.heap.size, 0, none⟩ = some (.int .i64 n) := cur_cell K8.out.1 0
      obtain ⟨i0, hi, hz0, hz1, hz2⟩ := info_parts Try.info3
      go_wp2_with (at_make; refine wpList_make_full _ rfl _ _ 36 rfl w8.heap.size 3 i0 (.int .i64 0) 1 Try.underlying36 hi hz0 hz1 .i64 .i64 _ _ n rfl rfl rfl rfl (by rw [hz2]; omega) (by unfold maxLen; omega) (Nat.le_refl _) ?_)
      clear hi hz0 hz1 hz2 q0
      intro w9 hown hgr
      rw [toList_madeCells_one] at hown
      have A0 : Hid (ArrG w9 w8.heap.size 3 n (progG (iF (fun l => getN M l)) (fun _ => .int .i64 0) 0) ∧ Below w8.heap.size w8 w9) := Lib.hid ⟨by rw [progG_zero]; exact own_arrG hown, grown_below hgr⟩
      clear hown hgr
      go_wp2
      go_loopw [44, 9] (fun i _ wq => ∃ k : Nat, k ≤ n ∧ i = .int .i64 k ∧ Hid (ArrG wq w8.heap.size 3 n (progG (iF (fun l => getN M l)) (fun _ => .int .i64 0) k) ∧ Below w8.heap.size w8 wq)) (fun i _ _ => n - (intOf i).toNat)
      case atStart => exact ⟨0, Nat.zero_le _, rfl, A0⟩
      case round =>
        clear A0
        obtain ⟨l, hl, rfl, H⟩ := hrel
        by_cases hln : l < n
        · have C := Lib.hid (implNumAt _ M l wr (I8.out.below H.out.2) NL.out.2)
          rw [numZ_in NL.out.1 (by omega)] at C
          have hc := H.out.1.cell hln
          rw [progG_at] at hc
          have hf := H.out.1.free l
          have RS := Lib.hid (progG_set (iF (fun l => getN M l)) (fun _ => .int .i64 0) l)
          have R := Lib.hid (And.intro (H.out.1.set l (iF (fun l => getN M l) l)) (H.out.2.setCell (p := ⟨w8.heap.size, l, none⟩) (Nat.le_refl _) (iF (fun l => getN M l) l)))
          rw [RS.out] at R
          have ei : iF (fun l => getN M l) l = .int .i64 ((getN M l : Nat) : Int) := rfl
          rw [ei] at R
          clear RS H ei
          generalize hv : getN M l = v at C R
          clear hv
          go_wp2_with fail
          refine C.out.mono ?_
          rintro e w3 ⟨rfl, rfl⟩
          go_wp2
          go_roundw
          case rel => exact ⟨l + 1, by omega, by go_num, R⟩
          case measure => simp [intOf]; omega
        · have hl' : l = n := by omega
          subst hl'
          have O : Hid (IntSOwn w8.heap.size wr.heap.size [.slice (some ⟨w8.heap.size, 0, none⟩) l l] (batchM p.data.toList m) wr) := Lib.hid (ints_own H.out.1 (Nat.le_refl _) (by unfold maxLen; omega) (by rw [E.out, List.length_map, WL.out]) (fun i hi => by
            have hi2 : i < (wordsS m).length := by rw [E.out, List.length_map] at hi; exact hi
            have e1 : (batchM p.data.toList m)[i] = capN p.data.toList (wordsS m)[i] := by
              have := E.out
              simp only [this, List.getElem_map]
            unfold progG
            rw [if_pos (by have := WL.out; omega), e1, ← CAP.out i hi2]
            rfl))
          go_wp2
          go_ret
          exact ⟨_, rfl, O.out.wide K8.out.2.size (Nat.le_refl _), below_seq K8.out.2 H.out.2⟩
end Go.Proofs.Ytfdlmpjccoaejaa
