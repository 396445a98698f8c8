/- The drawings of chapter 5. -/
import Derived.Test.YtcjcklpmlfoloaaDrawP
import Derived.Test.YtcjcklpmlfoloaaEdV
import Derived.Test.YtcjcklpmlfoloaaBigIs
namespace Go.Proofs.Ytcjcklpmlfoloaa
open Go.RowKit
set_option linter.unusedVariables false

def PairOut (w : World) (e : Ending) (w' : World) : Prop := ∃ s t : ByteArray, e = .returned (.tuple #[.string s, .string t]) ∧ s.size ≤ 200 ∧ t.size ≤ 200 ∧ Below w.heap.size w w'
set_option maxHeartbeats 800000 in
theorem drawEditText (a : Option Addr) (l : List UInt8) (cap : Nat) (w : World) (hl : l.length ≤ 1048576) (r : Row w a (l.map bval)) : Calls Try.prog 12 #[.slice a l.length cap] w (PairOut w) := by
  have R := Lib.hid r
  clear r
  go_enter Try.func12, Try.ntmps12
  go_wp2_with fail
  refine (curOpen a l cap _ hl R.out).mono ?_
  rintro e w1 ⟨rfl, hI1, hb1⟩
  have I1 := Lib.hid hI1
  clear hI1
  go_wp2_with fail
  refine (curPair w.heap.size a l cap 0 _ hl (by omega) I1.out).mono ?_
  rintro e w2 ⟨s, t, rfl, hs, ht, _, hg2⟩
  go_wp2
  go_ret2
  exact ⟨s, t, rfl, hs, ht, below_write hb1 hg2 (Nat.le_refl _)⟩
set_option maxHeartbeats 800000 in
theorem drawDistance (a : Option Addr) (l : List UInt8) (cap : Nat) (w : World) (hl : l.length ≤ 1048576) (r : Row w a (l.map bval)) : Calls Try.prog 19 #[.slice a l.length cap] w (PairOut w) := by
  have R := Lib.hid r
  clear r
  go_enter Try.func19, Try.ntmps19
  go_wp2_with fail
  refine (curOpen a l cap _ hl R.out).mono ?_
  rintro e w1 ⟨rfl, hI1, hb1⟩
  have I1 := Lib.hid hI1
  clear hI1
  go_wp2_with fail
  refine (curPair w.heap.size a l cap 0 _ hl (by omega) I1.out).mono ?_
  rintro e w2 ⟨s, t, rfl, hs, ht, _, hg2⟩
  go_wp2
  go_ret2
  exact ⟨s, t, rfl, hs, ht, below_write hb1 hg2 (Nat.le_refl _)⟩
set_option maxHeartbeats 800000 in
theorem drawCapped (a : Option Addr) (l : List UInt8) (cap : Nat) (w : World) (hl : l.length ≤ 1048576) (r : Row w a (l.map bval)) : Calls Try.prog 20 #[.slice a l.length cap] w (PairOut w) := by
  have R := Lib.hid r
  clear r
  go_enter Try.func20, Try.ntmps20
  go_wp2_with fail
  refine (curOpen a l cap _ hl R.out).mono ?_
  rintro e w1 ⟨rfl, hI1, hb1⟩
  have I1 := Lib.hid hI1
  clear hI1
  go_wp2_with fail
  refine (curPair w.heap.size a l cap 0 _ hl (by omega) I1.out).mono ?_
  rintro e w2 ⟨s, t, rfl, hs, ht, _, hg2⟩
  go_wp2
  go_ret2
  exact ⟨s, t, rfl, hs, ht, below_write hb1 hg2 (Nat.le_refl _)⟩
def litsE : Array Value := #[.string ⟨#[100, 105]⟩, .string ⟨#[105, 100]⟩, .string ⟨#[107]⟩, .string ⟨#[120]⟩, .string ⟨#[115]⟩]
theorem litsE_at (r : Nat) (h : r < 5 ∨ r = 0) : ∃ x : ByteArray, x.size ≤ 2 ∧ litsE[r]? = some (.string x) := by
  rcases (show r = 0 ∨ r = 1 ∨ r = 2 ∨ r = 3 ∨ r = 4 from by omega) with rfl | rfl | rfl | rfl | rfl
  · exact ⟨_, by decide, rfl⟩
  · exact ⟨_, by decide, rfl⟩
  · exact ⟨_, by decide, rfl⟩
  · exact ⟨_, by decide, rfl⟩
  · exact ⟨_, by decide, rfl⟩
theorem text_size (a b : List UInt8) : (strL (editTextL a b)).size ≤ 64 := by
  rw [strL_size]
  unfold editTextL
  by_cases h : 32 < a.length ∨ 32 < b.length
  · rw [if_pos h]; simp
  · rw [if_neg h]; have := edits_length (a.length + b.length) a b; omega
def TripleOut (w : World) (e : Ending) (w' : World) : Prop := ∃ q s t : ByteArray, e = .returned (.tuple #[.string q, .string s, .string t]) ∧ q.size ≤ 500 ∧ s.size ≤ 200 ∧ t.size ≤ 200 ∧ Below w.heap.size w w'
set_option maxRecDepth 100000 in
set_option maxHeartbeats 4000000 in
theorem drawEditCost (a : Option Addr) (l : List UInt8) (cap : Nat) (W0 : World) (hl : l.length ≤ 1048576) (r : Row W0 a (l.map bval)) : Calls Try.prog 17 #[.slice a l.length cap] W0 (TripleOut W0) := by
  have R := Lib.hid r
  clear r
  go_enter Try.func17, Try.ntmps17
  go_wp2_with fail
  refine (curOpen a l cap _ hl R.out).mono ?_
  rintro e w ⟨rfl, hI1, hb1⟩
  have I1 := Lib.hid hI1
  have B1 := Lib.hid hb1
  clear hI1 hb1
  obtain ⟨b, hb⟩ : ∃ b, b = W0.heap.size := ⟨_, rfl⟩
  rw [← hb] at I1 ⊢
  have hb0 : W0.heap.size ≤ b := by omega
  clear hb
  go_wp2_with fail
  refine (curPair b a l cap 0 _ hl (by omega) I1.out).mono ?_
  rintro e w1 ⟨s, u, rfl, hs, hu, hI2, hg2⟩
  have I2 := Lib.hid hI2
  have G2 := Lib.hid hg2
  clear hI2 hg2 I1
  go_wp2_with fail
  refine (specEditText s u _ (by unfold maxLen; omega) (by unfold maxLen; omega)).mono ?_
  rintro e w2 ⟨rfl, hb2⟩
  have ht := text_size s.data.toList u.data.toList
  generalize strL (editTextL s.data.toList u.data.toList) = t at *
  have I3 := Lib.hid (I2.out.below hb2)
  have G3 := Lib.hid (grown_trans G2.out (below_grown hb2 (some b)))
  clear hb2 I2 G2
  go_wp2_with fail
  refine (curPick b a l cap _ 4 _ hl (by omega) (by omega) I3.out).mono ?_
  rintro e w9 ⟨r, rfl, hr, hI4, hg4⟩
  have I4 := Lib.hid hI4
  have G4 := Lib.hid (grown_trans G3.out hg4)
  clear hI4 hg4 I3 G3
  by_cases h0 : r = 0
  · subst h0
    go_wp2_with fail
    rw [show (t.size : Int) + 1 = ((t.size + 1 : Nat) : Int) from by omega]
    refine (curPick b a l cap _ (t.size + 1) _ hl (by omega) (by omega) I4.out).mono ?_
    rintro e w3 ⟨i, rfl, hi, hI3, hg3⟩
    have hit : i ≤ t.size := by omega
    have I3 := Lib.hid (hI3.more (show 0 + 1000 + 1 + 1 ≤ 1002 + 1 by omega))
    have G3 := Lib.hid (grown_trans G4.out hg3)
    have hb3 := I3.out.lt
    clear hI3 hg3 I4 G4 hi
    have IA := Lib.hid (I3.out.below (w' := w3.drew) (belowN 1))
    have IB := Lib.hid (I3.out.below (w' := (w3.alloc (.cells litsE 9)).drew) (((Below.refl _ _).alloc (Nat.le_refl _) _).drew))
    have GA := Lib.hid (grown_trans G3.out (drewN_grown w3 1 (some b)))
    have GB := Lib.hid (grown_trans G3.out (grown_trans (World.grownBy_alloc w3 (.cells litsE 9) (some b)) (drewN_grown _ 1 _)))
    have CA := Lib.hid (curPick b a l cap (1002 + 1) 5 w3.drew hl (by omega) (by omega) IA.out)
    have CB := Lib.hid (curPick b a l cap (1002 + 1) 5 (w3.alloc (.cells litsE 9)).drew hl (by omega) (by omega) IB.out)
    go_wp2
    go_region_law (first
      | (refine step_callW w3.drew rfl (by rfl) 35 _ _ (by rfl) _ (by kernel_rfl) Try.call35 _ CA.out ?_; rintro e w4 ⟨r4, rfl, hr4', hI4, hg4⟩; refine ⟨_, rfl, ?_⟩; obtain ⟨x, hx, hxl⟩ := litsE_at r4 hr4'; have hr44 : r4 < 5 := (by omega); have n1 : (0 : Int) ≤ (r4 : Int) := (by omega); have n2 : (r4 : Int) < 5 := (by omega); have n3 : ¬ 9223372036854775807 < i + x.size := (by omega); have I4 := Lib.hid hI4; have XL := Lib.hid hxl; have hb4 := hI4.lt; have G4 : Hid (w.grownBy w4 (some b)) := Lib.hid (grown_trans GA.out hg4); have qb : (w4.alloc (.cells #[.string ⟨#[100, 105]⟩, .string ⟨#[105, 100]⟩, .string ⟨#[107]⟩, .string ⟨#[120]⟩, .string ⟨#[115]⟩] 9)).cell? ⟨w4.heap.size, r4, none⟩ = some (.string x) := (lit_new w4 litsE 9 r4).trans hxl; clear hI4 hg4 hxl)
      | (refine step_callW (w3.alloc (.cells litsE 9)).drew rfl (by rfl) 35 _ _ (by rfl) _ (by kernel_rfl) Try.call35 _ CB.out ?_; rintro e w4 ⟨r4, rfl, hr4', hI4, hg4⟩; refine ⟨_, rfl, ?_⟩; obtain ⟨x, hx, hxl⟩ := litsE_at r4 hr4'; have hr44 : r4 < 5 := (by omega); have n1 : (0 : Int) ≤ (r4 : Int) := (by omega); have n2 : (r4 : Int) < 5 := (by omega); have n3 : ¬ 9223372036854775807 < i + x.size := (by omega); have I4 := Lib.hid hI4; have XL := Lib.hid hxl; have hb4 := hI4.lt; have G4 : Hid (w.grownBy w4 (some b)) := Lib.hid (grown_trans GB.out hg4); have qa : w4.cell? ⟨w3.heap.size, r4, none⟩ = some (.string x) := hg4.cell ((lit_new w3 litsE 9 r4).trans hxl) (by simp; omega); clear hI4 hg4 hxl)
      | (refine step_callW w4 rfl (by rfl) 35 _ _ (by rfl) _ (by kernel_rfl) Try.call35 _ (curPick b a l cap (1002 + 1 + 1) 2 w4 hl (by omega) (by omega) I4.out) ?_; rintro e w5 ⟨r5, rfl, hr5, hI5, hg5⟩; refine ⟨_, rfl, ?_⟩; have hr52 : r5 < 2 := (by omega); have I5 := Lib.hid hI5; obtain ⟨v, hv, hvi, hvt⟩ := min_nat (P := Try.prog) t.size ((i : Int) + (r5 : Int)) (by omega); have HV := Lib.hid hv; have hiv : i ≤ v := (by omega); clear hv hvi; have hwr : IntKind.i64.wrap ((i : Int) + (r5 : Int)) = (i : Int) + (r5 : Int) := IntWalk.i64_in _ (by omega); have n4 : ¬ 9223372036854775807 < i + x.size + (t.size - v) := (by omega); have G5 : Hid (w.grownBy w5 (some b)) := Lib.hid (grown_trans G4.out hg5); (first | (have qc : w5.cell? ⟨w3.heap.size, r4, none⟩ = some (.string x) := hg5.cell qa (by simp; omega)) | (have qc : (w5.alloc (.cells #[.string ⟨#[100, 105]⟩, .string ⟨#[105, 100]⟩, .string ⟨#[107]⟩, .string ⟨#[120]⟩, .string ⟨#[115]⟩] 9)).cell? ⟨w5.heap.size, r4, none⟩ = some (.string x) := (lit_new w5 litsE 9 r4).trans XL.out)); clear hI5 hg5)
      | (refine step_callW (w4.alloc (.cells #[.string ⟨#[100, 105]⟩, .string ⟨#[105, 100]⟩, .string ⟨#[107]⟩, .string ⟨#[120]⟩, .string ⟨#[115]⟩] 9)) rfl (by rfl) 35 _ _ (by rfl) _ (by kernel_rfl) Try.call35 _ (curPick b a l cap (1002 + 1 + 1) 2 (w4.alloc (.cells #[.string ⟨#[100, 105]⟩, .string ⟨#[105, 100]⟩, .string ⟨#[107]⟩, .string ⟨#[120]⟩, .string ⟨#[115]⟩] 9)) hl (by omega) (by omega) (I4.out.below ((Below.refl _ _).alloc (Nat.le_refl _) _))) ?_; rintro e w5 ⟨r5, rfl, hr5, hI5, hg5⟩; refine ⟨_, rfl, ?_⟩; have hr52 : r5 < 2 := (by omega); have I5 := Lib.hid hI5; obtain ⟨v, hv, hvi, hvt⟩ := min_nat (P := Try.prog) t.size ((i : Int) + (r5 : Int)) (by omega); have HV := Lib.hid hv; have hiv : i ≤ v := (by omega); clear hv hvi; have hwr : IntKind.i64.wrap ((i : Int) + (r5 : Int)) = (i : Int) + (r5 : Int) := IntWalk.i64_in _ (by omega); have n4 : ¬ 9223372036854775807 < i + x.size + (t.size - v) := (by omega); have G5 : Hid (w.grownBy w5 (some b)) := Lib.hid (grown_trans (grown_trans G4.out (World.grownBy_alloc w4 _ (some b))) hg5); have qc : w5.cell? ⟨w4.heap.size, r4, none⟩ = some (.string x) := hg5.cell qb (by simp; omega); clear hI5 hg5)
      | (refine step_min (by rfl) _ _ _ (by rfl) _ _ _ (by rfl) (by rfl) HV.out ?_))
    all_goals
      have J2 : Hid ((t.extract 0 i ++ x ++ t.extract v t.size).size ≤ 500) := Lib.hid (by simp only [ByteArray.size_append, ByteArray.size_extract]; omega)
      clear qc
      go_wp2
      go_ret3
      first
        | exact ⟨_, s, u, rfl, J2.out, hs, hu, below_write B1.out G5.out hb0⟩
        | exact ⟨_, s, u, rfl, J2.out, hs, hu, below_write B1.out (grown_trans G5.out (World.grownBy_alloc w5 _ (some b))) hb0⟩
  have r0 : ((r : Int) == 0) = false := by simp; omega
  by_cases h1 : r = 1
  · subst h1
    go_wp2
    go_loop [8, 10] (fun qv kv => ∃ (k : Nat) (q : ByteArray), k ≤ s.size ∧ qv = .string q ∧ kv = .int .i64 k ∧ q.size = s.size - k) (fun _ kv => (intOf kv).toNat)
    case atStart => exact ⟨s.size, _, Nat.le_refl _, rfl, rfl, by simp; rfl⟩
    case round =>
      obtain ⟨k, q, hk, rfl, rfl, hq⟩ := hrel
      by_cases hlt : 0 < k
      · have hb1 : q.size + 1 ≤ 9223372036854775807 := by omega
        go_wp2
        go_round
        case rel => exact ⟨k - 1, _, by omega, rfl, by go_num, by rw [ByteArray.size_append, show (ByteArray.mk #[100]).size = 1 from rfl]; omega⟩
        case measure => simp [intOf]; omega
      · have hk0 : k = 0 := by omega
        subst hk0
        go_wp2
        go_loop [8, 11] (fun qv kv => ∃ (k : Nat) (q : ByteArray), k ≤ u.size ∧ qv = .string q ∧ kv = .int .i64 k ∧ q.size = s.size + (u.size - k)) (fun _ kv => (intOf kv).toNat)
        case atStart => exact ⟨u.size, q, Nat.le_refl _, rfl, rfl, by omega⟩
        case round =>
          clear hq
          obtain ⟨k, q, hk, rfl, rfl, hq⟩ := hrel
          by_cases hlt : 0 < k
          · have hb1 : q.size + 1 ≤ 9223372036854775807 := by omega
            go_wp2
            go_round
            case rel => exact ⟨k - 1, _, by omega, rfl, by go_num, by rw [ByteArray.size_append, show (ByteArray.mk #[105]).size = 1 from rfl]; omega⟩
            case measure => simp [intOf]; omega
          · have hk0 : k = 0 := by omega
            subst hk0
            go_wp2
            go_ret3
            exact ⟨q, s, u, rfl, by omega, hs, hu, below_write B1.out G4.out hb0⟩
  have r1 : ((r : Int) == 1) = false := by simp; omega
  go_wp2
  go_ret3
  exact ⟨t, s, u, rfl, by omega, hs, hu, below_write B1.out G4.out hb0⟩
end Go.Proofs.Ytcjcklpmlfoloaa
