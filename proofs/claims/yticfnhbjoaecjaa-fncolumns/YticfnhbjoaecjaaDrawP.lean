/- Two drawn words, often near one another: what 'pair' and the drawings of chapter 5 leave. -/
import Derived.Test.YticfnhbjoaecjaaBad
import Derived.Test.YticfnhbjoaecjaaApp
namespace Go.Proofs.Yticfnhbjoaecjaa
open Go.RowKit
set_option linter.unusedVariables false

def lits4 : Array Value := #[.string ⟨#[]⟩, .string ⟨#[97]⟩, .string ⟨#[98]⟩, .string ⟨#[120]⟩]
theorem lits4_at (r : Nat) (h : r < 4 ∨ r = 0) : ∃ x : ByteArray, x.size ≤ 2 ∧ lits4[r]? = some (.string x) := by
  rcases (show r = 0 ∨ r = 1 ∨ r = 2 ∨ r = 3 from by omega) with rfl | rfl | rfl | rfl
  · exact ⟨_, by decide, rfl⟩
  · exact ⟨_, by decide, rfl⟩
  · exact ⟨_, by decide, rfl⟩
  · exact ⟨_, by decide, rfl⟩
theorem min_nat {P : Program} (x : Nat) (y : Int) (hy : 0 ≤ y) : ∃ v : Nat, (∀ w ts t, (Builtin.min_ ts t #[.int .i64 x, .int .i64 y]).run P w = .ok (.int .i64 v) w) ∧ v = min y.toNat x ∧ v ≤ x := by
  have e : (if y < (x : Int) then y else (x : Int)) = ((min y.toNat x : Nat) : Int) := by split <;> omega
  refine ⟨min y.toNat x, fun w ts t => ?_, rfl, Nat.min_le_right _ _⟩
  simp [Builtin.min_, Builtin.min2]
  exact e
/-- What a drawing of two texts leaves. -/
def DrawnPair (b : Nat) (a : Option Addr) (l : List UInt8) (cap m k : Nat) (w : World) (e : Ending) (w' : World) : Prop :=
  ∃ s t : ByteArray, e = .returned (.tuple #[.string s, .string t]) ∧ s.size ≤ k ∧ t.size ≤ k ∧ CurI w' b a l cap m ∧ w.grownBy w' (some b)
set_option maxRecDepth 100000 in
set_option maxHeartbeats 1000000 in
theorem curPair (b : Nat) (a : Option Addr) (l : List UInt8) (cap m : Nat) (w : World) (hl : l.length ≤ 1048576) (hm : m ≤ 1000000000000000000) (h : CurI w b a l cap m) :
    Calls Try.prog 39 #[.pointer (some ⟨b, 0, none⟩)] w (DrawnPair b a l cap (m + 1000) 200 w) := by
  have H := Lib.hid h
  clear h
  go_enter Try.func39, Try.ntmps39
  go_wp2_with fail
  refine (curBadWord b a l cap m _ hl (by omega) H.out).mono ?_
  rintro e w1 ⟨s, rfl, hs, hI1, hg1⟩
  have I1 := Lib.hid hI1
  have G1 := Lib.hid hg1
  clear hI1 hg1 H
  go_wp2_with fail
  refine (curOnce b a l cap _ 3 _ hl (by omega) (by omega) I1.out).mono ?_
  rintro e w2 ⟨z, rfl, hI2, hg2⟩
  have I2 := Lib.hid hI2
  have G2 := Lib.hid (grown_trans G1.out hg2)
  clear hI2 hg2 I1 G1
  cases z
  · go_wp2_with fail
    refine (curPick b a l cap _ 4 _ hl (by omega) (by omega) I2.out).mono ?_
    rintro e w3 ⟨r, rfl, hr, hI3, hg3⟩
    have hr4 : r < 4 := by omega
    have I3 := Lib.hid hI3
    have G3 := Lib.hid (grown_trans G2.out hg3)
    clear hI3 hg3 I2 G2 hr
    go_wp2
    go_loopw [5, 6] (fun bv kv wr => ∃ (k : Nat) (t : ByteArray), k ≤ r ∧ bv = .string t ∧ kv = .int .i64 k ∧ t.size ≤ 96 + 2 * (r - k) ∧ Hid (CurI wr b a l cap (m + 100 + 4 * (r - k))) ∧ Hid (w.grownBy wr (some b))) (fun _ kv _ => (intOf kv).toNat)
    case atStart => exact ⟨r, s, Nat.le_refl _, rfl, rfl, by omega, Lib.hid (I3.out.more (by omega)), G3⟩
    case round =>
      clear I3 G3
      obtain ⟨k, t, hk, rfl, rfl, ht, I, G⟩ := hrel
      by_cases hlt : 0 < k
      · go_wp2_with fail
        rw [show (t.size : Int) + 1 = ((t.size + 1 : Nat) : Int) from by omega]
        refine (curPick b a l cap _ (t.size + 1) _ hl (by omega) (by omega) I.out).mono ?_
        rintro e w3 ⟨i, rfl, hi, hI3, hg3⟩
        have hit : i ≤ t.size := by omega
        have I3 := Lib.hid hI3
        have G3 := Lib.hid (grown_trans G.out hg3)
        have hb3 := I3.out.lt
        clear hI3 hg3 I G hi
        have IA := Lib.hid (I3.out.below (w' := w3.drew) (belowN 1))
        have IB := Lib.hid (I3.out.below (w' := (w3.alloc (.cells lits4 9)).drew) (((Below.refl _ _).alloc (Nat.le_refl _) _).drew))
        have GA := Lib.hid (grown_trans G3.out (drewN_grown w3 1 (some b)))
        have GB := Lib.hid (grown_trans G3.out (grown_trans (World.grownBy_alloc w3 (.cells lits4 9) (some b)) (drewN_grown _ 1 _)))
        have CA := Lib.hid (curPick b a l cap (m + 100 + 4 * (r - k) + 1) 4 w3.drew hl (by omega) (by omega) IA.out)
        have CB := Lib.hid (curPick b a l cap (m + 100 + 4 * (r - k) + 1) 4 (w3.alloc (.cells lits4 9)).drew hl (by omega) (by omega) IB.out)
        go_wp2
        go_region_law (first
          | (refine step_callW w3.drew rfl (by rfl) 56 _ _ (by rfl) _ (by kernel_rfl) Try.call56 _ CA.out ?_; rintro e w4 ⟨r4, rfl, hr4', hI4, hg4⟩; refine ⟨_, rfl, ?_⟩; obtain ⟨x, hx, hxl⟩ := lits4_at r4 hr4'; have hr44 : r4 < 4 := (by omega); have n1 : (0 : Int) ≤ (r4 : Int) := (by omega); have n2 : (r4 : Int) < 4 := (by omega); have n3 : ¬ 9223372036854775807 < i + x.size := (by omega); have I4 := Lib.hid hI4; have XL := Lib.hid hxl; have hb4 := hI4.lt; have G4 : Hid (w.grownBy w4 (some b)) := Lib.hid (grown_trans GA.out hg4); have qb : (w4.alloc (.cells #[.string ⟨#[]⟩, .string ⟨#[97]⟩, .string ⟨#[98]⟩, .string ⟨#[120]⟩] 9)).cell? ⟨w4.heap.size, r4, none⟩ = some (.string x) := (lit_new w4 lits4 9 r4).trans hxl; clear hI4 hg4 hxl)
          | (refine step_callW (w3.alloc (.cells lits4 9)).drew rfl (by rfl) 56 _ _ (by rfl) _ (by kernel_rfl) Try.call56 _ CB.out ?_; rintro e w4 ⟨r4, rfl, hr4', hI4, hg4⟩; refine ⟨_, rfl, ?_⟩; obtain ⟨x, hx, hxl⟩ := lits4_at r4 hr4'; have hr44 : r4 < 4 := (by omega); have n1 : (0 : Int) ≤ (r4 : Int) := (by omega); have n2 : (r4 : Int) < 4 := (by omega); have n3 : ¬ 9223372036854775807 < i + x.size := (by omega); have I4 := Lib.hid hI4; have XL := Lib.hid hxl; have hb4 := hI4.lt; have G4 : Hid (w.grownBy w4 (some b)) := Lib.hid (grown_trans GB.out hg4); have qa : w4.cell? ⟨w3.heap.size, r4, none⟩ = some (.string x) := hg4.cell ((lit_new w3 lits4 9 r4).trans hxl) (by simp; omega); clear hI4 hg4 hxl)
          | (refine step_callW w4 rfl (by rfl) 56 _ _ (by rfl) _ (by kernel_rfl) Try.call56 _ (curPick b a l cap (m + 100 + 4 * (r - k) + 1 + 1) 2 w4 hl (by omega) (by omega) I4.out) ?_; rintro e w5 ⟨r5, rfl, hr5, hI5, hg5⟩; refine ⟨_, rfl, ?_⟩; have hr52 : r5 < 2 := (by omega); have I5 := Lib.hid hI5; obtain ⟨v, hv, hvi, hvt⟩ := min_nat (P := Try.prog) t.size ((i : Int) + (r5 : Int)) (by omega); have HV := Lib.hid hv; have hiv : i ≤ v := (by omega); clear hv hvi; have hwr : IntKind.i64.wrap ((i : Int) + (r5 : Int)) = (i : Int) + (r5 : Int) := IntWalk.i64_in _ (by omega); have n4 : ¬ 9223372036854775807 < i + x.size + (t.size - v) := (by omega); have G5 : Hid (w.grownBy w5 (some b)) := Lib.hid (grown_trans G4.out hg5); (first | (have qc : w5.cell? ⟨w3.heap.size, r4, none⟩ = some (.string x) := hg5.cell qa (by simp; omega)) | (have qc : (w5.alloc (.cells #[.string ⟨#[]⟩, .string ⟨#[97]⟩, .string ⟨#[98]⟩, .string ⟨#[120]⟩] 9)).cell? ⟨w5.heap.size, r4, none⟩ = some (.string x) := (lit_new w5 lits4 9 r4).trans XL.out)); clear hI5 hg5)
          | (refine step_callW (w4.alloc (.cells #[.string ⟨#[]⟩, .string ⟨#[97]⟩, .string ⟨#[98]⟩, .string ⟨#[120]⟩] 9)) rfl (by rfl) 56 _ _ (by rfl) _ (by kernel_rfl) Try.call56 _ (curPick b a l cap (m + 100 + 4 * (r - k) + 1 + 1) 2 (w4.alloc (.cells #[.string ⟨#[]⟩, .string ⟨#[97]⟩, .string ⟨#[98]⟩, .string ⟨#[120]⟩] 9)) hl (by omega) (by omega) (I4.out.below ((Below.refl _ _).alloc (Nat.le_refl _) _))) ?_; rintro e w5 ⟨r5, rfl, hr5, hI5, hg5⟩; refine ⟨_, rfl, ?_⟩; have hr52 : r5 < 2 := (by omega); have I5 := Lib.hid hI5; obtain ⟨v, hv, hvi, hvt⟩ := min_nat (P := Try.prog) t.size ((i : Int) + (r5 : Int)) (by omega); have HV := Lib.hid hv; have hiv : i ≤ v := (by omega); clear hv hvi; have hwr : IntKind.i64.wrap ((i : Int) + (r5 : Int)) = (i : Int) + (r5 : Int) := IntWalk.i64_in _ (by omega); have n4 : ¬ 9223372036854775807 < i + x.size + (t.size - v) := (by omega); have G5 : Hid (w.grownBy w5 (some b)) := Lib.hid (grown_trans (grown_trans G4.out (World.grownBy_alloc w4 _ (some b))) hg5); have qc : w5.cell? ⟨w4.heap.size, r4, none⟩ = some (.string x) := hg5.cell qb (by simp; omega); clear hI5 hg5)
          | (refine step_min (by rfl) _ _ _ (by rfl) _ _ _ (by rfl) (by rfl) HV.out ?_))
        all_goals
          have J1 : Hid (CurI w5 b a l cap (m + 100 + 4 * (r - (k - 1)))) := Lib.hid (I5.out.more (by omega))
          have J2 : Hid ((t.extract 0 i ++ x ++ t.extract v t.size).size ≤ 96 + 2 * (r - (k - 1))) := Lib.hid (by simp only [ByteArray.size_append, ByteArray.size_extract]; omega)
          clear qc
          go_wp2
          go_roundw
          case rel => first
            | exact ⟨k - 1, _, by omega, rfl, by go_num, J2.out, J1, G5⟩
            | exact ⟨k - 1, _, by omega, rfl, by go_num, J2.out, Lib.hid (J1.out.below ((Below.refl _ _).alloc (Nat.le_refl _) _)), Lib.hid (grown_trans G5.out (World.grownBy_alloc w5 _ (some b)))⟩
          case measure => simp [intOf]; omega
      · have hk0 : k = 0 := by omega
        subst hk0
        go_wp2
        go_ret2
        exact ⟨s, t, rfl, by omega, by omega, I.out.more (by omega), G.out⟩
  · go_wp2_with fail
    refine (curBadWord b a l cap _ _ hl (by omega) I2.out).mono ?_
    rintro e w3 ⟨t, rfl, ht, hI3, hg3⟩
    have I3 := Lib.hid hI3
    have G3 := Lib.hid (grown_trans G2.out hg3)
    clear hI3 hg3 I2 G2
    go_wp2
    go_ret2
    exact ⟨s, t, rfl, by omega, by omega, I3.out.more (by omega), G3.out⟩
end Go.Proofs.Yticfnhbjoaecjaa
