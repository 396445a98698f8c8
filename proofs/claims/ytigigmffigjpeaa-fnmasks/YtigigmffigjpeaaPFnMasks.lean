/- For every code: the law FnMasks answers true, that is, with the masks of MaskLess and MaskEq two drawn numbers are put in order without branches, and swapped back. No condition. -/
import Derived.Test.YtigigmffigjpeaaBase
import Derived.Test.YtigigmffigjpeaaMask
import Derived.Test.YtigigmffigjpeaaCurM
import Derived.Test.YtigigmffigjpeaaBigIs
namespace Go.Proofs.Ytigigmffigjpeaa.fnMasks
open Go.ChangeShapes Go.WideShapes Go.ChangeAt Go.RowKit
set_option linter.unusedVariables false

theorem four_at (x0 x1 x2 x3 r : Nat) (h0 : x0 < 18446744073709551616) (h1 : x1 < 18446744073709551616) (h2 : x2 < 18446744073709551616) (h3 : x3 < 18446744073709551616) (h : r < 4 ∨ r = 0) :
    ∃ x : Nat, x < 18446744073709551616 ∧ (#[.int .u64 (x0 : Int), .int .u64 (x1 : Int), .int .u64 (x2 : Int), .int .u64 (x3 : Int)] : Array Value)[r]? = some (.int .u64 (x : Int)) := by
  rcases (show r = 0 ∨ r = 1 ∨ r = 2 ∨ r = 3 from by omega) with rfl | rfl | rfl | rfl
  · exact ⟨x0, h0, rfl⟩
  · exact ⟨x1, h1, rfl⟩
  · exact ⟨x2, h2, rfl⟩
  · exact ⟨x3, h3, rfl⟩
def DrawPost (w : World) (e : Ending) (w' : World) : Prop :=
  ∃ x y : Nat, e = .returned (.tuple #[.int .u64 x, .int .u64 y]) ∧ x < 18446744073709551616 ∧ y < 18446744073709551616 ∧ Below w.heap.size w w'
set_option maxHeartbeats 2000000 in
theorem draw (a : Option Addr) (l : List UInt8) (cap : Nat) (w : World) (hl : l.length ≤ 1048576) (r : Row w a (l.map bval)) :
    Calls Try.prog 15 #[.slice a l.length cap] w (DrawPost w) := by
  have R := Lib.hid r
  clear r
  go_enter Try.func15, Try.ntmps15
  go_wp2_with fail
  refine (curOpen a l cap _ hl R.out).mono ?_
  rintro e w1 ⟨rfl, hI1, hb1⟩
  have I1 := Lib.hid hI1
  have B1 := Lib.hid hb1
  clear hI1 hb1
  go_wp2_with fail
  refine (curBits w.heap.size a l cap 0 _ hl (by omega) I1.out).mono ?_
  rintro e w2 ⟨x, rfl, hx, hI2, hg2⟩
  have I2 := Lib.hid (hI2.below (belowN 1))
  have B2 := Lib.hid (below_write B1.out hg2 (Nat.le_refl _))
  clear hI2 hg2 I1 B1 R
  have W := Lib.hid (curBits w.heap.size a l cap _ w2.drew hl (by omega) I2.out)
  obtain ⟨x2, e2, hx2⟩ : ∃ x2 : Nat, IntKind.u64.wrap ((x : Int) + 1) = (x2 : Int) ∧ x2 < 18446744073709551616 := ⟨(x + 1) % 18446744073709551616, by rw [IntKind.wrap_u64]; omega, by omega⟩
  obtain ⟨x3, e3, hx3⟩ : ∃ x3 : Nat, IntKind.u64.wrap ((x : Int) - 1) = (x3 : Int) ∧ x3 < 18446744073709551616 := ⟨(x + 18446744073709551615) % 18446744073709551616, by rw [IntKind.wrap_u64]; omega, by omega⟩
  go_wp2_with fail
  go_region_law (first
    | (refine step_call (by rfl) 41 #[.pointer (some ⟨w.heap.size, 0, none⟩)] (by kernel_rfl) _ W.out ?_; rintro e w5 ⟨v, rfl, hv, hI5, hg5⟩; refine ⟨_, rfl, ?_⟩; have hb5 : w.heap.size < w5.heap.size := hI5.lt; have B5 := Lib.hid (below_write (below_drew B2.out) hg5 (Nat.le_refl _)); have IB := Lib.hid (hI5.below (w' := w5.alloc (.cells #[.int .u64 (v : Int), .int .u64 (x : Int), .int .u64 (x2 : Int), .int .u64 (x3 : Int)] 24)) ((Below.refl _ _).alloc (Nat.le_refl _) _)); have PA := Lib.hid (curPick w.heap.size a l cap _ 4 _ hl (by omega) (by omega) hI5); have PB := Lib.hid (curPick w.heap.size a l cap _ 4 _ hl (by omega) (by omega) IB.out); clear hI5 hg5)
    | (refine step_call (by rfl) 42 #[.pointer (some ⟨w.heap.size, 0, none⟩), .int .i64 4] (by kernel_rfl) _ PB.out ?_; rintro e w6 ⟨r6, rfl, hr6, hI6, hg6⟩; refine ⟨_, rfl, ?_⟩; obtain ⟨y, hy, hyy⟩ := four_at v x x2 x3 r6 hv hx hx2 hx3 hr6; have hr62 : r6 < 4 := (by omega); have hr63 : (r6 : Int) < 4 := (by omega); have hr60 : (0 : Int) ≤ (r6 : Int) := (by omega); have hq6 : w6.cell? ⟨w5.heap.size, r6, none⟩ = some (.int .u64 y) := hg6.cell ((lit_new w5 _ 24 r6).trans hyy) (by simp; omega); have BF := Lib.hid (below_write (below_box B5.out (.cells #[.int .u64 (v : Int), .int .u64 (x : Int), .int .u64 (x2 : Int), .int .u64 (x3 : Int)] 24)) hg6 (Nat.le_refl _)); clear hI6 hg6 hyy)
    | (refine step_call (by rfl) 42 #[.pointer (some ⟨w.heap.size, 0, none⟩), .int .i64 4] (by kernel_rfl) _ PA.out ?_; rintro e w6 ⟨r6, rfl, hr6, hI6, hg6⟩; refine ⟨_, rfl, ?_⟩; obtain ⟨y, hy, hyy⟩ := four_at v x x2 x3 r6 hv hx hx2 hx3 hr6; have hr62 : r6 < 4 := (by omega); have hr63 : (r6 : Int) < 4 := (by omega); have hr60 : (0 : Int) ≤ (r6 : Int) := (by omega); have hq6 : (w6.alloc (.cells #[.int .u64 (v : Int), .int .u64 (x : Int), .int .u64 (x2 : Int), .int .u64 (x3 : Int)] 24)).cell? ⟨w6.heap.size, r6, none⟩ = some (.int .u64 y) := (lit_new w6 _ 24 r6).trans hyy; have BF := Lib.hid (below_box (below_write B5.out hg6 (Nat.le_refl _)) (.cells #[.int .u64 (v : Int), .int .u64 (x : Int), .int .u64 (x2 : Int), .int .u64 (x3 : Int)] 24)); clear hI6 hg6 hyy))
  all_goals
    clear hq6
    go_wp2
    go_ret2
    exact ⟨x, y, rfl, hx, hy, BF.out⟩

theorem order_facts {a b : Nat} (ha : a < 18446744073709551616) (hb : b < 18446744073709551616) :
    (b < a → selN (maskN (decide (b < a))) b a = b ∧ selN (maskN (decide (b < a))) a b = a) ∧ (¬ b < a → selN (maskN (decide (b < a))) b a = a ∧ selN (maskN (decide (b < a))) a b = b) ∧ selN (maskN (decide (a = b))) a b = b := by
  refine ⟨fun h => ?_, fun h => ?_, ?_⟩
  · rw [decide_eq_true h]; exact ⟨selN_all hb ha, selN_all ha hb⟩
  · rw [decide_eq_false h]; exact ⟨selN_zero _ _, selN_zero _ _⟩
  · by_cases h : a = b
    · subst h; exact selN_same _ _
    · rw [decide_eq_false h]; exact selN_zero _ _
theorem mask_self (x : Nat) : maskN (decide (x = x)) = 18446744073709551615 := by rw [decide_eq_true rfl]; rfl
theorem low_64 : lowN 64 = 18446744073709551615 := by decide +kernel

set_option maxHeartbeats 2000000 in
theorem walkYes (a : Option Addr) (l : List UInt8) (cap : Nat) (w : World) (hl : l.length ≤ 1048576) (hm : l.length ≤ maxLen) (R : Hid (Row w a (l.map bval))) :
    Calls Try.prog 3 #[.slice a l.length cap] w fun e w' => e = .returned (.bool true) ∧ Below w.heap.size w w' := by
  have h1 : ¬ 1048576 < l.length := by omega
  go_enter Try.func3, Try.ntmps3
  go_wp2_with fail
  refine (bigIs _ _ _ _ hm).mono ?_
  rintro e w1 ⟨rfl, rfl⟩
  rw [decide_eq_false h1]
  clear h1
  go_wp2_with fail
  refine (draw a l cap _ hl R.out).mono ?_
  rintro e w1 ⟨x, y, rfl, hx, hy, hb⟩
  have B := Lib.hid hb
  have O := Lib.hid (order_facts hx hy)
  have hM := maskN_lt (decide (y < x))
  have hE := maskN_lt (decide (x = y))
  clear hb R
  go_wp2_with fail
  refine (implMaskLess y x _).mono ?_
  rintro e w2 ⟨rfl, rfl⟩
  by_cases hlt : y < x
  · have O1 := Lib.hid (O.out.1 hlt)
    have O3 := Lib.hid O.out.2.2
    have HE : Hid (maskN (decide (x = y)) = 0) := Lib.hid (by rw [decide_eq_false (by omega)]; rfl)
    have hne : ((x : Int) == (y : Int)) = false := by simp; omega
    clear O
    generalize maskN (decide (y < x)) = mv at *
    go_wp2_with fail
    refine (implSwapIf mv x y _ hM hx hy).mono ?_
    rintro e w2 ⟨rfl, rfl⟩
    rw [O1.out.1, O1.out.2]
    go_wp2_with fail
    refine (implSwapIf mv y x _ hM hy hx).mono ?_
    rintro e w2 ⟨rfl, rfl⟩
    rw [O1.out.1, O1.out.2]
    go_wp2_with fail
    refine (implMaskEq x y _ hx hy).mono ?_
    rintro e w2 ⟨rfl, rfl⟩
    rw [HE.out] at O3 ⊢
    go_wp2_with fail
    refine (implMaskLow 64 _ (by omega)).mono ?_
    rintro e w2 ⟨rfl, rfl⟩
    rw [low_64]
    go_wp2_with fail
    refine (implSelect 0 x y _ (by omega) hx hy).mono ?_
    rintro e w2 ⟨rfl, rfl⟩
    rw [O3.out]
    go_wp2
    go_ret
    exact ⟨rfl, B.out⟩
  have O1 := Lib.hid (O.out.2.1 hlt)
  have O3 := Lib.hid O.out.2.2
  clear O
  generalize maskN (decide (y < x)) = mv at *
  by_cases heq : x = y
  · have HE : Hid (maskN (decide (x = y)) = 18446744073709551615) := Lib.hid (by rw [decide_eq_true heq]; rfl)
    rw [HE.out] at O3
    rw [← heq] at O1 O3
    subst heq
    clear hlt HE
    go_wp2_with fail
    refine (implSwapIf mv x x _ hM hx hx).mono ?_
    rintro e w2 ⟨rfl, rfl⟩
    rw [O1.out.1]
    go_wp2_with fail
    refine (implSwapIf mv x x _ hM hx hx).mono ?_
    rintro e w2 ⟨rfl, rfl⟩
    rw [O1.out.1]
    go_wp2_with fail
    refine (implMaskEq x x _ hx hx).mono ?_
    rintro e w2 ⟨rfl, rfl⟩
    rw [mask_self]
    go_wp2_with fail
    refine (implMaskLow 64 _ (by omega)).mono ?_
    rintro e w2 ⟨rfl, rfl⟩
    rw [low_64]
    go_wp2_with fail
    refine (implSelect 18446744073709551615 x x _ (by omega) hx hx).mono ?_
    rintro e w2 ⟨rfl, rfl⟩
    rw [O3.out]
    go_wp2
    go_ret
    exact ⟨rfl, B.out⟩
  · have HE : Hid (maskN (decide (x = y)) = 0) := Lib.hid (by rw [decide_eq_false heq]; rfl)
    have hne : ((x : Int) == (y : Int)) = false := by simp; omega
    have hxy : x < y := by omega
    clear hlt heq
    go_wp2_with fail
    refine (implSwapIf mv x y _ hM hx hy).mono ?_
    rintro e w2 ⟨rfl, rfl⟩
    rw [O1.out.1, O1.out.2]
    go_wp2_with fail
    refine (implSwapIf mv x y _ hM hx hy).mono ?_
    rintro e w2 ⟨rfl, rfl⟩
    rw [O1.out.1, O1.out.2]
    go_wp2_with fail
    refine (implMaskEq x y _ hx hy).mono ?_
    rintro e w2 ⟨rfl, rfl⟩
    rw [HE.out] at O3 ⊢
    go_wp2_with fail
    refine (implMaskLow 64 _ (by omega)).mono ?_
    rintro e w2 ⟨rfl, rfl⟩
    rw [low_64]
    go_wp2_with fail
    refine (implSelect 0 x y _ (by omega) hx hy).mono ?_
    rintro e w2 ⟨rfl, rfl⟩
    rw [O3.out]
    go_wp2
    go_ret
    exact ⟨rfl, B.out⟩

set_option maxHeartbeats 400000 in
theorem walk (a0 : Option Addr) (len0 cap0 : Nat) (z0 : List Int) (w : World) (w0 : IsRow .u8 w a0 len0 cap0 z0) :
    Calls Try.prog 3 #[.slice a0 len0 cap0] w fun e w' => e = .returned (.bool true) ∧ Below w.heap.size w w' := by
  obtain ⟨l, rfl, h1, h2, r⟩ := row_of_isRow w0
  have hm : l.length ≤ maxLen := by omega
  clear w0
  by_cases hl : l.length ≤ 1048576
  · exact walkYes a0 l cap0 w hl hm (Lib.hid r)
  · have h1 : 1048576 < l.length := by omega
    go_enter Try.func3, Try.ntmps3
    go_wp2_with fail
    refine (bigIs _ _ _ _ hm).mono ?_
    rintro e w1 ⟨rfl, rfl⟩
    rw [decide_eq_true h1]
    go_wp2
    go_ret
    exact ⟨rfl, Below.refl _ _⟩

set_option maxRecDepth 100000 in
theorem lifted (os : Os) (started : os.Started) (H : Type) (enc : TypeId × Value → H) :
    ReturnsInHanded {} Try.checked os 3 .any (Rows.fnMasksSpec.pre6 enc Try.prog Try.f3 Rows.fnMasksRow.domain false) (Rows.fnMasksSpec.post enc Try.prog Try.f3 false true false false) := by
  refine returnsInHanded_of_change (C := Try.checked) own started (by kernel_rfl) Try.func3
    (ChangeSpec.witness6 (enc := enc) (C := Try.checked) false ⟨#[], #[.slice none 0 0], []⟩ 8 (by kernel_rfl) (by kernel_rfl) (by kernel_rfl) (by kernel_rfl)) ?_
  intro W base args ds gs before hval0 hW hcnd _
  have hval : ∀ (j : Nat) t v, Try.f3.params[j]? = some t → args[j]? = some v → Value.okWide Try.prog W .any base t v := hval0
  have hW' := hW
  obtain ⟨p, q, hA0, hV, rfl, hfz, hnd⟩ := hW
  have hA : DataW.TrodAll enc Try.prog W 0 (fun _ => true) true Try.f3.params.toList args.toList ds p := hA0
  rw [Try.params3] at hA hval
  obtain ⟨v0, vs0, d0, ds0, p0, q0, hargs, rfl, rfl, h0, r0⟩ := trodAll_cons hA
  obtain ⟨rfl, rfl, rfl⟩ := trodAll_nil r0
  obtain rfl : args = #[v0] := by cases args; simp_all
  obtain ⟨rfl, rfl⟩ := trodVars_none hV
  obtain ⟨a0, len0, cap0, rfl⟩ := okWide_slice Try.underlying22 (hval 0 22 v0 rfl rfl)
  have k0 := h0
  have lt0 : ∀ x ∈ p0, x.block < W.heap.size := by obtain ⟨m, hm⟩ := k0; exact DataW.trod_lt m _ _ _ hm
  obtain ⟨z0, w0⟩ : ∃ zs, IsRow .u8 W a0 len0 cap0 zs := by
    obtain ⟨fuel, hf⟩ := h0
    rcases open_ints Try.underlying22 Try.underlying5 (by kernel_rfl) hf with ⟨hcs, _⟩ | ⟨x, l, c, zs, hcs, _, hl, hm, hz, _, hcell, hwz⟩
    · simp [Value.cells] at hcs
      obtain ⟨rfl, rfl, rfl⟩ := hcs
      exact ⟨[], .inl ⟨rfl, rfl, rfl, rfl⟩⟩
    · simp [Value.cells] at hcs
      obtain ⟨rfl, rfl, rfl⟩ := hcs
      exact ⟨zs, .inr ⟨_, rfl, hl, hm, by simpa using hz, hcell, hwz⟩⟩
  clear hA0 hval0
  refine (walk a0 len0 cap0 z0 W w0).mono fun e W' ⟨he, bel⟩ => ?_
  subst he
  exact ⟨_, rfl, _, _, _, [], _, [], hW', trodAll_mk1 (shut_bool Try.underlying4 _), (trodAll_cons_mk (Below.trod laidOut (by kernel_rfl) (of_decide_eq_true (by kernel_rfl)) k0 bel lt0) trodAll_mk0), rfl, bel.frame _, fun h => by cases h⟩

theorem over : Rows.fnMasksRow.holds Try.pinned (OpenSpec.ofChange Rows.fnMasksSpec) :=
  OpenClaim.holds_of_wide 3 Try.f3 rfl rfl rfl rfl rfl rfl rfl ⟨rfl, rfl, rfl, rfl, rfl⟩ rfl rfl rfl rfl rfl (by kernel_rfl) Try.func3 (by kernel_rfl)
    (of_decide_eq_true (by kernel_rfl)) (by unfold Func.isWrapper; first | (rw [if_pos (by decide +kernel)]; kernel_rfl) | (rw [if_neg (by decide +kernel)]; exact ⟨rfl, rfl⟩))
    (fun os started H enc _ => lifted os started H enc)
end Go.Proofs.Ytigigmffigjpeaa.fnMasks
namespace Go.Proofs.Ytigigmffigjpeaa
/-- Two drawn numbers are put in order by masks, and swapped back. -/
theorem fnMasks_holds : Rows.FnMasksSaid := fnMasks.over
end Go.Proofs.Ytigigmffigjpeaa
