/- For every code: the law FnMetric answers true: Distance is symmetric, 0 exactly for equal strings, satisfies the triangle inequality, and lies between the gap of the lengths and the greater of them, at three drawn strings. No condition. -/
import Derived.Test.YtcjcklpmlfoloaaBase
import Derived.Test.YtcjcklpmlfoloaaDrawQ
import Derived.Test.YtcjcklpmlfoloaaEdD
import Derived.Test.YtcjcklpmlfoloaaApp
namespace Go.Proofs.Ytcjcklpmlfoloaa.fnMetric
open Go.ChangeShapes Go.WideShapes Go.ChangeAt Go.RowKit
open Go.ChangeMaps (open_string shut_string)
set_option linter.unusedVariables false

theorem str_beq (s t : ByteArray) : (s.toList == t.toList) = (s.data.toList == t.data.toList) := by
  have e1 : s.toList = s.data.toList := by simpa using ByteArray.toList_mk s.data.toList
  have e2 : t.toList = t.data.toList := by simpa using ByteArray.toList_mk t.data.toList
  rw [e1, e2]
theorem zero_iff (a b : List UInt8) : ((dist a b : Int) == 0) = (a == b) := by
  by_cases h : a = b
  · subst h; rw [dist_self]; simp
  · rw [beq_eq_false_iff_ne.2 h, beq_eq_false_iff_ne]
    intro e
    exact h (dist_zero a b (by omega))
theorem distZ_short (s t : ByteArray) (h1 : ¬ 32 < s.size) (h2 : ¬ 32 < t.size) : distZ s.data.toList t.data.toList = (dist s.data.toList t.data.toList : Int) := by
  unfold distZ; rw [if_neg (by rw [len_data, len_data]; omega)]

set_option maxRecDepth 100000 in
set_option maxHeartbeats 2000000 in
theorem walk (a0 : Option Addr) (len0 cap0 : Nat) (z0 : List Int) (w : World) (w0 : IsRow .u8 w a0 len0 cap0 z0) :
    Calls Try.prog 5 #[.slice a0 len0 cap0] w fun e w' => e = .returned (.bool true) ∧ Below w.heap.size w w' := by
  obtain ⟨l, hl, hcap, hmax, hr⟩ := row_of_isRow w0
  clear w0
  subst hl
  have R := Lib.hid hr
  clear hr
  have hm : l.length ≤ maxLen := Nat.le_trans hcap hmax
  by_cases hbig : 1048576 < l.length
  · have hB : decide (1048576 < l.length) = true := by simp [hbig]
    go_enter Try.func5, Try.ntmps5
    go_wp2_with fail
    refine (bigIs a0 l.length cap0 _ hm).mono ?_
    rintro e w1 ⟨rfl, rfl⟩
    rw [hB]
    go_wp2
    go_ret
    exact ⟨rfl, Below.refl _ _⟩
  have hB : decide (1048576 < l.length) = false := by simp; omega
  have hl2 : l.length ≤ 1048576 := by omega
  go_enter Try.func5, Try.ntmps5
  go_wp2_with fail
  refine (bigIs a0 l.length cap0 _ hm).mono ?_
  rintro e w1 ⟨rfl, rfl⟩
  rw [hB]
  clear hB
  go_wp2_with fail
  refine (drawDistance a0 l cap0 _ hl2 R.out).mono ?_
  rintro e w2 ⟨s, t, rfl, hs, ht, hb2⟩
  have hs' : s.size ≤ maxLen := by unfold maxLen; omega
  have ht' : t.size ≤ maxLen := by unfold maxLen; omega
  have B2 := Lib.hid hb2
  have R2 := Lib.hid (R.out.below hb2)
  clear hb2
  have hq : (l.length : Int).tdiv 2 = ((l.length / 2 : Nat) : Int) := by rw [Int.tdiv_eq_ediv_of_nonneg (by omega)]; omega
  have hk : l.length / 2 ≤ l.length := by omega
  by_cases hc : cap0 = l.length / 2
  · have hl0 : l.length - l.length / 2 = 0 := by omega
    have DR : ∀ c, Calls Try.prog 20 #[.slice a0 (l.length - l.length / 2) c] w2 (PairOut w2) := fun c => by rw [hl0]; exact drawCapped a0 [] c w2 (by simp) (.inl rfl)
    clear hl0
    go_wp2_with fail
    refine (DR _).mono ?_
    rintro e w3 ⟨q, c, rfl, hq2, hc2, hb3⟩
    have hc' : c.size ≤ maxLen := by unfold maxLen; omega
    have B3 := Lib.hid (below_seq B2.out hb3)
    clear hb3 R2 hq2
    by_cases big : 32 < s.size ∨ 32 < t.size ∨ 32 < c.size
    · by_cases b1 : 32 < s.size
      · go_wp2_with fail
        refine (implDistance s t _ hs' ht').mono ?_
        rintro e w4 ⟨rfl, hb4⟩
        have B4 := Lib.hid (below_seq B3.out hb4)
        clear hb4
        go_wp2_with fail
        refine (specDistance s t _ hs' ht').mono ?_
        rintro e w5 ⟨rfl, hb5⟩
        have B5 := Lib.hid (below_seq B4.out hb5)
        clear hb5 B4
        generalize distZ s.data.toList t.data.toList = z
        go_wp2
        go_ret
        exact ⟨rfl, B5.out⟩
      by_cases b2 : 32 < t.size
      · go_wp2_with fail
        refine (implDistance s t _ hs' ht').mono ?_
        rintro e w4 ⟨rfl, hb4⟩
        have B4 := Lib.hid (below_seq B3.out hb4)
        clear hb4
        go_wp2_with fail
        refine (specDistance s t _ hs' ht').mono ?_
        rintro e w5 ⟨rfl, hb5⟩
        have B5 := Lib.hid (below_seq B4.out hb5)
        clear hb5 B4
        generalize distZ s.data.toList t.data.toList = z
        go_wp2
        go_ret
        exact ⟨rfl, B5.out⟩
      · have b3 : 32 < c.size := by omega
        go_wp2_with fail
        refine (implDistance s t _ hs' ht').mono ?_
        rintro e w4 ⟨rfl, hb4⟩
        have B4 := Lib.hid (below_seq B3.out hb4)
        clear hb4
        go_wp2_with fail
        refine (specDistance s t _ hs' ht').mono ?_
        rintro e w5 ⟨rfl, hb5⟩
        have B5 := Lib.hid (below_seq B4.out hb5)
        clear hb5 B4
        generalize distZ s.data.toList t.data.toList = z
        go_wp2
        go_ret
        exact ⟨rfl, B5.out⟩
    have b1 : ¬ 32 < s.size := by omega
    have b2 : ¬ 32 < t.size := by omega
    have b3 : ¬ 32 < c.size := by omega
    clear big
    have C1 := fun w => Lib.hid (implDistance s t w hs' ht')
    have C2 := fun w => Lib.hid (implDistance t s w ht' hs')
    have C3 := fun w => Lib.hid (implDistance s c w hs' hc')
    have C4 := fun w => Lib.hid (implDistance c t w hc' ht')
    rw [distZ_short s t b1 b2] at C1
    rw [distZ_short t s b2 b1, dist_comm t.data.toList] at C2
    rw [distZ_short s c b1 b3] at C3
    rw [distZ_short c t b3 b2] at C4
    have tri := dist_tri s.data.toList c.data.toList t.data.toList
    have gp1 := dist_gap s.data.toList t.data.toList
    have gp2 := dist_gap' s.data.toList t.data.toList
    have mx := dist_max s.data.toList t.data.toList
    have m1 := dist_max s.data.toList c.data.toList
    have m2 := dist_max c.data.toList t.data.toList
    rw [len_data, len_data] at gp1 gp2 mx m1 m2
    have z0 := zero_iff s.data.toList t.data.toList
    rw [← str_beq] at z0
    generalize dist s.data.toList t.data.toList = d at *
    generalize dist s.data.toList c.data.toList = e1 at *
    generalize dist c.data.toList t.data.toList = e2 at *
    have dd : ((d : Int) == (d : Int)) = true := by simp
    have tri' : (d : Int) ≤ (e1 : Int) + (e2 : Int) := by omega
    have gp1' : (s.size : Int) - (t.size : Int) ≤ (d : Int) := by omega
    have gp2' : -((s.size : Int) - (t.size : Int)) ≤ (d : Int) := by omega
    have gp3' : (t.size : Int) - (s.size : Int) ≤ (d : Int) := by omega
    clear tri gp1 gp2
    cases hst : (s.toList == t.toList)
    all_goals
      rw [hst] at z0
      go_wp2_with fail
      refine (C1 _).out.mono ?_
      rintro e w4 ⟨rfl, hb4⟩
      have B4 := Lib.hid (below_seq B3.out hb4)
      clear hb4
      go_wp2_with fail
      refine (C2 _).out.mono ?_
      rintro e w5 ⟨rfl, hb5⟩
      have B5 := Lib.hid (below_seq B4.out hb5)
      clear hb5 B4
      go_wp2_with fail
      refine (C3 _).out.mono ?_
      rintro e w6 ⟨rfl, hb6⟩
      have B6 := Lib.hid (below_seq B5.out hb6)
      clear hb6 B5
      go_wp2_with fail
      refine (C4 _).out.mono ?_
      rintro e w7 ⟨rfl, hb7⟩
      have B7 := Lib.hid (below_seq B6.out hb7)
      clear hb7 B6 C1 C2 C3 C4
      by_cases hlt : (s.size : Int) < (t.size : Int)
      · have mx' : (d : Int) ≤ (t.size : Int) := by omega
        go_wp2
        go_ret
        exact ⟨ret_bool (by simp), B7.out⟩
      · have mx' : (d : Int) ≤ (s.size : Int) := by omega
        go_wp2
        go_ret
        exact ⟨ret_bool (by simp), B7.out⟩
  · have DR : ∀ c, Calls Try.prog 20 #[.slice (Option.map (fun x => x.add (l.length / 2)) a0) (l.length - l.length / 2) c] w2 (PairOut w2) := fun c => by
      have e : ((l.drop (l.length / 2)).take (l.length - l.length / 2)).length = l.length - l.length / 2 := by simp
      have := drawCapped (Option.map (fun x => x.add (l.length / 2)) a0) ((l.drop (l.length / 2)).take (l.length - l.length / 2)) c w2 (by rw [e]; omega) (by rw [List.map_take, List.map_drop]; exact R2.out.map_cut (l.length / 2) (l.length - l.length / 2) (by simp; omega))
      rw [e] at this
      exact this
    go_wp2_with fail
    refine (DR _).mono ?_
    rintro e w3 ⟨q, c, rfl, hq2, hc2, hb3⟩
    have hc' : c.size ≤ maxLen := by unfold maxLen; omega
    have B3 := Lib.hid (below_seq B2.out hb3)
    clear hb3 R2 hq2
    by_cases big : 32 < s.size ∨ 32 < t.size ∨ 32 < c.size
    · by_cases b1 : 32 < s.size
      · go_wp2_with fail
        refine (implDistance s t _ hs' ht').mono ?_
        rintro e w4 ⟨rfl, hb4⟩
        have B4 := Lib.hid (below_seq B3.out hb4)
        clear hb4
        go_wp2_with fail
        refine (specDistance s t _ hs' ht').mono ?_
        rintro e w5 ⟨rfl, hb5⟩
        have B5 := Lib.hid (below_seq B4.out hb5)
        clear hb5 B4
        generalize distZ s.data.toList t.data.toList = z
        go_wp2
        go_ret
        exact ⟨rfl, B5.out⟩
      by_cases b2 : 32 < t.size
      · go_wp2_with fail
        refine (implDistance s t _ hs' ht').mono ?_
        rintro e w4 ⟨rfl, hb4⟩
        have B4 := Lib.hid (below_seq B3.out hb4)
        clear hb4
        go_wp2_with fail
        refine (specDistance s t _ hs' ht').mono ?_
        rintro e w5 ⟨rfl, hb5⟩
        have B5 := Lib.hid (below_seq B4.out hb5)
        clear hb5 B4
        generalize distZ s.data.toList t.data.toList = z
        go_wp2
        go_ret
        exact ⟨rfl, B5.out⟩
      · have b3 : 32 < c.size := by omega
        go_wp2_with fail
        refine (implDistance s t _ hs' ht').mono ?_
        rintro e w4 ⟨rfl, hb4⟩
        have B4 := Lib.hid (below_seq B3.out hb4)
        clear hb4
        go_wp2_with fail
        refine (specDistance s t _ hs' ht').mono ?_
        rintro e w5 ⟨rfl, hb5⟩
        have B5 := Lib.hid (below_seq B4.out hb5)
        clear hb5 B4
        generalize distZ s.data.toList t.data.toList = z
        go_wp2
        go_ret
        exact ⟨rfl, B5.out⟩
    have b1 : ¬ 32 < s.size := by omega
    have b2 : ¬ 32 < t.size := by omega
    have b3 : ¬ 32 < c.size := by omega
    clear big
    have C1 := fun w => Lib.hid (implDistance s t w hs' ht')
    have C2 := fun w => Lib.hid (implDistance t s w ht' hs')
    have C3 := fun w => Lib.hid (implDistance s c w hs' hc')
    have C4 := fun w => Lib.hid (implDistance c t w hc' ht')
    rw [distZ_short s t b1 b2] at C1
    rw [distZ_short t s b2 b1, dist_comm t.data.toList] at C2
    rw [distZ_short s c b1 b3] at C3
    rw [distZ_short c t b3 b2] at C4
    have tri := dist_tri s.data.toList c.data.toList t.data.toList
    have gp1 := dist_gap s.data.toList t.data.toList
    have gp2 := dist_gap' s.data.toList t.data.toList
    have mx := dist_max s.data.toList t.data.toList
    have m1 := dist_max s.data.toList c.data.toList
    have m2 := dist_max c.data.toList t.data.toList
    rw [len_data, len_data] at gp1 gp2 mx m1 m2
    have z0 := zero_iff s.data.toList t.data.toList
    rw [← str_beq] at z0
    generalize dist s.data.toList t.data.toList = d at *
    generalize dist s.data.toList c.data.toList = e1 at *
    generalize dist c.data.toList t.data.toList = e2 at *
    have dd : ((d : Int) == (d : Int)) = true := by simp
    have tri' : (d : Int) ≤ (e1 : Int) + (e2 : Int) := by omega
    have gp1' : (s.size : Int) - (t.size : Int) ≤ (d : Int) := by omega
    have gp2' : -((s.size : Int) - (t.size : Int)) ≤ (d : Int) := by omega
    have gp3' : (t.size : Int) - (s.size : Int) ≤ (d : Int) := by omega
    clear tri gp1 gp2
    cases hst : (s.toList == t.toList)
    all_goals
      rw [hst] at z0
      go_wp2_with fail
      refine (C1 _).out.mono ?_
      rintro e w4 ⟨rfl, hb4⟩
      have B4 := Lib.hid (below_seq B3.out hb4)
      clear hb4
      go_wp2_with fail
      refine (C2 _).out.mono ?_
      rintro e w5 ⟨rfl, hb5⟩
      have B5 := Lib.hid (below_seq B4.out hb5)
      clear hb5 B4
      go_wp2_with fail
      refine (C3 _).out.mono ?_
      rintro e w6 ⟨rfl, hb6⟩
      have B6 := Lib.hid (below_seq B5.out hb6)
      clear hb6 B5
      go_wp2_with fail
      refine (C4 _).out.mono ?_
      rintro e w7 ⟨rfl, hb7⟩
      have B7 := Lib.hid (below_seq B6.out hb7)
      clear hb7 B6 C1 C2 C3 C4
      by_cases hlt : (s.size : Int) < (t.size : Int)
      · have mx' : (d : Int) ≤ (t.size : Int) := by omega
        go_wp2
        go_ret
        exact ⟨ret_bool (by simp), B7.out⟩
      · have mx' : (d : Int) ≤ (s.size : Int) := by omega
        go_wp2
        go_ret
        exact ⟨ret_bool (by simp), B7.out⟩

set_option maxRecDepth 100000 in
theorem lifted (os : Os) (started : os.Started) (H : Type) (enc : TypeId × Value → H) :
    ReturnsInHanded {} Try.checked os 5 .any (Rows.fnMetricSpec.pre6 enc Try.prog Try.f5 Rows.fnMetricRow.domain false) (Rows.fnMetricSpec.post enc Try.prog Try.f5 false true false false) := by
  refine returnsInHanded_of_change (C := Try.checked) own started (by kernel_rfl) Try.func5
    (ChangeSpec.witness6 (enc := enc) (C := Try.checked) false ⟨#[], #[.slice none 0 0], []⟩ 8 (by kernel_rfl) (by kernel_rfl) (by kernel_rfl) (by kernel_rfl)) ?_
  intro W base args ds gs before hval0 hW hcnd _
  have hval : ∀ (j : Nat) t v, Try.f5.params[j]? = some t → args[j]? = some v → Value.okWide Try.prog W .any base t v := hval0
  have hW' := hW
  obtain ⟨p, q, hA0, hV, rfl, hfz, hnd⟩ := hW
  have hA : DataW.TrodAll enc Try.prog W 0 (fun _ => true) true Try.f5.params.toList args.toList ds p := hA0
  rw [Try.params5] at hA hval
  obtain ⟨v0, vs0, d0, ds0, p0, q0, hargs, rfl, rfl, h0, r0⟩ := trodAll_cons hA
  obtain ⟨rfl, rfl, rfl⟩ := trodAll_nil r0
  obtain rfl : args = #[v0] := by cases args; simp_all
  obtain ⟨rfl, rfl⟩ := trodVars_none hV
  obtain ⟨a0, len0, cap0, rfl⟩ := okWide_slice Try.underlying22 (hval 0 22 v0 rfl rfl)
  have k0 := h0
  have lt0 : ∀ x ∈ p0, x.block < W.heap.size := by obtain ⟨m, hm⟩ := k0; exact DataW.trod_lt m _ _ _ hm
  obtain ⟨z0, w0⟩ : ∃ zs, IsRow .u8 W a0 len0 cap0 zs := by
    obtain ⟨fuel, hf⟩ := h0
    rcases open_ints Try.underlying22 Try.underlying5 (by kernel_rfl) hf with ⟨hcs, _⟩ | ⟨x, l, c, zs, hcs, _, hl, hm, hz, _, hcell, hwz⟩
    · simp [Value.cells] at hcs
      obtain ⟨rfl, rfl, rfl⟩ := hcs
      exact ⟨[], .inl ⟨rfl, rfl, rfl, rfl⟩⟩
    · simp [Value.cells] at hcs
      obtain ⟨rfl, rfl, rfl⟩ := hcs
      exact ⟨zs, .inr ⟨_, rfl, hl, hm, by simpa using hz, hcell, hwz⟩⟩
  clear hA0 hval0
  refine (walk a0 len0 cap0 z0 W w0).mono fun e W' ⟨he, bel⟩ => ?_
  subst he
  exact ⟨_, rfl, _, _, _, [], _, [], hW', trodAll_mk1 (shut_bool Try.underlying4 _), (trodAll_cons_mk (Below.trod laidOut (by kernel_rfl) (of_decide_eq_true (by kernel_rfl)) k0 bel lt0) trodAll_mk0), rfl, bel.frame _, fun h => by cases h⟩

theorem over : Rows.fnMetricRow.holds Try.pinned (OpenSpec.ofChange Rows.fnMetricSpec) :=
  OpenClaim.holds_of_wide 5 Try.f5 rfl rfl rfl rfl rfl rfl rfl ⟨rfl, rfl, rfl, rfl, rfl⟩ rfl rfl rfl rfl rfl (by kernel_rfl) Try.func5 (by kernel_rfl)
    (of_decide_eq_true (by kernel_rfl)) (by unfold Func.isWrapper; first | (rw [if_pos (by decide +kernel)]; kernel_rfl) | (rw [if_neg (by decide +kernel)]; exact ⟨rfl, rfl⟩))
    (fun os started H enc _ => lifted os started H enc)
end Go.Proofs.Ytcjcklpmlfoloaa.fnMetric
namespace Go.Proofs.Ytcjcklpmlfoloaa
theorem fnMetric_holds : Rows.FnMetricSaid := fnMetric.over
end Go.Proofs.Ytcjcklpmlfoloaa
