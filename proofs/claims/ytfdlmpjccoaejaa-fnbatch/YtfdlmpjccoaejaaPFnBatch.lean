/- For every code: the law FnBatch answers true: words put into planes come back, and the distances of all of them from one word are those of each. No condition. -/
import Derived.Test.YtfdlmpjccoaejaaBase
import Derived.Test.YtfdlmpjccoaejaaBigIs
import Derived.Test.YtfdlmpjccoaejaaJBatch
import Derived.Test.YtfdlmpjccoaejaaEdD
import Derived.Test.YtfdlmpjccoaejaaPlX
namespace Go.Proofs.Ytfdlmpjccoaejaa.fnBatch
open Go.ChangeShapes Go.WideShapes Go.ChangeAt Go.RowKit
open Go.ChangeMaps (open_string shut_string)
set_option linter.unusedVariables false
theorem lettersN_lt (ws : List (List UInt8)) (hl : ws.length ≤ 64) : ∀ p, bd64 (lettersN ws p)
  | 0 => by simp [lettersN, bd64]
  | p + 1 => by
    rw [lettersN_succ]
    intro x hx
    rcases List.mem_append.1 hx with h | h
    · exact lettersN_lt ws hl p x h
    · exact putN_lt _ _ (by simpa using hl) x h
theorem planes_bd {ws : List (List UInt8)} (h : planesB ws = true) : planesBd (planesOf ws) := by
  have hl := (planesB_iff.1 h).1
  refine ⟨⟨by show (-9223372036854775808 : Int) ≤ (ws.length : Int); omega, by show (ws.length : Int) ≤ 9223372036854775807; omega⟩, ?_, ?_⟩
  · exact putN_lt _ _ (by simpa using hl)
  · exact lettersN_lt _ hl _

set_option maxRecDepth 100000 in
set_option maxHeartbeats 2000000 in
theorem walk (a0 : Option Addr) (len0 cap0 : Nat) (z0 : List Int) (w : World) (w0 : IsRow .u8 w a0 len0 cap0 z0) :
    Calls Try.prog 3 #[.slice a0 len0 cap0] w fun e w' => e = .returned (.bool true) ∧ Below w.heap.size w w' := by
  obtain ⟨l, hl, hcap, hmax, hr⟩ := row_of_isRow w0
  clear w0
  subst hl
  have R := Lib.hid hr
  clear hr
  have hm : l.length ≤ maxLen := Nat.le_trans hcap hmax
  by_cases hbig : 1048576 < l.length
  · have hB : decide (1048576 < l.length) = true := by simp [hbig]
    go_enter Try.func3, Try.ntmps3
    go_wp2_with fail
    refine (bigIs a0 l.length cap0 _ hm).mono ?_
    rintro e w1 ⟨rfl, rfl⟩
    rw [hB]
    go_wp2
    go_ret
    exact ⟨rfl, Below.refl _ _⟩
  have hB : decide (1048576 < l.length) = false := by simp; omega
  have hl2 : l.length ≤ 1048576 := by omega
  go_enter Try.func3, Try.ntmps3
  go_wp2_with fail
  refine (bigIs a0 l.length cap0 _ hm).mono ?_
  rintro e w1 ⟨rfl, rfl⟩
  rw [hB]
  clear hB
  go_wp2_with fail
  refine (drawPlanesOf a0 l cap0 _ hl2 R.out).mono ?_
  rintro e w2 ⟨c, ws, rfl, is2, hlen, hst, hb2⟩
  obtain ⟨ad, cp, rfl, _, _, _⟩ := stringSIn_shape is2
  have W2 := Lib.hid is2
  have HS := Lib.hid hst
  have B2 := Lib.hid hb2
  clear is2 hst hb2
  go_wp2_with fail
  refine (drawBatchCapped a0 l cap0 _ hl2 (R.out.below B2.out)).mono ?_
  rintro e w3 ⟨p, z, a1, n1, k1, a2, n2, k2, rfl, hp, hb3⟩
  have V3 := Lib.hid (below_box hb3 (.cells #[.int .i64 z, .slice a1 n1 k1, .slice a2 n2 k2] 28))
  have B4 := Lib.hid (below_seq B2.out V3.out)
  have W4 := Lib.hid (W2.out.below V3.out)
  clear hb3 V3 W2 B2
  go_wp2_with fail
  generalize w3.alloc (.cells #[.int .i64 z, .slice a1 n1 k1, .slice a2 n2 k2] 28) = w4 at *
  refine (specPlanesOf (.slice ad ws.length cp) ws _ W4.out HS.out).mono ?_
  rintro e w5 ⟨d0, d1, d2, rfl, ho5, hb5⟩
  obtain ⟨z5, a15, n15, k15, a25, n25, k25, rfl, rfl, rfl⟩ := ho5.shape
  have V5 := Lib.hid (below_box hb5 (.cells #[.int .i64 z5, .slice a15 n15 k15, .slice a25 n25 k25] 28))
  have B6 := Lib.hid (below_seq B4.out V5.out)
  have W6 := Lib.hid (W4.out.below V5.out)
  clear hb5 V5 W4 B4 ho5
  go_wp2_with fail
  generalize w5.alloc (.cells #[.int .i64 z5, .slice a15 n15 k15, .slice a25 n25 k25] 28) = w6 at *
  refine (implPlanesOf (.slice ad ws.length cp) ws _ W6.out HS.out).mono ?_
  rintro e w7 ⟨d0, d1, d2, rfl, ho7, hb7⟩
  have I7 := Lib.hid (ho7.read)
  obtain ⟨z7, a17, n17, k17, a27, n27, k27, rfl, rfl, rfl⟩ := ho7.shape
  have V7 := Lib.hid (below_box hb7 (.cells #[.int .i64 z7, .slice a17 n17 k17, .slice a27 n27 k27] 28))
  have B8 := Lib.hid (below_seq B6.out V7.out)
  have W8 := Lib.hid (W6.out.below V7.out)
  have I8 := Lib.hid ((I7.out.lies.below (below_box (Below.refl _ _) (.cells #[.int .i64 z7, .slice a17 n17 k17, .slice a27 n27 k27] 28))).now)
  have K8 := Lib.hid (alloc_at w7 (.cells #[.int .i64 z7, .slice a17 n17 k17, .slice a27 n27 k27] 28) _ rfl)
  clear hb7 V7 W6 B6 ho7 I7
  cases hB : planesB ws
  · go_wp2
    go_ret
    exact ⟨rfl, B8.out⟩
  · have HM : planesOfM ws = planesOf ws := by unfold planesOfM; rw [if_pos hB]
    rw [HM] at I8
    have BD := Lib.hid (planes_bd hB)
    have WK := wordsM_ok hB
    have hlw : ws.length ≤ 64 := (planesB_iff.1 hB).1
    have HB := Lib.hid hB
    clear HM hB
    obtain ⟨X, hX⟩ : ∃ X, w7.heap.size = X := ⟨_, rfl⟩
    rw [hX] at K8
    have k0 : (w7.alloc (.cells #[.int .i64 z7, .slice a17 n17 k17, .slice a27 n27 k27] 28)).cell? ⟨X, 0, none⟩ = some (.int .i64 z7) := cur_cell K8.out 0
    have k1 : (w7.alloc (.cells #[.int .i64 z7, .slice a17 n17 k17, .slice a27 n27 k27] 28)).cell? ⟨X, 1, none⟩ = some (.slice a17 n17 k17) := cur_cell K8.out 1
    have k2 : (w7.alloc (.cells #[.int .i64 z7, .slice a17 n17 k17, .slice a27 n27 k27] 28)).cell? ⟨X, 2, none⟩ = some (.slice a27 n27 k27) := cur_cell K8.out 2
    have CW := Lib.hid (implPlanesWords _ _ _ _ _ I8.out BD.out)
    rw [WK.2] at CW
    obtain ⟨ad', cp', e', _, _, rw8⟩ := stringSIn_shape W8.out
    simp at e'
    obtain ⟨rfl, rfl⟩ := e'
    have R8 := Lib.hid rw8
    clear rw8
    go_wp2_with fail
    refine CW.out.mono ?_
    rintro e w9 ⟨c9, rfl, ho9, hb9⟩
    obtain ⟨a9, x9, rfl, _, _, row9⟩ := stringSIn_shape ho9.read
    have SW := Lib.hid (lawsSameWords a9 ad x9 cp ws ws w9 (by unfold maxLen; omega) (by unfold maxLen; omega) row9 (R8.out.below hb9))
    have V9 := Lib.hid hb9
    have eqw : (ws == ws) = true := by simp
    rw [eqw] at SW
    clear CW ho9 hb9 row9 eqw k0 k1 k2
    go_wp2_with fail
    refine SW.out.mono ?_
    rintro e w10 ⟨rfl, n, hn⟩
    have V10 := Lib.hid (below_seq V9.out (hn ▸ belowN n))
    have K10 := kept_block K8.out V10.out
    have k0 : w10.cell? ⟨X, 0, none⟩ = some (.int .i64 z7) := cur_cell K10 0
    have k1 : w10.cell? ⟨X, 1, none⟩ = some (.slice a17 n17 k17) := cur_cell K10 1
    have k2 : w10.cell? ⟨X, 2, none⟩ = some (.slice a27 n27 k27) := cur_cell K10 2
    have CK := Lib.hid (implPlanesOk _ _ _ _ _ ((I8.out.lies.below V10.out).now) BD.out)
    rw [WK.1] at CK
    clear SW V9 hn K10
    go_wp2_with fail
    refine CK.out.mono ?_
    rintro e w11 ⟨rfl, hb11⟩
    have V11 := Lib.hid (below_seq V10.out hb11)
    clear hb11 V10 CK k0 k1 k2
    have K11 := kept_block K8.out V11.out
    have k0 : w11.cell? ⟨X, 0, none⟩ = some (.int .i64 z7) := cur_cell K11 0
    have k1 : w11.cell? ⟨X, 1, none⟩ = some (.slice a17 n17 k17) := cur_cell K11 1
    have k2 : w11.cell? ⟨X, 2, none⟩ = some (.slice a27 n27 k27) := cur_cell K11 2
    have CB := Lib.hid (implBatch p _ _ _ _ _ (by unfold maxLen; omega) ((I8.out.lies.below V11.out).now) BD.out)
    clear K11
    go_wp2_with fail
    refine CB.out.mono ?_
    rintro e w12 ⟨c12, rfl, ho12, hb12⟩
    have V12 := Lib.hid (below_seq V11.out hb12)
    have B12 := Lib.hid (below_seq B8.out V12.out)
    have J12 := Lib.hid (ho12.read)
    have R12 := Lib.hid (R8.out.below V12.out)
    clear k0 k1 k2 CB ho12 hb12 V11 V12 K8 I8 R8 W8 B8
    by_cases hp32 : 32 < p.size
    · rw [batch_no (.inr (by rw [len_data]; exact hp32))] at J12
      obtain ⟨a12, x12, rfl, _, _, _⟩ := intSIn_shape J12.out
      go_wp2
      go_ret
      exact ⟨rfl, B12.out⟩
    rw [batch_yes WK.1 (by rw [len_data]; omega), wordsS_of HB.out] at J12
    obtain ⟨a12, x12, rfl, _, _, row12⟩ := intSIn_shape J12.out
    have Q12 := Lib.hid row12
    clear row12 J12
    rw [List.length_map]
    go_wp2
    go_loopw [11] (fun v wr => ∃ q : Nat, q ≤ ws.length ∧ v = .int .i64 q ∧ Hid (Below w12.heap.size w12 wr)) (fun v _ => ws.length - (intOf v).toNat)
    case atStart => exact ⟨0, Nat.zero_le _, rfl, Lib.hid (Below.refl _ _)⟩
    case round =>
      obtain ⟨q, hq, rfl, HR⟩ := hrel
      by_cases hlt : q < ws.length
      · obtain ⟨b1, o1, rfl, q1⟩ := (R12.out.below HR.out).at (i := q) (by simpa using hlt)
        obtain ⟨b2, o2, rfl, q2⟩ := (Q12.out.below HR.out).at (i := q) (by simpa using hlt)
        rw [sval_at hlt] at q1
        replace q2 : wr.cell? ⟨b2, o2 + q, none⟩ = some (.int .i64 (capZ p.data.toList ws[q])) := q2.trans (by simp [hlt, ival]; rfl)
        have CI : Hid (∀ wz, Calls Try.prog 23 #[.string p, .string (strL ws[q])] wz fun e w' => e = .returned (.int .i64 (capZ p.data.toList ws[q])) ∧ Below wz.heap.size wz w') := Lib.hid (fun wz => implCapped p (strL ws[q]) wz (by unfold maxLen; omega) (HS.out _ (List.getElem_mem hlt)))
        have CS : Hid (∀ wz, Calls Try.prog 24 #[.string p, .string (strL ws[q])] wz fun e w' => e = .returned (.int .i64 (capZ p.data.toList ws[q])) ∧ Below wz.heap.size wz w') := Lib.hid (fun wz => specCapped p (strL ws[q]) wz (by unfold maxLen; omega) (HS.out _ (List.getElem_mem hlt)))
        generalize capZ p.data.toList ws[q] = v at *
        generalize strL ws[q] = x at *
        have e1 : (v != v) = false := by simp
        have g0 : decide ((ws.length : Int) ≤ (q : Int)) = false := by simp; omega
        have g1 : decide ((q : Int) ≥ (ws.length : Int)) = false := by simp; omega
        have g2 : decide ((q : Int) < (ws.length : Int)) = true := by simp; omega
        have g3 : decide (ws.length ≤ q) = false := by simp; omega
        have g4 : (q : Int) < (ws.length : Int) := by omega
        have g5 : ¬ (ws.length : Int) ≤ (q : Int) := by omega
        have g6 : ¬ ws.length ≤ q := by omega
        go_wp2_with fail
        go_region_held3 (fun w' => w'.cell? ⟨b1, o1 + q, none⟩ = some (.string x) ∧ w'.cell? ⟨b2, o2 + q, none⟩ = some (.int .i64 v)) (first | go_keep | exact ⟨q1, q2⟩ | exact SA.out | exact SB.out)
          (first
            | (go_at_call 23; refine (CI.out _).mono ?_; rintro e wa ⟨rfl, ha⟩; have VA := Lib.hid (below_seq (belowN (w := wr) 1) ha); have SA := Lib.hid (And.intro (cell_keep q1 VA.out) (cell_keep q2 VA.out)); clear ha)
            | (go_at_call 24; refine (CS.out _).mono ?_; rintro e wb ⟨rfl, hb'⟩; have VB := Lib.hid (below_seq VA.out hb'); have SB := Lib.hid (And.intro (cell_keep q1 VB.out) (cell_keep q2 VB.out)); clear hb'))
        go_wp2
        go_roundw
        case rel => exact ⟨q + 1, by omega, by go_num, Lib.hid (below_seq HR.out VB.out)⟩
        case measure => simp [intOf]; omega
      · have hq' : q = ws.length := by omega
        subst hq'
        go_wp2
        go_ret
        exact ⟨rfl, below_seq B12.out HR.out⟩

set_option maxRecDepth 100000 in
theorem lifted (os : Os) (started : os.Started) (H : Type) (enc : TypeId × Value → H) :
    ReturnsInHanded {} Try.checked os 3 .any (Rows.fnBatchSpec.pre6 enc Try.prog Try.f3 Rows.fnBatchRow.domain false) (Rows.fnBatchSpec.post enc Try.prog Try.f3 false true false false) := by
  refine returnsInHanded_of_change (C := Try.checked) own started (by kernel_rfl) Try.func3
    (ChangeSpec.witness6 (enc := enc) (C := Try.checked) false ⟨#[], #[.slice none 0 0], []⟩ 8 (by kernel_rfl) (by kernel_rfl) (by kernel_rfl) (by kernel_rfl)) ?_
  intro W base args ds gs before hval0 hW hcnd _
  have hval : ∀ (j : Nat) t v, Try.f3.params[j]? = some t → args[j]? = some v → Value.okWide Try.prog W .any base t v := hval0
  have hW' := hW
  obtain ⟨p, q, hA0, hV, rfl, hfz, hnd⟩ := hW
  have hA : DataW.TrodAll enc Try.prog W 0 (fun _ => true) true Try.f3.params.toList args.toList ds p := hA0
  rw [Try.params3] at hA hval
  obtain ⟨v0, vs0, d0, ds0, p0, q0, hargs, rfl, rfl, h0, r0⟩ := trodAll_cons hA
  obtain ⟨rfl, rfl, rfl⟩ := trodAll_nil r0
  obtain rfl : args = #[v0] := by cases args; simp_all
  obtain ⟨rfl, rfl⟩ := trodVars_none hV
  obtain ⟨a0, len0, cap0, rfl⟩ := okWide_slice Try.underlying22 (hval 0 22 v0 rfl rfl)
  have k0 := h0
  have lt0 : ∀ x ∈ p0, x.block < W.heap.size := by obtain ⟨m, hm⟩ := k0; exact DataW.trod_lt m _ _ _ hm
  obtain ⟨z0, w0⟩ : ∃ zs, IsRow .u8 W a0 len0 cap0 zs := by
    obtain ⟨fuel, hf⟩ := h0
    rcases open_ints Try.underlying22 Try.underlying5 (by kernel_rfl) hf with ⟨hcs, _⟩ | ⟨x, l, c, zs, hcs, _, hl, hm, hz, _, hcell, hwz⟩
    · simp [Value.cells] at hcs
      obtain ⟨rfl, rfl, rfl⟩ := hcs
      exact ⟨[], .inl ⟨rfl, rfl, rfl, rfl⟩⟩
    · simp [Value.cells] at hcs
      obtain ⟨rfl, rfl, rfl⟩ := hcs
      exact ⟨zs, .inr ⟨_, rfl, hl, hm, by simpa using hz, hcell, hwz⟩⟩
  clear hA0 hval0
  refine (walk a0 len0 cap0 z0 W w0).mono fun e W' ⟨he, bel⟩ => ?_
  subst he
  exact ⟨_, rfl, _, _, _, [], _, [], hW', trodAll_mk1 (shut_bool Try.underlying4 _), (trodAll_cons_mk (Below.trod laidOut (by kernel_rfl) (of_decide_eq_true (by kernel_rfl)) k0 bel lt0) trodAll_mk0), rfl, bel.frame _, fun h => by cases h⟩

theorem over : Rows.fnBatchRow.holds Try.pinned (OpenSpec.ofChange Rows.fnBatchSpec) :=
  OpenClaim.holds_of_wide 3 Try.f3 rfl rfl rfl rfl rfl rfl rfl ⟨rfl, rfl, rfl, rfl, rfl⟩ rfl rfl rfl rfl rfl (by kernel_rfl) Try.func3 (by kernel_rfl)
    (of_decide_eq_true (by kernel_rfl)) (by unfold Func.isWrapper; first | (rw [if_pos (by decide +kernel)]; kernel_rfl) | (rw [if_neg (by decide +kernel)]; exact ⟨rfl, rfl⟩))
    (fun os started H enc _ => lifted os started H enc)
end Go.Proofs.Ytfdlmpjccoaejaa.fnBatch
namespace Go.Proofs.Ytfdlmpjccoaejaa
theorem fnBatch_holds : Rows.FnBatchSaid := fnBatch.over
end Go.Proofs.Ytfdlmpjccoaejaa
