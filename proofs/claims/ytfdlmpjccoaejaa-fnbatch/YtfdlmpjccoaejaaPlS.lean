/- Chapter 7 in the model: the planes of strings. -/
import Derived.Test.YtfdlmpjccoaejaaPlI
namespace Go.Proofs.Ytfdlmpjccoaejaa
open Go.RowKit
set_option linter.unusedVariables false
set_option maxRecDepth 100000

theorem planes_pos {ws : List (List UInt8)} (F : Nat → Nat) (h : ∀ i, i < ws.length → F i < 256) : ∀ z ∈ intsN ws.length F, 0 ≤ z ∧ z < 9223372036854775808 := intsN_pos (fun i hi => by have := h i hi; omega)
set_option maxHeartbeats 4000000 in
theorem specPlanesOf (c : Value) (ws : List (List UInt8)) (w : World) (h : StringSIn [c] ws w) (hb : ∀ s ∈ ws, s.length ≤ maxLen) :
    Calls Try.prog 17 #[c] w (PlanesOfRet ws w) := by
  have HI := Lib.hid h
  obtain ⟨a, cap, rfl, _, h2, _⟩ := stringSIn_shape h
  have HB := Lib.hid hb
  unfold maxLen at h2
  clear h hb
  by_cases g1 : 64 < ws.length
  · have P := Lib.hid (planes_long g1)
    go_enter Try.func17, Try.ntmps17
    go_wp2
    exact bodyPost_ret (v := .tuple #[.agg #[.int .i64 0, .slice none 0 0, .slice none 0 0], .bool false]) (by simp [results, Try.results17, go_sem]) rfl
      ⟨_, _, _, by rw [P.out], by unfold planesOfM; rw [P.out]; exact zero_own _ _ (by simp) _, below_box (Below.refl _ _) _⟩
  have A0 : Hid ((((w.alloc (.cells #[.int .i64 0, .slice none 0 0, .slice none 0 0] 28)).alloc (.cells #[] 3)).ownsRow (w.heap.size + 1) 3 1 (.slice (some ⟨w.heap.size + 1, 0, none⟩) 0 0) 0 ((intsN 0 (fun i => (ws.getD i []).length)).map ival)) ∧ ((w.alloc (.cells #[.int .i64 0, .slice none 0 0, .slice none 0 0] 28)).alloc (.cells #[] 3)).heap[w.heap.size]? = some (.cells #[.int .i64 0, .slice none 0 0, .slice none 0 0] 28 (0, 0)) ∧ Below w.heap.size w ((w.alloc (.cells #[.int .i64 0, .slice none 0 0, .slice none 0 0] 28)).alloc (.cells #[] 3)) ∧ ∀ i (hi : i < ws.length), i < 0 → strB ws[i] = true) := Lib.hid ⟨by
      have := nil_ints (w.alloc (.cells #[.int .i64 0, .slice none 0 0, .slice none 0 0] 28))
      rw [size_box] at this
      exact this, (alloc_old _ _ _ (by simp)).trans (alloc_at _ _ _ rfl), below_box (below_box (Below.refl _ _) _) _, fun i _ h => absurd h (Nat.not_lt_zero _)⟩
  go_enter Try.func17, Try.ntmps17
  go_wp2
  generalize (w.alloc (.cells #[.int .i64 0, .slice none 0 0, .slice none 0 0] 28)).alloc (.cells #[] 3) = w2 at *
  go_loopw [4, 5] (fun o i wr => ∃ (k cl : Nat) (al : Option Addr), k ≤ ws.length ∧ i = .int .i64 k ∧ o = .slice al k cl ∧ Hid (wr.ownsRow (w.heap.size + 1) 3 1 (.slice al k cl) k ((intsN k (fun i => (ws.getD i []).length)).map ival) ∧ wr.heap[w.heap.size]? = some (.cells #[.int .i64 0, .slice none 0 0, .slice none 0 0] 28 (0, 0)) ∧ Below w.heap.size w wr ∧ ∀ i (hi : i < ws.length), i < k → strB ws[i] = true)) (fun _ i _ => ws.length - (intOf i).toNat)
  case atStart => exact ⟨0, 0, _, Nat.zero_le _, rfl, rfl, A0⟩
  case round =>
    clear A0
    obtain ⟨k, cl, al, hk, rfl, rfl, H⟩ := hrel
    by_cases hlt : k < ws.length
    · obtain ⟨b1, o1, cap1', e1, q1⟩ := str_at (HI.out.below H.out.2.2.1) hlt
      simp at e1
      obtain ⟨rfl, rfl⟩ := e1
      have eg : ws.getD k [] = ws[k] := by simp [List.getD, hlt]
      have SN := Lib.hid (intsN_snoc k (fun i => (ws.getD i []).length))
      simp only [eg] at SN
      rw [← strL_size] at SN
      have hsz : (strL ws[k]).size ≤ maxLen := by rw [strL_size]; exact HB.out _ (List.getElem_mem hlt)
      have H2 : Hid (strB ws[k] = true → ∀ i (hi : i < ws.length), i < k + 1 → strB ws[i] = true) := Lib.hid (fun hB i hi h => by
        by_cases e : i = k
        · subst e; exact hB
        · exact H.out.2.2.2 i hi (by omega))
      have W := Lib.hid (fun w => specWordOk (strL ws[k]) w hsz)
      rw [strL_data] at W
      have N := Lib.hid (planes_bad (ws := ws) hlt)
      unfold maxLen at hsz
      have em : (strL ws[k]).toList.isEmpty = ws[k].isEmpty := toL_empty _
      have eS : strB ws[k] = (ws[k].isEmpty || wordB ws[k]) := rfl
      have hws : w.heap.size < wr.heap.size := cur_lt H.out.2.1
      have FIN : Hid (∀ (y : Int) v3 w3, w3.ownsRow (w.heap.size + 1) 3 1 v3 (k + 1) ((intsN k (fun i => (ws.getD i []).length)).map ival ++ [.int .i64 y]) → (wr.alloc (.cells #[.int .i64 y] 3)).grownBy w3 (Value.ownBlock (.slice al k cl)) → w3.heap[w.heap.size]? = some (.cells #[.int .i64 0, .slice none 0 0, .slice none 0 0] 28 (0, 0)) ∧ Below w.heap.size w w3) := Lib.hid (fun y v3 w3 h3 hg => by
        refine ⟨kept_grown ((alloc_old _ _ _ hws).trans H.out.2.1) hg (own_ne H.out.1 (by omega)), ?_⟩
        exact (below_box H.out.2.2.1 _).grown hg (by simp; omega) (fun g hg => by have := (H.out.1.lt g hg).1; omega))
      clear eg
      cases h1 : ws[k].isEmpty
      · rw [h1] at em eS
        cases h3 : wordB ws[k]
        · rw [h3] at W eS
          have P := Lib.hid (N.out eS)
          have i0 := cur_cell H.out.2.1 0
          have i1 := cur_cell H.out.2.1 1
          have i2 := cur_cell H.out.2.1 2
          simp at i0 i1 i2
          have g0 := cur_free H.out.2.1 0
          have g1 := cur_free H.out.2.1 1
          have g2 := cur_free H.out.2.1 2
          clear h1 h3 H2 N eS SN FIN
          generalize strL ws[k] = y at *
          go_wp2_with fail
          refine (W.out _).mono ?_
          rintro e w3 ⟨rfl, rfl⟩
          go_wp2
          exact bodyPost_ret (v := .tuple #[.agg #[.int .i64 0, .slice none 0 0, .slice none 0 0], .bool false]) (by simp [results, Try.results17, go_sem, i0, i1, i2]) rfl
            ⟨_, _, _, by rw [P.out], by unfold planesOfM; rw [P.out]; exact zero_own _ _ (by have := H.out.2.2.1.size; simp; omega) _, ((H.out.2.2.1.setCell (p := ⟨w.heap.size, 0, none⟩) (by simp) _).setCell (p := ⟨w.heap.size, 1, none⟩) (by simp) _).setCell (p := ⟨w.heap.size, 2, none⟩) (by simp) _⟩
        · rw [h3] at W eS
          have R2 := Lib.hid (H2.out eS)
          clear h1 h3 H2 N eS
          generalize strL ws[k] = y at *
          go_wp2_with fail
          refine (W.out _).mono ?_
          rintro e w3 ⟨rfl, rfl⟩
          go_wp2_with (at_builtin; go_must (refine wp_app_row rfl _ _ 36 rfl 3 (.int .i64 0) 8 Try.underlying36 Try.info3 rfl (w.heap.size + 1) k (.slice al k cl) _ (by rfl) (H.out.1.alloc _) (some ⟨wr.heap.size, 0, none⟩) 1 1 [.int .i64 y.size] (by rfl) rfl (row_one wr (.int .i64 y.size) 3) (by simp [Value.oneCell']) (by unfold maxLen; omega) (by omega) (by simp; omega) ?_); intro v3 w3 ho3 hg3; have F3 := Lib.hid (FIN.out _ v3 w3 ho3 hg3); rw [← SN.out] at ho3; have O3 := Lib.hid ho3; obtain ⟨a3, c3, rfl⟩ := own_shape ho3; clear ho3 hg3)
          go_roundw
          case rel => exact ⟨k + 1, c3, a3, by omega, by go_num, rfl, Lib.hid ⟨O3.out, F3.out.1, F3.out.2, R2.out⟩⟩
          case measure => simp [intOf]; omega
      · rw [h1] at em eS
        have R2 := Lib.hid (H2.out (by rw [eS]; rfl))
        clear h1 H2 N eS W
        generalize strL ws[k] = y at *
        go_wp2_with (at_builtin; go_must (refine wp_app_row rfl _ _ 36 rfl 3 (.int .i64 0) 8 Try.underlying36 Try.info3 rfl (w.heap.size + 1) k (.slice al k cl) _ (by rfl) (H.out.1.alloc _) (some ⟨wr.heap.size, 0, none⟩) 1 1 [.int .i64 y.size] (by rfl) rfl (row_one wr (.int .i64 y.size) 3) (by simp [Value.oneCell']) (by unfold maxLen; omega) (by omega) (by simp; omega) ?_); intro v3 w3 ho3 hg3; have F3 := Lib.hid (FIN.out _ v3 w3 ho3 hg3); rw [← SN.out] at ho3; have O3 := Lib.hid ho3; obtain ⟨a3, c3, rfl⟩ := own_shape ho3; clear ho3 hg3)
        go_roundw
        case rel => exact ⟨k + 1, c3, a3, by omega, by go_num, rfl, Lib.hid ⟨O3.out, F3.out.1, F3.out.2, R2.out⟩⟩
        case measure => simp [intOf]; omega
    · have hk' : k = ws.length := by omega
      subst hk'
      have PB : Hid (planesB ws = true) := Lib.hid (planesB_iff.2 ⟨by omega, fun s hs => by obtain ⟨i, hi, rfl⟩ := List.mem_iff_getElem.1 hs; exact H.out.2.2.2 i hi hi⟩)
      have NC := Lib.hid (specPut (.slice al ws.length cl) _ 6 wr ((IntSOwn.mk H.out.1).read) (by rw [intsN_length]; omega) (by omega) (planes_pos _ (fun i hi => by have := str_len (strB_at PB.out i); omega)))
      rw [intsN_nats, map_len] at NC
      have H4 := Lib.hid (And.intro H.out.2.1 H.out.2.2.1)
      have EL : Hid (putN (ws.map List.length) 6 = lensN ws) := Lib.hid rfl
      rw [EL.out] at NC
      clear H EL
      go_wp2_with fail
      refine NC.out.mono ?_
      rintro e w4 ⟨c1, rfl, ho4, hb4⟩
      obtain ⟨a1, n1, k1, rfl⟩ := ho4.shape
      have X0 : Hid (PlBox w4.heap.size w.heap.size ws.length (.slice a1 n1 k1) (lensN ws) none 0 0 [] w (w4.alloc (.cells #[.int .i64 ws.length, .slice a1 n1 k1, .slice none 0 0] 28))) := Lib.hid (by
        have hb' := below_box (Below.refl w4.heap.size w4) (.cells #[.int .i64 ws.length, .slice a1 n1 k1, .slice none 0 0] 28)
        have h1 := kept_block H4.out.1 hb4
        refine ⟨alloc_at _ _ _ rfl, ⟨rfl, .inl ⟨rfl, rfl⟩⟩, kept_block h1 hb', (((ho4.wide (cur_lt H4.out.1) (Nat.le_refl _)).lies (Nat.le_refl _)).below hb').now, below_seq (below_seq H4.out.2 hb4) hb', rfl, cur_lt h1⟩)
      clear ho4 hb4 H4 NC
      go_wp2
      generalize w4.heap.size = B at *
      generalize w4.alloc (.cells #[.int .i64 ws.length, .slice a1 n1 k1, .slice none 0 0] 28) = w5 at *
      go_loopw [7, 8, 9, 10] (fun i _ _ _ wr => ∃ (p m : Nat) (al : Option Addr) (cl : Nat), p ≤ 32 ∧ m ≤ 160 ∧ Hid (m = 5 * p) ∧ i = .int .i64 p ∧ Hid (PlBox B w.heap.size ws.length (.slice a1 n1 k1) (lensN ws) al m cl (lettersN ws p) w wr)) (fun i _ _ _ _ => 32 - (intOf i).toNat)
      case atStart => exact ⟨0, 0, none, 0, by omega, by omega, Lib.hid rfl, rfl, X0⟩
      case round =>
        clear X0
        obtain ⟨p, m, al, cl, hp, hm, HM, rfl, X⟩ := hrel
        by_cases hlt : p < 32
        · have hd : decide ((p : Int) < 32) = true := by simp; omega
          go_wp2
          clear hd
          have A1 : Hid ((wr.alloc (.cells #[] 3)).ownsRow wr.heap.size 3 1 (.slice (some ⟨wr.heap.size, 0, none⟩) 0 0) 0 ((intsN 0 (fun i => letAt p (ws.getD i []))).map ival) ∧ Below wr.heap.size wr (wr.alloc (.cells #[] 3))) := Lib.hid ⟨nil_ints wr, below_box (Below.refl _ _) _⟩
          obtain ⟨V, hV⟩ : ∃ V, V = wr := ⟨_, rfl⟩
          subst hV
          go_loopw [8, 9, 10] (fun o i _ wq => ∃ (k c : Nat) (ad : Option Addr), k ≤ ws.length ∧ i = .int .i64 k ∧ o = .slice ad k c ∧ Hid (wq.ownsRow V.heap.size 3 1 (.slice ad k c) k ((intsN k (fun i => letAt p (ws.getD i []))).map ival) ∧ Below V.heap.size V wq)) (fun _ i _ _ => ws.length - (intOf i).toNat)
          case atStart => exact ⟨0, 0, _, Nat.zero_le _, rfl, rfl, A1⟩
          case round =>
            clear A1
            obtain ⟨k, c, ad, hk, rfl, rfl, H⟩ := hrel
            by_cases hkn : k < ws.length
            · obtain ⟨b1, o1, cap1', e1, q1⟩ := str_at (HI.out.below (below_seq X.out.low H.out.2)) hkn
              simp at e1
              obtain ⟨rfl, rfl⟩ := e1
              have eg : ws.getD k [] = ws[k] := by simp [List.getD, hkn]
              have hs := strB_at PB.out k
              rw [eg] at hs
              have SN := Lib.hid (intsN_snoc k (fun i => letAt p (ws.getD i [])))
              simp only [eg] at SN
              have hsz := H.out.2.size
              by_cases hpl : p < ws[k].length
              · have hszy : p < (strL ws[k]).size := by rw [strL_size]; exact hpl
                have hlow := str_low hs _ (List.getElem_mem hpl)
                have ev : letAt p ws[k] = ws[k][p].toNat - 96 := by
                  have e : ws[k].getD p 0 = ws[k][p] := by rw [List.getD_eq_getElem?_getD, List.getElem?_eq_getElem hpl]; rfl
                  unfold letAt; rw [if_pos hpl, e]
                have hv : ((((strL ws[k])[p]'hszy).toNat : Int)) - 96 = ((letAt p ws[k] : Nat) : Int) := by
                  show ((ws[k][p].toNat : Int)) - 96 = _
                  rw [ev]; omega
                have hb8 := ((strL ws[k])[p]'hszy).toNat_lt
                clear hlow ev hs eg hpl
                generalize letAt p ws[k] = v at *
                generalize strL ws[k] = y at *
                have hb9 : ((y[p]'hszy).toNat : Int) = (v : Int) + 96 := by omega
                go_wp2_with (at_builtin; go_must (refine wp_app_row rfl _ _ 36 rfl 3 (.int .i64 0) 8 Try.underlying36 Try.info3 rfl V.heap.size k (.slice ad k c) _ (by rfl) (H.out.1.alloc _) (some ⟨wr.heap.size, 0, none⟩) 1 1 [.int .i64 v] (by rfl) rfl (row_one wr (.int .i64 v) 3) (by simp [Value.oneCell']) (by unfold maxLen; omega) (by omega) (by simp; omega) ?_); intro v3 w3 ho3 hg3; rw [← SN.out] at ho3; have F3 := Lib.hid (And.intro ho3 (app_below H.out.2 H.out.1 _ hg3)); obtain ⟨a3, c3, rfl⟩ := own_shape ho3; clear ho3 hg3)
                go_roundw
                case rel => exact ⟨k + 1, c3, a3, by omega, by go_num, rfl, F3⟩
                case measure => simp [intOf]; omega
              · have ev : letAt p ws[k] = 0 := letAt_no hpl
                replace SN : Hid ((intsN (k + 1) (fun i => letAt p (ws.getD i []))).map ival = (intsN k (fun i => letAt p (ws.getD i []))).map ival ++ [.int .i64 0]) := Lib.hid (by have := SN.out; rw [ev] at this; exact this)
                have hszy : ¬ p < (strL ws[k]).size := by rw [strL_size]; exact hpl
                clear ev hs eg hpl
                generalize strL ws[k] = y at *
                go_wp2_with (at_builtin; go_must (refine wp_app_row rfl _ _ 36 rfl 3 (.int .i64 0) 8 Try.underlying36 Try.info3 rfl V.heap.size k (.slice ad k c) _ (by rfl) (H.out.1.alloc _) (some ⟨wr.heap.size, 0, none⟩) 1 1 [.int .i64 0] (by rfl) rfl (row_one wr (.int .i64 0) 3) (by simp [Value.oneCell']) (by unfold maxLen; omega) (by omega) (by simp; omega) ?_); intro v3 w3 ho3 hg3; rw [← SN.out] at ho3; have F3 := Lib.hid (And.intro ho3 (app_below H.out.2 H.out.1 _ hg3)); obtain ⟨a3, c3, rfl⟩ := own_shape ho3; clear ho3 hg3)
                go_roundw
                case rel => exact ⟨k + 1, c3, a3, by omega, by go_num, rfl, F3⟩
                case measure => simp [intOf]; omega
            · have hk' : k = ws.length := by omega
              subst hk'
              have q0 := (X.out.below H.out.2).cell
              have LA := Lib.hid (specPut (.slice ad ws.length c) _ 5 wr.drew ((((IntSOwn.mk H.out.1).read).lies.below (belowN 1)).now) (by rw [intsN_length]; omega) (by omega) (planes_pos _ (fun i hi => by have := letAt_lt (strB_at PB.out i) p; omega)))
              rw [intsN_nats, map_letAt] at LA
              have PL : (putN (ws.map (letAt p)) 5).length = 5 := putN_length _ _
              have LS2 : (lettersN ws (p + 1)).map uval = (lettersN ws p).map uval ++ (putN (ws.map (letAt p)) 5).map uval := by rw [lettersN_succ ws p, List.map_append]
              have HLS := Lib.hid LS2
              have HPL := Lib.hid PL
              have hm2 : m + 5 ≤ 160 := by have := HM.out; omega
              have HM2 : Hid (m + 5 = 5 * (p + 1)) := Lib.hid (by have := HM.out; omega)
              clear LS2 PL
              generalize putN (ws.map (letAt p)) 5 = P5 at *
              have X1 := Lib.hid ((X.out.below H.out.2).below (belowN 1))
              clear X H
              go_wp2
              go_region_law (first
                | (refine step_callW wr.drew rfl (by rfl) 64 _ _ rfl _ (by kernel_rfl) Try.call64 _ LA.out ?_; rintro e w7 ⟨c7, rfl, ho7, hb7⟩; refine ⟨_, rfl, ?_⟩; have X7 := Lib.hid (X1.out.below hb7); obtain ⟨a7, k7, rfl, _, _, r7⟩ := uint64SIn_shape ho7.read; rw [HPL.out]; have R7 := Lib.hid r7; have q7 := X7.out.cell; clear ho7 hb7 r7)
                | (refine step_app_rowW w7 rfl (by rfl) _ _ 26 rfl 43 (.int .u64 0) 8 Try.underlying26 Try.infoU64 rfl (B + 1) m (.slice al m cl) ((lettersN ws p).map uval) X7.out.own (by rfl) a7 5 k7 (P5.map uval) (by rfl) (by rw [List.length_map, HPL.out]) R7.out (ones_uv P5) (by unfold maxLen; omega) (by omega) (cur_lt X7.out.box) ?_; intro v8 w8 o8 g8; rw [← HLS.out] at o8; obtain ⟨a8, c8, rfl, x8⟩ := X7.out.app o8 g8; have X8 := Lib.hid x8; have q8 : w8.cell? ⟨B, 2, none⟩ = some (.slice al m cl) := (by have := kept_grown X7.out.box g8 (own_ne X7.out.own (by omega)); exact cur_cell this 2); have f8 : w8.frozen? ⟨B, 2, none⟩ = false := (by have := kept_grown X7.out.box g8 (own_ne X7.out.own (by omega)); exact cur_free this 2); clear o8 g8 x8))
              all_goals
                go_wp2
                go_roundw
                case rel => exact ⟨p + 1, m + 5, a8, c8, by omega, by omega, HM2, by go_num, X8⟩
                case measure => simp [intOf]; omega
        · have hp' : p = 32 := by omega
          subst hp'
          have i0 : wr.cell? ⟨w.heap.size, 0, none⟩ = some (.int .i64 0) := cur_cell X.out.res 0
          have i1 : wr.cell? ⟨w.heap.size, 1, none⟩ = some (.slice none 0 0) := cur_cell X.out.res 1
          have i2 : wr.cell? ⟨w.heap.size, 2, none⟩ = some (.slice none 0 0) := cur_cell X.out.res 2
          have g0 := cur_free X.out.res 0
          have g1 := cur_free X.out.res 1
          have g2 := cur_free X.out.res 2
          have j0 : wr.cell? ⟨B, 0, none⟩ = some (.int .i64 ws.length) := cur_cell X.out.box 0
          have j1 : wr.cell? ⟨B, 1, none⟩ = some (.slice a1 n1 k1) := cur_cell X.out.box 1
          have j2 := X.out.cell
          go_wp2
          refine bodyPost_ret (v := .tuple #[.agg #[.int .i64 ws.length, .slice a1 n1 k1, .slice al m cl], .bool true]) (by simp [results, Try.results17, go_sem, i0, i1, i2]) rfl ⟨_, _, _, by rw [PB.out], ?_, ?_⟩
          · unfold planesOfM
            rw [PB.out]
            exact X.out.fin _ (fun k hk => (Below.heap_setCell _ _ _ k (by simpa using hk)).trans ((Below.heap_setCell _ _ _ k (by simpa using hk)).trans (Below.heap_setCell _ _ _ k (by simpa using hk)))) (by simp)
          · exact ((X.out.low.setCell (p := ⟨w.heap.size, 0, none⟩) (by simp) _).setCell (p := ⟨w.heap.size, 1, none⟩) (by simp) _).setCell (p := ⟨w.heap.size, 2, none⟩) (by simp) _
theorem uSpecPlanesOf (c : Value) (ws : List (List UInt8)) (w : World) (h : StringSIn [c] ws w) (hb : ∀ s ∈ ws, s.length ≤ maxLen) : Calls Try.prog 17 #[c] w (PlanesOfRet ws w) := specPlanesOf c ws w h hb
theorem uImplPlanesOf (c : Value) (ws : List (List UInt8)) (w : World) (h : StringSIn [c] ws w) (hb : ∀ s ∈ ws, s.length ≤ maxLen) : Calls Try.prog 18 #[c] w (PlanesOfRet ws w) := implPlanesOf c ws w h hb
theorem planesOfM_bd (ws : List (List UInt8)) : szPlanes (planesOfM ws) ≤ 1000000000000 := by
  unfold planesOfM szPlanes
  split
  · show (lensN ws).length + (lettersN ws 32).length ≤ _
    rw [lettersN_length]
    unfold lensN
    rw [putN_length]
    omega
  · simp
end Go.Proofs.Ytfdlmpjccoaejaa
