/- Chapter 7 in the model: BatchCapped; what its exact law calls. -/
import Derived.Test.YtfdlmpjccoaejaaBaL
namespace Go.Proofs.Ytfdlmpjccoaejaa
open Go.RowKit
set_option linter.unusedVariables false
set_option maxRecDepth 100000

theorem cap_same (p w : List UInt8) : capZ p w = capN p w := rfl
def capsUp (p : List UInt8) (ws : List (List UInt8)) (k : Nat) : List Int := (ws.take k).map (capN p)
theorem capsUp_snoc {p : List UInt8} {ws : List (List UInt8)} {k : Nat} (h : k < ws.length) : (capsUp p ws (k + 1)).map ival = (capsUp p ws k).map ival ++ [.int .i64 (capN p ws[k])] := by
  unfold capsUp
  rw [List.take_succ_eq_append_getElem h, List.map_append, List.map_append]
  rfl
theorem capN_range (p w : List UInt8) : -1 ≤ capN p w ∧ capN p w ≤ 7 := by
  unfold capN
  have : -1 ≤ distZ p w := by unfold distZ; split <;> omega
  split <;> omega
set_option maxHeartbeats 4000000 in
theorem specBatch (p : ByteArray) (c0 c1 c2 : Value) (m : PlanesM) (w : World) (hp : p.size ≤ maxLen) (h : PlanesIn [c0, c1, c2] m w) (hb : planesBd m) :
    Calls Try.prog 55 #[.string p, .agg #[c0, c1, c2]] w (IntSRet (batchM p.data.toList m) w) := by
  obtain ⟨a1, x1, a2, x2, rfl, rfl, rfl, l1, l2⟩ := planesIn_cells h
  have HPM := Lib.hid hp
  unfold maxLen at hp
  have B1 := Lib.hid (below_box (Below.refl w.heap.size w) (.cells #[.int .i64 m.n, .slice a1 m.len.length x1, .slice a2 m.lts.length x2] 28))
  have C := Lib.hid (specPlanesOk _ _ _ m _ ((h.lies.below B1.out).now) hb)
  have BLK := Lib.hid (alloc_at w (.cells #[.int .i64 m.n, .slice a1 m.len.length x1, .slice a2 m.lts.length x2] 28) _ rfl)
  have LP := Lib.hid (len_data p)
  cases hP : planesOkB m
  · rw [hP] at C
    have E := Lib.hid (batch_no (p := p.data.toList) (.inl hP))
    clear h hb l1 l2 hP
    go_enter Try.func55, Try.ntmps55
    go_wp2_with fail
    refine C.out.mono ?_
    rintro e w2 ⟨rfl, hb2⟩
    go_wp2
    go_ret
    exact ⟨_, rfl, by rw [E.out]; exact nil_intsO _ _ _, below_seq B1.out hb2⟩
  rw [hP] at C
  by_cases hp32 : 32 < p.size
  · have E := Lib.hid (batch_no (p := p.data.toList) (m := m) (.inr (by rw [LP.out]; exact hp32)))
    clear h hb l1 l2 hP
    go_enter Try.func55, Try.ntmps55
    go_wp2_with fail
    refine C.out.mono ?_
    rintro e w2 ⟨rfl, hb2⟩
    go_wp2
    go_ret
    exact ⟨_, rfl, by rw [E.out]; exact nil_intsO _ _ _, below_seq B1.out hb2⟩
  obtain ⟨f1, f2, f3, f4⟩ := ok_fits hP
  have E := Lib.hid (batch_yes (p := p.data.toList) hP (by rw [LP.out]; omega))
  have WD := Lib.hid (fun w' (hb' : Below w.heap.size w w') => specWordsL _ _ _ m w' ((h.lies.below hb').now) hb f1 f2 f4)
  have WLn : (wordsS m).length ≤ 64 := by rw [wordsS_length]; omega
  have WS := Lib.hid (wordsS_small m)
  clear h hb l1 l2 hP f1 f2 f3 f4
  generalize wordsS m = ws at *
  go_enter Try.func55, Try.ntmps55
  go_wp2_with fail
  refine C.out.mono ?_
  rintro e w2 ⟨rfl, hb2⟩
  have K2 := Lib.hid (And.intro (kept_block BLK.out hb2) (below_seq B1.out hb2))
  have q0 := cur_cell K2.out.1 0
  have q1 := cur_cell K2.out.1 1
  have q2 := cur_cell K2.out.1 2
  simp at q0 q1 q2
  clear hb2 C BLK B1
  go_wp2_with fail
  refine (WD.out _ K2.out.2).mono ?_
  rintro e w3 ⟨c3, rfl, ho3, hb3⟩
  obtain ⟨a3, k3, rfl, _, _, _⟩ := stringSIn_shape ho3.read
  have I3 := Lib.hid ho3.read
  have K3 := Lib.hid (below_seq K2.out.2 hb3)
  have A0 : Hid ((w3.alloc (.cells #[] 3)).ownsRow w3.heap.size 3 1 (.slice (some ⟨w3.heap.size, 0, none⟩) 0 0) 0 ((capsUp p.data.toList ws 0).map ival) ∧ Below w3.heap.size w3 (w3.alloc (.cells #[] 3))) := Lib.hid ⟨nil_ints w3, below_box (Below.refl _ _) _⟩
  clear ho3 hb3 K2 q0 q1 q2 WD
  go_wp2
  go_loopw [6, 7] (fun o i wr => ∃ (k c : Nat) (ad : Option Addr), k ≤ ws.length ∧ i = .int .i64 k ∧ o = .slice ad k c ∧ Hid (wr.ownsRow w3.heap.size 3 1 (.slice ad k c) k ((capsUp p.data.toList ws k).map ival) ∧ Below w3.heap.size w3 wr)) (fun _ i _ => ws.length - (intOf i).toNat)
  case atStart => exact ⟨0, 0, _, Nat.zero_le _, rfl, rfl, A0⟩
  case round =>
    clear A0
    obtain ⟨k, c, ad, hk, rfl, rfl, H⟩ := hrel
    by_cases hlt : k < ws.length
    · obtain ⟨b1, o1, cap1', e1, q1⟩ := str_at (I3.out.below H.out.2) hlt
      simp at e1
      obtain ⟨rfl, rfl⟩ := e1
      have hsz : (strL ws[k]).size ≤ maxLen := by rw [strL_size]; exact WS.out _ (List.getElem_mem hlt)
      have CP := Lib.hid (specCapped p (strL ws[k]) wr HPM.out hsz)
      rw [strL_data, cap_same] at CP
      have SN := Lib.hid (capsUp_snoc (p := p.data.toList) hlt)
      obtain ⟨r1, r2⟩ := capN_range p.data.toList ws[k]
      generalize capN p.data.toList ws[k] = z at *
      clear hsz
      generalize strL ws[k] = y at *
      go_wp2_with fail
      refine CP.out.mono ?_
      rintro e w4 ⟨rfl, hb4⟩
      have H4 : Hid (w4.ownsRow w3.heap.size 3 1 (.slice ad k c) k ((capsUp p.data.toList ws k).map ival) ∧ Below w3.heap.size w3 w4) := Lib.hid ⟨own_below H.out.1 hb4, below_seq H.out.2 hb4⟩
      have hsz4 := H4.out.2.size
      clear H hb4 CP q1
      go_wp2_with (at_builtin; go_must (refine wp_app_row rfl _ _ 36 rfl 3 (.int .i64 0) 8 Try.underlying36 Try.info3 rfl w3.heap.size k (.slice ad k c) _ (by rfl) (H4.out.1.alloc _) (some ⟨w4.heap.size, 0, none⟩) 1 1 [.int .i64 z] (by rfl) rfl (row_one w4 (.int .i64 z) 3) (by simp [Value.oneCell']) (by unfold maxLen; omega) (by omega) (by simp; omega) ?_); intro v3 w5 ho3 hg3; rw [← SN.out] at ho3; have F3 := Lib.hid (And.intro ho3 (app_below H4.out.2 H4.out.1 _ hg3)); obtain ⟨a5, c5, rfl⟩ := own_shape ho3; clear ho3 hg3)
      go_roundw
      case rel => exact ⟨k + 1, c5, a5, by omega, by go_num, rfl, F3⟩
      case measure => simp [intOf]; omega
    · have hk' : k = ws.length := by omega
      subst hk'
      have O : Hid (IntSOwn w3.heap.size wr.heap.size [.slice ad ws.length c] (batchM p.data.toList m) wr) := Lib.hid (by
        have := IntSOwn.mk H.out.1
        unfold capsUp at this
        rw [List.take_of_length_le (Nat.le_refl _), ← E.out] at this
        exact this)
      go_wp2
      go_ret
      exact ⟨_, rfl, O.out.wide K3.out.size (Nat.le_refl _), below_seq K3.out H.out.2⟩
theorem uSpecBatchCapped (p : ByteArray) (c0 c1 c2 : Value) (m : PlanesM) (w : World) (h : PlanesIn [c0, c1, c2] m w) (hp : p.size ≤ maxLen) (hb : planesBd m) : Calls Try.prog 55 #[.string p, .agg #[c0, c1, c2]] w (IntSRet (batchM p.data.toList m) w) := specBatch p c0 c1 c2 m w hp h hb
theorem uImplBatchCapped (p : ByteArray) (c0 c1 c2 : Value) (m : PlanesM) (w : World) (h : PlanesIn [c0, c1, c2] m w) (hp : p.size ≤ maxLen) (hb : planesBd m) : Calls Try.prog 22 #[.string p, .agg #[c0, c1, c2]] w (IntSRet (batchM p.data.toList m) w) := implBatch p c0 c1 c2 m w hp h hb
theorem batchM_bd (p : List UInt8) (m : PlanesM) : szIntS (batchM p m) ≤ 1000000000000 := by unfold szIntS; have := batchM_len p m; omega
end Go.Proofs.Ytfdlmpjccoaejaa
