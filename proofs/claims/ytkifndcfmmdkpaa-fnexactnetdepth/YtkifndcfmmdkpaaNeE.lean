/- NetDepth in the model. -/
import Derived.Test.YtkifndcfmmdkpaaNeD
namespace Go.Proofs.Ytkifndcfmmdkpaa
open Go.RowKit
set_option linter.unusedVariables false
set_option maxRecDepth 100000

theorem own_arrZ {w : World} {base n g : Nat} (h : w.ownsRow base 3 1 (.slice (some ⟨g, 0, none⟩) n n) n (List.replicate n (.int .i64 0))) : ArrAt w g 3 n zeroF := by
  rcases h.2 with ⟨hv, _⟩ | ⟨g', cap', cur, hv, hbg, hg, h1', h2, h3, h4⟩
  · simp at hv
  simp at hv
  obtain ⟨rfl, rfl⟩ := hv
  have hcur : cur.toList = List.replicate n (.int .i64 0) := by rw [← h4, List.take_of_length_le (by simp [h3])]
  unfold ArrAt
  rw [hg]
  congr 2
  apply Array.ext'
  rw [hcur]
  unfold cellsA zeroF
  apply List.ext_getElem <;> simp
set_option maxHeartbeats 4000000 in
theorem uSpecNetDepth (c0 c1 : Value) (m : NetM) (w : World) (h : NetIn [c0, c1] m w) : Calls Try.prog 44 #[.agg #[c0, c1]] w fun e w' => e = .returned (.int .i64 (depthZ m)) ∧ Below w.heap.size w w' := by
  have A := Lib.hid h.lies
  obtain ⟨a1, cap1, rfl, rfl, _, hm, r⟩ := netIn_cells h
  unfold maxLen at hm
  have R := Lib.hid r
  have B0 := Lib.hid (below_box (Below.refl w.heap.size w) (.cells #[.int .i64 m.n, .slice a1 m.ws.length cap1] 26))
  have K0 := Lib.hid (alloc_at w (.cells #[.int .i64 m.n, .slice a1 m.ws.length cap1] 26) _ rfl)
  have V := Lib.hid (uSpecNetOk _ _ m (w.alloc (.cells #[.int .i64 m.n, .slice a1 m.ws.length cap1] 26)) ((A.out.below B0.out).now))
  clear h r A
  by_cases ho : netOkB m = true
  · rw [ho] at V
    obtain ⟨n, g0, g1, g2, g3, g4⟩ := netOkB_ok ho
    have E := Lib.hid (depthZ_ok ho)
    have WO := Lib.hid g4
    obtain ⟨i0, hi, hz0, hz1, hz2⟩ := info_parts Try.info3
    have HN := Lib.hid g0
    clear g4 ho g0
    go_enter Try.func44, Try.ntmps44
    go_wp2_with fail
    refine V.out.mono ?_
    rintro e w1 ⟨rfl, hb⟩
    have K1 := Lib.hid (kept_block K0.out hb)
    have B1 := Lib.hid (below_seq B0.out hb)
    clear hb V K0
    have q0 : w1.cell? ⟨w.heap.size, 0, none⟩ = some (.int .i64 n) := by rw [← HN.out]; exact cur_cell K1.out 0
    go_wp2_with (at_make; refine wpList_make_full _ rfl _ _ 28 rfl w1.heap.size 3 i0 (.int .i64 0) 1 Try.underlying28 hi hz0 hz1 .i64 .i64 _ _ n rfl rfl rfl rfl (by rw [hz2]; omega) (by unfold maxLen; omega) (Nat.le_refl _) ?_)
    clear hi hz0 hz1 hz2
    intro w2 hown hgr
    rw [toList_madeCells_one] at hown
    have A2 := own_arrZ hown
    have S0 : Hid (DeepAt w w2 3 w1.heap.size n m.ws 0) := Lib.hid ⟨A2, below_seq B1.out (grown_below hgr)⟩
    have K2 := Lib.hid (kept_block K1.out (grown_below hgr))
    have HG : Hid (w.heap.size < w1.heap.size) := Lib.hid (cur_lt K1.out)
    clear A2 hown hgr B1 K1 q0
    generalize w1.heap.size = g at *
    go_wp2
    go_loopw [5, 4, 6, 7] (fun i d _ _ wr => ∃ k : Nat, k ≤ m.ws.length ∧ i = .int .i64 k ∧ d = .int .i64 (mostW (m.ws.take k) zeroF 0) ∧ Hid (DeepAt w wr 3 g n m.ws k ∧ wr.heap[w.heap.size]? = some (.cells #[.int .i64 m.n, .slice a1 m.ws.length cap1] 26 (0, 0)))) (fun i _ _ _ _ => m.ws.length - (intOf i).toNat)
    case atStart => exact ⟨0, Nat.zero_le _, rfl, rfl, Lib.hid ⟨S0.out, K2.out⟩⟩
    case round =>
      clear S0 K2
      obtain ⟨k, hk, rfl, rfl, H⟩ := hrel
      have z1 : wr.cell? ⟨w.heap.size, 1, none⟩ = some (.slice a1 m.ws.length cap1) := cur_cell H.out.2 1
      by_cases hlt : k < m.ws.length
      · obtain ⟨b1, o1, rfl, p0, p1⟩ := (R.out.below H.out.1.2).wire hlt
        obtain ⟨p, q, e1, e2, hpq, hq⟩ := WO.out _ (List.getElem_mem hlt)
        rw [e1] at p0
        rw [e2] at p1
        have hgw := HG.out
        have NX := Lib.hid (fun w' hb r hr => H.out.1.next (w' := w') (r := r) hlt hb e1 e2 hr (by omega))
        have NM := mostW_take m.ws zeroF 0 k hlt
        rw [e1, e2] at NM
        simp only [Int.toNat_natCast] at NM
        have c0 := H.out.1.1.cell (k := p) (by omega)
        have c1 := H.out.1.1.cell (k := q) (by omega)
        have f0 := H.out.1.1.free p
        have f1 := H.out.1.1.free q
        have hgl : g < wr.heap.size := H.out.1.1.lt
        have bx := deep_bd (k := k) g3 p
        have by' := deep_bd (k := k) g3 q
        have bm := most_bd (k := k) g3
        generalize deepW (m.ws.take k) zeroF p = x at *
        generalize deepW (m.ws.take k) zeroF q = y at *
        generalize mostW (m.ws.take k) zeroF 0 = d at *
        have HM := Lib.hid NM
        have B1 := below_box (Below.refl wr.heap.size wr) (.cells #[.int .i64 (p : Int), .int .i64 (q : Int)] 63)
        have c0' := cell_keep c0 B1
        have c1' := cell_keep c1 B1
        have KN : Hid (∀ u v, (((wr.setCell ⟨g, p, none⟩ u).setCell ⟨g, q, none⟩ v).alloc (.cells #[.int .i64 (p : Int), .int .i64 (q : Int)] 63)).heap[w.heap.size]? = some (.cells #[.int .i64 m.n, .slice (some ⟨b1, o1, none⟩) m.ws.length cap1] 26 (0, 0))) :=
          Lib.hid (fun u v => (alloc_old _ _ _ (by simp; omega)).trans ((Below.heap_setCell _ _ _ _ (by simp; omega)).trans ((Below.heap_setCell _ _ _ _ (by simp; omega)).trans H.out.2)))
        clear B1 H e1 e2 NM
        rcases Int.lt_trichotomy x y with hxy | hxy | hxy
        · have M : Hid (1 + max x y = 1 + y) := Lib.hid (by omega)
          have wy : IntKind.i64.wrap (1 + y) = 1 + y := wrap_small _ (by omega) (by omega)
          rw [M.out] at HM
          have N2 := Lib.hid (fun w' hb => NX.out w' hb _ M.out)
          rcases Int.lt_trichotomy d (1 + y) with hd | hd | hd
          · have HX : Hid (mostW (m.ws.take (k + 1)) zeroF 0 = 1 + y) := Lib.hid (by rw [HM.out]; omega)
            go_wp2_with fail
            go_region
            go_wp2
            go_roundw
            case rel => exact ⟨k + 1, by omega, by go_num, by rw [HX.out], Lib.hid ⟨((N2.out _ (Below.refl _ _)).box _).drew 1, KN.out _ _⟩⟩
            case measure => simp [intOf]; omega
          · have HX : Hid (mostW (m.ws.take (k + 1)) zeroF 0 = d) := Lib.hid (by rw [HM.out]; omega)
            go_wp2_with fail
            go_region
            go_wp2
            go_roundw
            case rel => exact ⟨k + 1, by omega, by go_num, by rw [HX.out, hd], Lib.hid ⟨((N2.out _ (Below.refl _ _)).box _).drew 1, KN.out _ _⟩⟩
            case measure => simp [intOf]; omega
          · have HX : Hid (mostW (m.ws.take (k + 1)) zeroF 0 = d) := Lib.hid (by rw [HM.out]; omega)
            go_wp2_with fail
            go_region
            go_wp2
            go_roundw
            case rel => exact ⟨k + 1, by omega, by go_num, by rw [HX.out], Lib.hid ⟨((N2.out _ (Below.refl _ _)).box _).drew 1, KN.out _ _⟩⟩
            case measure => simp [intOf]; omega
        · subst hxy
          have M : Hid (1 + max x x = 1 + x) := Lib.hid (by omega)
          have wy : IntKind.i64.wrap (1 + x) = 1 + x := wrap_small _ (by omega) (by omega)
          rw [M.out] at HM
          have N2 := Lib.hid (fun w' hb => NX.out w' hb _ M.out)
          rcases Int.lt_trichotomy d (1 + x) with hd | hd | hd
          · have HX : Hid (mostW (m.ws.take (k + 1)) zeroF 0 = 1 + x) := Lib.hid (by rw [HM.out]; omega)
            go_wp2_with fail
            go_region
            go_wp2
            go_roundw
            case rel => exact ⟨k + 1, by omega, by go_num, by rw [HX.out], Lib.hid ⟨((N2.out _ (Below.refl _ _)).box _).drew 1, KN.out _ _⟩⟩
            case measure => simp [intOf]; omega
          · have HX : Hid (mostW (m.ws.take (k + 1)) zeroF 0 = d) := Lib.hid (by rw [HM.out]; omega)
            go_wp2_with fail
            go_region
            go_wp2
            go_roundw
            case rel => exact ⟨k + 1, by omega, by go_num, by rw [HX.out, hd], Lib.hid ⟨((N2.out _ (Below.refl _ _)).box _).drew 1, KN.out _ _⟩⟩
            case measure => simp [intOf]; omega
          · have HX : Hid (mostW (m.ws.take (k + 1)) zeroF 0 = d) := Lib.hid (by rw [HM.out]; omega)
            go_wp2_with fail
            go_region
            go_wp2
            go_roundw
            case rel => exact ⟨k + 1, by omega, by go_num, by rw [HX.out], Lib.hid ⟨((N2.out _ (Below.refl _ _)).box _).drew 1, KN.out _ _⟩⟩
            case measure => simp [intOf]; omega
        · have M : Hid (1 + max x y = 1 + x) := Lib.hid (by omega)
          have wy : IntKind.i64.wrap (1 + x) = 1 + x := wrap_small _ (by omega) (by omega)
          rw [M.out] at HM
          have N2 := Lib.hid (fun w' hb => NX.out w' hb _ M.out)
          rcases Int.lt_trichotomy d (1 + x) with hd | hd | hd
          · have HX : Hid (mostW (m.ws.take (k + 1)) zeroF 0 = 1 + x) := Lib.hid (by rw [HM.out]; omega)
            go_wp2_with fail
            go_region
            go_wp2
            go_roundw
            case rel => exact ⟨k + 1, by omega, by go_num, by rw [HX.out], Lib.hid ⟨((N2.out _ (Below.refl _ _)).box _).drew 1, KN.out _ _⟩⟩
            case measure => simp [intOf]; omega
          · have HX : Hid (mostW (m.ws.take (k + 1)) zeroF 0 = d) := Lib.hid (by rw [HM.out]; omega)
            go_wp2_with fail
            go_region
            go_wp2
            go_roundw
            case rel => exact ⟨k + 1, by omega, by go_num, by rw [HX.out, hd], Lib.hid ⟨((N2.out _ (Below.refl _ _)).box _).drew 1, KN.out _ _⟩⟩
            case measure => simp [intOf]; omega
          · have HX : Hid (mostW (m.ws.take (k + 1)) zeroF 0 = d) := Lib.hid (by rw [HM.out]; omega)
            go_wp2_with fail
            go_region
            go_wp2
            go_roundw
            case rel => exact ⟨k + 1, by omega, by go_num, by rw [HX.out], Lib.hid ⟨((N2.out _ (Below.refl _ _)).box _).drew 1, KN.out _ _⟩⟩
            case measure => simp [intOf]; omega
      · have hk' : k = m.ws.length := by omega
        subst hk'
        rw [List.take_length]
        go_wp2
        go_ret
        exact ⟨ret_int E.out.symm, H.out.1.2⟩
  · have hf : netOkB m = false := by simpa using ho
    rw [hf] at V
    have E := Lib.hid (depthZ_no hf)
    go_enter Try.func44, Try.ntmps44
    go_wp2_with fail
    refine V.out.mono ?_
    rintro e w1 ⟨rfl, hb⟩
    have B1 := Lib.hid (below_seq B0.out hb)
    clear hb V K0
    go_wp2
    go_ret
    exact ⟨ret_int E.out.symm, B1.out⟩
end Go.Proofs.Ytkifndcfmmdkpaa
