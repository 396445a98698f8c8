/- NetDepth, in the program and in the model. -/
import Derived.Test.YtkifndcfmmdkpaaNeR
import Derived.Test.YtkifndcfmmdkpaaArr
namespace Go.Proofs.Ytkifndcfmmdkpaa
open Go.RowKit
set_option linter.unusedVariables false
set_option maxRecDepth 100000

def zeroF : Nat → Int := fun _ => 0
theorem zeroF_bd (i : Nat) : 0 ≤ zeroF i ∧ zeroF i ≤ 0 := by unfold zeroF; omega
theorem round_upd {f : Nat → Int} {t : WireM} {p q : Nat} {r : Int} (e1 : t.a = p) (e2 : t.b = q) (hr : 1 + max (f p) (f q) = r) : upd (upd f p r) q r = roundF f t := by
  funext i
  unfold roundF
  rw [e1, e2]
  simp only [Int.toNat_natCast]
  rw [hr]
  by_cases h1 : i = q
  · subst h1; rw [upd_same]; simp
  · rw [upd_other _ _ _ _ h1]
    by_cases h2 : i = p
    · subst h2; rw [upd_same]; simp
    · rw [upd_other _ _ _ _ h2]; simp [h1, h2]
/-- The rounds between two wires: an array of n numbers in block g, and the latest round of all. -/
def DeepAt (W w : World) (t : TypeId) (g n : Nat) (ws : List WireM) (k : Nat) : Prop := ArrAt w g t n (deepW (ws.take k) zeroF) ∧ Below W.heap.size W w
theorem DeepAt.next {W w w' : World} {ty : TypeId} {g n k p q : Nat} {ws : List WireM} {r : Int} (h : DeepAt W w ty g n ws k) (hk : k < ws.length) (hb : Below w.heap.size w w') (e1 : ws[k].a = p) (e2 : ws[k].b = q)
    (hr : 1 + max (deepW (ws.take k) zeroF p) (deepW (ws.take k) zeroF q) = r) (hg : W.heap.size ≤ g) :
    DeepAt W ((w'.setCell ⟨g, p, none⟩ (.int .i64 r)).setCell ⟨g, q, none⟩ (.int .i64 r)) ty g n ws (k + 1) := by
  obtain ⟨h1, h2⟩ := h
  refine ⟨?_, ((below_seq h2 hb).setCell (p := ⟨g, p, none⟩) hg _).setCell (p := ⟨g, q, none⟩) hg _⟩
  rw [deepW_take ws zeroF k hk, ← round_upd e1 e2 hr]
  exact ((h1.below hb).set p r).set q r
theorem DeepAt.box {W w : World} {ty : TypeId} {g n k : Nat} {ws : List WireM} (h : DeepAt W w ty g n ws k) (o : Obj) : DeepAt W (w.alloc o) ty g n ws k := ⟨h.1.below (below_box (Below.refl _ _) _), below_box h.2 o⟩
theorem DeepAt.drew {W w : World} {ty : TypeId} {g n k : Nat} {ws : List WireM} (h : DeepAt W w ty g n ws k) (j : Nat) : DeepAt W (w.drewN j) ty g n ws k := ⟨h.1.drew j, below_seq h.2 (belowN _)⟩
theorem deep_bd {ws : List WireM} {k : Nat} (h : ws.length ≤ 2100) (i : Nat) : 0 ≤ deepW (ws.take k) zeroF i ∧ deepW (ws.take k) zeroF i ≤ 2100 := by
  have := deepW_bd (ws.take k) zeroF 0 zeroF_bd i
  have hl : (ws.take k).length ≤ 2100 := by simp; omega
  omega
theorem most_bd {ws : List WireM} {k : Nat} (h : ws.length ≤ 2100) : 0 ≤ mostW (ws.take k) zeroF 0 ∧ mostW (ws.take k) zeroF 0 ≤ 2100 := by
  have := mostW_bd (ws.take k) zeroF 0 0 zeroF_bd (by omega) (by omega)
  have hl : (ws.take k).length ≤ 2100 := by simp; omega
  omega
theorem depthZ_ok {m : NetM} (h : netOkB m = true) : depthZ m = mostW m.ws zeroF 0 := by unfold depthZ; rw [if_pos h]; rfl
theorem depthZ_no {m : NetM} (h : netOkB m = false) : depthZ m = -1 := by unfold depthZ; simp [h]
theorem Try.zeroA64 : (Try.prog.info? 71).map (·.zero) = some (some (.agg (cellsA 64 zeroF))) := by kernel_rfl
set_option maxHeartbeats 4000000 in
theorem uImplNetDepth (c0 c1 : Value) (m : NetM) (w : World) (h : NetIn [c0, c1] m w) : Calls Try.prog 34 #[.agg #[c0, c1]] w fun e w' => e = .returned (.int .i64 (depthZ m)) ∧ Below w.heap.size w w' := by
  have V := Lib.hid (implValid w.heap.size c1 m _ (NetAt.box h))
  have A := Lib.hid (NetAt.box h)
  obtain ⟨a1, cap1, rfl, rfl, _, hm, r⟩ := netIn_cells h
  unfold maxLen at hm
  have R := Lib.hid r
  have B0 := Lib.hid (below_box (Below.refl w.heap.size w) (.cells #[.int .i64 m.n, .slice a1 m.ws.length cap1] 26))
  clear h r
  by_cases ho : netOkB m = true
  · rw [ho] at V
    obtain ⟨n, g0, g1, g2, g3, g4⟩ := netOkB_ok ho
    have E := Lib.hid (depthZ_ok ho)
    have WO := Lib.hid g4
    clear g0 g4 ho
    go_enter Try.func34, Try.ntmps34
    go_wp2_with fail
    refine V.out.mono ?_
    rintro e w1 ⟨rfl, hb⟩
    have K1 := Lib.hid (kept_block A.out.1 hb)
    have B1 := Lib.hid (below_seq B0.out hb)
    clear hb V A
    have q1 : w1.cell? ⟨w.heap.size, 1, none⟩ = some (.slice a1 m.ws.length cap1) := cur_cell K1.out 1
    go_wp2_with (refine wp_arr_new rfl 71 rfl 64 zeroF Try.zeroA64 ?_)
    intro w2 A2 G2 S2
    have q1 : w2.cell? ⟨w.heap.size, 1, none⟩ = some (.slice a1 m.ws.length cap1) := cell_keep q1 (grown_below G2)
    have S0 : Hid (DeepAt w w2 71 w1.heap.size 64 m.ws 0) := Lib.hid ⟨A2, below_seq B1.out (grown_below G2)⟩
    have HG : Hid (w.heap.size ≤ w1.heap.size) := Lib.hid B1.out.size
    clear A2 G2 S2 B1 K1
    generalize w1.heap.size = g at *
    go_wp2
    go_loopw [13, 3, 6, 7] (fun i d _ _ wr => ∃ k : Nat, k ≤ m.ws.length ∧ i = .int .i64 k ∧ d = .int .i64 (mostW (m.ws.take k) zeroF 0) ∧ Hid (DeepAt w wr 71 g 64 m.ws k)) (fun i _ _ _ _ => m.ws.length - (intOf i).toNat)
    case atStart => exact ⟨0, Nat.zero_le _, rfl, rfl, S0⟩
    case round =>
      clear S0 q1
      obtain ⟨k, hk, rfl, rfl, H⟩ := hrel
      by_cases hlt : k < m.ws.length
      · obtain ⟨b1, o1, rfl, p0, p1⟩ := (R.out.below H.out.2).wire hlt
        obtain ⟨p, q, e1, e2, hpq, hq⟩ := WO.out _ (List.getElem_mem hlt)
        rw [e1] at p0
        rw [e2] at p1
        have NX := Lib.hid (fun w' hb r hr => H.out.next (w' := w') (r := r) hlt hb e1 e2 hr HG.out)
        have NM := mostW_take m.ws zeroF 0 k hlt
        rw [e1, e2] at NM
        simp only [Int.toNat_natCast] at NM
        have c0 := H.out.1.cell (k := p) (by omega)
        have c1 := H.out.1.cell (k := q) (by omega)
        have f0 := H.out.1.free p
        have f1 := H.out.1.free q
        have hgl : g < wr.heap.size := H.out.1.lt
        have bx := deep_bd (k := k) g3 p
        have by' := deep_bd (k := k) g3 q
        have bm := most_bd (k := k) g3
        generalize deepW (m.ws.take k) zeroF p = x at *
        generalize deepW (m.ws.take k) zeroF q = y at *
        generalize mostW (m.ws.take k) zeroF 0 = d at *
        have HM := Lib.hid NM
        have B1 := below_box (Below.refl wr.heap.size wr) (.cells #[.int .i64 (p : Int), .int .i64 (q : Int)] 63)
        have c0' := cell_keep c0 B1
        have c1' := cell_keep c1 B1
        have BB := Lib.hid B1
        clear B1 H e1 e2 NM
        rcases Int.lt_trichotomy x y with hxy | hxy | hxy
        · have M : Hid (1 + max x y = 1 + y) := Lib.hid (by omega)
          have wy : IntKind.i64.wrap (1 + y) = 1 + y := wrap_small _ (by omega) (by omega)
          rw [M.out] at HM
          have N2 := Lib.hid (fun w' hb => NX.out w' hb _ M.out)
          rcases Int.lt_trichotomy d (1 + y) with hd | hd | hd
          · have HX : Hid (mostW (m.ws.take (k + 1)) zeroF 0 = 1 + y) := Lib.hid (by rw [HM.out]; omega)
            go_wp2_with fail
            go_region
            go_wp2_with fail
            go_region
            go_wp2
            go_roundw
            case rel => exact ⟨k + 1, by omega, by go_num, by rw [HX.out], Lib.hid (((N2.out _ (Below.refl _ _)).box _).drew 2)⟩
            case measure => simp [intOf]; omega
          · have HX : Hid (mostW (m.ws.take (k + 1)) zeroF 0 = d) := Lib.hid (by rw [HM.out]; omega)
            go_wp2_with fail
            go_region
            go_wp2_with fail
            go_region
            go_wp2
            go_roundw
            case rel => exact ⟨k + 1, by omega, by go_num, by rw [HX.out, hd], Lib.hid (((N2.out _ (Below.refl _ _)).box _).drew 2)⟩
            case measure => simp [intOf]; omega
          · have HX : Hid (mostW (m.ws.take (k + 1)) zeroF 0 = d) := Lib.hid (by rw [HM.out]; omega)
            go_wp2_with fail
            go_region
            go_wp2_with fail
            go_region
            go_wp2
            go_roundw
            case rel => exact ⟨k + 1, by omega, by go_num, by rw [HX.out], Lib.hid (((N2.out _ (Below.refl _ _)).box _).drew 2)⟩
            case measure => simp [intOf]; omega
        · subst hxy
          have M : Hid (1 + max x x = 1 + x) := Lib.hid (by omega)
          have wy : IntKind.i64.wrap (1 + x) = 1 + x := wrap_small _ (by omega) (by omega)
          rw [M.out] at HM
          have N2 := Lib.hid (fun w' hb => NX.out w' hb _ M.out)
          rcases Int.lt_trichotomy d (1 + x) with hd | hd | hd
          · have HX : Hid (mostW (m.ws.take (k + 1)) zeroF 0 = 1 + x) := Lib.hid (by rw [HM.out]; omega)
            go_wp2_with fail
            go_region
            go_wp2_with fail
            go_region
            go_wp2
            go_roundw
            case rel => exact ⟨k + 1, by omega, by go_num, by rw [HX.out], Lib.hid (((N2.out _ (Below.refl _ _)).box _).drew 2)⟩
            case measure => simp [intOf]; omega
          · have HX : Hid (mostW (m.ws.take (k + 1)) zeroF 0 = d) := Lib.hid (by rw [HM.out]; omega)
            go_wp2_with fail
            go_region
            go_wp2_with fail
            go_region
            go_wp2
            go_roundw
            case rel => exact ⟨k + 1, by omega, by go_num, by rw [HX.out, hd], Lib.hid (((N2.out _ (Below.refl _ _)).box _).drew 2)⟩
            case measure => simp [intOf]; omega
          · have HX : Hid (mostW (m.ws.take (k + 1)) zeroF 0 = d) := Lib.hid (by rw [HM.out]; omega)
            go_wp2_with fail
            go_region
            go_wp2_with fail
            go_region
            go_wp2
            go_roundw
            case rel => exact ⟨k + 1, by omega, by go_num, by rw [HX.out], Lib.hid (((N2.out _ (Below.refl _ _)).box _).drew 2)⟩
            case measure => simp [intOf]; omega
        · have M : Hid (1 + max x y = 1 + x) := Lib.hid (by omega)
          have wy : IntKind.i64.wrap (1 + x) = 1 + x := wrap_small _ (by omega) (by omega)
          rw [M.out] at HM
          have N2 := Lib.hid (fun w' hb => NX.out w' hb _ M.out)
          rcases Int.lt_trichotomy d (1 + x) with hd | hd | hd
          · have HX : Hid (mostW (m.ws.take (k + 1)) zeroF 0 = 1 + x) := Lib.hid (by rw [HM.out]; omega)
            go_wp2_with fail
            go_region
            go_wp2_with fail
            go_region
            go_wp2
            go_roundw
            case rel => exact ⟨k + 1, by omega, by go_num, by rw [HX.out], Lib.hid (((N2.out _ (Below.refl _ _)).box _).drew 2)⟩
            case measure => simp [intOf]; omega
          · have HX : Hid (mostW (m.ws.take (k + 1)) zeroF 0 = d) := Lib.hid (by rw [HM.out]; omega)
            go_wp2_with fail
            go_region
            go_wp2_with fail
            go_region
            go_wp2
            go_roundw
            case rel => exact ⟨k + 1, by omega, by go_num, by rw [HX.out, hd], Lib.hid (((N2.out _ (Below.refl _ _)).box _).drew 2)⟩
            case measure => simp [intOf]; omega
          · have HX : Hid (mostW (m.ws.take (k + 1)) zeroF 0 = d) := Lib.hid (by rw [HM.out]; omega)
            go_wp2_with fail
            go_region
            go_wp2_with fail
            go_region
            go_wp2
            go_roundw
            case rel => exact ⟨k + 1, by omega, by go_num, by rw [HX.out], Lib.hid (((N2.out _ (Below.refl _ _)).box _).drew 2)⟩
            case measure => simp [intOf]; omega
      · have hk' : k = m.ws.length := by omega
        subst hk'
        rw [List.take_length]
        go_wp2
        go_ret
        exact ⟨ret_int E.out.symm, H.out.2⟩
  · have hf : netOkB m = false := by simpa using ho
    rw [hf] at V
    have E := Lib.hid (depthZ_no hf)
    go_enter Try.func34, Try.ntmps34
    go_wp2_with fail
    refine V.out.mono ?_
    rintro e w1 ⟨rfl, hb⟩
    have B1 := Lib.hid (below_seq B0.out hb)
    clear hb V A
    go_wp2
    go_ret
    exact ⟨ret_int E.out.symm, B1.out⟩
end Go.Proofs.Ytkifndcfmmdkpaa
