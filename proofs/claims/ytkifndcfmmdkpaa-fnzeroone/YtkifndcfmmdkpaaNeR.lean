/- NetRun, in the program and in the model. -/
import Derived.Test.YtkifndcfmmdkpaaNeA
import Derived.Deep.DeepMust
import Derived.WalkSpells
namespace Go.Proofs.Ytkifndcfmmdkpaa
open Go.RowKit
set_option linter.unusedVariables false
set_option maxRecDepth 100000

theorem ones_ivalR (l : List Int) : ∀ v ∈ l.map ival, v.oneCell' = true := ones_ival (fun z => rfl)
theorem lit_made (w : World) (base n : Nat) (hb : base ≤ w.heap.size) (hn : n = w.heap.size) : (w.alloc (.cells #[] 3)).ownsRow base 3 1 (.slice (some ⟨n, 0, none⟩) 0 0) 0 [] := by
  subst hn
  exact World.ownsRow_made w #[] 0 hb (by unfold maxLen; omega) rfl
theorem intSOwn_mid {lo n cap : Nat} {a : Option Addr} {l : List Int} {w : World} (h : w.ownsRow lo 3 1 (.slice a n cap) n (l.map ival)) (hn : 1 ≤ n) : ∃ g, a = some ⟨g, 0, none⟩ ∧ lo ≤ g := by
  rcases h.2 with ⟨hv, h0⟩ | ⟨g, cap', cur, hv, hg, _⟩
  · omega
  · simp at hv
    exact ⟨g, hv.1, hg⟩
theorem IntSOwn.nil (lo hi : Nat) (w : World) : IntSOwn lo hi [.slice none 0 0] [] w := ⟨none, 0, rfl, ⟨rfl, .inl ⟨rfl, rfl⟩⟩, fun k hk => by simp [Value.ownBlock] at hk⟩
theorem wireRun_set {l : List Int} {t : WireM} {p q : Nat} {x y : Int} (e1 : t.a = p) (e2 : t.b = q) (hx : l[p]? = some x) (hy : l[q]? = some y) : wireRun l t = (l.set p (min x y)).set q (max x y) := by
  unfold wireRun
  rw [e1, e2]
  simp [List.getD, hx, hy]
theorem runs_map (l : List Int) (p q : Nat) (u v : Int) : (((l.map ival).set p (.int .i64 u)).set q (.int .i64 v)) = ((l.set p u).set q v).map ival := by
  rw [List.map_set, List.map_set]; rfl
/-- Two elements stored into an owned row. -/
theorem own_two {w : World} {base g n cap : Nat} {l : List Int} (h : w.ownsRow base 3 1 (.slice (some ⟨g, 0, none⟩) n cap) n (l.map ival)) (p q : Nat) (u v : Int) :
    ((w.setCell ⟨g, p, none⟩ (.int .i64 u)).setCell ⟨g, q, none⟩ (.int .i64 v)).ownsRow base 3 1 (.slice (some ⟨g, 0, none⟩) n cap) n (((l.set p u).set q v).map ival) ∧
    w.grownBy ((w.setCell ⟨g, p, none⟩ (.int .i64 u)).setCell ⟨g, q, none⟩ (.int .i64 v)) (some g) := by
  obtain ⟨h1, g1⟩ := h.stored p (.int .i64 u)
  obtain ⟨h2, g2⟩ := h1.stored q (.int .i64 v)
  rw [runs_map] at h2
  exact ⟨h2, grown_trans g1 g2⟩
/-- The state of a run between two wires: the row g, as the first k wires leave it. -/
def RunAt (W w : World) (lo g cap : Nat) (ws : List WireM) (l : List Int) (k : Nat) : Prop :=
  w.ownsRow lo 3 1 (.slice (some ⟨g, 0, none⟩) l.length cap) l.length ((runW (ws.take k) l).map ival) ∧ Below lo W w
theorem RunAt.next {W w w' : World} {lo g cap k p q : Nat} {ws : List WireM} {l : List Int} {x y : Int} (h : RunAt W w lo g cap ws l k) (hk : k < ws.length) (hb : Below w.heap.size w w') (e1 : ws[k].a = p) (e2 : ws[k].b = q)
    (hx : (runW (ws.take k) l)[p]? = some x) (hy : (runW (ws.take k) l)[q]? = some y) (hlo : lo ≤ w.heap.size) (hg : lo ≤ g) :
    RunAt W ((w'.setCell ⟨g, p, none⟩ (.int .i64 (min x y))).setCell ⟨g, q, none⟩ (.int .i64 (max x y))) lo g cap ws l (k + 1) := by
  obtain ⟨h1, h2⟩ := h
  obtain ⟨r1, r2⟩ := own_two (own_below h1 hb) p q (min x y) (max x y)
  refine ⟨?_, ?_⟩
  · rw [runW_take ws l k hk, wireRun_set e1 e2 hx hy]; exact r1
  · have hs := hb.size
    exact (h2.trans (hb.mono hlo)).grown r2 (by omega) (fun i hi => by cases hi; exact hg)
theorem RunAt.box {W w : World} {lo g cap k : Nat} {ws : List WireM} {l : List Int} (h : RunAt W w lo g cap ws l k) (hl : lo ≤ W.heap.size) (o : Obj) : RunAt W (w.alloc o) lo g cap ws l k :=
  ⟨h.1.alloc o, h.2.alloc (Nat.le_trans hl h.2.size) o⟩
theorem max_min_lt {x y : Int} (h : x < y) : min x y = x ∧ max x y = y := by omega
theorem max_min_gt {x y : Int} (h : y < x) : min x y = y ∧ max x y = x := by omega
theorem max_min_eq {x y : Int} (h : x = y) : min x y = x ∧ max x y = x := by omega
set_option maxHeartbeats 1000000 in
theorem implClone (c : Value) (l : List Int) (w : World) (h : IntSIn [c] l w) (h1 : 1 ≤ l.length) (h2 : l.length ≤ 64) : Calls Try.prog 77 #[c] w (IntSRet l w) := by
  obtain ⟨a, cap, rfl, _, _, r⟩ := intSIn_shape h
  obtain ⟨x, rfl⟩ : ∃ x, a = some x := by
    rcases r with r | ⟨b, off, rfl, _⟩
    · simp at r; subst r; simp at h1
    · exact ⟨_, rfl⟩
  have R := Lib.hid (fun o => r.below (below_box (Below.refl w.heap.size w) o))
  have hnil : ∀ W, (binOp .eql 28 (.slice (some x) l.length cap) (.slice none 0 0)).run Try.prog W = .ok (.bool false) W := fun W => Lib.run_eql_slice_nil W _ _ _ _ _ _ _ Try.underlying28
  clear h r
  go_enter Try.func77, Try.ntmps77
  go_wp2_with (at_builtin; go_must (refine wp_app_row rfl _ _ 28 rfl 3 (.int .i64 0) 8 Try.underlying28 Try.info3 rfl w.heap.size 0 _ [] (by rfl) (World.ownsRow_made w #[] 0 (Nat.le_refl _) (by unfold maxLen; omega) rfl) (some x) l.length cap (l.map ival) (by rfl) (by simp) (R.out _) (ones_ivalR l) (by unfold maxLen; omega) (by omega) (by simp) ?_); intro v' w2 hown hgr)
  simp only [List.nil_append, Nat.zero_add] at hown
  obtain ⟨a', c', rfl⟩ := own_shape hown
  have O := Lib.hid (IntSOwn.mk hown)
  have B := Lib.hid (below_write (below_box (Below.refl _ w) (.cells #[] 3)) hgr (Nat.le_refl _))
  clear hown hgr
  go_wp2
  go_ret
  exact ⟨_, rfl, O.out, B.out⟩
set_option maxHeartbeats 4000000 in
theorem implRun (b : Nat) (c cl : Value) (m : NetM) (l : List Int) (w : World) (h : NetAt w b c m) (hl : IntSIn [cl] l w) (h1 : 1 ≤ l.length) (h2 : l.length ≤ 64) (hw : ∀ t ∈ m.ws, WireOk l.length t) :
    Calls Try.prog 58 #[.pointer (some ⟨b, 0, none⟩), cl] w (IntSRet (runW m.ws l) w) := by
  have C := Lib.hid (implClone cl l w hl h1 h2)
  obtain ⟨al, capl, rfl, _⟩ := intSIn_shape hl
  obtain ⟨hk, hws⟩ := h
  obtain ⟨a1, cap1, rfl, _, hm, r⟩ := wireSIn_shape hws
  unfold maxLen at hm
  have K := Lib.hid hk
  have R := Lib.hid r
  have WO := Lib.hid hw
  clear hws hk r hw hl
  go_enter Try.func58, Try.ntmps58
  go_wp2_with fail
  refine C.out.mono ?_
  rintro e w1 ⟨d, rfl, ho, hb1⟩
  obtain ⟨a, cap, hd, hown, hh⟩ := ho
  simp at hd
  subst hd
  obtain ⟨g, rfl, hg⟩ := intSOwn_mid hown h1
  have q1 : w1.cell? ⟨b, 1, none⟩ = some (.slice a1 m.ws.length cap1) := cur_cell (kept_block K.out hb1) 1
  have S0 : Hid (RunAt w w1 w.heap.size g cap m.ws l 0) := Lib.hid ⟨hown, hb1⟩
  have HG : Hid (w.heap.size ≤ g) := Lib.hid hg
  clear C hown hb1 hh hg
  go_wp2
  go_loopw [17, 7, 8, 9] (fun i _ _ _ wr => ∃ k : Nat, k ≤ m.ws.length ∧ i = .int .i64 k ∧ Hid (RunAt w wr w.heap.size g cap m.ws l k)) (fun i _ _ _ _ => m.ws.length - (intOf i).toNat)
  case atStart => exact ⟨0, Nat.zero_le _, rfl, S0⟩
  case round =>
    clear S0 q1
    obtain ⟨k, hk, rfl, H⟩ := hrel
    by_cases hlt : k < m.ws.length
    · obtain ⟨b1, o1, rfl, p0, p1⟩ := (R.out.below H.out.2).wire hlt
      obtain ⟨p, q, e1, e2, hpq, hq⟩ := WO.out _ (List.getElem_mem hlt)
      have len := runW_length (m.ws.take k) l
      have hx : (runW (m.ws.take k) l)[p]? = some (runW (m.ws.take k) l)[p] := List.getElem?_eq_getElem (by omega)
      have hy : (runW (m.ws.take k) l)[q]? = some (runW (m.ws.take k) l)[q] := List.getElem?_eq_getElem (by omega)
      rw [e1] at p0
      rw [e2] at p1
      have NX := Lib.hid (fun w' hb => H.out.next (w' := w') hlt hb e1 e2 hx hy H.out.2.size HG.out)
      have c0 := (H.out.1.cellAt p (by simp; omega)).trans (by rw [List.getElem?_map, hx]; rfl : _ = some (Value.int .i64 (runW (m.ws.take k) l)[p]))
      have c1 := (H.out.1.cellAt q (by simp; omega)).trans (by rw [List.getElem?_map, hy]; rfl : _ = some (Value.int .i64 (runW (m.ws.take k) l)[q]))
      have f0 := H.out.1.frozenAt p
      have f1 := H.out.1.frozenAt q
      have hgl : g < wr.heap.size := (H.out.1.lt g rfl).2
      generalize (runW (m.ws.take k) l)[p] = x at *
      generalize (runW (m.ws.take k) l)[q] = y at *
      have B1 := below_box (Below.refl wr.heap.size wr) (.cells #[.int .i64 (p : Int), .int .i64 (q : Int)] 63)
      have c0' := cell_keep c0 B1
      have c1' := cell_keep c1 B1
      have BB := Lib.hid B1
      clear B1 H hx hy len e1 e2
      rcases Int.lt_trichotomy x y with hxy | hxy | hxy
      · obtain ⟨i1, i2⟩ := max_min_lt hxy
        rw [i1, i2] at NX
        clear i1 i2
        go_wp2_with fail
        go_quiet (fail)
        go_wp2_with fail
        go_region
        go_wp2
        go_roundw
        case rel => exact ⟨k + 1, by omega, by go_num, Lib.hid (NX.out _ (below_seq BB.out (belowN _)))⟩
        case measure => simp [intOf]; omega
      · obtain ⟨i1, i2⟩ := max_min_eq hxy
        rw [i1, i2] at NX
        clear i1 i2
        subst hxy
        go_wp2_with fail
        go_quiet (fail)
        go_wp2_with fail
        go_region
        go_wp2
        go_roundw
        case rel => exact ⟨k + 1, by omega, by go_num, Lib.hid (NX.out _ (below_seq BB.out (belowN _)))⟩
        case measure => simp [intOf]; omega
      · obtain ⟨i1, i2⟩ := max_min_gt hxy
        rw [i1, i2] at NX
        clear i1 i2
        go_wp2_with fail
        go_quiet (fail)
        go_wp2_with fail
        go_region
        go_wp2
        go_roundw
        case rel => exact ⟨k + 1, by omega, by go_num, Lib.hid (NX.out _ (below_seq BB.out (belowN _)))⟩
        case measure => simp [intOf]; omega
    · have hk' : k = m.ws.length := by omega
      subst hk'
      obtain ⟨ho, hb⟩ := H.out
      rw [List.take_length] at ho
      have O := Lib.hid (IntSOwn.mk ho)
      clear ho hb
      go_wp2
      go_ret
      exact ⟨_, rfl, O.out, H.out.2⟩
set_option maxHeartbeats 1000000 in
theorem uImplNetRun (c0 c1 : Value) (m : NetM) (cl : Value) (l : List Int) (w : World) (h : NetIn [c0, c1] m w) (hl : IntSIn [cl] l w) : Calls Try.prog 24 #[.agg #[c0, c1], cl] w (IntSRet (netRunM m l) w) := by
  have V := Lib.hid (implValid w.heap.size c1 m _ (NetAt.box h))
  have A := Lib.hid (NetAt.box h)
  have L := Lib.hid hl.lies
  obtain ⟨a1, k1, rfl, rfl, _⟩ := netIn_cells h
  obtain ⟨al, capl, rfl, _, hml, _⟩ := intSIn_shape hl
  unfold maxLen at hml
  have B0 := Lib.hid (below_box (Below.refl w.heap.size w) (.cells #[.int .i64 m.n, .slice a1 m.ws.length k1] 26))
  clear h hl
  by_cases ho : netOkB m = true
  · rw [ho] at V
    by_cases hn : (l.length : Int) = m.n
    · obtain ⟨n, g0, g1, g2, g3, g4⟩ := netOkB_ok ho
      have E : Hid (netRunM m l = runW m.ws l) := Lib.hid (by unfold netRunM; rw [if_pos ⟨ho, hn⟩])
      have RN := Lib.hid (fun w' (hb : Below (w.heap.size + 1) (w.alloc (.cells #[.int .i64 m.n, .slice a1 m.ws.length k1] 26)) w') => implRun w.heap.size _ (.slice al l.length capl) m l w' (A.out.below (by rw [size_box]; exact hb)) ((L.out.below (B0.out.trans (hb.mono (by omega)))).now) (by omega) (by omega) (fun t ht => by have := g4 t ht; rwa [show n = l.length from by omega] at this))
      have hq : ((l.length : Int) != m.n) = false := by simp [hn]
      clear g0 g1 g2 g3 g4 ho
      go_enter Try.func24, Try.ntmps24
      go_wp2_with fail
      refine V.out.mono ?_
      rintro e w1 ⟨rfl, hb⟩
      have hk := kept_block A.out.1 hb
      have q0 : w1.cell? ⟨w.heap.size, 0, none⟩ = some (.int .i64 m.n) := cur_cell hk 0
      have R1 := Lib.hid (RN.out w1 (by rw [size_box] at hb; exact hb))
      have B1 := Lib.hid (below_seq B0.out hb)
      clear hk hb RN V A
      have HN := Lib.hid hn
      clear hn
      go_wp2_with fail
      refine R1.out.mono ?_
      rintro e w2 ⟨d, rfl, hd, hb2⟩
      obtain ⟨x, xn, xc, rfl⟩ := hd.shape
      have O := Lib.hid (hd.wide (lo' := w.heap.size) B1.out.size (Nat.le_refl _))
      have B2 := Lib.hid (below_seq B1.out hb2)
      clear hd hb2
      go_wp2
      go_ret
      exact ⟨_, rfl, by rw [E.out]; exact O.out, B2.out⟩
    · have E : Hid (netRunM m l = []) := Lib.hid (by unfold netRunM; rw [if_neg (fun h => hn h.2)])
      have hq : ((l.length : Int) != m.n) = true := by simp [hn]
      clear L
      go_enter Try.func24, Try.ntmps24
      go_wp2_with fail
      refine V.out.mono ?_
      rintro e w1 ⟨rfl, hb⟩
      have hk := kept_block A.out.1 hb
      have q0 : w1.cell? ⟨w.heap.size, 0, none⟩ = some (.int .i64 m.n) := cur_cell hk 0
      have B1 := Lib.hid (below_seq B0.out hb)
      clear hk hb V A
      go_wp2
      go_ret
      exact ⟨_, rfl, by rw [E.out]; exact IntSOwn.nil _ _ _, B1.out⟩
  · have hf : netOkB m = false := by simpa using ho
    rw [hf] at V
    have E : Hid (netRunM m l = []) := Lib.hid (by unfold netRunM; rw [if_neg (fun h => ho h.1)])
    go_enter Try.func24, Try.ntmps24
    go_wp2_with fail
    refine V.out.mono ?_
    rintro e w1 ⟨rfl, hb⟩
    have B1 := Lib.hid (below_seq B0.out hb)
    clear hb V A
    go_wp2
    go_ret
    exact ⟨_, rfl, by rw [E.out]; exact IntSOwn.nil _ _ _, B1.out⟩
set_option maxHeartbeats 4000000 in
theorem specRun (c0 c1 cl : Value) (m : NetM) (l : List Int) (w : World) (h : NetIn [c0, c1] m w) (hl : IntSIn [cl] l w) (h1 : 1 ≤ l.length) (h2 : l.length ≤ 64) (hw : ∀ t ∈ m.ws, WireOk l.length t) :
    Calls Try.prog 66 #[.agg #[c0, c1], cl] w (IntSRet (runW m.ws l) w) := by
  obtain ⟨al, capl, rfl, _, _, rl⟩ := intSIn_shape hl
  obtain ⟨a1, cap1, rfl, rfl, _, hm, r⟩ := netIn_cells h
  unfold maxLen at hm
  have R := Lib.hid r
  have WO := Lib.hid hw
  have K0 := Lib.hid (alloc_at w (.cells #[.int .i64 m.n, .slice a1 m.ws.length cap1] 26) _ rfl)
  have B0 := Lib.hid (below_box (Below.refl w.heap.size w) (.cells #[.int .i64 m.n, .slice a1 m.ws.length cap1] 26))
  have RL := Lib.hid (fun o => rl.below (below_box B0.out o))
  clear h hl r hw rl
  go_enter Try.func66, Try.ntmps66
  go_wp2_with (at_builtin; go_must (refine wp_app_row rfl _ _ 28 rfl 3 (.int .i64 0) 8 Try.underlying28 Try.info3 rfl (w.heap.size + 1) 0 _ [] (by rfl) (lit_made _ (w.heap.size + 1) (w.heap.size + 1) (by simp) (by simp)) al l.length capl (l.map ival) (by rfl) (by simp) (RL.out _) (ones_ivalR l) (by unfold maxLen; omega) (by omega) (by simp) ?_); intro v' w2 hown hgr)
  simp only [List.nil_append, Nat.zero_add] at hown
  obtain ⟨a', c', rfl⟩ := own_shape hown
  obtain ⟨g, rfl, hg⟩ := intSOwn_mid hown h1
  have hB := below_write (below_box (Below.refl _ (w.alloc (.cells #[.int .i64 m.n, .slice a1 m.ws.length cap1] 26))) (.cells #[] 3)) hgr (by simp)
  have K1 : Hid (w2.heap[w.heap.size]? = some (.cells #[.int .i64 m.n, .slice a1 m.ws.length cap1] 26 (0, 0))) := Lib.hid (kept_block K0.out hB)
  have S0 : Hid (RunAt w w2 w.heap.size g c' m.ws l 0) := Lib.hid ⟨own_base hown (by omega), below_seq B0.out hB⟩
  have HG : Hid (w.heap.size + 1 ≤ g) := Lib.hid hg
  clear hown hgr hB hg K0
  go_wp2
  go_loopw [6, 7, 8, 9] (fun i _ _ _ wr => ∃ k : Nat, k ≤ m.ws.length ∧ i = .int .i64 k ∧ Hid (RunAt w wr w.heap.size g c' m.ws l k ∧ wr.heap[w.heap.size]? = some (.cells #[.int .i64 m.n, .slice a1 m.ws.length cap1] 26 (0, 0)))) (fun i _ _ _ _ => m.ws.length - (intOf i).toNat)
  case atStart => exact ⟨0, Nat.zero_le _, rfl, Lib.hid ⟨S0.out, K1.out⟩⟩
  case round =>
    clear S0 K1
    obtain ⟨k, hk, rfl, H⟩ := hrel
    have z1 : wr.cell? ⟨w.heap.size, 1, none⟩ = some (.slice a1 m.ws.length cap1) := cur_cell H.out.2 1
    by_cases hlt : k < m.ws.length
    · obtain ⟨b1, o1, rfl, p0, p1⟩ := (R.out.below H.out.1.2).wire hlt
      obtain ⟨p, q, e1, e2, hpq, hq⟩ := WO.out _ (List.getElem_mem hlt)
      have len := runW_length (m.ws.take k) l
      have hx : (runW (m.ws.take k) l)[p]? = some (runW (m.ws.take k) l)[p] := List.getElem?_eq_getElem (by omega)
      have hy : (runW (m.ws.take k) l)[q]? = some (runW (m.ws.take k) l)[q] := List.getElem?_eq_getElem (by omega)
      rw [e1] at p0
      rw [e2] at p1
      have NX := Lib.hid (fun w' hb => H.out.1.next (w' := w') hlt hb e1 e2 hx hy H.out.1.2.size (by have := HG.out; omega))
      have c0 := (H.out.1.1.cellAt p (by simp; omega)).trans (by rw [List.getElem?_map, hx]; rfl : _ = some (Value.int .i64 (runW (m.ws.take k) l)[p]))
      have c1 := (H.out.1.1.cellAt q (by simp; omega)).trans (by rw [List.getElem?_map, hy]; rfl : _ = some (Value.int .i64 (runW (m.ws.take k) l)[q]))
      have f0 := H.out.1.1.frozenAt p
      have f1 := H.out.1.1.frozenAt q
      have hgl : g < wr.heap.size := (H.out.1.1.lt g rfl).2
      have hgw : w.heap.size < g := HG.out
      generalize (runW (m.ws.take k) l)[p] = x at *
      generalize (runW (m.ws.take k) l)[q] = y at *
      have B1 := below_box (Below.refl wr.heap.size wr) (.cells #[.int .i64 (p : Int), .int .i64 (q : Int)] 63)
      have c0' := cell_keep c0 B1
      have c1' := cell_keep c1 B1
      have KN : Hid (∀ u v, (((wr.setCell ⟨g, p, none⟩ u).setCell ⟨g, q, none⟩ v).alloc (.cells #[.int .i64 (p : Int), .int .i64 (q : Int)] 63)).heap[w.heap.size]? = some (.cells #[.int .i64 m.n, .slice (some ⟨b1, o1, none⟩) m.ws.length cap1] 26 (0, 0))) :=
        Lib.hid (fun u v => (alloc_old _ _ _ (by simp; omega)).trans ((Below.heap_setCell _ _ _ _ (by simp; omega)).trans ((Below.heap_setCell _ _ _ _ (by simp; omega)).trans H.out.2)))
      have BB := Lib.hid B1
      clear B1 H hx hy len e1 e2
      rcases Int.lt_trichotomy x y with hxy | hxy | hxy
      · obtain ⟨i1, i2⟩ := max_min_lt hxy
        rw [i1, i2] at NX
        clear i1 i2
        go_wp2
        go_roundw
        case rel => exact ⟨k + 1, by omega, by go_num, Lib.hid ⟨(NX.out _ (Below.refl _ _)).box (Nat.le_refl _) _, KN.out _ _⟩⟩
        case measure => simp [intOf]; omega
      · obtain ⟨i1, i2⟩ := max_min_eq hxy
        rw [i1, i2] at NX
        clear i1 i2
        subst hxy
        go_wp2
        go_roundw
        case rel => exact ⟨k + 1, by omega, by go_num, Lib.hid ⟨(NX.out _ (Below.refl _ _)).box (Nat.le_refl _) _, KN.out _ _⟩⟩
        case measure => simp [intOf]; omega
      · obtain ⟨i1, i2⟩ := max_min_gt hxy
        rw [i1, i2] at NX
        clear i1 i2
        go_wp2
        go_roundw
        case rel => exact ⟨k + 1, by omega, by go_num, Lib.hid ⟨(NX.out _ (Below.refl _ _)).box (Nat.le_refl _) _, KN.out _ _⟩⟩
        case measure => simp [intOf]; omega
    · have hk' : k = m.ws.length := by omega
      subst hk'
      obtain ⟨⟨ho, hb⟩, _⟩ := H.out
      rw [List.take_length] at ho
      have O := Lib.hid (IntSOwn.mk ho)
      clear ho hb
      go_wp2
      go_ret
      exact ⟨_, rfl, O.out, H.out.1.2⟩
set_option maxHeartbeats 1000000 in
theorem uSpecNetRun (c0 c1 : Value) (m : NetM) (cl : Value) (l : List Int) (w : World) (h : NetIn [c0, c1] m w) (hl : IntSIn [cl] l w) : Calls Try.prog 33 #[.agg #[c0, c1], cl] w (IntSRet (netRunM m l) w) := by
  have A := Lib.hid h.lies
  have L := Lib.hid hl.lies
  obtain ⟨a1, k1, rfl, rfl, _⟩ := netIn_cells h
  obtain ⟨al, capl, rfl, _, hml, _⟩ := intSIn_shape hl
  unfold maxLen at hml
  have B0 := Lib.hid (below_box (Below.refl w.heap.size w) (.cells #[.int .i64 m.n, .slice a1 m.ws.length k1] 26))
  have K0 := Lib.hid (alloc_at w (.cells #[.int .i64 m.n, .slice a1 m.ws.length k1] 26) _ rfl)
  have V := Lib.hid (uSpecNetOk _ _ m (w.alloc (.cells #[.int .i64 m.n, .slice a1 m.ws.length k1] 26)) ((A.out.below B0.out).now))
  clear h hl
  by_cases ho : netOkB m = true
  · rw [ho] at V
    by_cases hn : (l.length : Int) = m.n
    · obtain ⟨n, g0, g1, g2, g3, g4⟩ := netOkB_ok ho
      have E : Hid (netRunM m l = runW m.ws l) := Lib.hid (by unfold netRunM; rw [if_pos ⟨ho, hn⟩])
      have RN := Lib.hid (fun w' (hb : Below w.heap.size w w') => specRun _ _ (.slice al l.length capl) m l w' ((A.out.below hb).now) ((L.out.below hb).now) (by omega) (by omega) (fun t ht => by have := g4 t ht; rwa [show n = l.length from by omega] at this))
      have hq : ((l.length : Int) != m.n) = false := by simp [hn]
      clear g0 g1 g2 g3 g4 ho
      have HN := Lib.hid hn
      clear hn
      go_enter Try.func33, Try.ntmps33
      go_wp2_with fail
      refine V.out.mono ?_
      rintro e w1 ⟨rfl, hb⟩
      have hk := kept_block K0.out hb
      have q0 : w1.cell? ⟨w.heap.size, 0, none⟩ = some (.int .i64 m.n) := cur_cell hk 0
      have q1 : w1.cell? ⟨w.heap.size, 1, none⟩ = some (.slice a1 m.ws.length k1) := cur_cell hk 1
      have R1 := Lib.hid (RN.out w1 (below_seq B0.out hb))
      have B1 := Lib.hid (below_seq B0.out hb)
      clear hk hb RN V A K0
      go_wp2_with fail
      refine R1.out.mono ?_
      rintro e w2 ⟨d, rfl, hd, hb2⟩
      obtain ⟨x, xn, xc, rfl⟩ := hd.shape
      have O := Lib.hid (hd.wide (lo' := w.heap.size) B1.out.size (Nat.le_refl _))
      have B2 := Lib.hid (below_seq B1.out hb2)
      clear hd hb2
      go_wp2
      go_ret
      exact ⟨_, rfl, by rw [E.out]; exact O.out, B2.out⟩
    · have E : Hid (netRunM m l = []) := Lib.hid (by unfold netRunM; rw [if_neg (fun h => hn h.2)])
      have hq : ((l.length : Int) != m.n) = true := by simp [hn]
      clear L
      go_enter Try.func33, Try.ntmps33
      go_wp2_with fail
      refine V.out.mono ?_
      rintro e w1 ⟨rfl, hb⟩
      have hk := kept_block K0.out hb
      have q0 : w1.cell? ⟨w.heap.size, 0, none⟩ = some (.int .i64 m.n) := cur_cell hk 0
      have B1 := Lib.hid (below_seq B0.out hb)
      clear hk hb V A
      go_wp2
      go_ret
      exact ⟨_, rfl, by rw [E.out]; exact IntSOwn.nil _ _ _, B1.out⟩
  · have hf : netOkB m = false := by simpa using ho
    rw [hf] at V
    have E : Hid (netRunM m l = []) := Lib.hid (by unfold netRunM; rw [if_neg (fun h => ho h.1)])
    go_enter Try.func33, Try.ntmps33
    go_wp2_with fail
    refine V.out.mono ?_
    rintro e w1 ⟨rfl, hb⟩
    have B1 := Lib.hid (below_seq B0.out hb)
    clear hb V A
    go_wp2
    go_ret
    exact ⟨_, rfl, by rw [E.out]; exact IntSOwn.nil _ _ _, B1.out⟩
end Go.Proofs.Ytkifndcfmmdkpaa
