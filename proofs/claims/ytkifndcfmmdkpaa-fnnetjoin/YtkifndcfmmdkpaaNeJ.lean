/- NetJoin, in the program (slices.Concat, slices.Grow) and in the model. -/
import Derived.Test.YtkifndcfmmdkpaaNeR
import Derived.Lib.AppendZeros
import Derived.Deep.RegionLaw
import Derived.Deep.RegionHeld3
namespace Go.Proofs.Ytkifndcfmmdkpaa
open Go.RowKit
set_option linter.unusedVariables false
set_option maxRecDepth 100000

theorem zeroCells_size (z : Array Value) (n : Nat) (h : z.size = 2) : (Builtin.zeroCells z n).size = n * 2 := by
  unfold Builtin.zeroCells
  simp [h]
set_option maxHeartbeats 1000000 in
theorem implGrow (n : Nat) (w : World) (hn : n ≤ 2100) : Calls Try.prog 86 #[.slice none 0 0, .int .i64 n] w fun e w' => ∃ a cap, e = .returned (.slice a 0 cap) ∧ w'.ownsRow w.heap.size 63 2 (.slice a 0 cap) 0 [] ∧ Below w.heap.size w w' := by
  by_cases h0 : n = 0
  · subst h0
    go_enter Try.func86, Try.ntmps86
    go_wp2
    go_ret
    exact ⟨none, 0, rfl, ⟨rfl, .inl ⟨rfl, rfl⟩⟩, Below.refl _ _⟩
  · have hpos : 0 < n := by omega
    obtain ⟨i0, hi, hz0, hz1, hz2⟩ := info_parts Try.infoWire
    have hap : ∀ ty, (Builtin.append_ #[24, 3] ty #[.slice none 0 0, .int .i64 n]).run Try.prog w = _ := fun ty => Lib.run_append_nil_zeros w 24 3 ty 63 i0 _ .i64 .i64 Try.underlying24 Try.underlying3 hi hz0 n hpos (by omega) (by omega) (by rw [hz2]; omega)
    have hge := grownCap_ge w n 0 63
    have hle := grownCap_le_maxLen w n 0 63 (by unfold maxLen; omega)
    have HC : Hid (n ≤ grownCap w n 0 63 ∧ grownCap w n 0 63 ≤ maxLen) := Lib.hid ⟨hge, hle⟩
    clear hge hle
    generalize grownCap w n 0 63 = cap at *
    go_enter Try.func86, Try.ntmps86
    go_wp2_with (at_builtin; refine Lib.wpList_append_run _ rfl _ _ _ _ rfl _ _ rfl rfl _ _ (hap _) ?_)
    go_ret
    refine ⟨_, _, rfl, ⟨rfl, .inr ⟨w.heap.size, cap, _, rfl, Nat.le_refl _, alloc_at _ _ _ rfl, Nat.zero_le _, HC.out.2, ?_, by simp⟩⟩, below_box (below_drew (Below.refl _ _)) _⟩
    have := HC.out.1
    rw [Array.size_append, zeroCells_size _ _ rfl, zeroCells_size _ _ rfl]
    omega
def WireSRet (l : List WireM) (w : World) (e : Ending) (w' : World) : Prop := ∃ c, e = .returned c ∧ WireSOwn w.heap.size w'.heap.size [c] l w' ∧ Below w.heap.size w w'
set_option maxHeartbeats 4000000 in
theorem implConcat (b : Nat) (s1 s2 : Value) (l1 l2 : List WireM) (w : World) (hk : w.heap[b]? = some (.cells #[s1, s2] 24 (0, 0))) (h1 : WireSIn [s1] l1 w) (h2 : WireSIn [s2] l2 w) (hl : l1.length + l2.length ≤ 2100) :
    Calls Try.prog 65 #[.slice (some ⟨b, 0, none⟩) 2 2] w (WireSRet (l1 ++ l2) w) := by
  obtain ⟨a1, c1, rfl, _, _, r1⟩ := wireSIn_shape h1
  obtain ⟨a2, c2, rfl, _, _, r2⟩ := wireSIn_shape h2
  have q0 : w.cell? ⟨b, 0, none⟩ = some (.slice a1 l1.length c1) := cur_cell hk 0
  have q1 : w.cell? ⟨b, 1, none⟩ = some (.slice a2 l2.length c2) := cur_cell hk 1
  have K := Lib.hid hk
  have R1 := Lib.hid r1
  have R2 := Lib.hid r2
  have GW := Lib.hid (implGrow (l1.length + l2.length) w hl)
  have F1 := Lib.hid (flatW_len l1)
  have F2 := Lib.hid (flatW_len l2)
  clear h1 h2 r1 r2 hk
  generalize l1.length = n1 at *
  generalize l2.length = n2 at *
  go_enter Try.func65, Try.ntmps65
  go_wp2
  go_loop [11, 3, 5] (fun i z _ => (i = .int .i64 0 ∧ z = .int .i64 0) ∨ (i = .int .i64 1 ∧ z = .int .i64 (n1 : Int)) ∨ (i = .int .i64 2 ∧ z = .int .i64 ((n1 + n2 : Nat) : Int))) (fun i _ _ => 2 - (intOf i).toNat)
  case atStart => exact .inl ⟨rfl, rfl⟩
  case round =>
    rcases hrel with ⟨rfl, rfl⟩ | ⟨rfl, rfl⟩ | ⟨rfl, rfl⟩
    · go_wp2
      go_round
      case rel => exact .inr (.inl ⟨rfl, by go_num⟩)
      case measure => simp [intOf]
    · go_wp2
      go_round
      case rel => exact .inr (.inr ⟨rfl, by go_num⟩)
      case measure => simp [intOf]
    · go_wp2_with fail
      refine GW.out.mono ?_
      rintro e w1 ⟨a, cap, rfl, ho, hb⟩
      have S0 : Hid (w1.ownsRow w.heap.size 63 2 (.slice a 0 cap) 0 [] ∧ Below w.heap.size w w1) := Lib.hid ⟨ho, hb⟩
      clear ho hb q0 q1
      go_wp2
      go_loopw [27, 6, 8] (fun i v _ wr => Hid (Below w.heap.size w wr) ∧ ((i = .int .i64 0 ∧ ∃ a cap, v = .slice a 0 cap ∧ Hid (wr.ownsRow w.heap.size 63 2 (.slice a 0 cap) 0 [])) ∨ (i = .int .i64 1 ∧ ∃ a cap, v = .slice a n1 cap ∧ Hid (wr.ownsRow w.heap.size 63 2 (.slice a n1 cap) n1 (flatW l1))) ∨ (i = .int .i64 2 ∧ ∃ a cap, v = .slice a (n1 + n2) cap ∧ Hid (wr.ownsRow w.heap.size 63 2 (.slice a (n1 + n2) cap) (n1 + n2) (flatW (l1 ++ l2)))))) (fun i _ _ _ => 2 - (intOf i).toNat)
      case atStart => exact ⟨Lib.hid S0.out.2, .inl ⟨rfl, _, _, rfl, Lib.hid S0.out.1⟩⟩
      case round =>
        clear S0
        obtain ⟨B, H⟩ := hrel
        have q0 : wr.cell? ⟨b, 0, none⟩ = some (.slice a1 n1 c1) := cur_cell (kept_block K.out B.out) 0
        have q1 : wr.cell? ⟨b, 1, none⟩ = some (.slice a2 n2 c2) := cur_cell (kept_block K.out B.out) 1
        rcases H with ⟨rfl, a', cap', rfl, O⟩ | ⟨rfl, a', cap', rfl, O⟩ | ⟨rfl, a', cap', rfl, O⟩
        · go_wp2_with (at_builtin; go_must (refine wp_app_rowS rfl _ _ 24 rfl 63 _ 2 16 Try.underlying24 Try.infoWire rfl (by omega) w.heap.size 0 (.slice a' 0 cap') [] (by rfl) O.out a1 n1 c1 (flatW l1) (by rfl) F1.out (R1.out.below B.out) (flatW_one _) (by unfold maxLen; omega) (by omega) B.out.size ?_); intro v3 w3 ho3 hg3; simp only [Nat.zero_add, List.nil_append] at ho3; obtain ⟨e3, f3, rfl⟩ := own_shape ho3; have O3 := Lib.hid ho3; have B3 := Lib.hid (B.out.grown hg3 B.out.size (fun g hg => (O.out.lt g hg).1)); clear ho3 hg3)
          go_roundw
          case rel => exact ⟨B3, .inr (.inl ⟨rfl, _, _, rfl, O3⟩)⟩
          case measure => simp [intOf]
        · go_wp2_with (at_builtin; go_must (refine wp_app_rowS rfl _ _ 24 rfl 63 _ 2 16 Try.underlying24 Try.infoWire rfl (by omega) w.heap.size n1 (.slice a' n1 cap') (flatW l1) (by rfl) O.out a2 n2 c2 (flatW l2) (by rfl) F2.out (R2.out.below B.out) (flatW_one _) (by unfold maxLen; omega) (by omega) B.out.size ?_); intro v3 w3 ho3 hg3; rw [← flatW_app] at ho3; obtain ⟨e3, f3, rfl⟩ := own_shape ho3; have O3 := Lib.hid ho3; have B3 := Lib.hid (B.out.grown hg3 B.out.size (fun g hg => (O.out.lt g hg).1)); clear ho3 hg3)
          go_roundw
          case rel => exact ⟨B3, .inr (.inr ⟨rfl, _, _, rfl, O3⟩)⟩
          case measure => simp [intOf]
        · go_wp2
          go_ret
          exact ⟨_, rfl, WireSOwn.mk O.out, B.out⟩
/-- The boxes of a join: the two nets, the result. -/
structure JBox (W w : World) (x y : NetM) (s1 s2 : Value) : Prop where
  a : w.heap[W.heap.size]? = some (.cells #[.int .i64 x.n, s1] 26 (0, 0))
  b : w.heap[W.heap.size + 1]? = some (.cells #[.int .i64 y.n, s2] 26 (0, 0))
  r : w.heap[W.heap.size + 1 + 1]? = some (.cells #[.int .i64 0, .slice none 0 0] 26 (0, 0))
  low : Below W.heap.size W w
theorem JBox.below {W w w' : World} {x y : NetM} {s1 s2 : Value} (h : JBox W w x y s1 s2) (hb : Below w.heap.size w w') : JBox W w' x y s1 s2 := ⟨kept_block h.a hb, kept_block h.b hb, kept_block h.r hb, below_seq h.low hb⟩
theorem JBox.start (W : World) (x y : NetM) (s1 s2 : Value) : JBox W (((W.alloc (.cells #[.int .i64 x.n, s1] 26)).alloc (.cells #[.int .i64 y.n, s2] 26)).alloc (.cells #[.int .i64 0, .slice none 0 0] 26)) x y s1 s2 :=
  ⟨(alloc_old _ _ _ (by simp; omega)).trans ((alloc_old _ _ _ (by simp)).trans (alloc_at _ _ _ rfl)), (alloc_old _ _ _ (by simp)).trans (alloc_at _ _ _ (by simp)), alloc_at _ _ _ (by simp), below_box (below_box (below_box (Below.refl _ _) _) _) _⟩
def JoinRet (x y : NetM) (w : World) (e : Ending) (w' : World) : Prop := ∃ c0 c1, e = .returned (.tuple #[.agg #[c0, c1], .bool (joinB x y)]) ∧ NetOwn w.heap.size w'.heap.size [c0, c1] (joinM x y) w' ∧ Below w.heap.size w w'
theorem join_no1 {x y : NetM} (h : netOkB x = false) : joinB x y = false := by unfold joinB; simp [h]
theorem join_no2 {x y : NetM} (h : netOkB y = false) : joinB x y = false := by unfold joinB; simp [h]
theorem join_no3 {x y : NetM} (h : x.n ≠ y.n) : joinB x y = false := by unfold joinB; simp [h]
theorem join_no4 {x y : NetM} (h : 2100 < x.ws.length + y.ws.length) : joinB x y = false := by
  have : ¬ x.ws.length + y.ws.length ≤ 2100 := by omega
  unfold joinB; simp [this]
theorem join_yes {x y : NetM} (h1 : netOkB x = true) (h2 : netOkB y = true) (h3 : x.n = y.n) (h4 : x.ws.length + y.ws.length ≤ 2100) : joinB x y = true := by unfold joinB; simp [h1, h2, h3, h4]
theorem JBox.no {W w : World} {x y : NetM} {s1 s2 : Value} (h : JBox W w x y s1 s2) (hj : joinB x y = false) (u v : Value) : JoinRet x y W (.returned (.tuple #[.agg #[.int .i64 0, .slice none 0 0], .bool false])) ((w.setCell ⟨W.heap.size + 1 + 1, 0, none⟩ u).setCell ⟨W.heap.size + 1 + 1, 1, none⟩ v) := by
  have e : joinM x y = ⟨0, []⟩ := by unfold joinM; simp [hj]
  refine ⟨_, _, by rw [hj], ⟨_, by rw [e], by rw [e]; exact WireSOwn.nil _ _ 0 _⟩, (h.low.setCell (p := ⟨W.heap.size + 1 + 1, 0, none⟩) (by simp; omega) _).setCell (p := ⟨W.heap.size + 1 + 1, 1, none⟩) (by simp; omega) _⟩
theorem JBox.yes {W w w' : World} {x y : NetM} {s1 s2 : Value} {a : Option Addr} {n cap lo : Nat} (h : JBox W w x y s1 s2) (hj : joinB x y = true) (hb : Below w.heap.size w w') (ho : w'.ownsRow lo 63 2 (.slice a n cap) n (flatW (x.ws ++ y.ws))) (hlo : W.heap.size + 1 + 1 < lo) (u v : Value) :
    JoinRet x y W (.returned (.tuple #[.agg #[.int .i64 x.n, .slice a n cap], .bool true])) ((w'.setCell ⟨W.heap.size + 1 + 1, 0, none⟩ u).setCell ⟨W.heap.size + 1 + 1, 1, none⟩ v) := by
  have L := ((WireSOwn.mk ho).lies (Nat.le_refl _)).sup ((w'.setCell ⟨W.heap.size + 1 + 1, 0, none⟩ u).setCell ⟨W.heap.size + 1 + 1, 1, none⟩ v) (fun k k1 k2 => (Below.heap_setCell _ _ _ k (by simp; omega)).trans (Below.heap_setCell _ _ _ k (by simp; omega)))
  have e : joinM x y = ⟨x.n, x.ws ++ y.ws⟩ := by unfold joinM; rw [if_pos hj]
  refine ⟨_, _, by rw [hj], ⟨_, by rw [e], ?_⟩, ((below_seq h.low hb).setCell (p := ⟨W.heap.size + 1 + 1, 0, none⟩) (by simp; omega) _).setCell (p := ⟨W.heap.size + 1 + 1, 1, none⟩) (by simp; omega) _⟩
  rw [e]
  exact L.wide (by omega) (by simp)
theorem JBox.yesO {W w w' : World} {x y : NetM} {s1 s2 : Value} {a : Option Addr} {n cap lo hi : Nat} (h : JBox W w x y s1 s2) (hj : joinB x y = true) (hb : Below w.heap.size w w') (ho : WireSOwn lo hi [.slice a n cap] (x.ws ++ y.ws) w') (hlo : W.heap.size + 1 + 1 < lo) (u v : Value) :
    JoinRet x y W (.returned (.tuple #[.agg #[.int .i64 x.n, .slice a n cap], .bool true])) ((w'.setCell ⟨W.heap.size + 1 + 1, 0, none⟩ u).setCell ⟨W.heap.size + 1 + 1, 1, none⟩ v) := by
  obtain ⟨a', cap', hc, ho, _⟩ := ho
  simp at hc
  obtain ⟨rfl, hn, rfl⟩ := hc
  subst hn
  exact h.yes hj hb (by simpa using ho) hlo u v
set_option maxHeartbeats 4000000 in
theorem uImplNetJoin (c0 c1 : Value) (x : NetM) (d0 d1 : Value) (y : NetM) (w : World) (h : NetIn [c0, c1] x w) (k : NetIn [d0, d1] y w) : Calls Try.prog 31 #[.agg #[c0, c1], .agg #[d0, d1]] w (JoinRet x y w) := by
  have A := Lib.hid h.lies
  have D := Lib.hid k.lies
  obtain ⟨a1, k1, rfl, rfl, _, m1, r1⟩ := netIn_cells h
  obtain ⟨a2, k2, rfl, rfl, _, m2, r2⟩ := netIn_cells k
  unfold maxLen at m1 m2
  have R1 := Lib.hid r1
  have R2 := Lib.hid r2
  clear h k r1 r2
  have J0 := Lib.hid (JBox.start w x y (.slice a1 x.ws.length k1) (.slice a2 y.ws.length k2))
  obtain ⟨w0, hw0⟩ : ∃ w0, w0 = (((w.alloc (.cells #[.int .i64 x.n, .slice a1 x.ws.length k1] 26)).alloc (.cells #[.int .i64 y.n, .slice a2 y.ws.length k2] 26)).alloc (.cells #[.int .i64 0, .slice none 0 0] 26)) := ⟨_, rfl⟩
  rw [← hw0] at J0
  have V1 := Lib.hid (implValid w.heap.size (.slice a1 x.ws.length k1) x w0 ⟨J0.out.a, (netIn_shape ((A.out.below J0.out.low).now)).2⟩)
  have V2 : Hid (∀ w', JBox w w' x y (.slice a1 x.ws.length k1) (.slice a2 y.ws.length k2) → Calls Try.prog 57 #[.pointer (some ⟨w.heap.size + 1, 0, none⟩)] w' fun e w'' => e = .returned (.bool (netOkB y)) ∧ Below w'.heap.size w' w'') := Lib.hid (fun w' J => implValid (w.heap.size + 1) _ y w' ⟨J.b, (netIn_shape ((D.out.below J.low).now)).2⟩)
  by_cases h1 : netOkB x = true
  · rw [h1] at V1
    by_cases h2 : netOkB y = true
    · rw [h2] at V2
      have g1 : x.ws.length ≤ 2100 := by obtain ⟨_, _, _, _, h, _⟩ := netOkB_ok h1; exact h
      have g2 : y.ws.length ≤ 2100 := by obtain ⟨_, _, _, _, h, _⟩ := netOkB_ok h2; exact h
      by_cases h3 : x.n = y.n
      · have hq : (x.n != y.n) = false := by simp [h3]
        by_cases h4 : x.ws.length + y.ws.length ≤ 2100
        · have h4' : ¬ (2100 : Int) < (x.ws.length : Int) + (y.ws.length : Int) := by omega
          have E := Lib.hid (join_yes h1 h2 h3 h4)
          have F1 := Lib.hid (flatW_len x.ws)
          have F2 := Lib.hid (flatW_len y.ws)
          have H3 := Lib.hid h3
          clear h1 h2 h3
          go_enter Try.func31, Try.ntmps31
          go_wp2_with fail
          rw [← hw0]
          clear hw0
          refine V1.out.mono ?_
          rintro e w1 ⟨rfl, hb⟩
          have J1 := Lib.hid (J0.out.below hb)
          clear hb J0 V1
          have za0 : w1.cell? ⟨w.heap.size, 0, none⟩ = some (.int .i64 x.n) := cur_cell J1.out.a 0
          have za1 : w1.cell? ⟨w.heap.size, 1, none⟩ = some (.slice a1 x.ws.length k1) := cur_cell J1.out.a 1
          have zb0 : w1.cell? ⟨w.heap.size + 1, 0, none⟩ = some (.int .i64 y.n) := cur_cell J1.out.b 0
          have zb1 : w1.cell? ⟨w.heap.size + 1, 1, none⟩ = some (.slice a2 y.ws.length k2) := cur_cell J1.out.b 1
          have zr0 : w1.cell? ⟨w.heap.size + 1 + 1, 0, none⟩ = some (.int .i64 0) := cur_cell J1.out.r 0
          have zr1 : w1.cell? ⟨w.heap.size + 1 + 1, 1, none⟩ = some (.slice none 0 0) := cur_cell J1.out.r 1
          have fr0 := cur_free J1.out.r 0
          have fr1 := cur_free J1.out.r 1
          go_wp2_with fail
          clear za0 za1 zb0 zb1 zr0 zr1 fr0 fr1
          refine (V2.out _ J1.out).mono ?_
          rintro e w2 ⟨rfl, hb⟩
          have J2 := Lib.hid (J1.out.below hb)
          clear hb J1 V2
          have za0 : w2.cell? ⟨w.heap.size, 0, none⟩ = some (.int .i64 x.n) := cur_cell J2.out.a 0
          have za1 : w2.cell? ⟨w.heap.size, 1, none⟩ = some (.slice a1 x.ws.length k1) := cur_cell J2.out.a 1
          have zb0 : w2.cell? ⟨w.heap.size + 1, 0, none⟩ = some (.int .i64 y.n) := cur_cell J2.out.b 0
          have zb1 : w2.cell? ⟨w.heap.size + 1, 1, none⟩ = some (.slice a2 y.ws.length k2) := cur_cell J2.out.b 1
          have zr0 : w2.cell? ⟨w.heap.size + 1 + 1, 0, none⟩ = some (.int .i64 0) := cur_cell J2.out.r 0
          have zr1 : w2.cell? ⟨w.heap.size + 1 + 1, 1, none⟩ = some (.slice none 0 0) := cur_cell J2.out.r 1
          have fr0 := cur_free J2.out.r 0
          have fr1 := cur_free J2.out.r 1
          have CC := Lib.hid (implConcat w2.heap.size (.slice a1 x.ws.length k1) (.slice a2 y.ws.length k2) x.ws y.ws (w2.alloc (.cells #[.slice a1 x.ws.length k1, .slice a2 y.ws.length k2] 24)).drew (alloc_at _ _ _ rfl) (netIn_shape ((A.out.below (below_drew (below_box J2.out.low _))).now)).2 (netIn_shape ((D.out.below (below_drew (below_box J2.out.low _))).now)).2 h4)
          have LO : Hid (w.heap.size + 1 + 1 < w2.heap.size) := Lib.hid (cur_lt J2.out.r)
          have xa0 : (w2.alloc (.cells #[.slice a1 x.ws.length k1, .slice a2 y.ws.length k2] 24)).cell? ⟨w.heap.size, 0, none⟩ = some (.int .i64 x.n) := cell_keep za0 (below_box (Below.refl _ w2) _)
          go_wp2_with fail
          go_region_law (first
            | (refine step_callW (w2.alloc (.cells #[.slice a1 x.ws.length k1, .slice a2 y.ws.length k2] 24)).drew rfl (by rfl) 65 _ _ rfl _ (by kernel_rfl) Try.call65 _ CC.out ?_; rintro e w3 ⟨c, rfl, ho, hb⟩; refine ⟨_, rfl, ?_⟩; obtain ⟨ca, cn, cc, rfl⟩ := ho.shape; have B3 := Lib.hid (below_seq (below_drew (below_box (Below.refl w2.heap.size w2) (.cells #[.slice a1 x.ws.length k1, .slice a2 y.ws.length k2] 24))) hb); have J3 := J2.out.below B3.out; have ya0 : w3.cell? ⟨w.heap.size, 0, none⟩ = some (.int .i64 x.n) := cur_cell J3.a 0; have yr0 : w3.cell? ⟨w.heap.size + 1 + 1, 0, none⟩ = some (.int .i64 0) := cur_cell J3.r 0; have yr1 : w3.cell? ⟨w.heap.size + 1 + 1, 1, none⟩ = some (.slice none 0 0) := cur_cell J3.r 1; have gr0 := cur_free J3.r 0; have gr1 := cur_free J3.r 1; have O3 := Lib.hid ho; clear ho hb J3))
          all_goals go_wp2
          all_goals exact bodyPost_ret (v := .tuple #[.agg #[.int .i64 x.n, .slice ca cn cc], .bool true]) (by simp [results, Try.results31, go_sem, yr0, yr1]) rfl (J2.out.yesO E.out B3.out O3.out (by have := LO.out; simp; omega) _ _)
        · have h4' : (2100 : Int) < (x.ws.length : Int) + (y.ws.length : Int) := by omega
          have E := Lib.hid (join_no4 (x := x) (y := y) (by omega))
          have H3 := Lib.hid h3
          clear h1 h2 h3
          go_enter Try.func31, Try.ntmps31
          go_wp2_with fail
          rw [← hw0]
          clear hw0
          refine V1.out.mono ?_
          rintro e w1 ⟨rfl, hb⟩
          have J1 := Lib.hid (J0.out.below hb)
          clear hb J0 V1
          have za0 : w1.cell? ⟨w.heap.size, 0, none⟩ = some (.int .i64 x.n) := cur_cell J1.out.a 0
          have za1 : w1.cell? ⟨w.heap.size, 1, none⟩ = some (.slice a1 x.ws.length k1) := cur_cell J1.out.a 1
          have zb0 : w1.cell? ⟨w.heap.size + 1, 0, none⟩ = some (.int .i64 y.n) := cur_cell J1.out.b 0
          have zb1 : w1.cell? ⟨w.heap.size + 1, 1, none⟩ = some (.slice a2 y.ws.length k2) := cur_cell J1.out.b 1
          have zr0 : w1.cell? ⟨w.heap.size + 1 + 1, 0, none⟩ = some (.int .i64 0) := cur_cell J1.out.r 0
          have zr1 : w1.cell? ⟨w.heap.size + 1 + 1, 1, none⟩ = some (.slice none 0 0) := cur_cell J1.out.r 1
          have fr0 := cur_free J1.out.r 0
          have fr1 := cur_free J1.out.r 1
          go_wp2_with fail
          clear za0 za1 zb0 zb1 zr0 zr1 fr0 fr1
          refine (V2.out _ J1.out).mono ?_
          rintro e w2 ⟨rfl, hb⟩
          have J2 := Lib.hid (J1.out.below hb)
          clear hb J1 V2
          have za0 : w2.cell? ⟨w.heap.size, 0, none⟩ = some (.int .i64 x.n) := cur_cell J2.out.a 0
          have za1 : w2.cell? ⟨w.heap.size, 1, none⟩ = some (.slice a1 x.ws.length k1) := cur_cell J2.out.a 1
          have zb0 : w2.cell? ⟨w.heap.size + 1, 0, none⟩ = some (.int .i64 y.n) := cur_cell J2.out.b 0
          have zb1 : w2.cell? ⟨w.heap.size + 1, 1, none⟩ = some (.slice a2 y.ws.length k2) := cur_cell J2.out.b 1
          have zr0 : w2.cell? ⟨w.heap.size + 1 + 1, 0, none⟩ = some (.int .i64 0) := cur_cell J2.out.r 0
          have zr1 : w2.cell? ⟨w.heap.size + 1 + 1, 1, none⟩ = some (.slice none 0 0) := cur_cell J2.out.r 1
          have fr0 := cur_free J2.out.r 0
          have fr1 := cur_free J2.out.r 1
          go_wp2
          exact bodyPost_ret (v := .tuple #[.agg #[.int .i64 0, .slice none 0 0], .bool false]) (by simp [results, Try.results31, go_sem, zr0, zr1]) rfl (J2.out.no E.out _ _)
      · have hq : (x.n != y.n) = true := by simp [h3]
        have E := Lib.hid (join_no3 h3)
        clear h1 h2 h3
        go_enter Try.func31, Try.ntmps31
        go_wp2_with fail
        rw [← hw0]
        clear hw0
        refine V1.out.mono ?_
        rintro e w1 ⟨rfl, hb⟩
        have J1 := Lib.hid (J0.out.below hb)
        clear hb J0 V1
        have za0 : w1.cell? ⟨w.heap.size, 0, none⟩ = some (.int .i64 x.n) := cur_cell J1.out.a 0
        have za1 : w1.cell? ⟨w.heap.size, 1, none⟩ = some (.slice a1 x.ws.length k1) := cur_cell J1.out.a 1
        have zb0 : w1.cell? ⟨w.heap.size + 1, 0, none⟩ = some (.int .i64 y.n) := cur_cell J1.out.b 0
        have zb1 : w1.cell? ⟨w.heap.size + 1, 1, none⟩ = some (.slice a2 y.ws.length k2) := cur_cell J1.out.b 1
        have zr0 : w1.cell? ⟨w.heap.size + 1 + 1, 0, none⟩ = some (.int .i64 0) := cur_cell J1.out.r 0
        have zr1 : w1.cell? ⟨w.heap.size + 1 + 1, 1, none⟩ = some (.slice none 0 0) := cur_cell J1.out.r 1
        have fr0 := cur_free J1.out.r 0
        have fr1 := cur_free J1.out.r 1
        go_wp2_with fail
        clear za0 za1 zb0 zb1 zr0 zr1 fr0 fr1
        refine (V2.out _ J1.out).mono ?_
        rintro e w2 ⟨rfl, hb⟩
        have J2 := Lib.hid (J1.out.below hb)
        clear hb J1 V2
        have za0 : w2.cell? ⟨w.heap.size, 0, none⟩ = some (.int .i64 x.n) := cur_cell J2.out.a 0
        have za1 : w2.cell? ⟨w.heap.size, 1, none⟩ = some (.slice a1 x.ws.length k1) := cur_cell J2.out.a 1
        have zb0 : w2.cell? ⟨w.heap.size + 1, 0, none⟩ = some (.int .i64 y.n) := cur_cell J2.out.b 0
        have zb1 : w2.cell? ⟨w.heap.size + 1, 1, none⟩ = some (.slice a2 y.ws.length k2) := cur_cell J2.out.b 1
        have zr0 : w2.cell? ⟨w.heap.size + 1 + 1, 0, none⟩ = some (.int .i64 0) := cur_cell J2.out.r 0
        have zr1 : w2.cell? ⟨w.heap.size + 1 + 1, 1, none⟩ = some (.slice none 0 0) := cur_cell J2.out.r 1
        have fr0 := cur_free J2.out.r 0
        have fr1 := cur_free J2.out.r 1
        go_wp2
        exact bodyPost_ret (v := .tuple #[.agg #[.int .i64 0, .slice none 0 0], .bool false]) (by simp [results, Try.results31, go_sem, zr0, zr1]) rfl (J2.out.no E.out _ _)
    · have h2' : netOkB y = false := by simpa using h2
      rw [h2'] at V2
      have E := Lib.hid (join_no2 (x := x) h2')
      clear h1 h2 h2'
      go_enter Try.func31, Try.ntmps31
      go_wp2_with fail
      rw [← hw0]
      clear hw0
      refine V1.out.mono ?_
      rintro e w1 ⟨rfl, hb⟩
      have J1 := Lib.hid (J0.out.below hb)
      clear hb J0 V1
      have za0 : w1.cell? ⟨w.heap.size, 0, none⟩ = some (.int .i64 x.n) := cur_cell J1.out.a 0
      have za1 : w1.cell? ⟨w.heap.size, 1, none⟩ = some (.slice a1 x.ws.length k1) := cur_cell J1.out.a 1
      have zb0 : w1.cell? ⟨w.heap.size + 1, 0, none⟩ = some (.int .i64 y.n) := cur_cell J1.out.b 0
      have zb1 : w1.cell? ⟨w.heap.size + 1, 1, none⟩ = some (.slice a2 y.ws.length k2) := cur_cell J1.out.b 1
      have zr0 : w1.cell? ⟨w.heap.size + 1 + 1, 0, none⟩ = some (.int .i64 0) := cur_cell J1.out.r 0
      have zr1 : w1.cell? ⟨w.heap.size + 1 + 1, 1, none⟩ = some (.slice none 0 0) := cur_cell J1.out.r 1
      have fr0 := cur_free J1.out.r 0
      have fr1 := cur_free J1.out.r 1
      go_wp2_with fail
      clear za0 za1 zb0 zb1 zr0 zr1 fr0 fr1
      refine (V2.out _ J1.out).mono ?_
      rintro e w2 ⟨rfl, hb⟩
      have J2 := Lib.hid (J1.out.below hb)
      clear hb J1 V2
      have za0 : w2.cell? ⟨w.heap.size, 0, none⟩ = some (.int .i64 x.n) := cur_cell J2.out.a 0
      have za1 : w2.cell? ⟨w.heap.size, 1, none⟩ = some (.slice a1 x.ws.length k1) := cur_cell J2.out.a 1
      have zb0 : w2.cell? ⟨w.heap.size + 1, 0, none⟩ = some (.int .i64 y.n) := cur_cell J2.out.b 0
      have zb1 : w2.cell? ⟨w.heap.size + 1, 1, none⟩ = some (.slice a2 y.ws.length k2) := cur_cell J2.out.b 1
      have zr0 : w2.cell? ⟨w.heap.size + 1 + 1, 0, none⟩ = some (.int .i64 0) := cur_cell J2.out.r 0
      have zr1 : w2.cell? ⟨w.heap.size + 1 + 1, 1, none⟩ = some (.slice none 0 0) := cur_cell J2.out.r 1
      have fr0 := cur_free J2.out.r 0
      have fr1 := cur_free J2.out.r 1
      go_wp2
      exact bodyPost_ret (v := .tuple #[.agg #[.int .i64 0, .slice none 0 0], .bool false]) (by simp [results, Try.results31, go_sem, zr0, zr1]) rfl (J2.out.no E.out _ _)
  · have h1' : netOkB x = false := by simpa using h1
    rw [h1'] at V1
    have E := Lib.hid (join_no1 (y := y) h1')
    clear h1 h1'
    go_enter Try.func31, Try.ntmps31
    go_wp2_with fail
    rw [← hw0]
    clear hw0
    refine V1.out.mono ?_
    rintro e w1 ⟨rfl, hb⟩
    have J1 := Lib.hid (J0.out.below hb)
    clear hb J0 V1
    have za0 : w1.cell? ⟨w.heap.size, 0, none⟩ = some (.int .i64 x.n) := cur_cell J1.out.a 0
    have za1 : w1.cell? ⟨w.heap.size, 1, none⟩ = some (.slice a1 x.ws.length k1) := cur_cell J1.out.a 1
    have zb0 : w1.cell? ⟨w.heap.size + 1, 0, none⟩ = some (.int .i64 y.n) := cur_cell J1.out.b 0
    have zb1 : w1.cell? ⟨w.heap.size + 1, 1, none⟩ = some (.slice a2 y.ws.length k2) := cur_cell J1.out.b 1
    have zr0 : w1.cell? ⟨w.heap.size + 1 + 1, 0, none⟩ = some (.int .i64 0) := cur_cell J1.out.r 0
    have zr1 : w1.cell? ⟨w.heap.size + 1 + 1, 1, none⟩ = some (.slice none 0 0) := cur_cell J1.out.r 1
    have fr0 := cur_free J1.out.r 0
    have fr1 := cur_free J1.out.r 1
    go_wp2
    exact bodyPost_ret (v := .tuple #[.agg #[.int .i64 0, .slice none 0 0], .bool false]) (by simp [results, Try.results31, go_sem, zr0, zr1]) rfl (J1.out.no E.out _ _)
set_option maxHeartbeats 4000000 in
theorem uSpecNetJoin (c0 c1 : Value) (x : NetM) (d0 d1 : Value) (y : NetM) (w : World) (h : NetIn [c0, c1] x w) (k : NetIn [d0, d1] y w) : Calls Try.prog 30 #[.agg #[c0, c1], .agg #[d0, d1]] w (JoinRet x y w) := by
  have A := Lib.hid h.lies
  have D := Lib.hid k.lies
  obtain ⟨a1, k1, rfl, rfl, _, m1, r1⟩ := netIn_cells h
  obtain ⟨a2, k2, rfl, rfl, _, m2, r2⟩ := netIn_cells k
  unfold maxLen at m1 m2
  have R1 := Lib.hid r1
  have R2 := Lib.hid r2
  clear h k r1 r2
  have J0 := Lib.hid (JBox.start w x y (.slice a1 x.ws.length k1) (.slice a2 y.ws.length k2))
  obtain ⟨w0, hw0⟩ : ∃ w0, w0 = (((w.alloc (.cells #[.int .i64 x.n, .slice a1 x.ws.length k1] 26)).alloc (.cells #[.int .i64 y.n, .slice a2 y.ws.length k2] 26)).alloc (.cells #[.int .i64 0, .slice none 0 0] 26)) := ⟨_, rfl⟩
  rw [← hw0] at J0
  have V1 := Lib.hid (uSpecNetOk _ _ x w0 ((A.out.below J0.out.low).now))
  have V2 : Hid (∀ w', JBox w w' x y (.slice a1 x.ws.length k1) (.slice a2 y.ws.length k2) → Calls Try.prog 18 #[.agg #[.int .i64 y.n, .slice a2 y.ws.length k2]] w' fun e w'' => e = .returned (.bool (netOkB y)) ∧ Below w'.heap.size w' w'') := Lib.hid (fun w' J => uSpecNetOk _ _ y w' ((D.out.below J.low).now))
  by_cases h1 : netOkB x = true
  · rw [h1] at V1
    by_cases h2 : netOkB y = true
    · rw [h2] at V2
      have g1 : x.ws.length ≤ 2100 := by obtain ⟨_, _, _, _, h, _⟩ := netOkB_ok h1; exact h
      have g2 : y.ws.length ≤ 2100 := by obtain ⟨_, _, _, _, h, _⟩ := netOkB_ok h2; exact h
      by_cases h3 : x.n = y.n
      · have hq : (x.n != y.n) = false := by simp [h3]
        by_cases h4 : x.ws.length + y.ws.length ≤ 2100
        · have h4' : ¬ (2100 : Int) < (x.ws.length : Int) + (y.ws.length : Int) := by omega
          have E := Lib.hid (join_yes h1 h2 h3 h4)
          have F1 := Lib.hid (flatW_len x.ws)
          have F2 := Lib.hid (flatW_len y.ws)
          have H3 := Lib.hid h3
          clear h1 h2 h3
          go_enter Try.func30, Try.ntmps30
          go_wp2_with fail
          rw [← hw0]
          clear hw0
          refine V1.out.mono ?_
          rintro e w1 ⟨rfl, hb⟩
          have J1 := Lib.hid (J0.out.below hb)
          clear hb J0 V1
          have za0 : w1.cell? ⟨w.heap.size, 0, none⟩ = some (.int .i64 x.n) := cur_cell J1.out.a 0
          have za1 : w1.cell? ⟨w.heap.size, 1, none⟩ = some (.slice a1 x.ws.length k1) := cur_cell J1.out.a 1
          have zb0 : w1.cell? ⟨w.heap.size + 1, 0, none⟩ = some (.int .i64 y.n) := cur_cell J1.out.b 0
          have zb1 : w1.cell? ⟨w.heap.size + 1, 1, none⟩ = some (.slice a2 y.ws.length k2) := cur_cell J1.out.b 1
          have zr0 : w1.cell? ⟨w.heap.size + 1 + 1, 0, none⟩ = some (.int .i64 0) := cur_cell J1.out.r 0
          have zr1 : w1.cell? ⟨w.heap.size + 1 + 1, 1, none⟩ = some (.slice none 0 0) := cur_cell J1.out.r 1
          have fr0 := cur_free J1.out.r 0
          have fr1 := cur_free J1.out.r 1
          go_wp2_with fail
          clear za0 za1 zb0 zb1 zr0 zr1 fr0 fr1
          refine (V2.out _ J1.out).mono ?_
          rintro e w2 ⟨rfl, hb⟩
          have J2 := Lib.hid (J1.out.below hb)
          clear hb J1 V2
          have za0 : w2.cell? ⟨w.heap.size, 0, none⟩ = some (.int .i64 x.n) := cur_cell J2.out.a 0
          have za1 : w2.cell? ⟨w.heap.size, 1, none⟩ = some (.slice a1 x.ws.length k1) := cur_cell J2.out.a 1
          have zb0 : w2.cell? ⟨w.heap.size + 1, 0, none⟩ = some (.int .i64 y.n) := cur_cell J2.out.b 0
          have zb1 : w2.cell? ⟨w.heap.size + 1, 1, none⟩ = some (.slice a2 y.ws.length k2) := cur_cell J2.out.b 1
          have zr0 : w2.cell? ⟨w.heap.size + 1 + 1, 0, none⟩ = some (.int .i64 0) := cur_cell J2.out.r 0
          have zr1 : w2.cell? ⟨w.heap.size + 1 + 1, 1, none⟩ = some (.slice none 0 0) := cur_cell J2.out.r 1
          have fr0 := cur_free J2.out.r 0
          have fr1 := cur_free J2.out.r 1
          have OE : Hid ((w2.alloc (.cells #[] 63)).drew.ownsRow w2.heap.size 63 2 (.slice (some ⟨w2.heap.size, 0, none⟩) 0 0) 0 []) := Lib.hid (World.ownsRow_made w2 #[] 0 (Nat.le_refl _) (by unfold maxLen; omega) rfl)
          have RX := Lib.hid (R1.out.below (below_drew (below_box J2.out.low (.cells #[] 63))))
          have BE := Lib.hid (below_drew (below_box (Below.refl w2.heap.size w2) (.cells #[] 63)))
          have LO : Hid (w.heap.size + 1 + 1 < w2.heap.size) := Lib.hid (cur_lt J2.out.r)
          have xa0 : (w2.alloc (.cells #[] 63)).cell? ⟨w.heap.size, 0, none⟩ = some (.int .i64 x.n) := cell_keep za0 (below_box (Below.refl _ w2) _)
          have xa1 : (w2.alloc (.cells #[] 63)).cell? ⟨w.heap.size, 1, none⟩ = some (.slice a1 x.ws.length k1) := cell_keep za1 (below_box (Below.refl _ w2) _)
          have xb1 : (w2.alloc (.cells #[] 63)).cell? ⟨w.heap.size + 1, 1, none⟩ = some (.slice a2 y.ws.length k2) := cell_keep zb1 (below_box (Below.refl _ w2) _)
          go_wp2_with fail
          go_region_law (first
            | (refine step_app_rowS (by rfl) _ _ _ (by rfl) 63 _ 2 16 Try.underlying24 Try.infoWire rfl (by omega) w2.heap.size 0 (.slice (some ⟨w2.heap.size, 0, none⟩) 0 0) [] (by rfl) OE.out a1 x.ws.length k1 (flatW x.ws) (by rfl) F1.out RX.out (flatW_one _) (by unfold maxLen; omega) (by omega) (by simp) ?_; intro v3 w3 ho3 hg3; simp only [Nat.zero_add, List.nil_append] at ho3; obtain ⟨e3, f3, rfl⟩ := own_shape ho3; have B3 := Lib.hid (BE.out.grown hg3 (by simp) (fun g hg => (OE.out.lt g hg).1)); have O3 := Lib.hid ho3; have J3 := J2.out.below B3.out; have ya0 : w3.cell? ⟨w.heap.size, 0, none⟩ = some (.int .i64 x.n) := cur_cell J3.a 0; have yb1 : w3.cell? ⟨w.heap.size + 1, 1, none⟩ = some (.slice a2 y.ws.length k2) := cur_cell J3.b 1; have RY := Lib.hid (R2.out.below J3.low); have S3 : Hid (w2.heap.size ≤ w3.heap.size) := Lib.hid B3.out.size; clear ho3 hg3 J3)
            | (refine step_app_rowS (by rfl) _ _ _ (by rfl) 63 _ 2 16 Try.underlying24 Try.infoWire rfl (by omega) w2.heap.size x.ws.length (.slice e3 x.ws.length f3) (flatW x.ws) (by rfl) O3.out a2 y.ws.length k2 (flatW y.ws) (by rfl) F2.out RY.out (flatW_one _) (by unfold maxLen; omega) (by omega) S3.out ?_; intro v4 w4 ho4 hg4; rw [← flatW_app] at ho4; obtain ⟨e4, f4, rfl⟩ := own_shape ho4; have B4 := Lib.hid (B3.out.grown hg4 S3.out (fun g hg => (O3.out.lt g hg).1)); have O4 := Lib.hid ho4; have J4 := J2.out.below B4.out; have ua0 : w4.cell? ⟨w.heap.size, 0, none⟩ = some (.int .i64 x.n) := cur_cell J4.a 0; have yr0 : w4.cell? ⟨w.heap.size + 1 + 1, 0, none⟩ = some (.int .i64 0) := cur_cell J4.r 0; have yr1 : w4.cell? ⟨w.heap.size + 1 + 1, 1, none⟩ = some (.slice none 0 0) := cur_cell J4.r 1; have gr0 := cur_free J4.r 0; have gr1 := cur_free J4.r 1; clear ho4 hg4 J4))
          all_goals go_wp2
          all_goals exact bodyPost_ret (v := .tuple #[.agg #[.int .i64 x.n, .slice e4 (x.ws.length + y.ws.length) f4], .bool true]) (by simp [results, Try.results30, go_sem, yr0, yr1]) rfl (J2.out.yes E.out B4.out O4.out LO.out _ _)
        · have h4' : (2100 : Int) < (x.ws.length : Int) + (y.ws.length : Int) := by omega
          have E := Lib.hid (join_no4 (x := x) (y := y) (by omega))
          have H3 := Lib.hid h3
          clear h1 h2 h3
          go_enter Try.func30, Try.ntmps30
          go_wp2_with fail
          rw [← hw0]
          clear hw0
          refine V1.out.mono ?_
          rintro e w1 ⟨rfl, hb⟩
          have J1 := Lib.hid (J0.out.below hb)
          clear hb J0 V1
          have za0 : w1.cell? ⟨w.heap.size, 0, none⟩ = some (.int .i64 x.n) := cur_cell J1.out.a 0
          have za1 : w1.cell? ⟨w.heap.size, 1, none⟩ = some (.slice a1 x.ws.length k1) := cur_cell J1.out.a 1
          have zb0 : w1.cell? ⟨w.heap.size + 1, 0, none⟩ = some (.int .i64 y.n) := cur_cell J1.out.b 0
          have zb1 : w1.cell? ⟨w.heap.size + 1, 1, none⟩ = some (.slice a2 y.ws.length k2) := cur_cell J1.out.b 1
          have zr0 : w1.cell? ⟨w.heap.size + 1 + 1, 0, none⟩ = some (.int .i64 0) := cur_cell J1.out.r 0
          have zr1 : w1.cell? ⟨w.heap.size + 1 + 1, 1, none⟩ = some (.slice none 0 0) := cur_cell J1.out.r 1
          have fr0 := cur_free J1.out.r 0
          have fr1 := cur_free J1.out.r 1
          go_wp2_with fail
          clear za0 za1 zb0 zb1 zr0 zr1 fr0 fr1
          refine (V2.out _ J1.out).mono ?_
          rintro e w2 ⟨rfl, hb⟩
          have J2 := Lib.hid (J1.out.below hb)
          clear hb J1 V2
          have za0 : w2.cell? ⟨w.heap.size, 0, none⟩ = some (.int .i64 x.n) := cur_cell J2.out.a 0
          have za1 : w2.cell? ⟨w.heap.size, 1, none⟩ = some (.slice a1 x.ws.length k1) := cur_cell J2.out.a 1
          have zb0 : w2.cell? ⟨w.heap.size + 1, 0, none⟩ = some (.int .i64 y.n) := cur_cell J2.out.b 0
          have zb1 : w2.cell? ⟨w.heap.size + 1, 1, none⟩ = some (.slice a2 y.ws.length k2) := cur_cell J2.out.b 1
          have zr0 : w2.cell? ⟨w.heap.size + 1 + 1, 0, none⟩ = some (.int .i64 0) := cur_cell J2.out.r 0
          have zr1 : w2.cell? ⟨w.heap.size + 1 + 1, 1, none⟩ = some (.slice none 0 0) := cur_cell J2.out.r 1
          have fr0 := cur_free J2.out.r 0
          have fr1 := cur_free J2.out.r 1
          go_wp2
          exact bodyPost_ret (v := .tuple #[.agg #[.int .i64 0, .slice none 0 0], .bool false]) (by simp [results, Try.results30, go_sem, zr0, zr1]) rfl (J2.out.no E.out _ _)
      · have hq : (x.n != y.n) = true := by simp [h3]
        have E := Lib.hid (join_no3 h3)
        clear h1 h2 h3
        go_enter Try.func30, Try.ntmps30
        go_wp2_with fail
        rw [← hw0]
        clear hw0
        refine V1.out.mono ?_
        rintro e w1 ⟨rfl, hb⟩
        have J1 := Lib.hid (J0.out.below hb)
        clear hb J0 V1
        have za0 : w1.cell? ⟨w.heap.size, 0, none⟩ = some (.int .i64 x.n) := cur_cell J1.out.a 0
        have za1 : w1.cell? ⟨w.heap.size, 1, none⟩ = some (.slice a1 x.ws.length k1) := cur_cell J1.out.a 1
        have zb0 : w1.cell? ⟨w.heap.size + 1, 0, none⟩ = some (.int .i64 y.n) := cur_cell J1.out.b 0
        have zb1 : w1.cell? ⟨w.heap.size + 1, 1, none⟩ = some (.slice a2 y.ws.length k2) := cur_cell J1.out.b 1
        have zr0 : w1.cell? ⟨w.heap.size + 1 + 1, 0, none⟩ = some (.int .i64 0) := cur_cell J1.out.r 0
        have zr1 : w1.cell? ⟨w.heap.size + 1 + 1, 1, none⟩ = some (.slice none 0 0) := cur_cell J1.out.r 1
        have fr0 := cur_free J1.out.r 0
        have fr1 := cur_free J1.out.r 1
        go_wp2_with fail
        clear za0 za1 zb0 zb1 zr0 zr1 fr0 fr1
        refine (V2.out _ J1.out).mono ?_
        rintro e w2 ⟨rfl, hb⟩
        have J2 := Lib.hid (J1.out.below hb)
        clear hb J1 V2
        have za0 : w2.cell? ⟨w.heap.size, 0, none⟩ = some (.int .i64 x.n) := cur_cell J2.out.a 0
        have za1 : w2.cell? ⟨w.heap.size, 1, none⟩ = some (.slice a1 x.ws.length k1) := cur_cell J2.out.a 1
        have zb0 : w2.cell? ⟨w.heap.size + 1, 0, none⟩ = some (.int .i64 y.n) := cur_cell J2.out.b 0
        have zb1 : w2.cell? ⟨w.heap.size + 1, 1, none⟩ = some (.slice a2 y.ws.length k2) := cur_cell J2.out.b 1
        have zr0 : w2.cell? ⟨w.heap.size + 1 + 1, 0, none⟩ = some (.int .i64 0) := cur_cell J2.out.r 0
        have zr1 : w2.cell? ⟨w.heap.size + 1 + 1, 1, none⟩ = some (.slice none 0 0) := cur_cell J2.out.r 1
        have fr0 := cur_free J2.out.r 0
        have fr1 := cur_free J2.out.r 1
        go_wp2
        exact bodyPost_ret (v := .tuple #[.agg #[.int .i64 0, .slice none 0 0], .bool false]) (by simp [results, Try.results30, go_sem, zr0, zr1]) rfl (J2.out.no E.out _ _)
    · have h2' : netOkB y = false := by simpa using h2
      rw [h2'] at V2
      have E := Lib.hid (join_no2 (x := x) h2')
      clear h1 h2 h2'
      go_enter Try.func30, Try.ntmps30
      go_wp2_with fail
      rw [← hw0]
      clear hw0
      refine V1.out.mono ?_
      rintro e w1 ⟨rfl, hb⟩
      have J1 := Lib.hid (J0.out.below hb)
      clear hb J0 V1
      have za0 : w1.cell? ⟨w.heap.size, 0, none⟩ = some (.int .i64 x.n) := cur_cell J1.out.a 0
      have za1 : w1.cell? ⟨w.heap.size, 1, none⟩ = some (.slice a1 x.ws.length k1) := cur_cell J1.out.a 1
      have zb0 : w1.cell? ⟨w.heap.size + 1, 0, none⟩ = some (.int .i64 y.n) := cur_cell J1.out.b 0
      have zb1 : w1.cell? ⟨w.heap.size + 1, 1, none⟩ = some (.slice a2 y.ws.length k2) := cur_cell J1.out.b 1
      have zr0 : w1.cell? ⟨w.heap.size + 1 + 1, 0, none⟩ = some (.int .i64 0) := cur_cell J1.out.r 0
      have zr1 : w1.cell? ⟨w.heap.size + 1 + 1, 1, none⟩ = some (.slice none 0 0) := cur_cell J1.out.r 1
      have fr0 := cur_free J1.out.r 0
      have fr1 := cur_free J1.out.r 1
      go_wp2_with fail
      clear za0 za1 zb0 zb1 zr0 zr1 fr0 fr1
      refine (V2.out _ J1.out).mono ?_
      rintro e w2 ⟨rfl, hb⟩
      have J2 := Lib.hid (J1.out.below hb)
      clear hb J1 V2
      have za0 : w2.cell? ⟨w.heap.size, 0, none⟩ = some (.int .i64 x.n) := cur_cell J2.out.a 0
      have za1 : w2.cell? ⟨w.heap.size, 1, none⟩ = some (.slice a1 x.ws.length k1) := cur_cell J2.out.a 1
      have zb0 : w2.cell? ⟨w.heap.size + 1, 0, none⟩ = some (.int .i64 y.n) := cur_cell J2.out.b 0
      have zb1 : w2.cell? ⟨w.heap.size + 1, 1, none⟩ = some (.slice a2 y.ws.length k2) := cur_cell J2.out.b 1
      have zr0 : w2.cell? ⟨w.heap.size + 1 + 1, 0, none⟩ = some (.int .i64 0) := cur_cell J2.out.r 0
      have zr1 : w2.cell? ⟨w.heap.size + 1 + 1, 1, none⟩ = some (.slice none 0 0) := cur_cell J2.out.r 1
      have fr0 := cur_free J2.out.r 0
      have fr1 := cur_free J2.out.r 1
      go_wp2
      exact bodyPost_ret (v := .tuple #[.agg #[.int .i64 0, .slice none 0 0], .bool false]) (by simp [results, Try.results30, go_sem, zr0, zr1]) rfl (J2.out.no E.out _ _)
  · have h1' : netOkB x = false := by simpa using h1
    rw [h1'] at V1
    have E := Lib.hid (join_no1 (y := y) h1')
    clear h1 h1'
    go_enter Try.func30, Try.ntmps30
    go_wp2_with fail
    rw [← hw0]
    clear hw0
    refine V1.out.mono ?_
    rintro e w1 ⟨rfl, hb⟩
    have J1 := Lib.hid (J0.out.below hb)
    clear hb J0 V1
    have za0 : w1.cell? ⟨w.heap.size, 0, none⟩ = some (.int .i64 x.n) := cur_cell J1.out.a 0
    have za1 : w1.cell? ⟨w.heap.size, 1, none⟩ = some (.slice a1 x.ws.length k1) := cur_cell J1.out.a 1
    have zb0 : w1.cell? ⟨w.heap.size + 1, 0, none⟩ = some (.int .i64 y.n) := cur_cell J1.out.b 0
    have zb1 : w1.cell? ⟨w.heap.size + 1, 1, none⟩ = some (.slice a2 y.ws.length k2) := cur_cell J1.out.b 1
    have zr0 : w1.cell? ⟨w.heap.size + 1 + 1, 0, none⟩ = some (.int .i64 0) := cur_cell J1.out.r 0
    have zr1 : w1.cell? ⟨w.heap.size + 1 + 1, 1, none⟩ = some (.slice none 0 0) := cur_cell J1.out.r 1
    have fr0 := cur_free J1.out.r 0
    have fr1 := cur_free J1.out.r 1
    go_wp2
    exact bodyPost_ret (v := .tuple #[.agg #[.int .i64 0, .slice none 0 0], .bool false]) (by simp [results, Try.results30, go_sem, zr0, zr1]) rfl (J1.out.no E.out _ _)
end Go.Proofs.Ytkifndcfmmdkpaa
