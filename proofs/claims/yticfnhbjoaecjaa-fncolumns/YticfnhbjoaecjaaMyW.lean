/- Chapter 6 in the model: the step. -/
import Derived.Test.YticfnhbjoaecjaaMyV
namespace Go.Proofs.Yticfnhbjoaecjaa
open Go.RowKit
set_option linter.unusedVariables false

theorem run_min3M {P : Program} (w : World) (ts : Array TypeId) (t : TypeId) (x y z : Int) : (Builtin.min_ ts t #[.int .i64 x, .int .i64 y, .int .i64 z]).run P w = .ok (.int .i64 (min x (min y z))) w := by
  have e : (if z < (if y < x then y else x) then z else (if y < x then y else x)) = min x (min y z) := by split <;> split <;> omega
  rw [← e]
  simp [Builtin.min_, Builtin.min2]
theorem ofM_next (pv mv : Nat) (sc : Int) (n eq : Nat) : ofM (eZ (colZ pv mv sc n) eq) n = (nextPv pv mv sc n eq, nextMv pv mv sc n eq, nextSc pv mv sc n eq, (n : Int)) := rfl
set_option maxRecDepth 100000 in
set_option maxHeartbeats 4000000 in
theorem specMyersStep (pv mv eq : Nat) (sc ln : Int) (w : World) (hpv : pv < 18446744073709551616) (hmv : mv < 18446744073709551616) (hsc : -9223372036854775808 ≤ sc ∧ sc ≤ 9223372036854775807) (hln : -9223372036854775808 ≤ ln ∧ ln ≤ 9223372036854775807) (he : eq < 18446744073709551616) :
    Calls Try.prog 33 #[.agg (bitsV pv mv sc ln), .int .u64 eq] w fun e w' => e = .returned (bV (bstep pv mv sc ln eq)) ∧ Below w.heap.size w w' := by
  have V := Lib.hid (fun w => specBitsColumn pv mv sc ln w hpv hmv hsc hln)
  cases ho : okB pv mv sc ln
  · rw [bstep_no1 ho]
    rw [okL_no ho] at V
    clear ho
    unfold bV
    unfold bitsV at *
    go_enter Try.func33, Try.ntmps33
    go_wp2_with fail
    refine (V.out _).mono ?_
    rintro e w1 ⟨c, rfl, ho, hb⟩
    obtain ⟨a, cap, rfl, q4, q5, hr⟩ := intSIn_shape ho.read
    have hres : w1.heap[w.heap.size + 1]? = some (.cells #[.int .u64 0, .int .u64 0, .int .i64 0, .int .i64 0] 32 (0, 0)) := kept_block (alloc_at _ _ _ (by simp)) hb
    have c0 := cur_cell hres 0
    have c1 := cur_cell hres 1
    have c2 := cur_cell hres 2
    have c3 := cur_cell hres 3
    simp at c0 c1 c2 c3
    have f0 := cur_free hres 0
    have f1 := cur_free hres 1
    have f2 := cur_free hres 2
    have f3 := cur_free hres 3
    have B1 := Lib.hid (below_seq (below_box (below_box (Below.refl w.heap.size w) _) _) hb)
    rw [List.length_nil]
    clear hres hb ho hr q4 q5
    go_wp2
    exact bodyPost_ret (v := .agg #[.int .u64 0, .int .u64 0, .int .i64 0, .int .i64 0]) (by simp [results, Try.results33, go_sem, c0, c1, c2, c3]) rfl ⟨rfl, below_set4 B1.out (by omega) _ _ _ _⟩
  · obtain ⟨n, rfl, hk⟩ := okB_of hpv hmv ho
    obtain ⟨s1, s2, s3, s4⟩ := next_small (eq := eq) hk
    rw [okL_yes hk] at V
    have hn := hk.len
    have V2 := Lib.hid (fun w => specBitsOk (nextPv pv mv sc n eq) (nextMv pv mv sc n eq) (nextSc pv mv sc n eq) n w (by omega) (by omega) (by omega) (by omega))
    have N2 := Lib.hid (fun h => bstep_no2 (pv := pv) (mv := mv) (n := n) (sc := sc) (eq := eq) h)
    have Y2 := Lib.hid (fun h => bstep_yes (eq := eq) ho h)
    have ON := Lib.hid (ofM_next pv mv sc n eq)
    have CB := Lib.hid (fun i hi => hk.col i hi)
    have EB := Lib.hid (fun i hi => eZ_near (eq := eq) hk i hi)
    clear ho hk s1 s2 s3 s4
    generalize nextPv pv mv sc n eq = P at *
    generalize nextMv pv mv sc n eq = M at *
    generalize nextSc pv mv sc n eq = S at *
    generalize colZ pv mv sc n = d at *
    unfold bitsV at *
    go_enter Try.func33, Try.ntmps33
    go_wp2_with fail
    refine (V.out _).mono ?_
    rintro e w1 ⟨cv, rfl, ho, hb⟩
    obtain ⟨a, cap, rfl, q4, q5, hr⟩ := intSIn_shape ho.read
    rw [listF_length] at *
    have R := Lib.hid hr
    have H0 : Hid (w1.heap[w.heap.size]? = some (.cells #[.int .u64 pv, .int .u64 mv, .int .i64 sc, .int .i64 n] 32 (0, 0)) ∧ w1.heap[w.heap.size + 1]? = some (.cells #[.int .u64 0, .int .u64 0, .int .i64 0, .int .i64 0] 32 (0, 0)) ∧ Below w.heap.size w w1) := Lib.hid ⟨kept_block ((alloc_old _ _ _ (by simp)).trans (alloc_at _ _ _ rfl)) hb, kept_block (alloc_at _ _ _ (by simp)) hb, below_seq (below_box (below_box (Below.refl w.heap.size w) _) _) hb⟩
    have RR : Hid (∀ k, k ≤ n → ∃ b1 o1, a = some ⟨b1, o1, none⟩ ∧ ∀ w2, Below w1.heap.size w1 w2 → w2.cell? ⟨b1, o1 + k, none⟩ = some (.int .i64 (d k))) := Lib.hid fun k hkn => by
      obtain ⟨b2, o2, e2, c2⟩ := R.out.at (i := k) (by simp [listF]; omega)
      refine ⟨b2, o2, e2, fun w2 hw2 => ?_⟩
      obtain ⟨b3, o3, e3, c3⟩ := (R.out.below hw2).at (i := k) (by simp [listF]; omega)
      rw [e2] at e3
      simp at e3
      obtain ⟨rfl, rfl⟩ := e3
      rw [c3, ival_at (by simp [listF]; omega), listF_get]
    have hsz1 : w.heap.size + 1 < w1.heap.size := cur_lt H0.out.2.1
    obtain ⟨b1, o1, rfl, l0⟩ := RR.out 0 (Nat.zero_le _)
    have l1 := l0 w1 (Below.refl _ _)
    rw [Nat.add_zero] at l1
    have LL : Hid (∀ k, k ≤ n → ∀ w2, Below w1.heap.size w1 w2 → w2.cell? ⟨b1, o1 + k, none⟩ = some (.int .i64 (d k))) := Lib.hid fun k hkn w2 hw2 => by
      obtain ⟨b2, o2, e2, c2⟩ := RR.out k hkn
      simp at e2
      obtain ⟨rfl, rfl⟩ := e2
      exact c2 w2 hw2
    have d0 := CB.out 0 (Nat.zero_le _)
    obtain ⟨d01, d02⟩ := d0
    clear ho hb hr q4 q5 V RR l0
    have hE : (((n + 1 : Nat) : Int) == 0) = false := by simp; omega
    have hE2 : ((n : Int) + 1 == 0) = false := by simp; omega
    obtain ⟨x0, hx0⟩ : ∃ x0, x0 = d 0 := ⟨_, rfl⟩
    rw [← hx0] at l1 d01 d02
    have EZ0 : Hid (eZ d eq 0 = x0 + 1) := Lib.hid (by rw [eZ, hx0])
    clear hx0
    have BE := Lib.hid (fun k (hk : k < n) w => specBit eq k w he (by omega))
    have ES : Hid (∀ k, eZ d eq (k + 1) = min (eZ d eq k + 1) (min (d (k + 1) + 1) (d k + if eq.testBit k then 0 else 1))) := Lib.hid (fun k => rfl)
    generalize eZ d eq = e at *
    go_wp2
    clear l1
    go_loopw [6, 7, 8] (fun o iv _ wr => ∃ (k : Nat) (a : Option Addr) (c : Nat), k ≤ n ∧ iv = .int .i64 k ∧ o = .slice a (k + 1) c ∧ Hid (wr.ownsRow w1.heap.size 3 1 (.slice a (k + 1) c) (k + 1) ((listF (k + 1) e).map ival) ∧ Below w1.heap.size w1 wr)) (fun _ iv _ _ => n - (intOf iv).toNat)
    case atStart =>
      refine ⟨0, _, _, Nat.zero_le _, rfl, rfl, Lib.hid ⟨?_, below_box (Below.refl _ _) _⟩⟩
      have := row_lit w1 (.int .i64 (x0 + 1)) 3
      rw [← EZ0.out] at this ⊢
      exact this
    case round =>
      obtain ⟨k, a3, c3, hk, rfl, rfl, H⟩ := hrel
      have hbox : wr.heap[w.heap.size]? = _ := (H.out.2.block w.heap.size (by omega)).trans H0.out.1
      have b3 := cur_cell hbox 3
      simp at b3
      by_cases hlt : k < n
      · have l1 := LL.out k (by omega) wr H.out.2
        have l2 := LL.out (k + 1) (by omega) wr H.out.2
        obtain ⟨g, og, rfl, l3⟩ := (Row.of_own H.out.1).at (i := k) (by simp [listF])
        rw [ival_at (by simp [listF]), listF_get] at l3
        have d1 := CB.out k (by omega)
        have d2 := CB.out (k + 1) (by omega)
        have e1 := EB.out k (by omega)
        have es := ES.out k
        have BK := Lib.hid (BE.out k hlt)
        obtain ⟨x, hx⟩ : ∃ x, x = d k := ⟨_, rfl⟩
        obtain ⟨y, hy⟩ : ∃ y, y = d (k + 1) := ⟨_, rfl⟩
        obtain ⟨z, hz⟩ : ∃ z, z = e k := ⟨_, rfl⟩
        rw [← hx] at l1 d1 es
        rw [← hy] at l2 d2 es
        rw [← hz] at l3 e1 es
        obtain ⟨d11, d12⟩ := d1
        obtain ⟨d21, d22⟩ := d2
        obtain ⟨e11, e12⟩ := e1
        have i1 : (0 : Int) ≤ (k : Int) := by omega
        have i2 : (k : Int) < ((n + 1 : Nat) : Int) := by omega
        have i3 : (k : Int) + 1 < ((n + 1 : Nat) : Int) := by omega
        have i4 : (k : Int) + 1 < (n : Int) + 1 := by omega
        have i5 : (k : Int) < (n : Int) + 1 := by omega
        have i6 : (k : Int) < ((k + 1 : Nat) : Int) := by omega
        have i7 : (k : Int) < (k : Int) + 1 := by omega
        have i8 : (0 : Int) ≤ (k : Int) + 1 := by omega
        have i9 : ((k : Int) + 1).toNat = k + 1 := by omega
        have j1 : IntKind.i64.wrap ((k : Int) + 1) = (k : Int) + 1 := by rw [IntKind.wrap_i64]; omega
        have j2 : IntKind.i64.wrap (z + 1) = z + 1 := by rw [IntKind.wrap_i64]; omega
        have j3 : IntKind.i64.wrap (y + 1) = y + 1 := by rw [IntKind.wrap_i64]; omega
        have hsw : w1.heap.size ≤ wr.heap.size := H.out.2.size
        have OWN : Hid (∀ v : Int, (wr.alloc (.cells #[.int .i64 v] 3)).drew.ownsRow w1.heap.size 3 1 (.slice (some ⟨g, og, none⟩) (k + 1) c3) (k + 1) ((listF (k + 1) e).map ival)) := Lib.hid fun v => own_below (own_below H.out.1 (below_box (Below.refl _ _) _)) (belowN 1)
        have ROW : Hid (∀ v : Int, Row (wr.alloc (.cells #[.int .i64 v] 3)).drew (some ⟨wr.heap.size, 0, none⟩) [.int .i64 v]) := Lib.hid fun v => (row_one wr (.int .i64 v) 3).below (belowN 1)
        have FIN : Hid (∀ v : Int, v = e (k + 1) → ∀ (v' : Value) (w' : World), w'.ownsRow w1.heap.size 3 1 v' (k + 1 + 1) ((listF (k + 1) e).map ival ++ [.int .i64 v]) → (wr.alloc (.cells #[.int .i64 v] 3)).drew.grownBy w' (Value.ownBlock (.slice (some ⟨g, og, none⟩) (k + 1) c3)) → w'.ownsRow w1.heap.size 3 1 v' (k + 1 + 1) ((listF (k + 1 + 1) e).map ival) ∧ Below w1.heap.size w1 w') := Lib.hid fun v hv v' w' h1 h2 => by
          refine ⟨?_, ?_⟩
          · rw [listF_snoc, List.map_append, ← hv]
            exact h1
          · exact (below_drew (below_box H.out.2 (.cells #[.int .i64 v] 3))).grown h2 (by show w1.heap.size ≤ (wr.alloc _).heap.size; rw [size_box]; omega) (fun j hj => (H.out.1.lt j hj).1)
        clear hx hy hz hbox H
        cases hq : eq.testBit k
        · rw [hq] at BK es
          simp only [Bool.false_eq_true, ↓reduceIte] at es
          obtain ⟨v, hv⟩ : ∃ v, v = min (z + 1) (min (y + 1) (x + 1)) := ⟨_, rfl⟩
          have HMIN := Lib.hid (fun w ts t => run_min3M (P := Try.prog) w ts t (z + 1) (y + 1) (x + 1))
          rw [← hv] at es HMIN
          have FV := Lib.hid (FIN.out v es.symm)
          clear hq es hv
          go_wp2_with fail
          refine (BK.out _).mono ?_
          rintro e' w4 ⟨rfl, rfl⟩
          go_wp2
          go_region_law (first
            | (refine step_min3 (by rfl) _ _ _ _ rfl (.int .i64 (z + 1)) (.int .i64 (y + 1)) (.int .i64 (x + 1)) (.int .i64 v) (by rfl) (by rfl) (by rfl) HMIN.out ?_)
            | (refine step_app_rowW (wr.alloc (.cells #[.int .i64 v] 3)).drew rfl (by rfl) _ _ 34 rfl 3 (.int .i64 0) 8 Try.underlying34 Try.info3 rfl w1.heap.size (k + 1) _ _ (OWN.out v) (by rfl) (some ⟨wr.heap.size, 0, none⟩) 1 1 [.int .i64 v] (by rfl) rfl (ROW.out v) (by simp [Value.oneCell']) (by unfold maxLen; omega) (by omega) (by simp; omega) ?_; intro v' w5 o5 g5; have F5 := Lib.hid (FV.out v' w5 o5 g5); obtain ⟨a5, c5, rfl⟩ := own_shape o5; clear o5 g5))
          all_goals
            go_wp2
            go_roundw
            case rel => exact ⟨k + 1, a5, c5, by omega, by go_num, rfl, F5⟩
            case measure => simp [intOf]; omega
        · rw [hq] at BK es
          simp only [↓reduceIte, Int.add_zero] at es
          obtain ⟨v, hv⟩ : ∃ v, v = min (z + 1) (min (y + 1) x) := ⟨_, rfl⟩
          have HMIN := Lib.hid (fun w ts t => run_min3M (P := Try.prog) w ts t (z + 1) (y + 1) x)
          rw [← hv] at es HMIN
          have FV := Lib.hid (FIN.out v es.symm)
          clear hq es hv
          go_wp2_with fail
          refine (BK.out _).mono ?_
          rintro e' w4 ⟨rfl, rfl⟩
          go_wp2
          go_region_law (first
            | (refine step_min3 (by rfl) _ _ _ _ rfl (.int .i64 (z + 1)) (.int .i64 (y + 1)) (.int .i64 x) (.int .i64 v) (by rfl) (by rfl) (by rfl) HMIN.out ?_)
            | (refine step_app_rowW (wr.alloc (.cells #[.int .i64 v] 3)).drew rfl (by rfl) _ _ 34 rfl 3 (.int .i64 0) 8 Try.underlying34 Try.info3 rfl w1.heap.size (k + 1) _ _ (OWN.out v) (by rfl) (some ⟨wr.heap.size, 0, none⟩) 1 1 [.int .i64 v] (by rfl) rfl (ROW.out v) (by simp [Value.oneCell']) (by unfold maxLen; omega) (by omega) (by simp; omega) ?_; intro v' w5 o5 g5; have F5 := Lib.hid (FV.out v' w5 o5 g5); obtain ⟨a5, c5, rfl⟩ := own_shape o5; clear o5 g5))
          all_goals
            go_wp2
            go_roundw
            case rel => exact ⟨k + 1, a5, c5, by omega, by go_num, rfl, F5⟩
            case measure => simp [intOf]; omega
      · have hk' : k = n := by omega
        subst hk'
        have OF := Lib.hid (specOf e k c3 a3 wr (by omega) (fun i hi => by have := EB.out i hi; omega) (Row.of_own H.out.1))
        rw [ON.out] at OF
        unfold bV bitsV at OF
        have B1 := Lib.hid (show wr.heap[w.heap.size + 1]? = some (.cells #[.int .u64 0, .int .u64 0, .int .i64 0, .int .i64 0] 32 (0, 0)) ∧ Below w.heap.size w wr from ⟨(H.out.2.block _ (by omega)).trans H0.out.2.1, H0.out.2.2.trans (H.out.2.mono (by omega))⟩)
        clear H hbox
        go_wp2_with fail
        refine OF.out.mono ?_
        rintro e' w2 ⟨rfl, hb2⟩
        have R2 := Lib.hid (kept_block B1.out.1 hb2)
        have B2 := Lib.hid (below_seq B1.out.2 hb2)
        clear hb2 B1 b3
        go_wp2_with fail
        refine (V2.out _).mono ?_
        rintro e' w3 ⟨rfl, hb3⟩
        have hnew : w3.heap[w2.heap.size]? = some (.cells #[.int .u64 P, .int .u64 M, .int .i64 S, .int .i64 k] 32 (0, 0)) := kept_block (alloc_at _ _ _ rfl) hb3
        have hres : w3.heap[w.heap.size + 1]? = some (.cells #[.int .u64 0, .int .u64 0, .int .i64 0, .int .i64 0] 32 (0, 0)) := kept_block ((alloc_old _ _ _ (cur_lt R2.out)).trans R2.out) hb3
        have B3 := Lib.hid (below_seq (below_box B2.out _) hb3)
        have d0 := cur_cell hnew 0
        have d1 := cur_cell hnew 1
        have d2 := cur_cell hnew 2
        have d3 := cur_cell hnew 3
        have c0 := cur_cell hres 0
        have c1 := cur_cell hres 1
        have c2 := cur_cell hres 2
        have c3 := cur_cell hres 3
        simp at c0 c1 c2 c3 d0 d1 d2 d3
        have f0 := cur_free hres 0
        have f1 := cur_free hres 1
        have f2 := cur_free hres 2
        have f3 := cur_free hres 3
        clear hnew hres hb3 B2 R2
        cases ho2 : okB P M S k
        · have N3 := Lib.hid (N2.out ho2)
          clear ho2
          go_wp2
          exact bodyPost_ret (v := .agg #[.int .u64 0, .int .u64 0, .int .i64 0, .int .i64 0]) (by simp [results, Try.results33, go_sem, c0, c1, c2, c3]) rfl ⟨by rw [N3.out]; rfl, below_set4 B3.out (by omega) _ _ _ _⟩
        · have N3 := Lib.hid (Y2.out ho2)
          clear ho2
          go_wp2
          exact bodyPost_ret (v := .agg #[.int .u64 P, .int .u64 M, .int .i64 S, .int .i64 k]) (by simp [results, Try.results33, go_sem, c0, c1, c2, c3]) rfl ⟨by rw [N3.out]; rfl, below_set4 B3.out (by omega) _ _ _ _⟩
/-- The columns of a run are valid, and the step leads from one to the next. -/
theorem col_small (p t : List UInt8) (k : Nat) (hk : k ≤ t.length) (hp : p.length ≤ 32) (ht : t.length ≤ 32) : colP p t k < 4294967297 ∧ colM p t k < 4294967297 ∧ 0 ≤ dZ p t k p.length ∧ dZ p t k p.length ≤ 32 := by
  have p32 : 2 ^ p.length ≤ 4294967296 := Nat.pow_le_pow_right (n := 2) (by omega) hp
  have h1 : colP p t k < 2 ^ p.length := bitsUp_lt _ _
  have h2 : colM p t k < 2 ^ p.length := bitsUp_lt _ _
  have h3 := dZ_range p t k p.length
  refine ⟨by omega, by omega, by omega, by omega⟩
theorem bstep_col (p t : List UInt8) (k : Nat) (hk : k < t.length) (hp : p.length ≤ 32) (ht : t.length ≤ 32) :
    bstep (colP p t k) (colM p t k) (dZ p t k p.length) p.length (peqN p t[k]) = (colP p t (k + 1), colM p t (k + 1), dZ p t (k + 1) p.length, (p.length : Int)) := by
  have nx := col_next p t k hk hp ht
  have o1 := okB_is (col_ok p t k (by omega) hp ht)
  have o2 := okB_is (col_ok p t (k + 1) (by omega) hp ht)
  rw [bstep_yes o1 (by rw [nx.1, nx.2.1, nx.2.2]; exact o2), nx.1, nx.2.1, nx.2.2]
end Go.Proofs.Yticfnhbjoaecjaa
