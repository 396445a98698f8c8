/- RecRead, RecPair, RecsOk in the model. -/
import Derived.Test.YtkcplnmhonhmaaaRecS
import Derived.Test.YtkcplnmhonhmaaaRecU
import Derived.Deep.RegionWith
namespace Go.Proofs.Ytkcplnmhonhmaaa
open Go.RowKit
open Go.Lib (compareBytes)
set_option linter.unusedVariables false
set_option maxRecDepth 100000

/-- A call under a guard that is met, as one step of a region that draws its order. -/
theorem step_callG {P : Program} {ops : Array Oper} {o : Oper} {a : Act} {w : World} {K : Act → World → Prop} {Q : Exit → Act → World → Prop} {E : Prop} (w0 : World) (hw : w = w0) (hwt : Region.wanted o (yielded ops a.tmps) = true) (f : FuncId) (xs : Array Operand) (ts : Array TypeId)
    (ho : o.op = .call { callee := .value (.func f), args := xs, argTypes := ts }) (args : Array Value) (hargs : xs.map a.eval = args) (hcf : ∀ args w, (callFunc f args).run P w = .ok (.enter f args) w)
    (R : Ending → World → Prop) (hc : Calls P f args w0 R) (h : ∀ e w', R e w' → ∃ v, e = .returned v ∧ K (a.put o.dst v) w') :
    if Region.wanted o (yielded ops a.tmps) = true then Oper.wp P o a w K Q else E := by
  subst hw
  rw [if_pos hwt]
  have hfun : a.eval (.func f) = .func (.func f) #[] #[] := rfl
  have hrun : (execOp a.eval o).run P w = .ok (.enter f args) w := by
    unfold execOp
    simp [ho, resolve, Deferred.ofValue, invoke, hfun, hargs, hcf]
  unfold Oper.wp
  rw [hrun, Oper.upon_enter]
  refine hc.mono fun e w' hh => ?_
  obtain ⟨v, rfl, hK⟩ := h e w' hh
  exact hK
theorem chg_cell {lo hi : Nat} {W W' : World} (C : Chg lo hi W W') {R : Nat} (h1 : lo ≤ R ∧ R < hi) (k : Nat) (u : Value) : Chg lo hi W (W'.setCell ⟨R, k, none⟩ u) :=
  C.trans (Chg.of_grown (set_grown W' R k u) (fun j hj => by cases hj; exact h1))
theorem chg_rec {lo hi : Nat} {W W' : World} (C : Chg lo hi W W') {R : Nat} (h1 : lo ≤ R ∧ R < hi) (v0 v1 v2 v3 : Value) : Chg lo hi W ((((W'.setCell ⟨R, 0, none⟩ v0).setCell ⟨R, 1, none⟩ v1).setCell ⟨R, 2, none⟩ v2).setCell ⟨R, 3, none⟩ v3) :=
  chg_cell (chg_cell (chg_cell (chg_cell C h1 0 _) h1 1 _) h1 2 _) h1 3 _
theorem cand_word (d : List UInt8) : (candR d).word.size ≤ 32 := by
  unfold candR
  split
  · simp only [strL_size]
    unfold unpL
    split
    · rename_i h
      unfold unpB at h
      simp only [Bool.and_eq_true, decide_eq_true_eq] at h
      have := (word_len h.1.2).2
      omega
    · simp
  · decide
set_option maxHeartbeats 8000000 in
theorem uSpecRecRead (c : Value) (d : List UInt8) (w : World) (h : ByteSIn [c] d w) :
    Calls Try.prog 28 #[c] w fun e w' => ∃ c0 c1 c2 c3, e = .returned (.tuple #[.agg #[c0, c1, c2, c3], .bool (readB d)]) ∧ RecOwn w.heap.size w'.heap.size [c0, c1, c2, c3] (readM d) w' ∧ Below w.heap.size w w' := by
  obtain ⟨a, cap, rfl, hcap, hm, r⟩ := byteSIn_shape h
  unfold maxLen at hm
  clear h
  by_cases h37 : d.length = 37
  · have hr0 : ∃ b off, a = some ⟨b, off, none⟩ := by
      rcases r with r | ⟨b, off, rfl, _⟩
      · have : d = [] := by simpa using r
        subst this; simp at h37
      · exact ⟨b, off, rfl⟩
    obtain ⟨b, off, rfl⟩ := hr0
    have RR := Lib.hid (fun w' (hb : Below w.heap.size w w') => (lies_row r).below hb)
    have CV := Lib.hid (fun w' (hb : Below w.heap.size w w') => conv_row (w := w') (b := b) (off := off) (cap := cap) (l := d) rfl (fun i hi => by
      obtain ⟨b', off', e, hc⟩ := ((lies_row r).below hb).now.at (i := i) (by simpa using hi)
      simp at e
      obtain ⟨rfl, rfl⟩ := e
      exact hc))
    have RW : Hid (∀ w', Below w.heap.size w w' → Row w' (some ⟨b, off + 4, none⟩) ((d.drop 4).map bval)) := Lib.hid (fun w' hb => by
      have := ((lies_row r).below hb).now.map_cut 4 33 (by simp; omega)
      rw [List.map_drop, ← List.take_of_length_le (l := (d.map bval).drop 4) (i := 33) (by simp; omega)]
      simpa [Addr.add] using this)
    have at_ : ∀ i, i < 37 → w.cell? ⟨b, off + i, none⟩ = some (.int .u8 ((d.getD i 0).toNat : Int)) := fun i hi => by
      obtain ⟨b', off', e, hc⟩ := r.at (i := i) (by simp; omega)
      simp at e
      obtain ⟨rfl, rfl⟩ := e
      rw [hc, bval_at (by omega)]
      simp [show i < d.length from by omega]
    have bl : b < w.heap.size := block_lt_of_cell (at_ 0 (by omega))
    have hL4 : (d.drop 4).length = 33 := by simp; omega
    have UP := Lib.hid (fun w' (hb : Below w.heap.size w w') => specUnpad (cap - 4) (some ⟨b, off + 4, none⟩) (d.drop 4) w' (by rw [hL4]; unfold maxLen; omega) (by omega) (RW.out w' hb))
    rw [hL4] at UP
    have hrd : ∃ q, readB d = q := ⟨_, rfl⟩
    have CW := Lib.hid (cand_word d)
    have E1 : Hid ((d.getD 0 0).toNat = 1 → candR d = ⟨true, (d.getD 1 0).toNat, 256 * ((d.getD 2 0).toNat : Int) + ((d.getD 3 0).toNat : Int), strL (unpL (d.drop 4))⟩) := Lib.hid (fun h => by
      unfold candR; rw [if_pos (UInt8.toNat_inj.1 h)])
    have E0 : Hid ((d.getD 0 0).toNat ≠ 1 → candR d = zeroR) := Lib.hid (fun h => by
      unfold candR; rw [if_neg (fun e => h (by rw [e]; rfl))])
    have RB := Lib.hid (fun h => readB_bad (d := d) h)
    have RA := Lib.hid (fun h => readB_at (d := d) h37 h)
    have RM := Lib.hid (And.intro (readM_no (d := d)) (readM_yes (d := d)))
    have c0 := at_ 0 (by omega)
    have c1 := at_ 1 (by omega)
    have c2 := at_ 2 (by omega)
    have c3 := at_ 3 (by omega)
    have x0 := (d.getD 0 0).toNat_lt
    have x1 := (d.getD 1 0).toNat_lt
    have x2 := (d.getD 2 0).toNat_lt
    have x3 := (d.getD 3 0).toNat_lt
    rw [Nat.add_zero] at c0
    generalize (d.getD 0 0).toNat = n0 at *
    generalize (d.getD 1 0).toNat = n1 at *
    generalize (d.getD 2 0).toNat = n2 at *
    generalize (d.getD 3 0).toNat = n3 at *
    clear at_ hrd r hL4
    generalize candR d = rc at *
    generalize unpL (d.drop 4) = ul at *
    generalize unpB (d.drop 4) = ub at *
    have H37 := Lib.hid h37
    have hcp : ¬ cap = 4 := by omega
    have hcq : 4 ≤ cap := by omega
    have hlB : ((d.length : Int) != 37) = false := by simp [h37]
    have hI1 : 37 = d.length := h37.symm
    obtain ⟨W, hW⟩ : ∃ W, W = (w.alloc (.cells #[.bool false, .int .i64 0, .int .i64 0, .string ⟨#[]⟩] 25)).alloc (.cells #[.bool false, .int .i64 0, .int .i64 0, .string ⟨#[]⟩] 25) := ⟨_, rfl⟩
    have K0 := Lib.hid (show W.heap[w.heap.size]? = some (.cells #[.bool false, .int .i64 0, .int .i64 0, .string ⟨#[]⟩] 25 (0, 0)) by rw [hW]; exact (alloc_old _ _ _ (by simp)).trans (alloc_at _ _ _ rfl))
    have KT := Lib.hid (show W.heap[w.heap.size + 1]? = some (.cells #[.bool false, .int .i64 0, .int .i64 0, .string ⟨#[]⟩] 25 (0, 0)) by rw [hW]; exact alloc_at _ _ _ (by simp))
    have HB := Lib.hid (show Below w.heap.size w W by rw [hW]; exact below_box (below_box (Below.refl _ w) _) _)
    generalize d.length = dl at *
    subst h37
    go_enter Try.func28, Try.ntmps28
    go_upto_region 4 with fail
    rw [← hW]
    clear hW
    replace c0 := cell_keep c0 HB.out
    replace c1 := cell_keep c1 HB.out
    replace c2 := cell_keep c2 HB.out
    replace c3 := cell_keep c3 HB.out
    have nb : ¬ b = w.heap.size + 1 := by omega
    have nb2 : ¬ w.heap.size + 1 = b := by omega
    obtain ⟨z0, z1, z2, z3⟩ := rc
    go_upto_if 13 with fail
    go_cut [] (fun wx => Hid (wx.heap[w.heap.size + 1]? = some (.cells #[.bool z0, .int .i64 z1, .int .i64 z2, .string z3] 25 (0, 0)) ∧ wx.heap[w.heap.size]? = some (.cells #[.bool false, .int .i64 0, .int .i64 0, .string ⟨#[]⟩] 25 (0, 0)) ∧ Below w.heap.size w wx))
    case first =>
      by_cases h1 : n0 = 1
      · have E := E1.out h1
        simp at E
        obtain ⟨rfl, rfl, rfl, rfl⟩ := E
        clear E0 E1 RB RA CW CV RR RW
        have hn : ((n0 : Int) == 1) = true := by simp [h1]
        clear h1
        have t0 := cur_cell KT.out 0
        have t1 := cur_cell KT.out 1
        have t2 := cur_cell KT.out 2
        have t3 := cur_cell KT.out 3
        have f0 := cur_free KT.out 0
        have f1 := cur_free KT.out 1
        have f2 := cur_free KT.out 2
        have f3 := cur_free KT.out 3
        simp at t0 t1 t2 t3
        have hw1 : IntKind.i64.wrap ((256 : Int) * (n2 : Int)) = (256 : Int) * (n2 : Int) := IntWalk.i64_in _ (by omega)
        have hw2 : IntKind.i64.wrap ((256 : Int) * (n2 : Int) + (n3 : Int)) = (256 : Int) * (n2 : Int) + (n3 : Int) := IntWalk.i64_in _ (by omega)
        obtain ⟨W1, hW1⟩ : ∃ W1, W1 = (W.setCell ⟨w.heap.size + 1, 0, none⟩ (.bool true)).setCell ⟨w.heap.size + 1, 1, none⟩ (.int .i64 n1) := ⟨_, rfl⟩
        have KT1 := Lib.hid (show W1.heap[w.heap.size + 1]? = some (.cells #[.bool true, .int .i64 n1, .int .i64 0, .string ⟨#[]⟩] 25 (0, 0)) by rw [hW1]; exact cur_set (cur_set KT.out 0 _) 1 _)
        have C1 := Lib.hid (show Chg (w.heap.size + 1) (w.heap.size + 1 + 1) W W1 by rw [hW1]; exact chg_cell (chg_cell (Chg.refl _ _ W) ⟨Nat.le_refl _, by omega⟩ 0 _) ⟨Nat.le_refl _, by omega⟩ 1 _)
        go_upto_region 7 with fail
        rw [← hW1]
        clear t0 t1 t2 t3 f0 f1 f2 f3 hW1 c0 c1 KT
        replace c2 : W1.cell? ⟨b, off + 2, none⟩ = some (.int .u8 n2) := (World.cell?_of_block (a := ⟨b, off + 2, none⟩) (C1.out.block b (block_lt_of_cell c2) (by simp; omega))).trans c2
        replace c3 : W1.cell? ⟨b, off + 3, none⟩ = some (.int .u8 n3) := (World.cell?_of_block (a := ⟨b, off + 3, none⟩) (C1.out.block b (block_lt_of_cell c3) (by simp; omega))).trans c3
        have t2 := cur_cell KT1.out 2
        have f2 := cur_free KT1.out 2
        simp at t2
        go_region_held3 (fun w' => w'.cell? ⟨b, off + 2, none⟩ = some (.int .u8 n2) ∧ w'.cell? ⟨b, off + 3, none⟩ = some (.int .u8 n3)) (go_keep) (fail)
        clear c2 c3
        obtain ⟨W2, hW2⟩ : ∃ W2, W2 = (W1.setCell ⟨w.heap.size + 1, 2, none⟩ (.int .i64 (256 * (n2 : Int) + (n3 : Int)))).drew := ⟨_, rfl⟩
        have KT2 := Lib.hid (show W2.heap[w.heap.size + 1]? = some (.cells #[.bool true, .int .i64 n1, .int .i64 (256 * (n2 : Int) + (n3 : Int)), .string ⟨#[]⟩] 25 (0, 0)) by rw [hW2]; exact cur_set KT1.out 2 _)
        have C2 := Lib.hid (show Chg (w.heap.size + 1) (w.heap.size + 1 + 1) W W2 by rw [hW2]; exact (chg_cell C1.out ⟨Nat.le_refl _, by omega⟩ 2 _).trans (Chg.of_below (belowN 1)))
        have K2 := Lib.hid ((C2.out.block w.heap.size (cur_lt K0.out) (by omega)).trans K0.out)
        have B2 := Lib.hid (Chg.below HB.out C2.out (by omega))
        go_wp2_with fail
        rw [← hW2]
        clear hW2 KT1 C1 C2 K0 t2 f2
        refine (UP.out W2 B2.out).mono ?_
        rintro e w3 ⟨rfl, hb⟩
        have KT3 := Lib.hid (kept_block KT2.out hb)
        have K3 := Lib.hid (kept_block K2.out hb)
        have B3 := Lib.hid (below_seq B2.out hb)
        have f3 := cur_free KT3.out 3
        have t3 := cur_cell KT3.out 3
        simp at t3
        have KT4 := Lib.hid (cur_set KT3.out 3 (.string (strL ul)))
        have C4 := Lib.hid (chg_cell (Chg.refl (w.heap.size + 1) (w.heap.size + 1 + 1) w3) ⟨Nat.le_refl _, by omega⟩ 3 (.string (strL ul)))
        have K4 := Lib.hid ((C4.out.block w.heap.size (cur_lt K3.out) (by omega)).trans K3.out)
        have B4 := Lib.hid (Chg.below B3.out C4.out (by omega))
        clear hb KT3 K3 B3 C4 KT2 K2 B2 UP
        go_wp2_with fail
        go_meet
        case rel => exact Lib.hid ⟨KT4.out, K4.out, B4.out⟩
      · have E := E0.out h1
        have hn : ((n0 : Int) == 1) = false := by simp; omega
        unfold zeroR at E
        simp at E
        obtain ⟨rfl, rfl, rfl, rfl⟩ := E
        go_wp2_with fail
        go_meet
        case rel => exact Lib.hid ⟨KT.out, K0.out, HB.out⟩
    case rest =>
      clear c0 c1 c2 c3 K0 KT HB E0 E1 UP RW
      obtain ⟨hKT, hK0, hHB⟩ := hcut.out
      have K0 := Lib.hid hK0
      have KT := Lib.hid hKT
      have HB := Lib.hid hHB
      have t0 := cur_cell hKT 0
      have t1 := cur_cell hKT 1
      have t2 := cur_cell hKT 2
      have t3 := cur_cell hKT 3
      simp at t0 t1 t2 t3
      have hz : z3.size ≤ maxLen := by have := CW.out; simp only at this; unfold maxLen; omega
      have RO := Lib.hid (fun w => specRecOk ⟨z0, z1, z2, z3⟩ w hz)
      have RF := Lib.hid (fun w => specRecOfR ⟨z0, z1, z2, z3⟩ w hz)
      unfold RecM.cells at RO RF
      simp only at RO RF
      clear hcut hKT hK0 hHB hz CW RR
      have KP := Lib.hid (fun w' (hb : Below wc.heap.size wc w') => (show w'.cell? ⟨w.heap.size + 1, 0, none⟩ = some (.bool z0) ∧ w'.cell? ⟨w.heap.size + 1, 1, none⟩ = some (.int .i64 z1) ∧ w'.cell? ⟨w.heap.size + 1, 2, none⟩ = some (.int .i64 z2) ∧ w'.cell? ⟨w.heap.size + 1, 3, none⟩ = some (.string z3) from ⟨cell_keep t0 hb, cell_keep t1 hb, cell_keep t2 hb, cell_keep t3 hb⟩))
      have ST := Lib.hid (fun w' (hb : Below wc.heap.size wc w') => And.intro (kept_block KT.out hb) (And.intro (kept_block K0.out hb) (below_seq HB.out hb)))
      have BW := Lib.hid (belowN (w := wc) 1)
      have EQ : Hid (∀ q : Bool, decide (bytesR ⟨z0, z1, z2, z3⟩ = d) = q → ((strL (bytesR ⟨z0, z1, z2, z3⟩)).toList == (strL d).toList) = q ∧ ((strL (bytesR ⟨z0, z1, z2, z3⟩)).toList != (strL d).toList) = !q) := Lib.hid (fun q hq => by
        rw [strL_toList, strL_toList, bne, ← hq]
        have : (bytesR ⟨z0, z1, z2, z3⟩ == d) = decide (bytesR ⟨z0, z1, z2, z3⟩ = d) := by rw [Bool.eq_iff_iff]; simp
        rw [this]
        exact ⟨rfl, rfl⟩)
      go_upto_region 9 with fail
      go_cut [48] (fun v wx => v = .bool (!(readB d)) ∧ Hid (Below wc.heap.size wc wx))
      case first =>
        obtain ⟨g, hg⟩ : ∃ g, recOkB ⟨z0, z1, z2, z3⟩ = g := ⟨_, rfl⟩
        rw [hg] at RO
        by_cases hgf : g = false
        · have ng : (!g) = true := by rw [hgf]; rfl
          have RQ := Lib.hid (RB.out (hg.trans hgf))
          clear RB RA RM RF CV hg hgf EQ
          first | go_region_law (first
            | (refine step_callW wc.drew rfl (by rfl) 14 _ _ rfl _ (by kernel_rfl) Try.call14 _ (RO.out _) ?_; rintro e w4 ⟨rfl, hb⟩; refine ⟨_, rfl, ?_⟩; have BX := Lib.hid (below_seq BW.out hb); clear hb)) | fail "no way"
          all_goals (go_wp2_with fail; go_meet)
          all_goals exact ⟨by rw [RQ.out]; rfl, BX⟩
        · have hgt : g = true := by simpa using hgf
          have ng : (!g) = false := by rw [hgt]; rfl
          have ho := hg.trans hgt
          have RQ := Lib.hid (RA.out ho)
          have RE : recOfL ⟨z0, z1, z2, z3⟩ = bytesR ⟨z0, z1, z2, z3⟩ := by unfold recOfL; rw [if_pos ho]
          rw [RE] at RF
          clear RB RA ho hg hgt hgf RE
          obtain ⟨q, hq⟩ : ∃ q, decide (bytesR ⟨z0, z1, z2, z3⟩ = d) = q := ⟨_, rfl⟩
          obtain ⟨e1, e2⟩ := EQ.out _ hq
          replace RQ := Lib.hid (RQ.out.trans hq)
          clear EQ hq
          obtain ⟨x, hx⟩ : ∃ x, strL (bytesR ⟨z0, z1, z2, z3⟩) = x := ⟨_, rfl⟩
          obtain ⟨y, hy⟩ : ∃ y, strL d = y := ⟨_, rfl⟩
          rw [hx, hy] at e1 e2
          rw [hy] at CV
          have HX := Lib.hid hx
          clear hx hy
          first | go_region_law (first
            | (refine step_callW wc.drew rfl (by rfl) 14 _ _ rfl _ (by kernel_rfl) Try.call14 _ (RO.out _) ?_; rintro e w4 ⟨rfl, hb⟩; refine ⟨_, rfl, ?_⟩; obtain ⟨u0, u1, u2, u3⟩ := KP.out _ (below_seq BW.out hb); have BW := Lib.hid (below_seq BW.out hb); have cvd := CV.out w4 (below_seq HB.out BW.out); clear hb)
            | (refine step_callG w4 rfl (by rfl) 24 _ _ rfl _ (by kernel_rfl) Try.call24 _ (RF.out _) ?_; rintro e w5 ⟨c5, rfl, ⟨a5, k5, he, how, _⟩, hb⟩; simp at he; subst he; refine ⟨_, rfl, ?_⟩; have BX := Lib.hid (below_seq BW.out hb); have cve := CV.out w5 (below_seq HB.out BX.out); have cvr := conv_any how; rw [HX.out] at cvr; clear hb how)) | fail "no way"
          all_goals (go_wp2_with fail; go_meet)
          all_goals exact ⟨by rw [RQ.out], BX⟩
      case rest =>
        obtain ⟨rfl, H⟩ := hcut
        obtain ⟨hT, h0, hB⟩ := ST.out _ H.out
        have K := Lib.hid h0
        have KT := Lib.hid hT
        have HB := Lib.hid hB
        clear hT h0 hB H ST KP EQ BW RO RF RB RA CV t0 t1 t2 t3 K0
        cases hq : readB d
        · have RQ := Lib.hid (RM.out.1 hq)
          have HQ := Lib.hid hq
          clear RM hq
          have r0 := cur_cell K.out 0
          have r1 := cur_cell K.out 1
          have r2 := cur_cell K.out 2
          have r3 := cur_cell K.out 3
          have fr0 := cur_free K.out 0
          have fr1 := cur_free K.out 1
          have fr2 := cur_free K.out 2
          have fr3 := cur_free K.out 3
          simp at r0 r1 r2 r3
          have GV := Lib.hid (fun W' (C : Chg w.heap.size (w.heap.size + 1) wc W') => Chg.below HB.out C (Nat.le_refl _))
          clear K KT HB
          go_wp2
          exact bodyPost_ret (v := .tuple #[.agg #[.bool false, .int .i64 0, .int .i64 0, .string ⟨#[]⟩], .bool false]) (by simp [results, Try.results28, go_sem, r0, r1, r2, r3]) rfl ⟨_, _, _, _, by rw [HQ.out], by rw [RQ.out]; rfl, GV.out _ (chg_rec (Chg.refl _ _ wc) ⟨Nat.le_refl _, by omega⟩ _ _ _ _)⟩
        · have RQ := Lib.hid (RM.out.2 hq)
          have HQ := Lib.hid hq
          clear RM hq
          have t0 := cur_cell KT.out 0
          have t1 := cur_cell KT.out 1
          have t2 := cur_cell KT.out 2
          have t3 := cur_cell KT.out 3
          simp at t0 t1 t2 t3
          have r0 := cur_cell K.out 0
          have r1 := cur_cell K.out 1
          have r2 := cur_cell K.out 2
          have r3 := cur_cell K.out 3
          have fr0 := cur_free K.out 0
          have fr1 := cur_free K.out 1
          have fr2 := cur_free K.out 2
          have fr3 := cur_free K.out 3
          simp at r0 r1 r2 r3
          have GV := Lib.hid (fun W' (C : Chg w.heap.size (w.heap.size + 1) wc W') => Chg.below HB.out C (Nat.le_refl _))
          clear K KT HB
          go_wp2
          exact bodyPost_ret (v := .tuple #[.agg #[.bool z0, .int .i64 z1, .int .i64 z2, .string z3], .bool true]) (by simp [results, Try.results28, go_sem, r0, r1, r2, r3]) rfl ⟨_, _, _, _, by rw [HQ.out], by rw [RQ.out]; rfl, GV.out _ (chg_rec (Chg.refl _ _ wc) ⟨Nat.le_refl _, by omega⟩ _ _ _ _)⟩
  · have e := readB_len h37
    have hB : ((d.length : Int) != 37) = true := by simp; omega
    rw [readM_no e, e]
    clear r e h37
    go_enter Try.func28, Try.ntmps28
    go_wp2
    exact bodyPost_ret (v := .tuple #[.agg #[.bool false, .int .i64 0, .int .i64 0, .string ⟨#[]⟩], .bool false]) (by simp [results, Try.results28, go_sem]) rfl ⟨_, _, _, _, rfl, rfl, below_box (Below.refl _ _) _⟩
def PairRet (x y : RecM) (w : World) (e : Ending) (w' : World) : Prop := ∃ c0 c1 c2 c3 d0 d1 d2 d3 mid, e = .returned (.tuple #[.agg #[c0, c1, c2, c3], .agg #[d0, d1, d2, d3]]) ∧ RecOwn w.heap.size mid [c0, c1, c2, c3] x w' ∧ RecOwn mid w'.heap.size [d0, d1, d2, d3] y w' ∧ w.heap.size ≤ mid ∧ mid ≤ w'.heap.size ∧ Below w.heap.size w w'
def pairA (a b : RecM) : RecM := if aheadB b a = true then b else a
def pairB (a b : RecM) : RecM := if aheadB b a = true then a else b
set_option maxHeartbeats 2000000 in
theorem uSpecRecPair (c0 c1 c2 c3 : Value) (a : RecM) (d0 d1 d2 d3 : Value) (b : RecM) (w : World) (h : RecIn [c0, c1, c2, c3] a w) (k : RecIn [d0, d1, d2, d3] b w) (h1 : recBd a) (h2 : recBd b) : Calls Try.prog 31 #[.agg #[c0, c1, c2, c3], .agg #[d0, d1, d2, d3]] w (PairRet (pairA a b) (pairB a b) w) := by
  obtain ⟨rfl, rfl, rfl, rfl⟩ := recIn_cells h
  obtain ⟨rfl, rfl, rfl, rfl⟩ := recIn_cells k
  have AH := Lib.hid (fun w => specRecAheadR b a w h2.2.2 h1.2.2)
  unfold pairA pairB
  clear h k h1 h2
  obtain ⟨la, da, ta, wa⟩ := a
  obtain ⟨lb, db, tb, wb⟩ := b
  unfold RecM.cells at AH
  simp only at AH ⊢
  generalize aheadB ⟨lb, db, tb, wb⟩ ⟨la, da, ta, wa⟩ = q at *
  cases q
  all_goals
   obtain ⟨w0, hw0⟩ : ∃ w0, w0 = (((w.alloc (.cells #[.bool la, .int .i64 da, .int .i64 ta, .string wa] 25)).alloc (.cells #[.bool lb, .int .i64 db, .int .i64 tb, .string wb] 25)).alloc (.cells #[.bool false, .int .i64 0, .int .i64 0, .string ⟨#[]⟩] 25)).alloc (.cells #[.bool false, .int .i64 0, .int .i64 0, .string ⟨#[]⟩] 25) := ⟨_, rfl⟩
   have K1 := Lib.hid (show w0.heap[w.heap.size]? = some (.cells #[.bool la, .int .i64 da, .int .i64 ta, .string wa] 25 (0, 0)) by rw [hw0]; exact (alloc_old _ _ _ (by simp; omega)).trans ((alloc_old _ _ _ (by simp; omega)).trans ((alloc_old _ _ _ (by simp)).trans (alloc_at _ _ _ rfl))))
   have K2 := Lib.hid (show w0.heap[w.heap.size + 1]? = some (.cells #[.bool lb, .int .i64 db, .int .i64 tb, .string wb] 25 (0, 0)) by rw [hw0]; exact (alloc_old _ _ _ (by simp)).trans ((alloc_old _ _ _ (by simp)).trans (alloc_at _ _ _ (by simp))))
   have K3 := Lib.hid (show w0.heap[w.heap.size + 1 + 1]? = some (.cells #[.bool false, .int .i64 0, .int .i64 0, .string ⟨#[]⟩] 25 (0, 0)) by rw [hw0]; exact (alloc_old _ _ _ (by simp)).trans (alloc_at _ _ _ (by simp)))
   have K4 := Lib.hid (show w0.heap[w.heap.size + 1 + 1 + 1]? = some (.cells #[.bool false, .int .i64 0, .int .i64 0, .string ⟨#[]⟩] 25 (0, 0)) by rw [hw0]; exact alloc_at _ _ _ (by simp))
   have HB := Lib.hid (show Below w.heap.size w w0 by rw [hw0]; exact below_box (below_box (below_box (below_box (Below.refl _ w) _) _) _) _)
   go_enter Try.func31, Try.ntmps31
   go_wp2_with fail
   rw [← hw0]
   clear hw0
   refine (AH.out _).mono ?_
   rintro e w1 ⟨rfl, hb⟩
   replace K1 := Lib.hid (kept_block K1.out hb)
   replace K2 := Lib.hid (kept_block K2.out hb)
   replace K3 := Lib.hid (kept_block K3.out hb)
   replace K4 := Lib.hid (kept_block K4.out hb)
   replace HB := Lib.hid (below_seq HB.out hb)
   clear hb AH
   have a0 := cur_cell K1.out 0
   have a1 := cur_cell K1.out 1
   have a2 := cur_cell K1.out 2
   have a3 := cur_cell K1.out 3
   have b0 := cur_cell K2.out 0
   have b1 := cur_cell K2.out 1
   have b2 := cur_cell K2.out 2
   have b3 := cur_cell K2.out 3
   have r0 := cur_cell K3.out 0
   have r1 := cur_cell K3.out 1
   have r2 := cur_cell K3.out 2
   have r3 := cur_cell K3.out 3
   have s0 := cur_cell K4.out 0
   have s1 := cur_cell K4.out 1
   have s2 := cur_cell K4.out 2
   have s3 := cur_cell K4.out 3
   have fr0 := cur_free K3.out 0
   have fr1 := cur_free K3.out 1
   have fr2 := cur_free K3.out 2
   have fr3 := cur_free K3.out 3
   have fs0 := cur_free K4.out 0
   have fs1 := cur_free K4.out 1
   have fs2 := cur_free K4.out 2
   have fs3 := cur_free K4.out 3
   simp at a0 a1 a2 a3 b0 b1 b2 b3 r0 r1 r2 r3 s0 s1 s2 s3
   have GV := Lib.hid (fun W' (C : Chg w.heap.size (w.heap.size + 4) w1 W') => Chg.below HB.out C (Nat.le_refl _))
   clear K1 K2 K3 K4
   go_wp2_with fail
   go_region
   go_wp2
   first
     | exact bodyPost_ret (v := .tuple #[.agg #[.bool la, .int .i64 da, .int .i64 ta, .string wa], .agg #[.bool lb, .int .i64 db, .int .i64 tb, .string wb]]) (by simp [results, Try.results31, go_sem, r0, r1, r2, r3, s0, s1, s2, s3]) rfl ⟨_, _, _, _, _, _, _, _, w.heap.size, rfl, rfl, rfl, Nat.le_refl _, (GV.out _ ((chg_rec (chg_rec (Chg.refl _ _ w1) ⟨by omega, by omega⟩ _ _ _ _) ⟨by omega, by omega⟩ _ _ _ _).trans (Chg.of_below (belowN 1)))).size, GV.out _ ((chg_rec (chg_rec (Chg.refl _ _ w1) ⟨by omega, by omega⟩ _ _ _ _) ⟨by omega, by omega⟩ _ _ _ _).trans (Chg.of_below (belowN 1)))⟩
     | exact bodyPost_ret (v := .tuple #[.agg #[.bool lb, .int .i64 db, .int .i64 tb, .string wb], .agg #[.bool la, .int .i64 da, .int .i64 ta, .string wa]]) (by simp [results, Try.results31, go_sem, r0, r1, r2, r3, s0, s1, s2, s3]) rfl ⟨_, _, _, _, _, _, _, _, w.heap.size, rfl, rfl, rfl, Nat.le_refl _, (GV.out _ ((chg_rec (chg_rec (Chg.refl _ _ w1) ⟨by omega, by omega⟩ _ _ _ _) ⟨by omega, by omega⟩ _ _ _ _).trans (Chg.of_below (belowN 1)))).size, GV.out _ ((chg_rec (chg_rec (Chg.refl _ _ w1) ⟨by omega, by omega⟩ _ _ _ _) ⟨by omega, by omega⟩ _ _ _ _).trans (Chg.of_below (belowN 1)))⟩
def recsOkB (l : List RecM) : Bool := decide (l.length ≤ 64) && l.all recOkB
theorem recsOkB_at {l : List RecM} (h : l.length ≤ 64) : recsOkB l = l.all recOkB := by unfold recsOkB; simp [h]
theorem recsOkB_long {l : List RecM} (h : 64 < l.length) : recsOkB l = false := by unfold recsOkB; simp; intro h2; omega
theorem recs_take {l : List RecM} {k : Nat} (h : k < l.length) (h1 : (l.take k).all recOkB = true) (h2 : recOkB l[k] = true) : (l.take (k + 1)).all recOkB = true := by
  rw [List.take_succ_eq_append_getElem h, List.all_append, h1]; simp [h2]
theorem recs_bad {l : List RecM} {k : Nat} (h : k < l.length) (h2 : recOkB l[k] = false) : l.all recOkB = false := by
  rw [List.all_eq_false]; exact ⟨_, List.getElem_mem h, by simp [h2]⟩
set_option maxHeartbeats 4000000 in
theorem uSpecRecsOk (c : Value) (l : List RecM) (w : World) (h : RecSIn [c] l w) (hb : ∀ t ∈ l, recBd t) : Calls Try.prog 33 #[c] w fun e w' => e = .returned (.bool (recsOkB l)) ∧ Below w.heap.size w w' := by
  obtain ⟨a, cap, rfl, hcap, hm, r⟩ := recSIn_shape h
  unfold maxLen at hm
  have R := Lib.hid r
  have HB := Lib.hid hb
  clear h r hb
  by_cases hl : l.length ≤ 64
  · rw [recsOkB_at hl]
    have hg : ¬ (64 : Int) < (l.length : Int) := by omega
    go_enter Try.func33, Try.ntmps33
    go_wp2
    go_loopw [3] (fun i wr => ∃ k : Nat, k ≤ l.length ∧ i = .int .i64 k ∧ Hid ((l.take k).all recOkB = true ∧ Below w.heap.size w wr)) (fun i _ => l.length - (intOf i).toNat)
    case atStart => exact ⟨0, Nat.zero_le _, rfl, Lib.hid ⟨by simp, Below.refl _ _⟩⟩
    case round =>
      obtain ⟨k, hk, rfl, H⟩ := hrel
      by_cases hlt : k < l.length
      · obtain ⟨b1, o1, rfl, q0, q1, q2, q3⟩ := (R.out.below H.out.2).rec hlt
        have BD := HB.out _ (List.getElem_mem hlt)
        have OK := Lib.hid (fun w => specRecOk l[k] w BD.2.2)
        have A1 := Lib.hid (fun h => recs_take hlt H.out.1 h)
        have A0 := Lib.hid (fun h => recs_bad (l := l) hlt h)
        clear BD
        cases ho : recOkB l[k]
        all_goals
          rw [ho] at OK
          unfold RecM.cells at OK
          generalize l[k].live = x0 at *
          generalize l[k].dist = x1 at *
          generalize l[k].weight = x2 at *
          generalize l[k].word = x3 at *
          have HO := Lib.hid ho
          clear ho
          go_wp2_with fail
          refine (OK.out _).mono ?_
          rintro e w2 ⟨rfl, hb⟩
          have B2 := Lib.hid (below_seq H.out.2 hb)
          clear hb OK q0 q1 q2 q3 H
        · have E := Lib.hid (A0.out HO.out)
          clear A0 A1 HO
          go_wp2
          go_ret
          exact ⟨ret_bool E.out.symm, B2.out⟩
        · have E := Lib.hid (A1.out HO.out)
          clear A0 A1 HO
          go_wp2
          go_roundw
          case rel => exact ⟨k + 1, by omega, by go_num, Lib.hid ⟨E.out, B2.out⟩⟩
          case measure => simp [intOf]; omega
      · have E : Hid (l.all recOkB = true) := Lib.hid (by have := H.out.1; rwa [List.take_of_length_le (by omega)] at this)
        go_wp2
        go_ret
        exact ⟨ret_bool E.out.symm, H.out.2⟩
  · rw [recsOkB_long (by omega)]
    have hg : (64 : Int) < (l.length : Int) := by omega
    go_enter Try.func33, Try.ntmps33
    go_wp2
    go_ret
    exact ⟨rfl, Below.refl _ _⟩
end Go.Proofs.Ytkcplnmhonhmaaa
