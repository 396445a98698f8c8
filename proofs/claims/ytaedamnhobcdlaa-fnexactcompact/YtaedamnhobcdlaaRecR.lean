/- RecRead, RecPair, RecsOk in the model. -/
import Derived.Test.YtaedamnhobcdlaaRecS
import Derived.Test.YtaedamnhobcdlaaRecU
import Derived.Deep.RegionWith
namespace Go.Proofs.Ytaedamnhobcdlaa
open Go.RowKit
open Go.Lib (compareBytes)
set_option linter.unusedVariables false
set_option maxRecDepth 100000

/-- A call under a guard that is met, as one step of a region that draws its order. -/
theorem step_callG {P : Program} {ops : Array Oper} {o : Oper} {a : Act} {w : World} {K : Act → World → Prop} {Q : Exit → Act → World → Prop} {E : Prop} (w0 : World) (hw : w = w0) (hwt : Region.wanted o (yielded ops a.tmps) = true) (f : FuncId) (xs : Array Operand) (ts : Array TypeId)
    (ho : o.op = .call { callee := .value (.func f), args := xs, argTypes := ts }) (args : Array Value) (hargs : xs.map a.eval = args) (hcf : ∀ args w, (callFunc f args).run P w = .ok (.enter f args) w)
    (R : Ending → World → Prop) (hc : Calls P f args w0 R) (h : ∀ e w', R e w' → ∃ v, e = .returned v ∧ K (a.put o.dst v) w') :
    if Region.wanted o (yielded ops a.tmps) = true then Oper.wp P o a w K Q else E := by
  subst hw
  rw [if_pos hwt]
  have hfun : a.eval (.func f) = .func (.func f) #[] #[] := rfl
  have hrun : (execOp a.eval o).run P w = .ok (.enter f args) w := by
    unfold execOp
    simp [ho, resolve, Deferred.ofValue, invoke, hfun, hargs, hcf]
  unfold Oper.wp
  rw [hrun, Oper.upon_enter]
  refine hc.mono fun e w' hh => ?_
  obtain ⟨v, rfl, hK⟩ := h e w' hh
  exact hK
theorem chg_cell {lo hi : Nat} {W W' : World} (C : Chg lo hi W W') {R : Nat} (h1 : lo ≤ R ∧ R < hi) (k : Nat) (u : Value) : Chg lo hi W (W'.setCell ⟨R, k, none⟩ u) :=
  C.trans (Chg.of_grown (set_grown W' R k u) (fun j hj => by cases hj; exact h1))
theorem chg_rec {lo hi : Nat} {W W' : World} (C : Chg lo hi W W') {R : Nat} (h1 : lo ≤ R ∧ R < hi) (v0 v1 v2 v3 : Value) : Chg lo hi W ((((W'.setCell ⟨R, 0, none⟩ v0).setCell ⟨R, 1, none⟩ v1).setCell ⟨R, 2, none⟩ v2).setCell ⟨R, 3, none⟩ v3) :=
  chg_cell (chg_cell (chg_cell (chg_cell C h1 0 _) h1 1 _) h1 2 _) h1 3 _
theorem cand_word (d : List UInt8) : (candR d).word.size ≤ 32 := by
  unfold candR
  split
  · simp only [strL_size]
    unfold unpL
    split
    · rename_i h
      unfold unpB at h
      simp only [Bool.and_eq_true, decide_eq_true_eq] at h
      have := (word_len h.1.2).2
      omega
    · simp
  · decide
def PairRet (x y : RecM) (w : World) (e : Ending) (w' : World) : Prop := ∃ c0 c1 c2 c3 d0 d1 d2 d3 mid, e = .returned (.tuple #[.agg #[c0, c1, c2, c3], .agg #[d0, d1, d2, d3]]) ∧ RecOwn w.heap.size mid [c0, c1, c2, c3] x w' ∧ RecOwn mid w'.heap.size [d0, d1, d2, d3] y w' ∧ w.heap.size ≤ mid ∧ mid ≤ w'.heap.size ∧ Below w.heap.size w w'
def pairA (a b : RecM) : RecM := if aheadB b a = true then b else a
def pairB (a b : RecM) : RecM := if aheadB b a = true then a else b
set_option maxHeartbeats 2000000 in
theorem uSpecRecPair (c0 c1 c2 c3 : Value) (a : RecM) (d0 d1 d2 d3 : Value) (b : RecM) (w : World) (h : RecIn [c0, c1, c2, c3] a w) (k : RecIn [d0, d1, d2, d3] b w) (h1 : recBd a) (h2 : recBd b) : Calls Try.prog 66 #[.agg #[c0, c1, c2, c3], .agg #[d0, d1, d2, d3]] w (PairRet (pairA a b) (pairB a b) w) := by
  obtain ⟨rfl, rfl, rfl, rfl⟩ := recIn_cells h
  obtain ⟨rfl, rfl, rfl, rfl⟩ := recIn_cells k
  have AH := Lib.hid (fun w => specRecAheadR b a w h2.2.2 h1.2.2)
  unfold pairA pairB
  clear h k h1 h2
  obtain ⟨la, da, ta, wa⟩ := a
  obtain ⟨lb, db, tb, wb⟩ := b
  unfold RecM.cells at AH
  simp only at AH ⊢
  generalize aheadB ⟨lb, db, tb, wb⟩ ⟨la, da, ta, wa⟩ = q at *
  cases q
  all_goals
   obtain ⟨w0, hw0⟩ : ∃ w0, w0 = (((w.alloc (.cells #[.bool la, .int .i64 da, .int .i64 ta, .string wa] 30)).alloc (.cells #[.bool lb, .int .i64 db, .int .i64 tb, .string wb] 30)).alloc (.cells #[.bool false, .int .i64 0, .int .i64 0, .string ⟨#[]⟩] 30)).alloc (.cells #[.bool false, .int .i64 0, .int .i64 0, .string ⟨#[]⟩] 30) := ⟨_, rfl⟩
   have K1 := Lib.hid (show w0.heap[w.heap.size]? = some (.cells #[.bool la, .int .i64 da, .int .i64 ta, .string wa] 30 (0, 0)) by rw [hw0]; exact (alloc_old _ _ _ (by simp; omega)).trans ((alloc_old _ _ _ (by simp; omega)).trans ((alloc_old _ _ _ (by simp)).trans (alloc_at _ _ _ rfl))))
   have K2 := Lib.hid (show w0.heap[w.heap.size + 1]? = some (.cells #[.bool lb, .int .i64 db, .int .i64 tb, .string wb] 30 (0, 0)) by rw [hw0]; exact (alloc_old _ _ _ (by simp)).trans ((alloc_old _ _ _ (by simp)).trans (alloc_at _ _ _ (by simp))))
   have K3 := Lib.hid (show w0.heap[w.heap.size + 1 + 1]? = some (.cells #[.bool false, .int .i64 0, .int .i64 0, .string ⟨#[]⟩] 30 (0, 0)) by rw [hw0]; exact (alloc_old _ _ _ (by simp)).trans (alloc_at _ _ _ (by simp)))
   have K4 := Lib.hid (show w0.heap[w.heap.size + 1 + 1 + 1]? = some (.cells #[.bool false, .int .i64 0, .int .i64 0, .string ⟨#[]⟩] 30 (0, 0)) by rw [hw0]; exact alloc_at _ _ _ (by simp))
   have HB := Lib.hid (show Below w.heap.size w w0 by rw [hw0]; exact below_box (below_box (below_box (below_box (Below.refl _ w) _) _) _) _)
   go_enter Try.func66, Try.ntmps66
   go_wp2_with fail
   rw [← hw0]
   clear hw0
   refine (AH.out _).mono ?_
   rintro e w1 ⟨rfl, hb⟩
   replace K1 := Lib.hid (kept_block K1.out hb)
   replace K2 := Lib.hid (kept_block K2.out hb)
   replace K3 := Lib.hid (kept_block K3.out hb)
   replace K4 := Lib.hid (kept_block K4.out hb)
   replace HB := Lib.hid (below_seq HB.out hb)
   clear hb AH
   have a0 := cur_cell K1.out 0
   have a1 := cur_cell K1.out 1
   have a2 := cur_cell K1.out 2
   have a3 := cur_cell K1.out 3
   have b0 := cur_cell K2.out 0
   have b1 := cur_cell K2.out 1
   have b2 := cur_cell K2.out 2
   have b3 := cur_cell K2.out 3
   have r0 := cur_cell K3.out 0
   have r1 := cur_cell K3.out 1
   have r2 := cur_cell K3.out 2
   have r3 := cur_cell K3.out 3
   have s0 := cur_cell K4.out 0
   have s1 := cur_cell K4.out 1
   have s2 := cur_cell K4.out 2
   have s3 := cur_cell K4.out 3
   have fr0 := cur_free K3.out 0
   have fr1 := cur_free K3.out 1
   have fr2 := cur_free K3.out 2
   have fr3 := cur_free K3.out 3
   have fs0 := cur_free K4.out 0
   have fs1 := cur_free K4.out 1
   have fs2 := cur_free K4.out 2
   have fs3 := cur_free K4.out 3
   simp at a0 a1 a2 a3 b0 b1 b2 b3 r0 r1 r2 r3 s0 s1 s2 s3
   have GV := Lib.hid (fun W' (C : Chg w.heap.size (w.heap.size + 4) w1 W') => Chg.below HB.out C (Nat.le_refl _))
   clear K1 K2 K3 K4
   go_wp2_with fail
   go_region
   go_wp2
   first
     | exact bodyPost_ret (v := .tuple #[.agg #[.bool la, .int .i64 da, .int .i64 ta, .string wa], .agg #[.bool lb, .int .i64 db, .int .i64 tb, .string wb]]) (by simp [results, Try.results66, go_sem, r0, r1, r2, r3, s0, s1, s2, s3]) rfl ⟨_, _, _, _, _, _, _, _, w.heap.size, rfl, rfl, rfl, Nat.le_refl _, (GV.out _ ((chg_rec (chg_rec (Chg.refl _ _ w1) ⟨by omega, by omega⟩ _ _ _ _) ⟨by omega, by omega⟩ _ _ _ _).trans (Chg.of_below (belowN 1)))).size, GV.out _ ((chg_rec (chg_rec (Chg.refl _ _ w1) ⟨by omega, by omega⟩ _ _ _ _) ⟨by omega, by omega⟩ _ _ _ _).trans (Chg.of_below (belowN 1)))⟩
     | exact bodyPost_ret (v := .tuple #[.agg #[.bool lb, .int .i64 db, .int .i64 tb, .string wb], .agg #[.bool la, .int .i64 da, .int .i64 ta, .string wa]]) (by simp [results, Try.results66, go_sem, r0, r1, r2, r3, s0, s1, s2, s3]) rfl ⟨_, _, _, _, _, _, _, _, w.heap.size, rfl, rfl, rfl, Nat.le_refl _, (GV.out _ ((chg_rec (chg_rec (Chg.refl _ _ w1) ⟨by omega, by omega⟩ _ _ _ _) ⟨by omega, by omega⟩ _ _ _ _).trans (Chg.of_below (belowN 1)))).size, GV.out _ ((chg_rec (chg_rec (Chg.refl _ _ w1) ⟨by omega, by omega⟩ _ _ _ _) ⟨by omega, by omega⟩ _ _ _ _).trans (Chg.of_below (belowN 1)))⟩
def recsOkB (l : List RecM) : Bool := decide (l.length ≤ 64) && l.all recOkB
theorem recsOkB_at {l : List RecM} (h : l.length ≤ 64) : recsOkB l = l.all recOkB := by unfold recsOkB; simp [h]
theorem recsOkB_long {l : List RecM} (h : 64 < l.length) : recsOkB l = false := by unfold recsOkB; simp; intro h2; omega
theorem recs_take {l : List RecM} {k : Nat} (h : k < l.length) (h1 : (l.take k).all recOkB = true) (h2 : recOkB l[k] = true) : (l.take (k + 1)).all recOkB = true := by
  rw [List.take_succ_eq_append_getElem h, List.all_append, h1]; simp [h2]
theorem recs_bad {l : List RecM} {k : Nat} (h : k < l.length) (h2 : recOkB l[k] = false) : l.all recOkB = false := by
  rw [List.all_eq_false]; exact ⟨_, List.getElem_mem h, by simp [h2]⟩
set_option maxHeartbeats 4000000 in
theorem uSpecRecsOk (c : Value) (l : List RecM) (w : World) (h : RecSIn [c] l w) (hb : ∀ t ∈ l, recBd t) : Calls Try.prog 14 #[c] w fun e w' => e = .returned (.bool (recsOkB l)) ∧ Below w.heap.size w w' := by
  obtain ⟨a, cap, rfl, hcap, hm, r⟩ := recSIn_shape h
  unfold maxLen at hm
  have R := Lib.hid r
  have HB := Lib.hid hb
  clear h r hb
  by_cases hl : l.length ≤ 64
  · rw [recsOkB_at hl]
    have hg : ¬ (64 : Int) < (l.length : Int) := by omega
    go_enter Try.func14, Try.ntmps14
    go_wp2
    go_loopw [3] (fun i wr => ∃ k : Nat, k ≤ l.length ∧ i = .int .i64 k ∧ Hid ((l.take k).all recOkB = true ∧ Below w.heap.size w wr)) (fun i _ => l.length - (intOf i).toNat)
    case atStart => exact ⟨0, Nat.zero_le _, rfl, Lib.hid ⟨by simp, Below.refl _ _⟩⟩
    case round =>
      obtain ⟨k, hk, rfl, H⟩ := hrel
      by_cases hlt : k < l.length
      · obtain ⟨b1, o1, rfl, q0, q1, q2, q3⟩ := (R.out.below H.out.2).rec hlt
        have BD := HB.out _ (List.getElem_mem hlt)
        have OK := Lib.hid (fun w => specRecOk l[k] w BD.2.2)
        have A1 := Lib.hid (fun h => recs_take hlt H.out.1 h)
        have A0 := Lib.hid (fun h => recs_bad (l := l) hlt h)
        clear BD
        cases ho : recOkB l[k]
        all_goals
          rw [ho] at OK
          unfold RecM.cells at OK
          generalize l[k].live = x0 at *
          generalize l[k].dist = x1 at *
          generalize l[k].weight = x2 at *
          generalize l[k].word = x3 at *
          have HO := Lib.hid ho
          clear ho
          go_wp2_with fail
          refine (OK.out _).mono ?_
          rintro e w2 ⟨rfl, hb⟩
          have B2 := Lib.hid (below_seq H.out.2 hb)
          clear hb OK q0 q1 q2 q3 H
        · have E := Lib.hid (A0.out HO.out)
          clear A0 A1 HO
          go_wp2
          go_ret
          exact ⟨ret_bool E.out.symm, B2.out⟩
        · have E := Lib.hid (A1.out HO.out)
          clear A0 A1 HO
          go_wp2
          go_roundw
          case rel => exact ⟨k + 1, by omega, by go_num, Lib.hid ⟨E.out, B2.out⟩⟩
          case measure => simp [intOf]; omega
      · have E : Hid (l.all recOkB = true) := Lib.hid (by have := H.out.1; rwa [List.take_of_length_le (by omega)] at this)
        go_wp2
        go_ret
        exact ⟨ret_bool E.out.symm, H.out.2⟩
  · rw [recsOkB_long (by omega)]
    have hg : (64 : Int) < (l.length : Int) := by omega
    go_enter Try.func14, Try.ntmps14
    go_wp2
    go_ret
    exact ⟨rfl, Below.refl _ _⟩
end Go.Proofs.Ytaedamnhobcdlaa
