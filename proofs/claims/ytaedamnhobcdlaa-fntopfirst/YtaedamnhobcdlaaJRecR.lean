/- RecR, RecW, RkP, RkK in one. Written by tools/join.py. -/
import Derived.Test.YtaedamnhobcdlaaJRecP
import Derived.Test.YtaedamnhobcdlaaJRecU
import Derived.Deep.RegionWith
section
namespace Go.Proofs.Ytaedamnhobcdlaa
open Go.RowKit
open Go.Lib (compareBytes)
set_option linter.unusedVariables false
set_option maxRecDepth 100000

/-- A call under a guard that is met, as one step of a region that draws its order. -/
theorem step_callG {P : Program} {ops : Array Oper} {o : Oper} {a : Act} {w : World} {K : Act → World → Prop} {Q : Exit → Act → World → Prop} {E : Prop} (w0 : World) (hw : w = w0) (hwt : Region.wanted o (yielded ops a.tmps) = true) (f : FuncId) (xs : Array Operand) (ts : Array TypeId)
    (ho : o.op = .call { callee := .value (.func f), args := xs, argTypes := ts }) (args : Array Value) (hargs : xs.map a.eval = args) (hcf : ∀ args w, (callFunc f args).run P w = .ok (.enter f args) w)
    (R : Ending → World → Prop) (hc : Calls P f args w0 R) (h : ∀ e w', R e w' → ∃ v, e = .returned v ∧ K (a.put o.dst v) w') :
    if Region.wanted o (yielded ops a.tmps) = true then Oper.wp P o a w K Q else E := by
  subst hw
  rw [if_pos hwt]
  have hfun : a.eval (.func f) = .func (.func f) #[] #[] := rfl
  have hrun : (execOp a.eval o).run P w = .ok (.enter f args) w := by
    unfold execOp
    simp [ho, resolve, Deferred.ofValue, invoke, hfun, hargs, hcf]
  unfold Oper.wp
  rw [hrun, Oper.upon_enter]
  refine hc.mono fun e w' hh => ?_
  obtain ⟨v, rfl, hK⟩ := h e w' hh
  exact hK
theorem chg_cell {lo hi : Nat} {W W' : World} (C : Chg lo hi W W') {R : Nat} (h1 : lo ≤ R ∧ R < hi) (k : Nat) (u : Value) : Chg lo hi W (W'.setCell ⟨R, k, none⟩ u) :=
  C.trans (Chg.of_grown (set_grown W' R k u) (fun j hj => by cases hj; exact h1))
theorem chg_rec {lo hi : Nat} {W W' : World} (C : Chg lo hi W W') {R : Nat} (h1 : lo ≤ R ∧ R < hi) (v0 v1 v2 v3 : Value) : Chg lo hi W ((((W'.setCell ⟨R, 0, none⟩ v0).setCell ⟨R, 1, none⟩ v1).setCell ⟨R, 2, none⟩ v2).setCell ⟨R, 3, none⟩ v3) :=
  chg_cell (chg_cell (chg_cell (chg_cell C h1 0 _) h1 1 _) h1 2 _) h1 3 _
theorem cand_word (d : List UInt8) : (candR d).word.size ≤ 32 := by
  unfold candR
  split
  · simp only [strL_size]
    unfold unpL
    split
    · rename_i h
      unfold unpB at h
      simp only [Bool.and_eq_true, decide_eq_true_eq] at h
      have := (word_len h.1.2).2
      omega
    · simp
  · decide
def PairRet (x y : RecM) (w : World) (e : Ending) (w' : World) : Prop := ∃ c0 c1 c2 c3 d0 d1 d2 d3 mid, e = .returned (.tuple #[.agg #[c0, c1, c2, c3], .agg #[d0, d1, d2, d3]]) ∧ RecOwn w.heap.size mid [c0, c1, c2, c3] x w' ∧ RecOwn mid w'.heap.size [d0, d1, d2, d3] y w' ∧ w.heap.size ≤ mid ∧ mid ≤ w'.heap.size ∧ Below w.heap.size w w'
def pairA (a b : RecM) : RecM := if aheadB b a = true then b else a
def pairB (a b : RecM) : RecM := if aheadB b a = true then a else b
set_option maxHeartbeats 2000000 in
theorem uSpecRecPair (c0 c1 c2 c3 : Value) (a : RecM) (d0 d1 d2 d3 : Value) (b : RecM) (w : World) (h : RecIn [c0, c1, c2, c3] a w) (k : RecIn [d0, d1, d2, d3] b w) (h1 : recBd a) (h2 : recBd b) : Calls Try.prog 66 #[.agg #[c0, c1, c2, c3], .agg #[d0, d1, d2, d3]] w (PairRet (pairA a b) (pairB a b) w) := by
  obtain ⟨rfl, rfl, rfl, rfl⟩ := recIn_cells h
  obtain ⟨rfl, rfl, rfl, rfl⟩ := recIn_cells k
  have AH := Lib.hid (fun w => specRecAheadR b a w h2.2.2 h1.2.2)
  unfold pairA pairB
  clear h k h1 h2
  obtain ⟨la, da, ta, wa⟩ := a
  obtain ⟨lb, db, tb, wb⟩ := b
  unfold RecM.cells at AH
  simp only at AH ⊢
  generalize aheadB ⟨lb, db, tb, wb⟩ ⟨la, da, ta, wa⟩ = q at *
  cases q
  all_goals
   obtain ⟨w0, hw0⟩ : ∃ w0, w0 = (((w.alloc (.cells #[.bool la, .int .i64 da, .int .i64 ta, .string wa] 30)).alloc (.cells #[.bool lb, .int .i64 db, .int .i64 tb, .string wb] 30)).alloc (.cells #[.bool false, .int .i64 0, .int .i64 0, .string ⟨#[]⟩] 30)).alloc (.cells #[.bool false, .int .i64 0, .int .i64 0, .string ⟨#[]⟩] 30) := ⟨_, rfl⟩
   have K1 := Lib.hid (show w0.heap[w.heap.size]? = some (.cells #[.bool la, .int .i64 da, .int .i64 ta, .string wa] 30 (0, 0)) by rw [hw0]; exact (alloc_old _ _ _ (by simp; omega)).trans ((alloc_old _ _ _ (by simp; omega)).trans ((alloc_old _ _ _ (by simp)).trans (alloc_at _ _ _ rfl))))
   have K2 := Lib.hid (show w0.heap[w.heap.size + 1]? = some (.cells #[.bool lb, .int .i64 db, .int .i64 tb, .string wb] 30 (0, 0)) by rw [hw0]; exact (alloc_old _ _ _ (by simp)).trans ((alloc_old _ _ _ (by simp)).trans (alloc_at _ _ _ (by simp))))
   have K3 := Lib.hid (show w0.heap[w.heap.size + 1 + 1]? = some (.cells #[.bool false, .int .i64 0, .int .i64 0, .string ⟨#[]⟩] 30 (0, 0)) by rw [hw0]; exact (alloc_old _ _ _ (by simp)).trans (alloc_at _ _ _ (by simp)))
   have K4 := Lib.hid (show w0.heap[w.heap.size + 1 + 1 + 1]? = some (.cells #[.bool false, .int .i64 0, .int .i64 0, .string ⟨#[]⟩] 30 (0, 0)) by rw [hw0]; exact alloc_at _ _ _ (by simp))
   have HB := Lib.hid (show Below w.heap.size w w0 by rw [hw0]; exact below_box (below_box (below_box (below_box (Below.refl _ w) _) _) _) _)
   go_enter Try.func66, Try.ntmps66
   go_wp2_with fail
   rw [← hw0]
   clear hw0
   refine (AH.out _).mono ?_
   rintro e w1 ⟨rfl, hb⟩
   replace K1 := Lib.hid (kept_block K1.out hb)
   replace K2 := Lib.hid (kept_block K2.out hb)
   replace K3 := Lib.hid (kept_block K3.out hb)
   replace K4 := Lib.hid (kept_block K4.out hb)
   replace HB := Lib.hid (below_seq HB.out hb)
   clear hb AH
   have a0 := cur_cell K1.out 0
   have a1 := cur_cell K1.out 1
   have a2 := cur_cell K1.out 2
   have a3 := cur_cell K1.out 3
   have b0 := cur_cell K2.out 0
   have b1 := cur_cell K2.out 1
   have b2 := cur_cell K2.out 2
   have b3 := cur_cell K2.out 3
   have r0 := cur_cell K3.out 0
   have r1 := cur_cell K3.out 1
   have r2 := cur_cell K3.out 2
   have r3 := cur_cell K3.out 3
   have s0 := cur_cell K4.out 0
   have s1 := cur_cell K4.out 1
   have s2 := cur_cell K4.out 2
   have s3 := cur_cell K4.out 3
   have fr0 := cur_free K3.out 0
   have fr1 := cur_free K3.out 1
   have fr2 := cur_free K3.out 2
   have fr3 := cur_free K3.out 3
   have fs0 := cur_free K4.out 0
   have fs1 := cur_free K4.out 1
   have fs2 := cur_free K4.out 2
   have fs3 := cur_free K4.out 3
   simp at a0 a1 a2 a3 b0 b1 b2 b3 r0 r1 r2 r3 s0 s1 s2 s3
   have GV := Lib.hid (fun W' (C : Chg w.heap.size (w.heap.size + 4) w1 W') => Chg.below HB.out C (Nat.le_refl _))
   clear K1 K2 K3 K4
   go_wp2_with fail
   go_region
   go_wp2
   first
     | exact bodyPost_ret (v := .tuple #[.agg #[.bool la, .int .i64 da, .int .i64 ta, .string wa], .agg #[.bool lb, .int .i64 db, .int .i64 tb, .string wb]]) (by simp [results, Try.results66, go_sem, r0, r1, r2, r3, s0, s1, s2, s3]) rfl ⟨_, _, _, _, _, _, _, _, w.heap.size, rfl, rfl, rfl, Nat.le_refl _, (GV.out _ ((chg_rec (chg_rec (Chg.refl _ _ w1) ⟨by omega, by omega⟩ _ _ _ _) ⟨by omega, by omega⟩ _ _ _ _).trans (Chg.of_below (belowN 1)))).size, GV.out _ ((chg_rec (chg_rec (Chg.refl _ _ w1) ⟨by omega, by omega⟩ _ _ _ _) ⟨by omega, by omega⟩ _ _ _ _).trans (Chg.of_below (belowN 1)))⟩
     | exact bodyPost_ret (v := .tuple #[.agg #[.bool lb, .int .i64 db, .int .i64 tb, .string wb], .agg #[.bool la, .int .i64 da, .int .i64 ta, .string wa]]) (by simp [results, Try.results66, go_sem, r0, r1, r2, r3, s0, s1, s2, s3]) rfl ⟨_, _, _, _, _, _, _, _, w.heap.size, rfl, rfl, rfl, Nat.le_refl _, (GV.out _ ((chg_rec (chg_rec (Chg.refl _ _ w1) ⟨by omega, by omega⟩ _ _ _ _) ⟨by omega, by omega⟩ _ _ _ _).trans (Chg.of_below (belowN 1)))).size, GV.out _ ((chg_rec (chg_rec (Chg.refl _ _ w1) ⟨by omega, by omega⟩ _ _ _ _) ⟨by omega, by omega⟩ _ _ _ _).trans (Chg.of_below (belowN 1)))⟩
def recsOkB (l : List RecM) : Bool := decide (l.length ≤ 64) && l.all recOkB
theorem recsOkB_at {l : List RecM} (h : l.length ≤ 64) : recsOkB l = l.all recOkB := by unfold recsOkB; simp [h]
theorem recsOkB_long {l : List RecM} (h : 64 < l.length) : recsOkB l = false := by unfold recsOkB; simp; intro h2; omega
theorem recs_take {l : List RecM} {k : Nat} (h : k < l.length) (h1 : (l.take k).all recOkB = true) (h2 : recOkB l[k] = true) : (l.take (k + 1)).all recOkB = true := by
  rw [List.take_succ_eq_append_getElem h, List.all_append, h1]; simp [h2]
theorem recs_bad {l : List RecM} {k : Nat} (h : k < l.length) (h2 : recOkB l[k] = false) : l.all recOkB = false := by
  rw [List.all_eq_false]; exact ⟨_, List.getElem_mem h, by simp [h2]⟩
set_option maxHeartbeats 4000000 in
theorem uSpecRecsOk (c : Value) (l : List RecM) (w : World) (h : RecSIn [c] l w) (hb : ∀ t ∈ l, recBd t) : Calls Try.prog 14 #[c] w fun e w' => e = .returned (.bool (recsOkB l)) ∧ Below w.heap.size w w' := by
  obtain ⟨a, cap, rfl, hcap, hm, r⟩ := recSIn_shape h
  unfold maxLen at hm
  have R := Lib.hid r
  have HB := Lib.hid hb
  clear h r hb
  by_cases hl : l.length ≤ 64
  · rw [recsOkB_at hl]
    have hg : ¬ (64 : Int) < (l.length : Int) := by omega
    go_enter Try.func14, Try.ntmps14
    go_wp2
    go_loopw [3] (fun i wr => ∃ k : Nat, k ≤ l.length ∧ i = .int .i64 k ∧ Hid ((l.take k).all recOkB = true ∧ Below w.heap.size w wr)) (fun i _ => l.length - (intOf i).toNat)
    case atStart => exact ⟨0, Nat.zero_le _, rfl, Lib.hid ⟨by simp, Below.refl _ _⟩⟩
    case round =>
      obtain ⟨k, hk, rfl, H⟩ := hrel
      by_cases hlt : k < l.length
      · obtain ⟨b1, o1, rfl, q0, q1, q2, q3⟩ := (R.out.below H.out.2).rec hlt
        have BD := HB.out _ (List.getElem_mem hlt)
        have OK := Lib.hid (fun w => specRecOk l[k] w BD.2.2)
        have A1 := Lib.hid (fun h => recs_take hlt H.out.1 h)
        have A0 := Lib.hid (fun h => recs_bad (l := l) hlt h)
        clear BD
        cases ho : recOkB l[k]
        all_goals
          rw [ho] at OK
          unfold RecM.cells at OK
          generalize l[k].live = x0 at *
          generalize l[k].dist = x1 at *
          generalize l[k].weight = x2 at *
          generalize l[k].word = x3 at *
          have HO := Lib.hid ho
          clear ho
          go_wp2_with fail
          refine (OK.out _).mono ?_
          rintro e w2 ⟨rfl, hb⟩
          have B2 := Lib.hid (below_seq H.out.2 hb)
          clear hb OK q0 q1 q2 q3 H
        · have E := Lib.hid (A0.out HO.out)
          clear A0 A1 HO
          go_wp2
          go_ret
          exact ⟨ret_bool E.out.symm, B2.out⟩
        · have E := Lib.hid (A1.out HO.out)
          clear A0 A1 HO
          go_wp2
          go_roundw
          case rel => exact ⟨k + 1, by omega, by go_num, Lib.hid ⟨E.out, B2.out⟩⟩
          case measure => simp [intOf]; omega
      · have E : Hid (l.all recOkB = true) := Lib.hid (by have := H.out.1; rwa [List.take_of_length_le (by omega)] at this)
        go_wp2
        go_ret
        exact ⟨ret_bool E.out.symm, H.out.2⟩
  · rw [recsOkB_long (by omega)]
    have hg : (64 : Int) < (l.length : Int) := by omega
    go_enter Try.func14, Try.ntmps14
    go_wp2
    go_ret
    exact ⟨rfl, Below.refl _ _⟩
end Go.Proofs.Ytaedamnhobcdlaa
end

section
namespace Go.Proofs.Ytaedamnhobcdlaa
open Go.RowKit
set_option linter.unusedVariables false

theorem recOfL_bd (m : RecM) : szByteS (recOfL m) ≤ 1000000000000 := by
  unfold szByteS recOfL
  split
  · rw [bytesR_length]; decide
  · simp
theorem uSpecRecOk (c0 c1 c2 c3 : Value) (m : RecM) (w : World) (h : RecIn [c0, c1, c2, c3] m w) (hb : recBd m) : Calls Try.prog 46 #[.agg #[c0, c1, c2, c3]] w fun e w' => e = .returned (.bool (recOkB m)) ∧ Below w.heap.size w w' := by
  obtain ⟨rfl, rfl, rfl, rfl⟩ := recIn_cells h
  exact specRecOk m w hb.2.2
theorem uSpecRecAhead (c0 c1 c2 c3 : Value) (m : RecM) (d0 d1 d2 d3 : Value) (n : RecM) (w : World) (h : RecIn [c0, c1, c2, c3] m w) (k : RecIn [d0, d1, d2, d3] n w) (hb : recBd m) (kb : recBd n) : Calls Try.prog 16 #[.agg #[c0, c1, c2, c3], .agg #[d0, d1, d2, d3]] w fun e w' => e = .returned (.bool (aheadB m n)) ∧ Below w.heap.size w w' := by
  obtain ⟨rfl, rfl, rfl, rfl⟩ := recIn_cells h
  obtain ⟨rfl, rfl, rfl, rfl⟩ := recIn_cells k
  exact specRecAheadR m n w hb.2.2 kb.2.2
end Go.Proofs.Ytaedamnhobcdlaa
end

section
namespace Go.Proofs.Ytaedamnhobcdlaa
open Go.RowKit
open Go.Lib (compareBytes)
set_option linter.unusedVariables false

/-- The least of 1, 2, 4, .., 64 that is at least n. -/
def sizeUp (n : Nat) : Nat := if n ≤ 1 then 1 else if n ≤ 2 then 2 else if n ≤ 4 then 4 else if n ≤ 8 then 8 else if n ≤ 16 then 16 else if n ≤ 32 then 32 else 64
def rankSizeZ (n : Int) : Int := if n < 0 ∨ 64 < n then -1 else (sizeUp n.toNat : Int)
theorem rankSizeZ_no {n : Int} (h : n < 0 ∨ 64 < n) : rankSizeZ n = -1 := by unfold rankSizeZ; rw [if_pos h]
theorem rankSizeZ_at {n : Nat} (h : n ≤ 64) : rankSizeZ n = (sizeUp n : Int) := by unfold rankSizeZ; rw [if_neg (by omega)]; simp
theorem sizeUp_le {n : Nat} (h : n ≤ 64) : n ≤ sizeUp n ∧ sizeUp n ≤ 64 ∧ 1 ≤ sizeUp n := by
  unfold sizeUp; repeat' split
  all_goals omega
/-- The doubling: s has come to a power of two below n, or is what is asked. -/
def dbl (s n : Nat) : Prop := (s = 1 ∨ s = 2 ∨ s = 4 ∨ s = 8 ∨ s = 16 ∨ s = 32 ∨ s = 64) ∧ s ≤ sizeUp n
theorem dbl_start (n : Nat) : dbl 1 n := ⟨.inl rfl, by unfold sizeUp; repeat' split
                                                       all_goals omega⟩
theorem dbl_next {s n : Nat} (h : dbl s n) (hn : n ≤ 64) (hl : s < n) : dbl (2 * s) n ∧ s ≤ 32 := by
  obtain ⟨h1, h2⟩ := h
  unfold dbl sizeUp at *
  rcases h1 with rfl | rfl | rfl | rfl | rfl | rfl | rfl
  all_goals (refine ⟨⟨by omega, ?_⟩, by omega⟩; repeat' split) <;> omega
theorem dbl_done {s n : Nat} (h : dbl s n) (hn : n ≤ 64) (hl : ¬ s < n) : s = sizeUp n := by
  obtain ⟨h1, h2⟩ := h
  unfold sizeUp at *
  rcases h1 with rfl | rfl | rfl | rfl | rfl | rfl | rfl
  all_goals (revert h2; repeat' split) <;> omega
/-- Where a record is put in, from place k down. -/
def posDown (out : List RecM) (r : RecM) : Nat → Nat
  | 0 => 0
  | k + 1 => if aheadB r (out.getD k zeroR) = true then posDown out r k else k + 1
theorem posDown_le (out : List RecM) (r : RecM) : ∀ k, posDown out r k ≤ k
  | 0 => Nat.le_refl _
  | k + 1 => by unfold posDown; split; exact Nat.le_trans (posDown_le out r k) (Nat.le_succ k); exact Nat.le_refl _
def insR (out : List RecM) (r : RecM) : List RecM := out.take (posDown out r out.length) ++ (r :: out.drop (posDown out r out.length))
theorem insR_length (out : List RecM) (r : RecM) : (insR out r).length = out.length + 1 := by
  unfold insR
  have := posDown_le out r out.length
  simp; omega
def insAll (l : List RecM) : List RecM := l.foldl insR []
theorem insAll_snoc (l : List RecM) (r : RecM) : insAll (l ++ [r]) = insR (insAll l) r := by unfold insAll; rw [List.foldl_append]; rfl
theorem insAll_length (l : List RecM) : (insAll l).length = l.length := by
  have : ∀ (l out : List RecM), (l.foldl insR out).length = out.length + l.length := fun l => by
    induction l with
    | nil => intro out; simp
    | cons x l ih => intro out; simp [ih, insR_length]; omega
  simpa [insAll] using this l []
def rankM (l : List RecM) : List RecM := if recsOkB l = true then insAll l else []
def compactL (l : List RecM) : List RecM := l.filter (·.live) ++ List.replicate (l.length - (l.filter (·.live)).length) zeroR
theorem compactL_length (l : List RecM) : (compactL l).length = l.length := by
  unfold compactL
  have := List.length_filter_le (·.live) l
  simp; omega
def compactM (l : List RecM) : List RecM := if recsOkB l = true then compactL l else []
def topB (l : List RecM) (k : Int) : Bool := recsOkB l && (decide (0 ≤ k) && decide (k ≤ 8))
def topM (l : List RecM) (k : Int) : List RecM := if topB l k = true then (insAll l ++ List.replicate (k.toNat - l.length) zeroR).take k.toNat else []
/-- The list behind the wires. -/
def stepR (l : List RecM) (a b : Nat) : List RecM := (l.set a (pairA (l.getD a zeroR) (l.getD b zeroR))).set b (pairB (l.getD a zeroR) (l.getD b zeroR))
def runRec : List (Nat × Nat) → List RecM → List RecM
  | [], l => l
  | (a, b) :: ws, l => runRec ws (stepR l a b)
theorem stepR_length (l : List RecM) (a b : Nat) : (stepR l a b).length = l.length := by simp [stepR]
theorem runRec_length : ∀ (ws : List (Nat × Nat)) (l : List RecM), (runRec ws l).length = l.length
  | [], l => rfl
  | (a, b) :: ws, l => by rw [runRec, runRec_length ws, stepR_length]
theorem runRec_snoc : ∀ (ws : List (Nat × Nat)) (a b : Nat) (l : List RecM), runRec (ws ++ [(a, b)]) l = stepR (runRec ws l) a b
  | [], a, b, l => rfl
  | (c, d) :: ws, a, b, l => by rw [List.cons_append, runRec, runRec_snoc ws, runRec]
end Go.Proofs.Ytaedamnhobcdlaa
end

section
namespace Go.Proofs.Ytaedamnhobcdlaa
open Go.RowKit
open Go.Lib (compareBytes)
set_option linter.unusedVariables false

/-- A word as a number of n places. -/
def wkN : Nat → List UInt8 → Nat
  | 0, _ => 0
  | _ + 1, [] => 0
  | n + 1, x :: l => x.toNat * 256 ^ n + wkN n l
theorem wkN_lt : ∀ (n : Nat) (l : List UInt8), wkN n l < 256 ^ n
  | 0, l => by simp [wkN]
  | n + 1, [] => by simp only [wkN]; exact Nat.pow_pos (by omega)
  | n + 1, x :: l => by
    have h1 := wkN_lt n l
    have h2 := x.toNat_lt
    have h3 : x.toNat * 256 ^ n ≤ 255 * 256 ^ n := Nat.mul_le_mul_right _ (by omega)
    rw [wkN, Nat.pow_succ]; omega
theorem wkN_less : ∀ {n : Nat} {a b : List UInt8}, a.length ≤ n → b.length ≤ n → (∀ x ∈ a, 1 ≤ x.toNat) → (∀ x ∈ b, 1 ≤ x.toNat) → (compareBytes a b < 0 ↔ wkN n a < wkN n b)
  | 0, [], [], _, _, _, _ => by simp [compareBytes, wkN]
  | 0, x :: a, b, h, _, _, _ => by simp at h
  | 0, [], y :: b, _, h, _, _ => by simp at h
  | n + 1, [], [], _, _, _, _ => by simp [compareBytes, wkN]
  | n + 1, [], y :: b, _, _, _, hb => by
    have h1 := hb y (by simp)
    have h2 : 0 < y.toNat * 256 ^ n := Nat.mul_pos (by omega) (Nat.pow_pos (by omega))
    simp [compareBytes, wkN]; omega
  | n + 1, x :: a, [], _, _, ha, _ => by simp [compareBytes, wkN]
  | n + 1, x :: a, y :: b, h1, h2, ha, hb => by
    have ih := wkN_less (n := n) (a := a) (b := b) (by simpa using h1) (by simpa using h2) (fun t ht => ha t (List.mem_cons_of_mem _ ht)) (fun t ht => hb t (List.mem_cons_of_mem _ ht))
    have la := wkN_lt n a
    have lb := wkN_lt n b
    rw [wkN, wkN]
    simp only [compareBytes, UInt8.lt_iff_toNat_lt]
    rcases Nat.lt_trichotomy x.toNat y.toNat with h | h | h
    · have := Nat.mul_le_mul_right (256 ^ n) (show x.toNat + 1 ≤ y.toNat from h)
      rw [Nat.add_mul] at this
      rw [if_pos h]; simp; omega
    · rw [if_neg (by omega), if_neg (by omega), h, ih]; omega
    · have := Nat.mul_le_mul_right (256 ^ n) (show y.toNat + 1 ≤ x.toNat from h)
      rw [Nat.add_mul] at this
      rw [if_neg (by omega), if_pos h]; simp; omega
theorem word_pos {l : List UInt8} (h : wordB l = true) : l.length ≤ 32 ∧ ∀ x ∈ l, 1 ≤ x.toNat := by
  unfold wordB lowB at h
  simp only [Bool.and_eq_true, decide_eq_true_eq, List.all_eq_true] at h
  exact ⟨h.1.2, fun x hx => by have := (h.2 x hx).1; omega⟩
/-- The place of a record. -/
def keyZ (r : RecM) : Int := if r.live = true then (r.dist * 65536 + (65535 - r.weight)) * (256 ^ 32 : Nat) + (wkN 32 r.word.data.toList : Nat) else 8 * 65536 * (256 ^ 32 : Nat)
theorem keyZ_live {r : RecM} (h : liveB r = true) : keyZ r = (r.dist * 65536 + (65535 - r.weight)) * (256 ^ 32 : Nat) + (wkN 32 r.word.data.toList : Nat) := by unfold keyZ; rw [if_pos (liveB_ok h).1]
theorem keyZ_zero : keyZ zeroR = 8 * 65536 * (256 ^ 32 : Nat) := rfl
theorem key_less {x y : RecM} (hx : recOkB x = true) (hy : recOkB y = true) : aheadB x y = true ↔ keyZ x < keyZ y := by
  have P : (0 : Int) < ((256 ^ 32 : Nat) : Int) := by decide
  rcases recOkB_cases hx with rfl | hx
  · have : aheadB zeroR y = false := by unfold aheadB; simp [zeroR]
    rw [this, keyZ_zero]
    constructor
    · intro h; cases h
    · intro h
      exfalso
      rcases recOkB_cases hy with rfl | hy
      · rw [keyZ_zero] at h; omega
      · rw [keyZ_live hy] at h
        obtain ⟨_, h1, h2, _⟩ := liveB_ok hy
        have l1 := wkN_lt 32 y.word.data.toList
        generalize wkN 32 y.word.data.toList = k at *
        generalize (256 ^ 32 : Nat) = M at *
        have : (y.dist * 65536 + (65535 - y.weight)) * (M : Int) ≤ (8 * 65536 - 1) * (M : Int) := Int.mul_le_mul_of_nonneg_right (by omega) (by omega)
        rw [Int.sub_mul] at this
        omega
  · rcases recOkB_cases hy with rfl | hy
    · rw [(ahead_zero hx).1, keyZ_zero, keyZ_live hx]
      obtain ⟨_, h1, h2, _⟩ := liveB_ok hx
      have l1 := wkN_lt 32 x.word.data.toList
      generalize wkN 32 x.word.data.toList = k at *
      generalize (256 ^ 32 : Nat) = M at *
      have : (x.dist * 65536 + (65535 - x.weight)) * (M : Int) ≤ (8 * 65536 - 1) * (M : Int) := Int.mul_le_mul_of_nonneg_right (by omega) (by omega)
      rw [Int.sub_mul] at this
      simp; omega
    · rw [ahead_live hx hy, keyZ_live hx, keyZ_live hy]
      obtain ⟨_, a1, a2, a3⟩ := liveB_ok hx
      obtain ⟨_, b1, b2, b3⟩ := liveB_ok hy
      obtain ⟨c1, c2⟩ := word_pos a3
      obtain ⟨d1, d2⟩ := word_pos b3
      have W := wkN_less (n := 32) c1 d1 c2 d2
      have l1 := wkN_lt 32 x.word.data.toList
      have l2 := wkN_lt 32 y.word.data.toList
      unfold keyR
      rw [W]
      generalize wkN 32 x.word.data.toList = k at *
      generalize wkN 32 y.word.data.toList = j at *
      generalize (256 ^ 32 : Nat) = M at *
      generalize hu : x.dist * 65536 + (65535 - x.weight) = u at *
      generalize hv : y.dist * 65536 + (65535 - y.weight) = v at *
      have key : (x.dist < y.dist ∨ x.dist = y.dist ∧ (y.weight < x.weight ∨ x.weight = y.weight ∧ k < j)) ↔ (u < v ∨ u = v ∧ k < j) := by omega
      rw [key]
      rcases Int.lt_trichotomy u v with h | h | h
      · have := Int.mul_le_mul_of_nonneg_right (show u + 1 ≤ v from h) (show (0 : Int) ≤ (M : Int) by omega)
        rw [Int.add_mul] at this
        omega
      · subst h; omega
      · have := Int.mul_le_mul_of_nonneg_right (show v + 1 ≤ u from h) (show (0 : Int) ≤ (M : Int) by omega)
        rw [Int.add_mul] at this
        omega
theorem key_inj {x y : RecM} (hx : recOkB x = true) (hy : recOkB y = true) (h : keyZ x = keyZ y) : x = y := by
  rcases ahead_tri hx hy with ⟨e, _⟩ | ⟨_, e, _⟩ | ⟨_, _, e⟩
  · exact e
  · have := (key_less hx hy).1 e; omega
  · have := (key_less hy hx).1 e; omega
theorem key_max {x : RecM} (hx : recOkB x = true) : keyZ x ≤ keyZ zeroR := by
  rcases ahead_tri hx (show recOkB zeroR = true from rfl) with ⟨e, _⟩ | ⟨_, e, _⟩ | ⟨_, _, e⟩
  · rw [e]; exact Int.le_refl _
  · have := (key_less hx rfl).1 e; omega
  · have : aheadB zeroR x = false := by unfold aheadB; simp [zeroR]
    rw [this] at e; cases e
theorem pair_key {x y : RecM} (hx : recOkB x = true) (hy : recOkB y = true) : keyZ (pairA x y) = min (keyZ x) (keyZ y) ∧ keyZ (pairB x y) = max (keyZ x) (keyZ y) := by
  have h := key_less hy hx
  unfold pairA pairB
  cases e : aheadB y x
  · have : ¬ keyZ y < keyZ x := fun k => by rw [h.2 k] at e; cases e
    simp; omega
  · have := h.1 e
    simp; omega
end Go.Proofs.Ytaedamnhobcdlaa
end
