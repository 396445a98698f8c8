/- RecI, RecJ, RecK, RecZ in one. Written by tools/join.py. -/
import Derived.Test.YtaedamnhobcdlaaJRecP
import Derived.Test.YtaedamnhobcdlaaJRecR
import Derived.Test.YtaedamnhobcdlaaJApp
section
namespace Go.Proofs.Ytaedamnhobcdlaa
open Go.RowKit
open Go.Lib (compareBytes)
set_option linter.unusedVariables false
set_option maxRecDepth 100000

theorem liveB_dead {r : RecM} (h : r.live = false) : liveB r = false := by unfold liveB; rw [h]; rfl
theorem emptyB_live {r : RecM} (h : r.live = true) : emptyB r = false := by unfold emptyB; rw [h]; rfl
theorem recOkB_dead {r : RecM} (h : r.live = false) : recOkB r = emptyB r := by unfold recOkB; rw [liveB_dead h, Bool.or_false]
set_option maxHeartbeats 2000000 in
theorem implRecOk (r : RecM) (w : World) (hs : r.word.size ≤ maxLen) : Calls Try.prog 73 #[.agg r.cells] w fun e w' => e = .returned (.bool (recOkB r)) ∧ Below w.heap.size w w' := by
  have WO := Lib.hid (fun w => implWordOk r.word w hs)
  obtain ⟨lv, ds, wt, wd⟩ := r
  simp only at WO
  clear hs
  cases lv
  · rw [recOkB_dead rfl]
    by_cases h : ds = 0 ∧ wt = 0 ∧ wd.toList = []
    · obtain ⟨rfl, rfl, h3⟩ := h
      have h4 := size_zero (word_nil.1 h3)
      subst h4
      clear h3
      unfold RecM.cells
      simp only
      have E := Lib.hid (show emptyB ⟨false, 0, 0, ⟨#[]⟩⟩ = true from rfl)
      go_enter Try.func73, Try.ntmps73
      go_wp2
      go_ret
      exact ⟨ret_bool E.out.symm, below_box (Below.refl _ _) _⟩
    · have E := Lib.hid (emptyB_no (r := ⟨false, ds, wt, wd⟩) (fun ⟨_, h1, h2, h3⟩ => h ⟨h1, h2, h3⟩))
      have H := Lib.hid h
      clear h
      unfold RecM.cells
      simp only
      go_enter Try.func73, Try.ntmps73
      go_wp2
      all_goals first
        | (go_ret; exact ⟨ret_bool E.out.symm, below_box (Below.refl _ _) _⟩)
        | (exfalso; apply H.out; simp_all; done)
  · rw [recOkB_live (emptyB_live rfl)]
    by_cases hc : (0 ≤ ds ∧ ds ≤ 7) ∧ (0 ≤ wt ∧ wt ≤ 65535)
    · rw [liveB_at ⟨rfl, hc⟩]
      obtain ⟨⟨h2, h3⟩, h4, h5⟩ := hc
      unfold RecM.cells
      simp only
      go_enter Try.func73, Try.ntmps73
      go_wp2_with fail
      refine (WO.out _).mono ?_
      rintro e w2 ⟨rfl, rfl⟩
      go_wp2
      go_ret
      exact ⟨rfl, below_box (Below.refl _ _) _⟩
    · rw [liveB_no (fun h => hc h.2)]
      have HC := Lib.hid hc
      clear hc
      unfold RecM.cells
      go_enter Try.func73, Try.ntmps73
      go_wp2_with fail
      all_goals first
        | (go_ret; exact ⟨rfl, below_box (Below.refl _ _) _⟩)
        | (exfalso; apply HC.out; simp_all; omega)
        | (exfalso; apply HC.out; simp_all; done)
/-- Which is ahead, as the program asks it of valid records. -/
def aheadP (a b : RecM) : Bool := if a.live ≠ b.live then a.live else if a.dist ≠ b.dist then decide (a.dist < b.dist) else if a.weight ≠ b.weight then decide (b.weight < a.weight) else decide (compareBytes a.word.data.toList b.word.data.toList < 0)
theorem aheadP_ok {a b : RecM} (ha : recOkB a = true) (hb : recOkB b = true) : aheadP a b = aheadB a b := by
  unfold aheadP aheadB
  rw [ha, hb]
  rcases recOkB_cases ha with rfl | h
  · rcases recOkB_cases hb with rfl | k
    · simp [zeroR, compareBytes]
    · simp [zeroR, (liveB_ok k).1]
  · rw [(liveB_ok h).1]
    rcases recOkB_cases hb with rfl | k
    · simp [zeroR]
    · simp [(liveB_ok k).1]
theorem aheadB_a {a b : RecM} (ha : recOkB a = false) : aheadB a b = false := by unfold aheadB; rw [ha]; rfl
theorem aheadB_b {a b : RecM} (hb : recOkB b = false) : aheadB a b = false := by unfold aheadB; rw [hb]; cases recOkB a <;> rfl
set_option maxHeartbeats 4000000 in
theorem implAhead (a b : RecM) (w : World) (h1 : a.word.size ≤ maxLen) : Calls Try.prog 74 #[.agg a.cells, .agg b.cells] w fun e w' => e = .returned (.bool (aheadP a b)) ∧ Below w.heap.size w w' := by
  have CM := Lib.hid (fun w => implWordCmp a.word b.word w)
  obtain ⟨la, da, ta, wa⟩ := a
  obtain ⟨lb, db, tb, wb⟩ := b
  clear h1
  unfold RecM.cells aheadP
  simp only at CM ⊢
  by_cases hl : la = lb
  · subst hl
    have e0 : (la != la) = false := by simp
    by_cases hd : da = db
    · subst hd
      by_cases ht : ta = tb
      · subst ht
        have d1 : (da != da) = false := by simp
        have d2 : (ta != ta) = false := by simp
        go_enter Try.func74, Try.ntmps74
        go_wp2_with fail
        refine (CM.out _).mono ?_
        rintro e w3 ⟨rfl, rfl⟩
        go_wp2
        all_goals (go_ret; exact ⟨ret_bool (by simp), below_box (below_box (Below.refl _ _) _) _⟩)
      · have d1 : (da != da) = false := by simp
        have d2 : (ta != tb) = true := by simp [ht]
        go_enter Try.func74, Try.ntmps74
        go_wp2
        all_goals (go_ret; exact ⟨ret_bool (by simp), below_box (below_box (Below.refl _ _) _) _⟩)
    · have d1 : (da != db) = true := by simp [hd]
      go_enter Try.func74, Try.ntmps74
      go_wp2
      all_goals (go_ret; exact ⟨ret_bool (by simp), below_box (below_box (Below.refl _ _) _) _⟩)
  · cases la <;> cases lb
    all_goals first
      | (exact absurd rfl hl)
      | (go_enter Try.func74, Try.ntmps74
         go_wp2
         go_ret
         exact ⟨ret_bool (by simp), below_box (below_box (Below.refl _ _) _) _⟩)
end Go.Proofs.Ytaedamnhobcdlaa
end

section
namespace Go.Proofs.Ytaedamnhobcdlaa
open Go.RowKit
open Go.Lib (compareBytes)
set_option linter.unusedVariables false
set_option maxRecDepth 100000

end Go.Proofs.Ytaedamnhobcdlaa
end

section
namespace Go.Proofs.Ytaedamnhobcdlaa
open Go.RowKit
open Go.Lib (compareBytes)
set_option linter.unusedVariables false
set_option maxRecDepth 100000

theorem i64_or_nat (a b : Nat) (ha : a < 4611686018427387904) (hb : b < 4611686018427387904) : bits .or .i64 (a : Int) (b : Int) = ((a ||| b : Nat) : Int) := by
  have hx : a ||| b < 2 ^ 62 := Nat.or_lt_two_pow (by omega) (by omega)
  show IntKind.i64.wrap ((BitVec.ofInt 64 (a : Int) ||| BitVec.ofInt 64 (b : Int)).toNat : Int) = _
  rw [BitVec.toNat_or]
  have e1 : (BitVec.ofInt 64 (a : Int)).toNat = a := by simp; omega
  have e2 : (BitVec.ofInt 64 (b : Int)).toNat = b := by simp; omega
  rw [e1, e2]
  exact IntWalk.i64_in _ (by omega)
theorem or_256 (a b : Nat) (ha : a < 65536) (hb : b < 256) : bits .or .i64 ((a : Int) * 256) (b : Int) = 256 * (a : Int) + (b : Int) := by
  have h := i64_or_nat (a * 256) b (by omega) (by omega)
  have e : a * 256 ||| b = 256 * a + b := by
    have := Nat.two_pow_add_eq_or_of_lt (i := 8) (b := b) (by omega) a
    rw [show a * 256 = 2 ^ 8 * a from by omega, ← this]
  rw [e] at h
  have e2 : (((a * 256 : Nat)) : Int) = (a : Int) * 256 := by omega
  rw [e2] at h
  rw [h]; omega
/-- The record that the program reads off 37 bytes, before it is asked whether it is one. -/
def candI (d : List UInt8) : RecM := ⟨decide (d.getD 0 0 = 1), (d.getD 1 0).toNat, 256 * ((d.getD 2 0).toNat : Int) + ((d.getD 3 0).toNat : Int), strL (unpL (d.drop 4))⟩
theorem unp_zeros : unpL (List.replicate 33 0) = [] := unp_no (unp_small (by decide))
theorem bytes_zero : bytesR zeroR = List.replicate 37 0 := by
  unfold bytesR headR padL zeroR
  rw [if_neg (by decide)]
  rfl
theorem candI_zero : candI (List.replicate 37 0) = zeroR := by
  unfold candI
  rw [show (List.replicate 37 (0 : UInt8)).drop 4 = List.replicate 33 0 from by simp, unp_zeros]
  rfl
theorem candI_one {d : List UInt8} (h : d.getD 0 0 = 1) : candI d = candR d := by
  unfold candI candR; rw [if_pos h, decide_eq_true h]
theorem candR_zero {d : List UInt8} (h : d.getD 0 0 ≠ 1) : candR d = zeroR := by unfold candR; rw [if_neg h]
theorem candI_word (d : List UInt8) : (candI d).word.size ≤ 32 := by
  have h := cand_word d
  unfold candI
  simp only [strL_size]
  unfold unpL
  split
  · rename_i h
    unfold unpB at h
    simp only [Bool.and_eq_true, decide_eq_true_eq] at h
    have := (word_len h.1.2).2
    omega
  · simp
theorem recOfL_len {r : RecM} {d : List UInt8} (h : recOfL r = d) (hd : d.length = 37) : recOkB r = true ∧ bytesR r = d := by
  unfold recOfL at h
  cases ho : recOkB r
  · rw [ho] at h; simp at h; subst h; simp at hd
  · rw [ho] at h; simpa using h
theorem readB_prog {d : List UInt8} (hd : d.length = 37) : readB d = (recOfL (candI d) == d) := by
  have iff : readB d = true ↔ recOfL (candI d) = d := by
    constructor
    · intro h
      unfold readB at h
      simp only [Bool.and_eq_true, decide_eq_true_eq] at h
      obtain ⟨_, h2, h3⟩ := h
      by_cases h1 : d.getD 0 0 = 1
      · rw [candI_one h1]; unfold recOfL; rw [if_pos h2]; exact h3
      · rw [candR_zero h1, bytes_zero] at h3
        rw [← h3, candI_zero, show recOfL zeroR = bytesR zeroR from rfl, bytes_zero]
    · intro h
      obtain ⟨h2, h3⟩ := recOfL_len h hd
      by_cases h1 : d.getD 0 0 = 1
      · rw [candI_one h1] at h2 h3
        rw [readB_at hd h2]; simpa using h3
      · have hl : (candI d).live = false := decide_eq_false h1
        have hz : candI d = zeroR := by
          rcases recOkB_cases h2 with h | h
          · exact h
          · rw [liveB_dead hl] at h; cases h
        rw [hz] at h3
        rw [readB_at hd (by rw [candR_zero h1]; rfl), candR_zero h1]; simpa using h3
  rw [Bool.eq_iff_iff, iff]; simp
theorem readM_prog {d : List UInt8} (hd : d.length = 37) (h : readB d = true) : readM d = candI d := by
  rw [readM_yes h]
  rw [readB_prog hd] at h
  have h : recOfL (candI d) = d := by simpa using h
  by_cases h1 : d.getD 0 0 = 1
  · rw [candI_one h1]
  · obtain ⟨h2, h3⟩ := recOfL_len h hd
    have hl : (candI d).live = false := decide_eq_false h1
    rw [candR_zero h1]
    rcases recOkB_cases h2 with h | h
    · exact h.symm
    · rw [liveB_dead hl] at h; cases h
set_option maxHeartbeats 4000000 in
theorem uImplRecsOk (c : Value) (l : List RecM) (w : World) (h : RecSIn [c] l w) (hb : ∀ t ∈ l, recBd t) : Calls Try.prog 43 #[c] w fun e w' => e = .returned (.bool (recsOkB l)) ∧ Below w.heap.size w w' := by
  obtain ⟨a, cap, rfl, hcap, hm, r⟩ := recSIn_shape h
  unfold maxLen at hm
  have R := Lib.hid r
  have HB := Lib.hid hb
  clear h r hb
  by_cases hl : l.length ≤ 64
  · rw [recsOkB_at hl]
    have hg : ¬ (64 : Int) < (l.length : Int) := by omega
    go_enter Try.func43, Try.ntmps43
    go_wp2
    go_loopw [10] (fun i wr => ∃ k : Nat, k ≤ l.length ∧ i = .int .i64 k ∧ Hid ((l.take k).all recOkB = true ∧ Below w.heap.size w wr)) (fun i _ => l.length - (intOf i).toNat)
    case atStart => exact ⟨0, Nat.zero_le _, rfl, Lib.hid ⟨by simp, Below.refl _ _⟩⟩
    case round =>
      obtain ⟨k, hk, rfl, H⟩ := hrel
      by_cases hlt : k < l.length
      · obtain ⟨b1, o1, rfl, q0, q1, q2, q3⟩ := (R.out.below H.out.2).rec hlt
        have BD := HB.out _ (List.getElem_mem hlt)
        have OK := Lib.hid (fun w => implRecOk l[k] w BD.2.2)
        have A1 := Lib.hid (fun h => recs_take hlt H.out.1 h)
        have A0 := Lib.hid (fun h => recs_bad (l := l) hlt h)
        clear BD
        cases ho : recOkB l[k]
        all_goals
          rw [ho] at OK
          unfold RecM.cells at OK
          generalize l[k].live = x0 at *
          generalize l[k].dist = x1 at *
          generalize l[k].weight = x2 at *
          generalize l[k].word = x3 at *
          have HO := Lib.hid ho
          clear ho
          go_wp2_with fail
          refine (OK.out _).mono ?_
          rintro e w2 ⟨rfl, hb⟩
          have B2 := Lib.hid (below_seq (below_box H.out.2 _) hb)
          clear hb OK q0 q1 q2 q3 H
        · have E := Lib.hid (A0.out HO.out)
          clear A0 A1 HO
          go_wp2
          go_ret
          exact ⟨ret_bool E.out.symm, B2.out⟩
        · have E := Lib.hid (A1.out HO.out)
          clear A0 A1 HO
          go_wp2
          go_roundw
          case rel => exact ⟨k + 1, by omega, by go_num, Lib.hid ⟨E.out, B2.out⟩⟩
          case measure => simp [intOf]; omega
      · have E : Hid (l.all recOkB = true) := Lib.hid (by have := H.out.1; rwa [List.take_of_length_le (by omega)] at this)
        go_wp2
        go_ret
        exact ⟨ret_bool E.out.symm, H.out.2⟩
  · rw [recsOkB_long (by omega)]
    have hg : (64 : Int) < (l.length : Int) := by omega
    go_enter Try.func43, Try.ntmps43
    go_wp2
    go_ret
    exact ⟨rfl, Below.refl _ _⟩
theorem uImplRecOk (c0 c1 c2 c3 : Value) (m : RecM) (w : World) (h : RecIn [c0, c1, c2, c3] m w) (hb : recBd m) : Calls Try.prog 73 #[.agg #[c0, c1, c2, c3]] w fun e w' => e = .returned (.bool (recOkB m)) ∧ Below w.heap.size w w' := by
  obtain ⟨rfl, rfl, rfl, rfl⟩ := recIn_cells h
  exact implRecOk m w hb.2.2
end Go.Proofs.Ytaedamnhobcdlaa
end

section
namespace Go.Proofs.Ytaedamnhobcdlaa
open Go.RowKit
set_option linter.unusedVariables false

/-- Boxes of zeros made ahead: where they lie. -/
structure RZ (W w : World) (L : List Nat) : Prop where
  B : Below W.heap.size W w
  Z : ∀ b ∈ L, w.heap[b]? = some (.cells #[.bool false, .int .i64 0, .int .i64 0, .string ⟨#[]⟩] 30 (0, 0)) ∧ W.heap.size ≤ b
  N : L.Nodup
section
variable {W w w' : World} {L : List Nat} {b c : Nat}
theorem RZ.start (W : World) : RZ W W.drew [] := ⟨belowN 1, fun b h => by simp at h, List.nodup_nil⟩
theorem RZ.call (h : RZ W w L) (hb : Below w.heap.size w w') : RZ W w' L := ⟨below_seq h.B hb, fun b k => ⟨kept_block (h.Z b k).1 hb, (h.Z b k).2⟩, h.N⟩
theorem RZ.box (h : RZ W w L) : RZ W (w.alloc (.cells #[.bool false, .int .i64 0, .int .i64 0, .string ⟨#[]⟩] 30)) (w.heap.size :: L) :=
  ⟨below_box h.B _, fun b k => by
    rcases List.mem_cons.1 k with rfl | k
    · exact ⟨alloc_at _ _ _ rfl, h.B.size⟩
    · exact ⟨(alloc_old _ _ _ (cur_lt (h.Z b k).1)).trans (h.Z b k).1, (h.Z b k).2⟩, List.nodup_cons.2 ⟨fun k => absurd (cur_lt (h.Z _ k).1) (Nat.lt_irrefl _), h.N⟩⟩
def ZFacts (w : World) (b : Nat) : Prop := (w.cell? ⟨b, 0, none⟩ = some (.bool false) ∧ w.cell? ⟨b, 1, none⟩ = some (.int .i64 0) ∧ w.cell? ⟨b, 2, none⟩ = some (.int .i64 0) ∧ w.cell? ⟨b, 3, none⟩ = some (.string ⟨#[]⟩)) ∧ (w.frozen? ⟨b, 0, none⟩ = false ∧ w.frozen? ⟨b, 1, none⟩ = false ∧ w.frozen? ⟨b, 2, none⟩ = false ∧ w.frozen? ⟨b, 3, none⟩ = false) ∧ (¬ b = w.heap.size ∧ ¬ w.heap.size = b) ∧ b < w.heap.size ∧ b < w.heap.size + 1
theorem ZFacts.of (h : w.heap[b]? = some (.cells #[.bool false, .int .i64 0, .int .i64 0, .string ⟨#[]⟩] 30 (0, 0))) : ZFacts w b :=
  ⟨⟨cur_cell h 0, cur_cell h 1, cur_cell h 2, cur_cell h 3⟩, ⟨cur_free h 0, cur_free h 1, cur_free h 2, cur_free h 3⟩, ⟨by have := cur_lt h; omega, by have := cur_lt h; omega⟩, cur_lt h, by have := cur_lt h; omega⟩
theorem RZ.at0 (h : RZ W w (b :: L)) : ZFacts w b := ZFacts.of (h.Z b (by simp)).1
theorem RZ.at1 (h : RZ W w (c :: b :: L)) : ZFacts w b ∧ ¬ b = c ∧ ¬ c = b :=
  ⟨ZFacts.of (h.Z b (by simp)).1, by have := h.N; simp at this; omega, by have := h.N; simp at this; omega⟩
/-- The world behind: all that lay lies; the two records in boxes. -/
structure PairCut (b6 b7 : Nat) (W wx : World) (x y : RecM) : Prop where
  B : Below W.heap.size W wx
  k6 : wx.heap[b6]? = some (.cells #[.bool x.live, .int .i64 x.dist, .int .i64 x.weight, .string x.word] 30 (0, 0))
  k7 : wx.heap[b7]? = some (.cells #[.bool y.live, .int .i64 y.dist, .int .i64 y.weight, .string y.word] 30 (0, 0))
  l6 : W.heap.size ≤ b6
  l7 : W.heap.size ≤ b7
abbrev setR (w : World) (b : Nat) (x : RecM) : World := (((w.setCell ⟨b, 0, none⟩ (.bool x.live)).setCell ⟨b, 1, none⟩ (.int .i64 x.dist)).setCell ⟨b, 2, none⟩ (.int .i64 x.weight)).setCell ⟨b, 3, none⟩ (.string x.word)
theorem setR_at {x : RecM} (h : w.heap[b]? = some (.cells #[.bool false, .int .i64 0, .int .i64 0, .string ⟨#[]⟩] 30 (0, 0))) : (setR w b x).heap[b]? = some (.cells #[.bool x.live, .int .i64 x.dist, .int .i64 x.weight, .string x.word] 30 (0, 0)) := by
  have := cur_set (cur_set (cur_set (cur_set h 0 (.bool x.live)) 1 (.int .i64 x.dist)) 2 (.int .i64 x.weight)) 3 (.string x.word)
  simpa [setR] using this
theorem setR_chg (x : RecM) : Chg b (b + 1) w (setR w b x) := chg_rec (Chg.refl _ _ w) ⟨Nat.le_refl _, by omega⟩ _ _ _ _
theorem setR_old {x : RecM} {o : Option Obj} (h : w.heap[c]? = o) (hc : c < w.heap.size) (hne : ¬ c = b) : (setR w b x).heap[c]? = o := ((setR_chg x).block c hc (by omega)).trans h
theorem setR_below {x : RecM} (h : Below W.heap.size W w) (hb : W.heap.size ≤ b) : Below W.heap.size W (setR w b x) := Chg.below h (setR_chg x) hb
theorem PairCut.old {x y : RecM} (h : RZ W w L) (hb : b ∈ L) (hc : c ∈ L) (hne : ¬ b = c) : PairCut b c W (setR (setR w b x) c y) x y :=
  ⟨setR_below (setR_below h.B (h.Z b hb).2) (h.Z c hc).2, setR_old (setR_at (h.Z b hb).1) (Nat.lt_of_lt_of_le (cur_lt (h.Z b hb).1) (setR_chg x).size) hne,
    setR_at (setR_old (h.Z c hc).1 (cur_lt (h.Z c hc).1) (fun e => hne e.symm)), (h.Z b hb).2, (h.Z c hc).2⟩
theorem PairCut.old01 {x y : RecM} (h : RZ W w [b, c]) : PairCut b c W (setR (setR w b x) c y) x y := PairCut.old h (by simp) (by simp) (by have := h.N; simp at this; omega)
theorem PairCut.old10 {x y : RecM} (h : RZ W w [b, c]) : PairCut c b W (setR (setR w c x) b y) x y := PairCut.old h (by simp) (by simp) (by have := h.N; simp at this; omega)
theorem PairCut.one {x y : RecM} (h : RZ W w [b]) : PairCut b w.heap.size W ((setR w b x).alloc (.cells #[.bool y.live, .int .i64 y.dist, .int .i64 y.weight, .string y.word] 30)) x y := by
  have hb : b ∈ [b] := by simp
  have e : (setR w b x).heap.size = w.heap.size := by simp [setR]
  exact ⟨below_box (setR_below h.B (h.Z b hb).2) _, (alloc_old _ _ _ (by rw [e]; exact cur_lt (h.Z b hb).1)).trans (setR_at (h.Z b hb).1), alloc_at _ _ _ e.symm, (h.Z b hb).2, h.B.size⟩
theorem PairCut.two {x y : RecM} (h : RZ W w [b]) : PairCut w.heap.size b W ((setR w b y).alloc (.cells #[.bool x.live, .int .i64 x.dist, .int .i64 x.weight, .string x.word] 30)) x y := by
  have hb : b ∈ [b] := by simp
  have e : (setR w b y).heap.size = w.heap.size := by simp [setR]
  exact ⟨below_box (setR_below h.B (h.Z b hb).2) _, alloc_at _ _ _ e.symm, (alloc_old _ _ _ (by rw [e]; exact cur_lt (h.Z b hb).1)).trans (setR_at (h.Z b hb).1), h.B.size, (h.Z b hb).2⟩
theorem PairCut.new {x y : RecM} (h : RZ W w []) : PairCut w.heap.size (w.heap.size + 1) W ((w.alloc (.cells #[.bool x.live, .int .i64 x.dist, .int .i64 x.weight, .string x.word] 30)).alloc (.cells #[.bool y.live, .int .i64 y.dist, .int .i64 y.weight, .string y.word] 30)) x y :=
  ⟨below_box (below_box h.B _) _, (alloc_old _ _ _ (by simp)).trans (alloc_at _ _ _ rfl), alloc_at _ _ _ (by simp), h.B.size, by have := h.B.size; omega⟩
theorem PairCut.wen {x y : RecM} (h : RZ W w []) : PairCut (w.heap.size + 1) w.heap.size W ((w.alloc (.cells #[.bool y.live, .int .i64 y.dist, .int .i64 y.weight, .string y.word] 30)).alloc (.cells #[.bool x.live, .int .i64 x.dist, .int .i64 x.weight, .string x.word] 30)) x y :=
  ⟨below_box (below_box h.B _) _, alloc_at _ _ _ (by simp), (alloc_old _ _ _ (by simp)).trans (alloc_at _ _ _ rfl), by have := h.B.size; omega, h.B.size⟩
end
def PairP (x y : RecM) (w : World) (e : Ending) (w' : World) : Prop := e = .returned (.tuple #[.agg #[.bool x.live, .int .i64 x.dist, .int .i64 x.weight, .string x.word], .agg #[.bool y.live, .int .i64 y.dist, .int .i64 y.weight, .string y.word]]) ∧ Below w.heap.size w w'
theorem PairP.of {x y : RecM} {w : World} {e : Ending} {w' : World} (h : PairRet x y w e w') : PairP x y w e w' := by
  obtain ⟨c0, c1, c2, c3, d0, d1, d2, d3, mid, rfl, h1, h2, _, _, hb⟩ := h
  obtain ⟨rfl, rfl, rfl, rfl⟩ := recIn_cells h1.read
  obtain ⟨rfl, rfl, rfl, rfl⟩ := recIn_cells h2.read
  exact ⟨rfl, hb⟩
theorem specPairP (a b : RecM) (w : World) (h1 : recBd a) (h2 : recBd b) : Calls Try.prog 66 #[.agg #[.bool a.live, .int .i64 a.dist, .int .i64 a.weight, .string a.word], .agg #[.bool b.live, .int .i64 b.dist, .int .i64 b.weight, .string b.word]] w (PairP (pairA a b) (pairB a b) w) :=
  (uSpecRecPair _ _ _ _ a _ _ _ _ b w rfl rfl h1 h2).mono fun _ _ h => PairP.of h
end Go.Proofs.Ytaedamnhobcdlaa
end
