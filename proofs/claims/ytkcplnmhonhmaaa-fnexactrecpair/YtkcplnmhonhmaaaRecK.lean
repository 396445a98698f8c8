/- Records in the program: RecRead. -/
import Derived.Test.YtkcplnmhonhmaaaRecJ
import Derived.Test.YtkcplnmhonhmaaaRecW
namespace Go.Proofs.Ytkcplnmhonhmaaa
open Go.RowKit
open Go.Lib (compareBytes)
set_option linter.unusedVariables false
set_option maxRecDepth 100000

theorem i64_or_nat (a b : Nat) (ha : a < 4611686018427387904) (hb : b < 4611686018427387904) : bits .or .i64 (a : Int) (b : Int) = ((a ||| b : Nat) : Int) := by
  have hx : a ||| b < 2 ^ 62 := Nat.or_lt_two_pow (by omega) (by omega)
  show IntKind.i64.wrap ((BitVec.ofInt 64 (a : Int) ||| BitVec.ofInt 64 (b : Int)).toNat : Int) = _
  rw [BitVec.toNat_or]
  have e1 : (BitVec.ofInt 64 (a : Int)).toNat = a := by simp; omega
  have e2 : (BitVec.ofInt 64 (b : Int)).toNat = b := by simp; omega
  rw [e1, e2]
  exact IntWalk.i64_in _ (by omega)
theorem or_256 (a b : Nat) (ha : a < 65536) (hb : b < 256) : bits .or .i64 ((a : Int) * 256) (b : Int) = 256 * (a : Int) + (b : Int) := by
  have h := i64_or_nat (a * 256) b (by omega) (by omega)
  have e : a * 256 ||| b = 256 * a + b := by
    have := Nat.two_pow_add_eq_or_of_lt (i := 8) (b := b) (by omega) a
    rw [show a * 256 = 2 ^ 8 * a from by omega, ← this]
  rw [e] at h
  have e2 : (((a * 256 : Nat)) : Int) = (a : Int) * 256 := by omega
  rw [e2] at h
  rw [h]; omega
/-- The record that the program reads off 37 bytes, before it is asked whether it is one. -/
def candI (d : List UInt8) : RecM := ⟨decide (d.getD 0 0 = 1), (d.getD 1 0).toNat, 256 * ((d.getD 2 0).toNat : Int) + ((d.getD 3 0).toNat : Int), strL (unpL (d.drop 4))⟩
theorem unp_zeros : unpL (List.replicate 33 0) = [] := unp_no (unp_small (by decide))
theorem bytes_zero : bytesR zeroR = List.replicate 37 0 := by
  unfold bytesR headR padL zeroR
  rw [if_neg (by decide)]
  rfl
theorem candI_zero : candI (List.replicate 37 0) = zeroR := by
  unfold candI
  rw [show (List.replicate 37 (0 : UInt8)).drop 4 = List.replicate 33 0 from by simp, unp_zeros]
  rfl
theorem candI_one {d : List UInt8} (h : d.getD 0 0 = 1) : candI d = candR d := by
  unfold candI candR; rw [if_pos h, decide_eq_true h]
theorem candR_zero {d : List UInt8} (h : d.getD 0 0 ≠ 1) : candR d = zeroR := by unfold candR; rw [if_neg h]
theorem candI_word (d : List UInt8) : (candI d).word.size ≤ 32 := by
  have h := cand_word d
  unfold candI
  simp only [strL_size]
  unfold unpL
  split
  · rename_i h
    unfold unpB at h
    simp only [Bool.and_eq_true, decide_eq_true_eq] at h
    have := (word_len h.1.2).2
    omega
  · simp
theorem recOfL_len {r : RecM} {d : List UInt8} (h : recOfL r = d) (hd : d.length = 37) : recOkB r = true ∧ bytesR r = d := by
  unfold recOfL at h
  cases ho : recOkB r
  · rw [ho] at h; simp at h; subst h; simp at hd
  · rw [ho] at h; simpa using h
theorem readB_prog {d : List UInt8} (hd : d.length = 37) : readB d = (recOfL (candI d) == d) := by
  have iff : readB d = true ↔ recOfL (candI d) = d := by
    constructor
    · intro h
      unfold readB at h
      simp only [Bool.and_eq_true, decide_eq_true_eq] at h
      obtain ⟨_, h2, h3⟩ := h
      by_cases h1 : d.getD 0 0 = 1
      · rw [candI_one h1]; unfold recOfL; rw [if_pos h2]; exact h3
      · rw [candR_zero h1, bytes_zero] at h3
        rw [← h3, candI_zero, show recOfL zeroR = bytesR zeroR from rfl, bytes_zero]
    · intro h
      obtain ⟨h2, h3⟩ := recOfL_len h hd
      by_cases h1 : d.getD 0 0 = 1
      · rw [candI_one h1] at h2 h3
        rw [readB_at hd h2]; simpa using h3
      · have hl : (candI d).live = false := decide_eq_false h1
        have hz : candI d = zeroR := by
          rcases recOkB_cases h2 with h | h
          · exact h
          · rw [liveB_dead hl] at h; cases h
        rw [hz] at h3
        rw [readB_at hd (by rw [candR_zero h1]; rfl), candR_zero h1]; simpa using h3
  rw [Bool.eq_iff_iff, iff]; simp
theorem readM_prog {d : List UInt8} (hd : d.length = 37) (h : readB d = true) : readM d = candI d := by
  rw [readM_yes h]
  rw [readB_prog hd] at h
  have h : recOfL (candI d) = d := by simpa using h
  by_cases h1 : d.getD 0 0 = 1
  · rw [candI_one h1]
  · obtain ⟨h2, h3⟩ := recOfL_len h hd
    have hl : (candI d).live = false := decide_eq_false h1
    rw [candR_zero h1]
    rcases recOkB_cases h2 with h | h
    · exact h.symm
    · rw [liveB_dead hl] at h; cases h
theorem bytesEqualV (v1 v2 : Value) (n1 n2 c1 c2 : Nat) (a1 a2 : Option Addr) (l1 l2 : List UInt8) (w : World) (h1 : v1 = .slice a1 n1 c1) (h2 : v2 = .slice a2 n2 c2)
    (k1 : (convert 22 9 v1).run Try.prog w = .ok (.string (strL l1)) w) (k2 : (convert 22 9 v2).run Try.prog w = .ok (.string (strL l2)) w) :
    Calls Try.prog 43 #[v1, v2] w fun e w' => e = .returned (.bool (l1 == l2)) ∧ w = w' := by
  subst h1 h2
  go_enter Try.func43, Try.ntmps43
  go_wp2
  go_ret
  exact ⟨ret_bool (by rw [strL_toList, strL_toList]), rfl⟩
set_option maxHeartbeats 8000000 in
theorem uImplRecRead (c : Value) (d : List UInt8) (w : World) (h : ByteSIn [c] d w) :
    Calls Try.prog 15 #[c] w fun e w' => ∃ c0 c1 c2 c3, e = .returned (.tuple #[.agg #[c0, c1, c2, c3], .bool (readB d)]) ∧ RecOwn w.heap.size w'.heap.size [c0, c1, c2, c3] (readM d) w' ∧ Below w.heap.size w w' := by
  obtain ⟨a, cap, rfl, hcap, hm, r⟩ := byteSIn_shape h
  unfold maxLen at hm
  clear h
  by_cases h37 : d.length = 37
  · have hr0 : ∃ b off, a = some ⟨b, off, none⟩ := by
      rcases r with r | ⟨b, off, rfl, _⟩
      · have : d = [] := by simpa using r
        subst this; simp at h37
      · exact ⟨b, off, rfl⟩
    obtain ⟨b, off, rfl⟩ := hr0
    have RC : Hid (∀ w', Below w.heap.size w w' → ∀ i, i < d.length → w'.cell? ⟨b, off + i, none⟩ = (d.map bval)[i]?) := Lib.hid (fun w' hb i hi => by
      obtain ⟨b', off', e, hc⟩ := ((lies_row r).below hb).now.at (i := i) (by simpa using hi)
      simp at e
      obtain ⟨rfl, rfl⟩ := e
      exact hc)
    have RW : Hid (∀ w', Below w.heap.size w w' → Row w' (some ⟨b, off + 4, none⟩) ((d.drop 4).map bval)) := Lib.hid (fun w' hb => by
      have := ((lies_row r).below hb).now.map_cut 4 33 (by simp; omega)
      rw [List.map_drop, ← List.take_of_length_le (l := (d.map bval).drop 4) (i := 33) (by simp; omega)]
      simpa [Addr.add] using this)
    have at_ : ∀ i, i < 37 → w.cell? ⟨b, off + i, none⟩ = some (.int .u8 ((d.getD i 0).toNat : Int)) := fun i hi => by
      obtain ⟨b', off', e, hc⟩ := r.at (i := i) (by simp; omega)
      simp at e
      obtain ⟨rfl, rfl⟩ := e
      rw [hc, bval_at (by omega)]
      simp [show i < d.length from by omega]
    have bl : b < w.heap.size := block_lt_of_cell (at_ 0 (by omega))
    have hL4 : (d.drop 4).length = 33 := by simp; omega
    have UP := Lib.hid (fun w' (hb : Below w.heap.size w w') => implUnpad (cap - 4) (some ⟨b, off + 4, none⟩) (d.drop 4) w' (by rw [hL4]; unfold maxLen; omega) (by omega) (RW.out w' hb))
    rw [hL4] at UP
    have CW := Lib.hid (candI_word d)
    have RP := Lib.hid (readB_prog h37)
    have RM := Lib.hid (And.intro (readM_no (d := d)) (readM_prog h37))
    have hE : candI d = ⟨decide ((d.getD 0 0).toNat = 1), (d.getD 1 0).toNat, 256 * ((d.getD 2 0).toNat : Int) + ((d.getD 3 0).toNat : Int), strL (unpL (d.drop 4))⟩ := by
      unfold candI
      congr 1
      exact decide_eq_decide.2 ⟨fun h => by rw [h]; rfl, fun h => UInt8.toNat_inj.1 h⟩
    have c0 := at_ 0 (by omega)
    have c1 := at_ 1 (by omega)
    have c2 := at_ 2 (by omega)
    have c3 := at_ 3 (by omega)
    have x0 := (d.getD 0 0).toNat_lt
    have x1 := (d.getD 1 0).toNat_lt
    have x2 := (d.getD 2 0).toNat_lt
    have x3 := (d.getD 3 0).toNat_lt
    rw [Nat.add_zero] at c0
    generalize (d.getD 0 0).toNat = n0 at *
    generalize (d.getD 1 0).toNat = n1 at *
    generalize (d.getD 2 0).toNat = n2 at *
    generalize (d.getD 3 0).toNat = n3 at *
    clear at_ r hL4
    generalize candI d = rc at *
    subst hE
    simp only at CW
    have CWs := CW.out
    have hz : (strL (unpL (d.drop 4))).size ≤ maxLen := by unfold maxLen; omega
    generalize strL (unpL (d.drop 4)) = sw at *
    generalize unpB (d.drop 4) = ub at *
    have O2 := or_256 n2 n3 (by omega) (by omega)
    obtain ⟨lv, hlv⟩ : ∃ lv, decide (n0 = 1) = lv := ⟨_, rfl⟩
    have hln : ((n0 : Int) == 1) = lv := by rw [← hlv, Bool.eq_iff_iff]; simp; omega
    rw [hlv] at RP RM
    clear hlv CW CWs
    have RF := Lib.hid (fun w => implRecOfR ⟨lv, n1, 256 * (n2 : Int) + (n3 : Int), sw⟩ w hz)
    have OE : Hid (∀ (l : List UInt8), recOfL ⟨lv, n1, 256 * (n2 : Int) + (n3 : Int), sw⟩ = l → l.length = 0 ∨ l.length = 37) := Lib.hid (fun l hl => by
      rw [← hl]; unfold recOfL; split
      · exact .inr (bytesR_length _)
      · exact .inl rfl)
    unfold RecM.cells at RF
    simp only at RF
    have hcp : ¬ cap = 4 := by omega
    have hcq : 4 ≤ cap := by omega
    have hlB : ((d.length : Int) != 37) = false := by simp [h37]
    have CV := Lib.hid (fun w' (hb : Below w.heap.size w w') => conv_row (cap := cap) rfl (RC.out w' hb))
    clear RC
    obtain ⟨W, hW⟩ : ∃ W, W = (w.alloc (.cells #[.bool false, .int .i64 0, .int .i64 0, .string ⟨#[]⟩] 25)) := ⟨_, rfl⟩
    have K0 := Lib.hid (show W.heap[w.heap.size]? = some (.cells #[.bool false, .int .i64 0, .int .i64 0, .string ⟨#[]⟩] 25 (0, 0)) by rw [hW]; exact (alloc_at _ _ _ rfl))
    have HB := Lib.hid (show Below w.heap.size w W by rw [hW]; exact (below_box (Below.refl _ w) _))
    generalize d.length = dl at *
    subst h37
    go_enter Try.func15, Try.ntmps15
    go_wp2_with fail
    rw [← hW]
    clear hW
    refine (UP.out W HB.out).mono ?_
    rintro e w1 ⟨rfl, hb⟩
    replace K0 := Lib.hid (kept_block K0.out hb)
    replace HB := Lib.hid (below_seq HB.out hb)
    replace c0 := cell_keep c0 HB.out
    replace c1 := cell_keep c1 HB.out
    replace c2 := cell_keep c2 HB.out
    replace c3 := cell_keep c3 HB.out
    clear hb UP RW
    go_upto_region 4 with fail
    go_region_held3 (fun w' => w'.cell? ⟨b, off, none⟩ = some (.int .u8 n0) ∧ w'.cell? ⟨b, off + 1, none⟩ = some (.int .u8 n1) ∧ w'.cell? ⟨b, off + 2, none⟩ = some (.int .u8 n2) ∧ w'.cell? ⟨b, off + 3, none⟩ = some (.int .u8 n3)) (go_keep) (fail)
    go_wp2_with fail
    obtain ⟨W2, hW2⟩ : ∃ W2, W2 = (w1.alloc (.cells #[.bool lv, .int .i64 n1, .int .i64 (256 * (n2 : Int) + (n3 : Int)), .string sw] 25)).drew := ⟨_, rfl⟩
    rw [← hW2]
    have KT := Lib.hid (show W2.heap[w1.heap.size]? = some (.cells #[.bool lv, .int .i64 n1, .int .i64 (256 * (n2 : Int) + (n3 : Int)), .string sw] 25 (0, 0)) by rw [hW2]; exact alloc_at _ _ _ rfl)
    have BX := Lib.hid (show Below w1.heap.size w1 W2 by rw [hW2]; exact below_drew (below_box (Below.refl _ w1) _))
    clear hW2 c0 c1 c2 c3 O2 hln
    refine (RF.out _).mono ?_
    rintro e w2 ⟨c5, rfl, ⟨a5, k5, he, how, _⟩, hb⟩
    simp at he
    subst he
    have cv1 := conv_any how
    replace K0 := Lib.hid (kept_block (kept_block K0.out BX.out) hb)
    replace KT := Lib.hid (kept_block KT.out hb)
    replace HB := Lib.hid (below_seq (below_seq HB.out BX.out) hb)
    have cv2 := CV.out w2 HB.out
    have EQ := Lib.hid (bytesEqualV _ _ _ _ _ _ _ _ _ _ w2 rfl rfl cv1 cv2)
    clear cv1 cv2 how hb BX RF CV OE
    go_wp2_with fail
    refine EQ.out.mono ?_
    rintro e w3 ⟨rfl, rfl⟩
    rw [← RP.out]
    clear EQ RP
    cases hq : readB d
    · have RQ := Lib.hid (RM.out.1 hq)
      have HQ := Lib.hid hq
      clear RM hq
      have r0 := cur_cell K0.out 0
      have r1 := cur_cell K0.out 1
      have r2 := cur_cell K0.out 2
      have r3 := cur_cell K0.out 3
      have fr0 := cur_free K0.out 0
      have fr1 := cur_free K0.out 1
      have fr2 := cur_free K0.out 2
      have fr3 := cur_free K0.out 3
      simp at r0 r1 r2 r3
      have GV := Lib.hid (fun W' (C : Chg w.heap.size (w.heap.size + 1) w2 W') => Chg.below HB.out C (Nat.le_refl _))
      clear K0 KT HB
      go_wp2
      exact bodyPost_ret (v := .tuple #[.agg #[.bool false, .int .i64 0, .int .i64 0, .string ⟨#[]⟩], .bool false]) (by simp [results, Try.results15, go_sem, r0, r1, r2, r3]) rfl ⟨_, _, _, _, by rw [HQ.out], by rw [RQ.out]; rfl, GV.out _ (chg_rec (Chg.refl _ _ w2) ⟨Nat.le_refl _, by omega⟩ _ _ _ _)⟩
    · have RQ := Lib.hid (RM.out.2 hq)
      have HQ := Lib.hid hq
      clear RM hq
      have t0 := cur_cell KT.out 0
      have t1 := cur_cell KT.out 1
      have t2 := cur_cell KT.out 2
      have t3 := cur_cell KT.out 3
      simp at t0 t1 t2 t3
      have r0 := cur_cell K0.out 0
      have r1 := cur_cell K0.out 1
      have r2 := cur_cell K0.out 2
      have r3 := cur_cell K0.out 3
      have fr0 := cur_free K0.out 0
      have fr1 := cur_free K0.out 1
      have fr2 := cur_free K0.out 2
      have fr3 := cur_free K0.out 3
      simp at r0 r1 r2 r3
      have GV := Lib.hid (fun W' (C : Chg w.heap.size (w.heap.size + 1) w2 W') => Chg.below HB.out C (Nat.le_refl _))
      clear K0 KT HB
      go_wp2
      exact bodyPost_ret (v := .tuple #[.agg #[.bool lv, .int .i64 n1, .int .i64 (256 * (n2 : Int) + (n3 : Int)), .string sw], .bool true]) (by simp [results, Try.results15, go_sem, r0, r1, r2, r3]) rfl ⟨_, _, _, _, by rw [HQ.out], by rw [RQ.out]; rfl, GV.out _ (chg_rec (Chg.refl _ _ w2) ⟨Nat.le_refl _, by omega⟩ _ _ _ _)⟩
  · have e := readB_len h37
    have hB : ((d.length : Int) != 37) = true := by simp; omega
    rw [readM_no e, e]
    clear r e h37
    go_enter Try.func15, Try.ntmps15
    go_wp2
    exact bodyPost_ret (v := .tuple #[.agg #[.bool false, .int .i64 0, .int .i64 0, .string ⟨#[]⟩], .bool false]) (by simp [results, Try.results15, go_sem]) rfl ⟨_, _, _, _, rfl, rfl, below_box (Below.refl _ _) _⟩
set_option maxHeartbeats 2000000 in
theorem uImplRecPair (c0 c1 c2 c3 : Value) (a : RecM) (d0 d1 d2 d3 : Value) (b : RecM) (w : World) (h : RecIn [c0, c1, c2, c3] a w) (k : RecIn [d0, d1, d2, d3] b w) (h1 : recBd a) (h2 : recBd b) : Calls Try.prog 20 #[.agg #[c0, c1, c2, c3], .agg #[d0, d1, d2, d3]] w (PairRet (pairA a b) (pairB a b) w) := by
  obtain ⟨rfl, rfl, rfl, rfl⟩ := recIn_cells h
  obtain ⟨rfl, rfl, rfl, rfl⟩ := recIn_cells k
  have AH := Lib.hid (fun w => implRecAheadR b a w h2.2.2 h1.2.2)
  unfold pairA pairB
  clear h k h1 h2
  obtain ⟨la, da, ta, wa⟩ := a
  obtain ⟨lb, db, tb, wb⟩ := b
  unfold RecM.cells at AH
  simp only at AH ⊢
  generalize aheadB ⟨lb, db, tb, wb⟩ ⟨la, da, ta, wa⟩ = q at *
  cases q
  all_goals
   obtain ⟨w0, hw0⟩ : ∃ w0, w0 = (((w.alloc (.cells #[.bool la, .int .i64 da, .int .i64 ta, .string wa] 25)).alloc (.cells #[.bool lb, .int .i64 db, .int .i64 tb, .string wb] 25)).alloc (.cells #[.bool false, .int .i64 0, .int .i64 0, .string ⟨#[]⟩] 25)).alloc (.cells #[.bool false, .int .i64 0, .int .i64 0, .string ⟨#[]⟩] 25) := ⟨_, rfl⟩
   have K1 := Lib.hid (show w0.heap[w.heap.size]? = some (.cells #[.bool la, .int .i64 da, .int .i64 ta, .string wa] 25 (0, 0)) by rw [hw0]; exact (alloc_old _ _ _ (by simp; omega)).trans ((alloc_old _ _ _ (by simp; omega)).trans ((alloc_old _ _ _ (by simp)).trans (alloc_at _ _ _ rfl))))
   have K2 := Lib.hid (show w0.heap[w.heap.size + 1]? = some (.cells #[.bool lb, .int .i64 db, .int .i64 tb, .string wb] 25 (0, 0)) by rw [hw0]; exact (alloc_old _ _ _ (by simp)).trans ((alloc_old _ _ _ (by simp)).trans (alloc_at _ _ _ (by simp))))
   have K3 := Lib.hid (show w0.heap[w.heap.size + 1 + 1]? = some (.cells #[.bool false, .int .i64 0, .int .i64 0, .string ⟨#[]⟩] 25 (0, 0)) by rw [hw0]; exact (alloc_old _ _ _ (by simp)).trans (alloc_at _ _ _ (by simp)))
   have K4 := Lib.hid (show w0.heap[w.heap.size + 1 + 1 + 1]? = some (.cells #[.bool false, .int .i64 0, .int .i64 0, .string ⟨#[]⟩] 25 (0, 0)) by rw [hw0]; exact alloc_at _ _ _ (by simp))
   have HB := Lib.hid (show Below w.heap.size w w0 by rw [hw0]; exact below_box (below_box (below_box (below_box (Below.refl _ w) _) _) _) _)
   go_enter Try.func20, Try.ntmps20
   go_wp2_with fail
   rw [← hw0]
   clear hw0
   refine (AH.out _).mono ?_
   rintro e w1 ⟨rfl, hb⟩
   replace K1 := Lib.hid (kept_block K1.out hb)
   replace K2 := Lib.hid (kept_block K2.out hb)
   replace K3 := Lib.hid (kept_block K3.out hb)
   replace K4 := Lib.hid (kept_block K4.out hb)
   replace HB := Lib.hid (below_seq HB.out hb)
   clear hb AH
   have a0 := cur_cell K1.out 0
   have a1 := cur_cell K1.out 1
   have a2 := cur_cell K1.out 2
   have a3 := cur_cell K1.out 3
   have b0 := cur_cell K2.out 0
   have b1 := cur_cell K2.out 1
   have b2 := cur_cell K2.out 2
   have b3 := cur_cell K2.out 3
   have r0 := cur_cell K3.out 0
   have r1 := cur_cell K3.out 1
   have r2 := cur_cell K3.out 2
   have r3 := cur_cell K3.out 3
   have s0 := cur_cell K4.out 0
   have s1 := cur_cell K4.out 1
   have s2 := cur_cell K4.out 2
   have s3 := cur_cell K4.out 3
   have fr0 := cur_free K3.out 0
   have fr1 := cur_free K3.out 1
   have fr2 := cur_free K3.out 2
   have fr3 := cur_free K3.out 3
   have fs0 := cur_free K4.out 0
   have fs1 := cur_free K4.out 1
   have fs2 := cur_free K4.out 2
   have fs3 := cur_free K4.out 3
   simp at a0 a1 a2 a3 b0 b1 b2 b3 r0 r1 r2 r3 s0 s1 s2 s3
   have GV := Lib.hid (fun W' (C : Chg w.heap.size (w.heap.size + 4) w1 W') => Chg.below HB.out C (Nat.le_refl _))
   clear K1 K2 K3 K4
   go_wp2_with fail
   go_region
   go_wp2
   first
     | exact bodyPost_ret (v := .tuple #[.agg #[.bool la, .int .i64 da, .int .i64 ta, .string wa], .agg #[.bool lb, .int .i64 db, .int .i64 tb, .string wb]]) (by simp [results, Try.results20, go_sem, r0, r1, r2, r3, s0, s1, s2, s3]) rfl ⟨_, _, _, _, _, _, _, _, w.heap.size, rfl, rfl, rfl, Nat.le_refl _, (GV.out _ ((chg_rec (chg_rec (Chg.refl _ _ w1) ⟨by omega, by omega⟩ _ _ _ _) ⟨by omega, by omega⟩ _ _ _ _).trans (Chg.of_below (belowN 1)))).size, GV.out _ ((chg_rec (chg_rec (Chg.refl _ _ w1) ⟨by omega, by omega⟩ _ _ _ _) ⟨by omega, by omega⟩ _ _ _ _).trans (Chg.of_below (belowN 1)))⟩
     | exact bodyPost_ret (v := .tuple #[.agg #[.bool lb, .int .i64 db, .int .i64 tb, .string wb], .agg #[.bool la, .int .i64 da, .int .i64 ta, .string wa]]) (by simp [results, Try.results20, go_sem, r0, r1, r2, r3, s0, s1, s2, s3]) rfl ⟨_, _, _, _, _, _, _, _, w.heap.size, rfl, rfl, rfl, Nat.le_refl _, (GV.out _ ((chg_rec (chg_rec (Chg.refl _ _ w1) ⟨by omega, by omega⟩ _ _ _ _) ⟨by omega, by omega⟩ _ _ _ _).trans (Chg.of_below (belowN 1)))).size, GV.out _ ((chg_rec (chg_rec (Chg.refl _ _ w1) ⟨by omega, by omega⟩ _ _ _ _) ⟨by omega, by omega⟩ _ _ _ _).trans (Chg.of_below (belowN 1)))⟩
set_option maxHeartbeats 4000000 in
theorem uImplRecsOk (c : Value) (l : List RecM) (w : World) (h : RecSIn [c] l w) (hb : ∀ t ∈ l, recBd t) : Calls Try.prog 35 #[c] w fun e w' => e = .returned (.bool (recsOkB l)) ∧ Below w.heap.size w w' := by
  obtain ⟨a, cap, rfl, hcap, hm, r⟩ := recSIn_shape h
  unfold maxLen at hm
  have R := Lib.hid r
  have HB := Lib.hid hb
  clear h r hb
  by_cases hl : l.length ≤ 64
  · rw [recsOkB_at hl]
    have hg : ¬ (64 : Int) < (l.length : Int) := by omega
    go_enter Try.func35, Try.ntmps35
    go_wp2
    go_loopw [10] (fun i wr => ∃ k : Nat, k ≤ l.length ∧ i = .int .i64 k ∧ Hid ((l.take k).all recOkB = true ∧ Below w.heap.size w wr)) (fun i _ => l.length - (intOf i).toNat)
    case atStart => exact ⟨0, Nat.zero_le _, rfl, Lib.hid ⟨by simp, Below.refl _ _⟩⟩
    case round =>
      obtain ⟨k, hk, rfl, H⟩ := hrel
      by_cases hlt : k < l.length
      · obtain ⟨b1, o1, rfl, q0, q1, q2, q3⟩ := (R.out.below H.out.2).rec hlt
        have BD := HB.out _ (List.getElem_mem hlt)
        have OK := Lib.hid (fun w => implRecOk l[k] w BD.2.2)
        have A1 := Lib.hid (fun h => recs_take hlt H.out.1 h)
        have A0 := Lib.hid (fun h => recs_bad (l := l) hlt h)
        clear BD
        cases ho : recOkB l[k]
        all_goals
          rw [ho] at OK
          unfold RecM.cells at OK
          generalize l[k].live = x0 at *
          generalize l[k].dist = x1 at *
          generalize l[k].weight = x2 at *
          generalize l[k].word = x3 at *
          have HO := Lib.hid ho
          clear ho
          go_wp2_with fail
          refine (OK.out _).mono ?_
          rintro e w2 ⟨rfl, hb⟩
          have B2 := Lib.hid (below_seq (below_box H.out.2 _) hb)
          clear hb OK q0 q1 q2 q3 H
        · have E := Lib.hid (A0.out HO.out)
          clear A0 A1 HO
          go_wp2
          go_ret
          exact ⟨ret_bool E.out.symm, B2.out⟩
        · have E := Lib.hid (A1.out HO.out)
          clear A0 A1 HO
          go_wp2
          go_roundw
          case rel => exact ⟨k + 1, by omega, by go_num, Lib.hid ⟨E.out, B2.out⟩⟩
          case measure => simp [intOf]; omega
      · have E : Hid (l.all recOkB = true) := Lib.hid (by have := H.out.1; rwa [List.take_of_length_le (by omega)] at this)
        go_wp2
        go_ret
        exact ⟨ret_bool E.out.symm, H.out.2⟩
  · rw [recsOkB_long (by omega)]
    have hg : (64 : Int) < (l.length : Int) := by omega
    go_enter Try.func35, Try.ntmps35
    go_wp2
    go_ret
    exact ⟨rfl, Below.refl _ _⟩
theorem uImplRecOk (c0 c1 c2 c3 : Value) (m : RecM) (w : World) (h : RecIn [c0, c1, c2, c3] m w) (hb : recBd m) : Calls Try.prog 23 #[.agg #[c0, c1, c2, c3]] w fun e w' => e = .returned (.bool (recOkB m)) ∧ Below w.heap.size w w' := by
  obtain ⟨rfl, rfl, rfl, rfl⟩ := recIn_cells h
  exact implRecOk m w hb.2.2
theorem uImplRecOf (c0 c1 c2 c3 : Value) (m : RecM) (w : World) (h : RecIn [c0, c1, c2, c3] m w) (hb : recBd m) : Calls Try.prog 13 #[.agg #[c0, c1, c2, c3]] w (ByteSRet (recOfL m) w) := by
  obtain ⟨rfl, rfl, rfl, rfl⟩ := recIn_cells h
  exact implRecOfR m w hb.2.2
theorem uImplRecAhead (c0 c1 c2 c3 : Value) (m : RecM) (d0 d1 d2 d3 : Value) (n : RecM) (w : World) (h : RecIn [c0, c1, c2, c3] m w) (k : RecIn [d0, d1, d2, d3] n w) (hb : recBd m) (kb : recBd n) : Calls Try.prog 18 #[.agg #[c0, c1, c2, c3], .agg #[d0, d1, d2, d3]] w fun e w' => e = .returned (.bool (aheadB m n)) ∧ Below w.heap.size w w' := by
  obtain ⟨rfl, rfl, rfl, rfl⟩ := recIn_cells h
  obtain ⟨rfl, rfl, rfl, rfl⟩ := recIn_cells k
  exact implRecAheadR m n w hb.2.2 kb.2.2
end Go.Proofs.Ytkcplnmhonhmaaa
