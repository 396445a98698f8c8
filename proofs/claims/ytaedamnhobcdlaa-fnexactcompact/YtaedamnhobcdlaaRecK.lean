/- Records in the program: RecRead. -/
import Derived.Test.YtaedamnhobcdlaaRecJ
import Derived.Test.YtaedamnhobcdlaaRecW
namespace Go.Proofs.Ytaedamnhobcdlaa
open Go.RowKit
open Go.Lib (compareBytes)
set_option linter.unusedVariables false
set_option maxRecDepth 100000

theorem i64_or_nat (a b : Nat) (ha : a < 4611686018427387904) (hb : b < 4611686018427387904) : bits .or .i64 (a : Int) (b : Int) = ((a ||| b : Nat) : Int) := by
  have hx : a ||| b < 2 ^ 62 := Nat.or_lt_two_pow (by omega) (by omega)
  show IntKind.i64.wrap ((BitVec.ofInt 64 (a : Int) ||| BitVec.ofInt 64 (b : Int)).toNat : Int) = _
  rw [BitVec.toNat_or]
  have e1 : (BitVec.ofInt 64 (a : Int)).toNat = a := by simp; omega
  have e2 : (BitVec.ofInt 64 (b : Int)).toNat = b := by simp; omega
  rw [e1, e2]
  exact IntWalk.i64_in _ (by omega)
theorem or_256 (a b : Nat) (ha : a < 65536) (hb : b < 256) : bits .or .i64 ((a : Int) * 256) (b : Int) = 256 * (a : Int) + (b : Int) := by
  have h := i64_or_nat (a * 256) b (by omega) (by omega)
  have e : a * 256 ||| b = 256 * a + b := by
    have := Nat.two_pow_add_eq_or_of_lt (i := 8) (b := b) (by omega) a
    rw [show a * 256 = 2 ^ 8 * a from by omega, ← this]
  rw [e] at h
  have e2 : (((a * 256 : Nat)) : Int) = (a : Int) * 256 := by omega
  rw [e2] at h
  rw [h]; omega
/-- The record that the program reads off 37 bytes, before it is asked whether it is one. -/
def candI (d : List UInt8) : RecM := ⟨decide (d.getD 0 0 = 1), (d.getD 1 0).toNat, 256 * ((d.getD 2 0).toNat : Int) + ((d.getD 3 0).toNat : Int), strL (unpL (d.drop 4))⟩
theorem unp_zeros : unpL (List.replicate 33 0) = [] := unp_no (unp_small (by decide))
theorem bytes_zero : bytesR zeroR = List.replicate 37 0 := by
  unfold bytesR headR padL zeroR
  rw [if_neg (by decide)]
  rfl
theorem candI_zero : candI (List.replicate 37 0) = zeroR := by
  unfold candI
  rw [show (List.replicate 37 (0 : UInt8)).drop 4 = List.replicate 33 0 from by simp, unp_zeros]
  rfl
theorem candI_one {d : List UInt8} (h : d.getD 0 0 = 1) : candI d = candR d := by
  unfold candI candR; rw [if_pos h, decide_eq_true h]
theorem candR_zero {d : List UInt8} (h : d.getD 0 0 ≠ 1) : candR d = zeroR := by unfold candR; rw [if_neg h]
theorem candI_word (d : List UInt8) : (candI d).word.size ≤ 32 := by
  have h := cand_word d
  unfold candI
  simp only [strL_size]
  unfold unpL
  split
  · rename_i h
    unfold unpB at h
    simp only [Bool.and_eq_true, decide_eq_true_eq] at h
    have := (word_len h.1.2).2
    omega
  · simp
theorem recOfL_len {r : RecM} {d : List UInt8} (h : recOfL r = d) (hd : d.length = 37) : recOkB r = true ∧ bytesR r = d := by
  unfold recOfL at h
  cases ho : recOkB r
  · rw [ho] at h; simp at h; subst h; simp at hd
  · rw [ho] at h; simpa using h
theorem readB_prog {d : List UInt8} (hd : d.length = 37) : readB d = (recOfL (candI d) == d) := by
  have iff : readB d = true ↔ recOfL (candI d) = d := by
    constructor
    · intro h
      unfold readB at h
      simp only [Bool.and_eq_true, decide_eq_true_eq] at h
      obtain ⟨_, h2, h3⟩ := h
      by_cases h1 : d.getD 0 0 = 1
      · rw [candI_one h1]; unfold recOfL; rw [if_pos h2]; exact h3
      · rw [candR_zero h1, bytes_zero] at h3
        rw [← h3, candI_zero, show recOfL zeroR = bytesR zeroR from rfl, bytes_zero]
    · intro h
      obtain ⟨h2, h3⟩ := recOfL_len h hd
      by_cases h1 : d.getD 0 0 = 1
      · rw [candI_one h1] at h2 h3
        rw [readB_at hd h2]; simpa using h3
      · have hl : (candI d).live = false := decide_eq_false h1
        have hz : candI d = zeroR := by
          rcases recOkB_cases h2 with h | h
          · exact h
          · rw [liveB_dead hl] at h; cases h
        rw [hz] at h3
        rw [readB_at hd (by rw [candR_zero h1]; rfl), candR_zero h1]; simpa using h3
  rw [Bool.eq_iff_iff, iff]; simp
theorem readM_prog {d : List UInt8} (hd : d.length = 37) (h : readB d = true) : readM d = candI d := by
  rw [readM_yes h]
  rw [readB_prog hd] at h
  have h : recOfL (candI d) = d := by simpa using h
  by_cases h1 : d.getD 0 0 = 1
  · rw [candI_one h1]
  · obtain ⟨h2, h3⟩ := recOfL_len h hd
    have hl : (candI d).live = false := decide_eq_false h1
    rw [candR_zero h1]
    rcases recOkB_cases h2 with h | h
    · exact h.symm
    · rw [liveB_dead hl] at h; cases h
set_option maxHeartbeats 4000000 in
theorem uImplRecsOk (c : Value) (l : List RecM) (w : World) (h : RecSIn [c] l w) (hb : ∀ t ∈ l, recBd t) : Calls Try.prog 43 #[c] w fun e w' => e = .returned (.bool (recsOkB l)) ∧ Below w.heap.size w w' := by
  obtain ⟨a, cap, rfl, hcap, hm, r⟩ := recSIn_shape h
  unfold maxLen at hm
  have R := Lib.hid r
  have HB := Lib.hid hb
  clear h r hb
  by_cases hl : l.length ≤ 64
  · rw [recsOkB_at hl]
    have hg : ¬ (64 : Int) < (l.length : Int) := by omega
    go_enter Try.func43, Try.ntmps43
    go_wp2
    go_loopw [10] (fun i wr => ∃ k : Nat, k ≤ l.length ∧ i = .int .i64 k ∧ Hid ((l.take k).all recOkB = true ∧ Below w.heap.size w wr)) (fun i _ => l.length - (intOf i).toNat)
    case atStart => exact ⟨0, Nat.zero_le _, rfl, Lib.hid ⟨by simp, Below.refl _ _⟩⟩
    case round =>
      obtain ⟨k, hk, rfl, H⟩ := hrel
      by_cases hlt : k < l.length
      · obtain ⟨b1, o1, rfl, q0, q1, q2, q3⟩ := (R.out.below H.out.2).rec hlt
        have BD := HB.out _ (List.getElem_mem hlt)
        have OK := Lib.hid (fun w => implRecOk l[k] w BD.2.2)
        have A1 := Lib.hid (fun h => recs_take hlt H.out.1 h)
        have A0 := Lib.hid (fun h => recs_bad (l := l) hlt h)
        clear BD
        cases ho : recOkB l[k]
        all_goals
          rw [ho] at OK
          unfold RecM.cells at OK
          generalize l[k].live = x0 at *
          generalize l[k].dist = x1 at *
          generalize l[k].weight = x2 at *
          generalize l[k].word = x3 at *
          have HO := Lib.hid ho
          clear ho
          go_wp2_with fail
          refine (OK.out _).mono ?_
          rintro e w2 ⟨rfl, hb⟩
          have B2 := Lib.hid (below_seq (below_box H.out.2 _) hb)
          clear hb OK q0 q1 q2 q3 H
        · have E := Lib.hid (A0.out HO.out)
          clear A0 A1 HO
          go_wp2
          go_ret
          exact ⟨ret_bool E.out.symm, B2.out⟩
        · have E := Lib.hid (A1.out HO.out)
          clear A0 A1 HO
          go_wp2
          go_roundw
          case rel => exact ⟨k + 1, by omega, by go_num, Lib.hid ⟨E.out, B2.out⟩⟩
          case measure => simp [intOf]; omega
      · have E : Hid (l.all recOkB = true) := Lib.hid (by have := H.out.1; rwa [List.take_of_length_le (by omega)] at this)
        go_wp2
        go_ret
        exact ⟨ret_bool E.out.symm, H.out.2⟩
  · rw [recsOkB_long (by omega)]
    have hg : (64 : Int) < (l.length : Int) := by omega
    go_enter Try.func43, Try.ntmps43
    go_wp2
    go_ret
    exact ⟨rfl, Below.refl _ _⟩
theorem uImplRecOk (c0 c1 c2 c3 : Value) (m : RecM) (w : World) (h : RecIn [c0, c1, c2, c3] m w) (hb : recBd m) : Calls Try.prog 73 #[.agg #[c0, c1, c2, c3]] w fun e w' => e = .returned (.bool (recOkB m)) ∧ Below w.heap.size w w' := by
  obtain ⟨rfl, rfl, rfl, rfl⟩ := recIn_cells h
  exact implRecOk m w hb.2.2
end Go.Proofs.Ytaedamnhobcdlaa
