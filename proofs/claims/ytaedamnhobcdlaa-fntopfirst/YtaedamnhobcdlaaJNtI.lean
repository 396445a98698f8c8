/- NtC, NtI in one. Written by tools/join.py. -/
import Derived.Test.YtaedamnhobcdlaaJNet
import Derived.Test.YtaedamnhobcdlaaJBase
import Derived.Test.YtaedamnhobcdlaaJSeg
import Derived.Deep.QuietTactic
import Derived.BigQuiet
import Derived.Test.YtaedamnhobcdlaaJNtR
import Derived.RangeFuncNested
import Derived.RangeFuncBound
import Derived.RangeFuncCalls
import Derived.RangeFuncLeaves
import Derived.Shelf.Abstract
import Derived.Shelf.RegionOpen
import Derived.WalkKit
import Derived.OwnWalkIn
import Derived.TacticsInMore
import Derived.LoopNIn
import Derived.LoopIn
section
namespace Go.Proofs.Ytaedamnhobcdlaa
open Go.RowKit
set_option linter.unusedVariables false
set_option maxRecDepth 100000

def KeepInt (W W' : World) : Prop := ∀ (k : Nat) (cs : Array Value) (fr : Nat × Nat), W.heap[k]? = some (.cells cs 3 fr) → W'.heap[k]? = some (.cells cs 3 fr)
/-- v is a function value that answers σ, now and as long as the cells of numbers lie as they lie. -/
def IsStep (W : World) (v : Value) (σ : Nat → Nat) : Prop := ∃ (f : Nat) (caps : Array Value), v = .func (.func f) #[] caps ∧ (∀ args w, (callFunc f args).run Try.prog w = .ok (.enter f args) w) ∧
  ∀ W', KeepInt W W' → ∀ p : Nat, p < 64 → Calls Try.prog f (#[.int .i64 p] ++ caps) W' fun e w => e = .returned (.int .i64 ((σ p : Nat) : Int)) ∧ ∃ j, w = W'.drewN j
theorem KeepInt.refl (W : World) : KeepInt W W := fun _ _ _ h => h
theorem KeepInt.trans {A B C : World} (h : KeepInt A B) (k : KeepInt B C) : KeepInt A C := fun i cs fr e => k i cs fr (h i cs fr e)
theorem KeepInt.below {W W' : World} (h : Below W.heap.size W W') : KeepInt W W' := fun k cs fr e => kept_block e h
theorem IsStep.keep {W W' : World} {v : Value} {σ : Nat → Nat} (h : IsStep W v σ) (k : KeepInt W W') : IsStep W' v σ := by
  obtain ⟨f, caps, rfl, h1, h2⟩ := h
  exact ⟨f, caps, rfl, h1, fun W2 k2 => h2 W2 (k.trans k2)⟩
set_option maxHeartbeats 400000 in
theorem hal1 (h p B : Nat) (w : World) (h1 : 1 ≤ h) (h2 : h ≤ 64) (hp : p < 64) (hb : w.cell? ⟨B, 0, none⟩ = some (.int .i64 h)) : Calls Try.prog 101 #[.int .i64 p, .pointer (some ⟨B, 0, none⟩)] w fun e w' => e = .returned (.int .i64 ((halF h p : Nat) : Int)) ∧ ∃ j, w' = w.drewN j := by
  have e1 : (p : Int) % (2 * (h : Int)) = ((p % (2 * h) : Nat) : Int) := by simp
  have e2 : (p : Int).tmod (2 * (h : Int)) = ((p % (2 * h) : Nat) : Int) := by rw [Int.tmod_eq_emod_of_nonneg (by omega)]; exact e1
  have hnz : ((2 * (h : Int)) == 0) = false := by simp; omega
  have hnz2 : ((2 * (h : Int)) != 0) = true := by simp; omega
  have hnz3 : ¬ (2 * (h : Int)) = 0 := by omega
  have hw : IntKind.i64.wrap (2 * (h : Int)) = 2 * (h : Int) := wrap_small _ (by omega) (by omega)
  have hqp : p % (2 * h) ≤ p := Nat.mod_le _ _
  by_cases g : h ≤ p % (2 * h)
  · have E : Hid (halF h p = p) := Lib.hid (by unfold halF; rw [if_pos g])
    generalize p % (2 * h) = q at *
    have hwq : IntKind.i64.wrap (q : Int) = q := wrap_small _ (by omega) (by omega)
    go_enter Try.func101, Try.ntmps101
    go_wp2_with fail
    go_quiet (fail)
    go_wp2
    go_ret
    exact ⟨ret_int (by rw [E.out]), _, rfl⟩
  · have E : Hid (halF h p = p + h) := Lib.hid (by unfold halF; rw [if_neg g])
    generalize p % (2 * h) = q at *
    have hwq : IntKind.i64.wrap (q : Int) = q := wrap_small _ (by omega) (by omega)
    go_enter Try.func101, Try.ntmps101
    go_wp2_with fail
    go_quiet (fail)
    go_wp2
    go_ret
    exact ⟨ret_int (by rw [E.out]; omega), _, rfl⟩
set_option maxHeartbeats 400000 in
theorem implHal (h : Nat) (w : World) (h1 : 1 ≤ h) (h2 : h ≤ 64) : Calls Try.prog 82 #[.int .i64 h] w fun e w' => (∃ v, e = .returned v ∧ IsStep w' v (halF h)) ∧ w' = w.alloc (.cells #[.int .i64 h] 3) := by
  go_enter Try.func82, Try.ntmps82
  go_wp2
  go_ret
  refine ⟨⟨_, rfl, 101, #[.pointer (some ⟨w.heap.size, 0, none⟩)], rfl, Try.call101, fun W' k p hp => ?_⟩, rfl⟩
  exact hal1 h p w.heap.size W' h1 h2 hp (cur_cell (k _ _ _ (alloc_at w _ _ rfl)) 0)
set_option maxHeartbeats 400000 in
theorem mir1 (s p B : Nat) (w : World) (h1 : 2 ≤ s) (h2 : s ≤ 64) (hp : p < 64) (hb : w.cell? ⟨B, 0, none⟩ = some (.int .i64 s)) : Calls Try.prog 100 #[.int .i64 p, .pointer (some ⟨B, 0, none⟩)] w fun e w' => e = .returned (.int .i64 ((mirF s p : Nat) : Int)) ∧ ∃ j, w' = w.drewN j := by
  have e1 : (p : Int) % (s : Int) = ((p % s : Nat) : Int) := by simp
  have hqp : p % s ≤ p := Nat.mod_le _ _
  have hqs : p % s < s := Nat.mod_lt _ (by omega)
  have hs0 : s ≠ 0 := by omega
  by_cases g : s / 2 ≤ p % s
  · have E : Hid (mirF s p = p) := Lib.hid (by unfold mirF; rw [if_pos g])
    generalize p % s = q at *
    go_enter Try.func100, Try.ntmps100
    go_wp2
    go_ret
    exact ⟨ret_int (by rw [E.out]), 0, rfl⟩
  · have E : Hid (mirF s p = p - p % s + s - 1 - p % s) := Lib.hid (by unfold mirF; rw [if_neg g])
    generalize p % s = q at *
    go_enter Try.func100, Try.ntmps100
    go_wp2
    go_ret
    exact ⟨ret_int (by rw [E.out]; omega), 0, rfl⟩
set_option maxHeartbeats 400000 in
theorem implMir (s : Nat) (w : World) (h1 : 2 ≤ s) (h2 : s ≤ 64) : Calls Try.prog 81 #[.int .i64 s] w fun e w' => (∃ v, e = .returned v ∧ IsStep w' v (mirF s)) ∧ w' = w.alloc (.cells #[.int .i64 s] 3) := by
  go_enter Try.func81, Try.ntmps81
  go_wp2
  go_ret
  refine ⟨⟨_, rfl, 100, #[.pointer (some ⟨w.heap.size, 0, none⟩)], rfl, Try.call100, fun W' k p hp => ?_⟩, rfl⟩
  exact mir1 s p w.heap.size W' h1 h2 hp (cur_cell (k _ _ _ (alloc_at w _ _ rfl)) 0)
set_option maxHeartbeats 400000 in
theorem odd1 (s h p B C : Nat) (w : World) (h1 : 2 ≤ s) (h2 : s ≤ 64) (h3 : 1 ≤ h) (h4 : h ≤ s) (hp : p < 64) (hb : w.cell? ⟨B, 0, none⟩ = some (.int .i64 s)) (hc : w.cell? ⟨C, 0, none⟩ = some (.int .i64 h)) : Calls Try.prog 102 #[.int .i64 p, .pointer (some ⟨B, 0, none⟩), .pointer (some ⟨C, 0, none⟩)] w fun e w' => e = .returned (.int .i64 ((oddF s h p : Nat) : Int)) ∧ ∃ j, w' = w.drewN j := by
  have e1 : (p : Int) % (s : Int) = ((p % s : Nat) : Int) := by simp
  have hqp : p % s ≤ p := Nat.mod_le _ _
  have hqs : p % s < s := Nat.mod_lt _ (by omega)
  have hs0 : s ≠ 0 := by omega
  have hh0 : h ≠ 0 := by omega
  have e2 : ((p % s : Nat) : Int) / (h : Int) = ((p % s / h : Nat) : Int) := by simp
  have hd : p % s / h ≤ p % s := Nat.div_le_self _ _
  by_cases g : s - h ≤ p % s
  · have E : Hid (oddF s h p = p) := Lib.hid (by unfold oddF; rw [if_pos (.inl g)])
    generalize p % s / h = u at *
    generalize p % s = q at *
    go_enter Try.func102, Try.ntmps102
    go_wp2
    go_ret
    exact ⟨ret_int (by rw [E.out]), 0, rfl⟩
  · by_cases g2 : p % s / h % 2 = 0
    · have E : Hid (oddF s h p = p) := Lib.hid (by unfold oddF; rw [if_pos (.inr g2)])
      generalize p % s / h = u at *
      generalize p % s = q at *
      have b2 : (((u : Int) % 2) == 0) = true := by simp; omega
      have b3 : (u : Int) % 2 = 0 := by omega
      go_enter Try.func102, Try.ntmps102
      go_wp2
      go_ret
      exact ⟨ret_int (by rw [E.out]), 0, rfl⟩
    · have E : Hid (oddF s h p = p + h) := Lib.hid (by unfold oddF; rw [if_neg (by omega)])
      generalize p % s / h = u at *
      generalize p % s = q at *
      have b2 : (((u : Int) % 2) == 0) = false := by simp; omega
      have b3 : (u : Int) % 2 = 1 := by omega
      go_enter Try.func102, Try.ntmps102
      go_wp2
      go_ret
      exact ⟨ret_int (by rw [E.out]; omega), 0, rfl⟩
set_option maxHeartbeats 400000 in
theorem implOdd (s h : Nat) (w : World) (h1 : 2 ≤ s) (h2 : s ≤ 64) (h3 : 1 ≤ h) (h4 : h ≤ s) : Calls Try.prog 84 #[.int .i64 s, .int .i64 h] w fun e w' => (∃ v, e = .returned v ∧ IsStep w' v (oddF s h)) ∧ w' = (w.alloc (.cells #[.int .i64 s] 3)).alloc (.cells #[.int .i64 h] 3) := by
  go_enter Try.func84, Try.ntmps84
  go_wp2
  go_ret
  refine ⟨⟨_, rfl, 102, #[.pointer (some ⟨w.heap.size, 0, none⟩), .pointer (some ⟨w.heap.size + 1, 0, none⟩)], rfl, Try.call102, fun W' k p hp => ?_⟩, rfl⟩
  exact odd1 s h p w.heap.size (w.heap.size + 1) W' h1 h2 h3 h4 hp (cur_cell (k _ _ _ ((alloc_old _ _ _ (by simp)).trans (alloc_at w _ _ rfl))) 0) (cur_cell (k _ _ _ (alloc_at _ _ _ (by simp))) 0)
end Go.Proofs.Ytaedamnhobcdlaa
end

section
namespace Go.Proofs.Ytaedamnhobcdlaa
open Go.RowKit Go.Shelf
set_option linter.unusedVariables false
set_option maxRecDepth 100000
attribute [local go_sem] Oper.semAt_some

/-- The k-th of the steps. -/
def StepV (σs : List (Nat → Nat)) (k : Nat) (v : Value) (W : World) : Prop := ∃ h : k < σs.length, IsStep W v σs[k]
theorem bubS_at : ∀ (r k : Nat) (h : k < (bubS r).length), (bubS r)[k] = neiF (r - k)
  | 0, k, h => by simp [bubS] at h
  | r + 1, 0, h => rfl
  | r + 1, k + 1, h => by
    simp only [bubS, List.getElem_cons_succ]
    rw [bubS_at r k]
    congr 1
    omega
theorem StepV.mid {σs pre rest : List (Nat → Nat)} {σ : Nat → Nat} {v : Value} {W : World} (e : σs = pre ++ σ :: rest) (hv : IsStep W v σ) : StepV σs pre.length v W := by
  subst e
  exact ⟨by simp, by simpa using hv⟩
set_option maxHeartbeats 4000000 in
theorem bitIt (m Bn n l B : Nat) (I : Nat → World → Prop) (Kp : World → World → Prop) (W : World) (h1 : 1 ≤ n) (h2 : n ≤ 64) (hI : ∀ k W1, I k W1 → W1.cell? ⟨Bn, 0, none⟩ = some (.int .i64 n)) :
    SeqAll Try.prog m 80 #[] #[.pointer (some ⟨Bn, 0, none⟩)] (bitS n).length l B I (StepV (bitS n)) Kp W := by
  intro J ja jd jp jr jy j0
  have hE : bitS n = [] ++ ups mirF (fun _ => halF) n 6 2 := rfl
  generalize bitS n = σs at *
  have RD := Lib.hid (fun k W1 (h : J k W1) => hI k W1 (jr _ _ h).1)
  show CallsIn Fence.wide m Try.prog 80 #[.func (.yield l) #[] #[], .pointer (some ⟨Bn, 0, none⟩)] W _
  refine callsIn_of_wp Try.func80 rfl trivial ?_
  simp only [Try.ntmps80, List.size_toArray, List.length_cons, List.length_nil, Nat.reduceAdd, Nat.reduceSub, Array.replicate_succ, Array.replicate_zero, List.push_toArray, List.append_toArray, List.nil_append, List.cons_append]
  gi_wp2
  gi_loopw [3, 4] (fun i _ wr => ∃ (s j : Nat) (pre : List (Nat → Nat)), i = .int .i64 s ∧ 2 ≤ s ∧ s ≤ 128 ∧ Hid (s * 2 ^ j = 128) ∧ Hid (σs = pre ++ ups mirF (fun _ => halF) n j s) ∧ J pre.length wr) (fun i _ _ => 200 - (intOf i).toNat)
  case atStart => exact ⟨2, 6, [], rfl, by omega, by omega, Lib.hid rfl, Lib.hid hE, j0⟩
  case round =>
    clear hE j0
    obtain ⟨s, j, pre, rfl, hs2, hs128, HJ, HE, hj⟩ := hrel
    have q0 := RD.out _ _ hj
    by_cases hsn : s ≤ n
    · obtain ⟨j', rfl⟩ : ∃ j', j = j' + 1 := by
        cases j with
        | zero => have := HJ.out; simp at this; omega
        | succ j' => exact ⟨j', rfl⟩
      have HJ2 : Hid (2 * s * 2 ^ j' = 128) := Lib.hid (by have := HJ.out; rw [Nat.pow_succ] at this; rw [← this, Nat.mul_comm 2 s, Nat.mul_assoc, Nat.mul_comm 2 (2 ^ j')])
      have HE1 : Hid (σs = pre ++ mirF s :: (downs ((fun _ => halF) s) 6 (s / 4) ++ ups mirF (fun _ => halF) n j' (2 * s))) := Lib.hid (by
        have := HE.out
        rw [ups, if_pos hsn] at this
        rw [this]; rfl)
      have C := Lib.hid (implMir s wr hs2 (by omega))
      clear HE HJ
      gi_wp2
      refine ⟨trivial, fun h => (by simp [Fence.wide] at h), (callsIn_wide.2 C.out).mono ?_⟩
      rintro e w1 ⟨⟨v, rfl, hv⟩, hw1⟩
      obtain ⟨fn, tmps, assign, body, hy, hR⟩ := jy pre.length w1 v (by rw [HE1.out]; simp) (by rw [hw1]; exact ja _ _ _ hj) (StepV.mid HE1.out hv)
      clear hv hw1 C q0
      gi_wp2
      refine ⟨fun h => (by simp [Fence.wide] at h), (round_any hR).mono ?_⟩
      rintro e w2 ⟨rfl, hj2, _⟩
      clear hR hy hj
      gi_wp2
      gi_loopw [4] (fun i wq => ∃ (h t : Nat) (pre : List (Nat → Nat)), i = .int .i64 h ∧ h ≤ 16 ∧ h ≤ s ∧ Hid (h < 2 ^ t) ∧ Hid (σs = pre ++ (downs ((fun _ => halF) s) t h ++ ups mirF (fun _ => halF) n j' (2 * s))) ∧ J pre.length wq) (fun i _ => (intOf i).toNat)
      case atStart => exact ⟨s / 4, 6, pre ++ [mirF s], by go_num, by omega, by omega, Lib.hid (by omega), Lib.hid (by rw [HE1.out]; simp), by simpa using hj2⟩
      case round =>
        clear HE1 hj2
        obtain ⟨h, t, pre2, rfl, h16, hhs, HT, HE2, hj⟩ := hrel
        by_cases h0 : h = 0
        · subst h0
          have HE3 : Hid (σs = pre2 ++ ups mirF (fun _ => halF) n j' (2 * s)) := Lib.hid (by have := HE2.out; rw [downs_nil] at this; exact this)
          gi_wp2
          go_roundw
          case rel => exact ⟨2 * s, j', pre2, by go_num, by omega, by omega, HJ2, HE3, hj⟩
          case measure => simp [intOf]; omega
        · obtain ⟨t', rfl⟩ : ∃ t', t = t' + 1 := by
            cases t with
            | zero => have := HT.out; simp at this; omega
            | succ t' => exact ⟨t', rfl⟩
          have HT2 : Hid (h / 2 < 2 ^ t') := Lib.hid (by have := HT.out; rw [Nat.pow_succ] at this; omega)
          have HE3 : Hid (σs = pre2 ++ (fun _ => halF) s h :: (downs ((fun _ => halF) s) t' (h / 2) ++ ups mirF (fun _ => halF) n j' (2 * s))) := Lib.hid (by have := HE2.out; rw [downs_cons _ _ _ h0] at this; exact this)
          have C := Lib.hid (implHal h wr (by omega) (by omega))
          clear HE2 HT
          gi_wp2
          refine ⟨trivial, fun h => (by simp [Fence.wide] at h), (callsIn_wide.2 C.out).mono ?_⟩
          rintro e w1 ⟨⟨v, rfl, hv⟩, hw1⟩
          obtain ⟨fn, tmps, assign, body, hy, hR⟩ := jy pre2.length w1 v (by rw [HE3.out]; simp) (by rw [hw1]; first | exact ja _ _ _ hj | exact ja _ _ _ (ja _ _ _ hj)) (StepV.mid HE3.out hv)
          clear hv hw1 C
          gi_wp2
          refine ⟨fun h => (by simp [Fence.wide] at h), (round_any hR).mono ?_⟩
          rintro e w2 ⟨rfl, hj2, _⟩
          clear hR hy hj
          gi_wp2
          go_roundw
          case rel => exact ⟨h / 2, t', pre2 ++ [(fun _ => halF) s h], by go_num, by omega, by omega, HT2, Lib.hid (by rw [HE3.out]; simp), by simpa using hj2⟩
          case measure => simp [intOf]; omega
    · have HF : Hid (σs = pre) := Lib.hid (by have := HE.out; rw [ups_end _ _ _ _ _ (by omega)] at this; simpa using this)
      gi_wp2
      go_end0
      exact ⟨⟨_, rfl⟩, by rw [HF.out]; exact hj⟩
set_option maxHeartbeats 4000000 in
theorem oeIt (m Bn n l B : Nat) (I : Nat → World → Prop) (Kp : World → World → Prop) (W : World) (h1 : 1 ≤ n) (h2 : n ≤ 64) (hI : ∀ k W1, I k W1 → W1.cell? ⟨Bn, 0, none⟩ = some (.int .i64 n)) :
    SeqAll Try.prog m 83 #[] #[.pointer (some ⟨Bn, 0, none⟩)] (oeS n).length l B I (StepV (oeS n)) Kp W := by
  intro J ja jd jp jr jy j0
  have hE : oeS n = [] ++ ups (fun s => halF (s / 2)) oddF n 6 2 := rfl
  generalize oeS n = σs at *
  have RD := Lib.hid (fun k W1 (h : J k W1) => hI k W1 (jr _ _ h).1)
  show CallsIn Fence.wide m Try.prog 83 #[.func (.yield l) #[] #[], .pointer (some ⟨Bn, 0, none⟩)] W _
  refine callsIn_of_wp Try.func83 rfl trivial ?_
  simp only [Try.ntmps83, List.size_toArray, List.length_cons, List.length_nil, Nat.reduceAdd, Nat.reduceSub, Array.replicate_succ, Array.replicate_zero, List.push_toArray, List.append_toArray, List.nil_append, List.cons_append]
  gi_wp2
  gi_loopw [3, 4] (fun i _ wr => ∃ (s j : Nat) (pre : List (Nat → Nat)), i = .int .i64 s ∧ 2 ≤ s ∧ s ≤ 128 ∧ Hid (s * 2 ^ j = 128) ∧ Hid (σs = pre ++ ups (fun s => halF (s / 2)) oddF n j s) ∧ J pre.length wr) (fun i _ _ => 200 - (intOf i).toNat)
  case atStart => exact ⟨2, 6, [], rfl, by omega, by omega, Lib.hid rfl, Lib.hid hE, j0⟩
  case round =>
    clear hE j0
    obtain ⟨s, j, pre, rfl, hs2, hs128, HJ, HE, hj⟩ := hrel
    have q0 := RD.out _ _ hj
    by_cases hsn : s ≤ n
    · obtain ⟨j', rfl⟩ : ∃ j', j = j' + 1 := by
        cases j with
        | zero => have := HJ.out; simp at this; omega
        | succ j' => exact ⟨j', rfl⟩
      have HJ2 : Hid (2 * s * 2 ^ j' = 128) := Lib.hid (by have := HJ.out; rw [Nat.pow_succ] at this; rw [← this, Nat.mul_comm 2 s, Nat.mul_assoc, Nat.mul_comm 2 (2 ^ j')])
      have HE1 : Hid (σs = pre ++ (fun s => halF (s / 2)) s :: (downs (oddF s) 6 (s / 4) ++ ups (fun s => halF (s / 2)) oddF n j' (2 * s))) := Lib.hid (by
        have := HE.out
        rw [ups, if_pos hsn] at this
        rw [this]; rfl)
      have C := Lib.hid (implHal (s / 2) wr (by omega) (by omega))
      rw [show ((s / 2 : Nat) : Int) = (s : Int) / 2 from by omega] at C
      clear HE HJ
      gi_wp2
      refine ⟨trivial, fun h => (by simp [Fence.wide] at h), (callsIn_wide.2 C.out).mono ?_⟩
      rintro e w1 ⟨⟨v, rfl, hv⟩, hw1⟩
      obtain ⟨fn, tmps, assign, body, hy, hR⟩ := jy pre.length w1 v (by rw [HE1.out]; simp) (by rw [hw1]; exact ja _ _ _ hj) (StepV.mid HE1.out hv)
      clear hv hw1 C q0
      gi_wp2
      refine ⟨fun h => (by simp [Fence.wide] at h), (round_any hR).mono ?_⟩
      rintro e w2 ⟨rfl, hj2, _⟩
      clear hR hy hj
      gi_wp2
      gi_loopw [4] (fun i wq => ∃ (h t : Nat) (pre : List (Nat → Nat)), i = .int .i64 h ∧ h ≤ 16 ∧ h ≤ s ∧ Hid (h < 2 ^ t) ∧ Hid (σs = pre ++ (downs (oddF s) t h ++ ups (fun s => halF (s / 2)) oddF n j' (2 * s))) ∧ J pre.length wq) (fun i _ => (intOf i).toNat)
      case atStart => exact ⟨s / 4, 6, pre ++ [(fun s => halF (s / 2)) s], by go_num, by omega, by omega, Lib.hid (by omega), Lib.hid (by rw [HE1.out]; simp), by simpa using hj2⟩
      case round =>
        clear HE1 hj2
        obtain ⟨h, t, pre2, rfl, h16, hhs, HT, HE2, hj⟩ := hrel
        by_cases h0 : h = 0
        · subst h0
          have HE3 : Hid (σs = pre2 ++ ups (fun s => halF (s / 2)) oddF n j' (2 * s)) := Lib.hid (by have := HE2.out; rw [downs_nil] at this; exact this)
          gi_wp2
          go_roundw
          case rel => exact ⟨2 * s, j', pre2, by go_num, by omega, by omega, HJ2, HE3, hj⟩
          case measure => simp [intOf]; omega
        · obtain ⟨t', rfl⟩ : ∃ t', t = t' + 1 := by
            cases t with
            | zero => have := HT.out; simp at this; omega
            | succ t' => exact ⟨t', rfl⟩
          have HT2 : Hid (h / 2 < 2 ^ t') := Lib.hid (by have := HT.out; rw [Nat.pow_succ] at this; omega)
          have HE3 : Hid (σs = pre2 ++ oddF s h :: (downs (oddF s) t' (h / 2) ++ ups (fun s => halF (s / 2)) oddF n j' (2 * s))) := Lib.hid (by have := HE2.out; rw [downs_cons _ _ _ h0] at this; exact this)
          have C := Lib.hid (implOdd s h wr hs2 (by omega) (by omega) hhs)
          clear HE2 HT
          gi_wp2
          refine ⟨trivial, fun h => (by simp [Fence.wide] at h), (callsIn_wide.2 C.out).mono ?_⟩
          rintro e w1 ⟨⟨v, rfl, hv⟩, hw1⟩
          obtain ⟨fn, tmps, assign, body, hy, hR⟩ := jy pre2.length w1 v (by rw [HE3.out]; simp) (by rw [hw1]; first | exact ja _ _ _ hj | exact ja _ _ _ (ja _ _ _ hj)) (StepV.mid HE3.out hv)
          clear hv hw1 C
          gi_wp2
          refine ⟨fun h => (by simp [Fence.wide] at h), (round_any hR).mono ?_⟩
          rintro e w2 ⟨rfl, hj2, _⟩
          clear hR hy hj
          gi_wp2
          go_roundw
          case rel => exact ⟨h / 2, t', pre2 ++ [oddF s h], by go_num, by omega, by omega, HT2, Lib.hid (by rw [HE3.out]; simp), by simpa using hj2⟩
          case measure => simp [intOf]; omega
    · have HF : Hid (σs = pre) := Lib.hid (by have := HE.out; rw [ups_end _ _ _ _ _ (by omega)] at this; simpa using this)
      gi_wp2
      go_end0
      exact ⟨⟨_, rfl⟩, by rw [HF.out]; exact hj⟩
end Go.Proofs.Ytaedamnhobcdlaa
end
