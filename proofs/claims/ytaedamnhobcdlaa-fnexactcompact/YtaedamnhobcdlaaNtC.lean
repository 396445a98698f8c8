/- The steps of the nets as function values: made, called. -/
import Derived.Test.YtaedamnhobcdlaaNtP
import Derived.Test.YtaedamnhobcdlaaBase
import Derived.Test.YtaedamnhobcdlaaSeg
import Derived.Deep.QuietTactic
import Derived.BigQuiet
namespace Go.Proofs.Ytaedamnhobcdlaa
open Go.RowKit
set_option linter.unusedVariables false
set_option maxRecDepth 100000

def KeepInt (W W' : World) : Prop := ∀ (k : Nat) (cs : Array Value) (fr : Nat × Nat), W.heap[k]? = some (.cells cs 3 fr) → W'.heap[k]? = some (.cells cs 3 fr)
/-- v is a function value that answers σ, now and as long as the cells of numbers lie as they lie. -/
def IsStep (W : World) (v : Value) (σ : Nat → Nat) : Prop := ∃ (f : Nat) (caps : Array Value), v = .func (.func f) #[] caps ∧ (∀ args w, (callFunc f args).run Try.prog w = .ok (.enter f args) w) ∧
  ∀ W', KeepInt W W' → ∀ p : Nat, p < 64 → Calls Try.prog f (#[.int .i64 p] ++ caps) W' fun e w => e = .returned (.int .i64 ((σ p : Nat) : Int)) ∧ ∃ j, w = W'.drewN j
theorem KeepInt.refl (W : World) : KeepInt W W := fun _ _ _ h => h
theorem KeepInt.trans {A B C : World} (h : KeepInt A B) (k : KeepInt B C) : KeepInt A C := fun i cs fr e => k i cs fr (h i cs fr e)
theorem KeepInt.below {W W' : World} (h : Below W.heap.size W W') : KeepInt W W' := fun k cs fr e => kept_block e h
theorem IsStep.keep {W W' : World} {v : Value} {σ : Nat → Nat} (h : IsStep W v σ) (k : KeepInt W W') : IsStep W' v σ := by
  obtain ⟨f, caps, rfl, h1, h2⟩ := h
  exact ⟨f, caps, rfl, h1, fun W2 k2 => h2 W2 (k.trans k2)⟩
set_option maxHeartbeats 400000 in
theorem hal1 (h p B : Nat) (w : World) (h1 : 1 ≤ h) (h2 : h ≤ 64) (hp : p < 64) (hb : w.cell? ⟨B, 0, none⟩ = some (.int .i64 h)) : Calls Try.prog 101 #[.int .i64 p, .pointer (some ⟨B, 0, none⟩)] w fun e w' => e = .returned (.int .i64 ((halF h p : Nat) : Int)) ∧ ∃ j, w' = w.drewN j := by
  have e1 : (p : Int) % (2 * (h : Int)) = ((p % (2 * h) : Nat) : Int) := by simp
  have e2 : (p : Int).tmod (2 * (h : Int)) = ((p % (2 * h) : Nat) : Int) := by rw [Int.tmod_eq_emod_of_nonneg (by omega)]; exact e1
  have hnz : ((2 * (h : Int)) == 0) = false := by simp; omega
  have hnz2 : ((2 * (h : Int)) != 0) = true := by simp; omega
  have hnz3 : ¬ (2 * (h : Int)) = 0 := by omega
  have hw : IntKind.i64.wrap (2 * (h : Int)) = 2 * (h : Int) := wrap_small _ (by omega) (by omega)
  have hqp : p % (2 * h) ≤ p := Nat.mod_le _ _
  by_cases g : h ≤ p % (2 * h)
  · have E : Hid (halF h p = p) := Lib.hid (by unfold halF; rw [if_pos g])
    generalize p % (2 * h) = q at *
    have hwq : IntKind.i64.wrap (q : Int) = q := wrap_small _ (by omega) (by omega)
    go_enter Try.func101, Try.ntmps101
    go_wp2_with fail
    go_quiet (fail)
    go_wp2
    go_ret
    exact ⟨ret_int (by rw [E.out]), _, rfl⟩
  · have E : Hid (halF h p = p + h) := Lib.hid (by unfold halF; rw [if_neg g])
    generalize p % (2 * h) = q at *
    have hwq : IntKind.i64.wrap (q : Int) = q := wrap_small _ (by omega) (by omega)
    go_enter Try.func101, Try.ntmps101
    go_wp2_with fail
    go_quiet (fail)
    go_wp2
    go_ret
    exact ⟨ret_int (by rw [E.out]; omega), _, rfl⟩
set_option maxHeartbeats 400000 in
theorem implHal (h : Nat) (w : World) (h1 : 1 ≤ h) (h2 : h ≤ 64) : Calls Try.prog 82 #[.int .i64 h] w fun e w' => (∃ v, e = .returned v ∧ IsStep w' v (halF h)) ∧ w' = w.alloc (.cells #[.int .i64 h] 3) := by
  go_enter Try.func82, Try.ntmps82
  go_wp2
  go_ret
  refine ⟨⟨_, rfl, 101, #[.pointer (some ⟨w.heap.size, 0, none⟩)], rfl, Try.call101, fun W' k p hp => ?_⟩, rfl⟩
  exact hal1 h p w.heap.size W' h1 h2 hp (cur_cell (k _ _ _ (alloc_at w _ _ rfl)) 0)
set_option maxHeartbeats 400000 in
theorem mir1 (s p B : Nat) (w : World) (h1 : 2 ≤ s) (h2 : s ≤ 64) (hp : p < 64) (hb : w.cell? ⟨B, 0, none⟩ = some (.int .i64 s)) : Calls Try.prog 100 #[.int .i64 p, .pointer (some ⟨B, 0, none⟩)] w fun e w' => e = .returned (.int .i64 ((mirF s p : Nat) : Int)) ∧ ∃ j, w' = w.drewN j := by
  have e1 : (p : Int) % (s : Int) = ((p % s : Nat) : Int) := by simp
  have hqp : p % s ≤ p := Nat.mod_le _ _
  have hqs : p % s < s := Nat.mod_lt _ (by omega)
  have hs0 : s ≠ 0 := by omega
  by_cases g : s / 2 ≤ p % s
  · have E : Hid (mirF s p = p) := Lib.hid (by unfold mirF; rw [if_pos g])
    generalize p % s = q at *
    go_enter Try.func100, Try.ntmps100
    go_wp2
    go_ret
    exact ⟨ret_int (by rw [E.out]), 0, rfl⟩
  · have E : Hid (mirF s p = p - p % s + s - 1 - p % s) := Lib.hid (by unfold mirF; rw [if_neg g])
    generalize p % s = q at *
    go_enter Try.func100, Try.ntmps100
    go_wp2
    go_ret
    exact ⟨ret_int (by rw [E.out]; omega), 0, rfl⟩
set_option maxHeartbeats 400000 in
theorem implMir (s : Nat) (w : World) (h1 : 2 ≤ s) (h2 : s ≤ 64) : Calls Try.prog 81 #[.int .i64 s] w fun e w' => (∃ v, e = .returned v ∧ IsStep w' v (mirF s)) ∧ w' = w.alloc (.cells #[.int .i64 s] 3) := by
  go_enter Try.func81, Try.ntmps81
  go_wp2
  go_ret
  refine ⟨⟨_, rfl, 100, #[.pointer (some ⟨w.heap.size, 0, none⟩)], rfl, Try.call100, fun W' k p hp => ?_⟩, rfl⟩
  exact mir1 s p w.heap.size W' h1 h2 hp (cur_cell (k _ _ _ (alloc_at w _ _ rfl)) 0)
set_option maxHeartbeats 400000 in
theorem odd1 (s h p B C : Nat) (w : World) (h1 : 2 ≤ s) (h2 : s ≤ 64) (h3 : 1 ≤ h) (h4 : h ≤ s) (hp : p < 64) (hb : w.cell? ⟨B, 0, none⟩ = some (.int .i64 s)) (hc : w.cell? ⟨C, 0, none⟩ = some (.int .i64 h)) : Calls Try.prog 102 #[.int .i64 p, .pointer (some ⟨B, 0, none⟩), .pointer (some ⟨C, 0, none⟩)] w fun e w' => e = .returned (.int .i64 ((oddF s h p : Nat) : Int)) ∧ ∃ j, w' = w.drewN j := by
  have e1 : (p : Int) % (s : Int) = ((p % s : Nat) : Int) := by simp
  have hqp : p % s ≤ p := Nat.mod_le _ _
  have hqs : p % s < s := Nat.mod_lt _ (by omega)
  have hs0 : s ≠ 0 := by omega
  have hh0 : h ≠ 0 := by omega
  have e2 : ((p % s : Nat) : Int) / (h : Int) = ((p % s / h : Nat) : Int) := by simp
  have hd : p % s / h ≤ p % s := Nat.div_le_self _ _
  by_cases g : s - h ≤ p % s
  · have E : Hid (oddF s h p = p) := Lib.hid (by unfold oddF; rw [if_pos (.inl g)])
    generalize p % s / h = u at *
    generalize p % s = q at *
    go_enter Try.func102, Try.ntmps102
    go_wp2
    go_ret
    exact ⟨ret_int (by rw [E.out]), 0, rfl⟩
  · by_cases g2 : p % s / h % 2 = 0
    · have E : Hid (oddF s h p = p) := Lib.hid (by unfold oddF; rw [if_pos (.inr g2)])
      generalize p % s / h = u at *
      generalize p % s = q at *
      have b2 : (((u : Int) % 2) == 0) = true := by simp; omega
      have b3 : (u : Int) % 2 = 0 := by omega
      go_enter Try.func102, Try.ntmps102
      go_wp2
      go_ret
      exact ⟨ret_int (by rw [E.out]), 0, rfl⟩
    · have E : Hid (oddF s h p = p + h) := Lib.hid (by unfold oddF; rw [if_neg (by omega)])
      generalize p % s / h = u at *
      generalize p % s = q at *
      have b2 : (((u : Int) % 2) == 0) = false := by simp; omega
      have b3 : (u : Int) % 2 = 1 := by omega
      go_enter Try.func102, Try.ntmps102
      go_wp2
      go_ret
      exact ⟨ret_int (by rw [E.out]; omega), 0, rfl⟩
set_option maxHeartbeats 400000 in
theorem implOdd (s h : Nat) (w : World) (h1 : 2 ≤ s) (h2 : s ≤ 64) (h3 : 1 ≤ h) (h4 : h ≤ s) : Calls Try.prog 84 #[.int .i64 s, .int .i64 h] w fun e w' => (∃ v, e = .returned v ∧ IsStep w' v (oddF s h)) ∧ w' = (w.alloc (.cells #[.int .i64 s] 3)).alloc (.cells #[.int .i64 h] 3) := by
  go_enter Try.func84, Try.ntmps84
  go_wp2
  go_ret
  refine ⟨⟨_, rfl, 102, #[.pointer (some ⟨w.heap.size, 0, none⟩), .pointer (some ⟨w.heap.size + 1, 0, none⟩)], rfl, Try.call102, fun W' k p hp => ?_⟩, rfl⟩
  exact odd1 s h p w.heap.size (w.heap.size + 1) W' h1 h2 h3 h4 hp (cur_cell (k _ _ _ ((alloc_old _ _ _ (by simp)).trans (alloc_at w _ _ rfl))) 0) (cur_cell (k _ _ _ (alloc_at _ _ _ (by simp))) 0)
end Go.Proofs.Ytaedamnhobcdlaa
