/- Numbers in planes in the laws' uniform form: slices of integers as arguments; the contracts. -/
import Derived.Test.YtfdlmpjccoaejaaNuT
import Derived.Test.YtfdlmpjccoaejaaReads
namespace Go.Proofs.Ytfdlmpjccoaejaa
open Go.RowKit
set_option linter.unusedVariables false

theorem nats_of : ∀ (l : List Int), (∀ z ∈ l, (Lit.int .u64 z).wf = true) → ∃ m : List Nat, m.length = l.length ∧ m.map uval = l.map (Value.int .u64) ∧ ∀ x ∈ m, x < 18446744073709551616
  | [], _ => ⟨[], rfl, rfl, fun x hx => by simp at hx⟩
  | z :: l, h => by
    obtain ⟨m, h1, h2, h3⟩ := nats_of l (fun y hy => h y (List.mem_cons_of_mem _ hy))
    have hz := wf_u64 (h z List.mem_cons_self)
    refine ⟨z.toNat :: m, by simp [h1], ?_, ?_⟩
    · rw [List.map_cons, List.map_cons, h2]
      unfold uval
      rw [Int.toNat_of_nonneg hz.1]
    · intro x hx
      rcases List.mem_cons.1 hx with rfl | hx
      · omega
      · exact h3 x hx
theorem Rd.u64s {w : World} {c : Value} (h : Rd w 26 [c]) : ∃ l : List Nat, Uint64SIn [c] l w ∧ ∀ x ∈ l, x < 18446744073709551616 := by
  obtain ⟨a, cap, l, hc, h1, h2, h3, h4⟩ := h.ints Try.underlying26 Try.underlying43 (by kernel_rfl)
  obtain ⟨m, e1, e2, e3⟩ := nats_of l h4
  simp at hc
  exact ⟨m, ⟨a, cap, by rw [hc, e1], by omega, by omega, by rw [e2]; exact h3⟩, e3⟩
theorem argUint64S {w : World} {v : Value} (h : Arg w 26 v) : ∃ c m, v = c ∧ Uint64SIn [c] m w ∧ bd64 m := by
  obtain ⟨a, len, cap, rfl, hr⟩ := h.slice Try.underlying26
  obtain ⟨m, h1, h2⟩ := hr.u64s
  exact ⟨_, m, rfl, h1, h2⟩
theorem argIntS {w : World} {v : Value} (h : Arg w 36 v) : ∃ c m, v = c ∧ IntSIn [c] m w ∧ ∀ z ∈ m, -9223372036854775808 ≤ z ∧ z ≤ 9223372036854775807 := by
  obtain ⟨a, len, cap, rfl, hr⟩ := h.slice Try.underlying36
  obtain ⟨a', cap', l, hc, h1, h2, h3, h4⟩ := hr.ints Try.underlying36 Try.underlying3 (by kernel_rfl)
  simp at hc
  obtain ⟨rfl, rfl, rfl⟩ := hc
  exact ⟨_, l, rfl, ⟨a, cap, rfl, by omega, by omega, h3⟩, fun z hz => wf_i64 (h4 z hz)⟩
theorem uSpecNumsOf (c : Value) (l : List Int) (k : Int) (w : World) (h : IntSIn [c] l w) : Calls Try.prog 26 #[c, .int .i64 k] w (Uint64SRet (numsM l k) w) := specNumsOf c l k w h
theorem uImplNumsOf (c : Value) (l : List Int) (k : Int) (w : World) (h : IntSIn [c] l w) : Calls Try.prog 27 #[c, .int .i64 k] w (Uint64SRet (numsM l k) w) := implNumsOf c l k w h
theorem uSpecNumAt (c : Value) (l : List Nat) (k : Int) (w : World) (h : Uint64SIn [c] l w) (hb : bd64 l) : Calls Try.prog 50 #[c, .int .i64 k] w fun e w' => e = .returned (.int .i64 (numZ l k)) ∧ Below w.heap.size w w' := (specNumAt c l k w h hb).mono fun _ _ h => ⟨h.1, by rw [h.2]; exact Below.refl _ _⟩
theorem uImplNumAt (c : Value) (l : List Nat) (k : Int) (w : World) (h : Uint64SIn [c] l w) (hb : bd64 l) : Calls Try.prog 31 #[c, .int .i64 k] w fun e w' => e = .returned (.int .i64 (numZ l k)) ∧ Below w.heap.size w w' := (implNumAt c l k w h hb).mono fun _ _ h => ⟨h.1, by rw [h.2]; exact Below.refl _ _⟩
theorem uSpecNumsAdd (c : Value) (a : List Nat) (d : Value) (b : List Nat) (w : World) (h : Uint64SIn [c] a w) (k : Uint64SIn [d] b w) (ha : bd64 a) (hb : bd64 b) : Calls Try.prog 52 #[c, d] w (Uint64SRet (addM a b) w) := specNumsAdd c d a b w h k ha hb
theorem uImplNumsAdd (c : Value) (a : List Nat) (d : Value) (b : List Nat) (w : World) (h : Uint64SIn [c] a w) (k : Uint64SIn [d] b w) (ha : bd64 a) (hb : bd64 b) : Calls Try.prog 28 #[c, d] w (Uint64SRet (addM a b) w) := implNumsAdd c d a b w h k ha hb
theorem uSpecNumsMin (c : Value) (a : List Nat) (d : Value) (b : List Nat) (w : World) (h : Uint64SIn [c] a w) (k : Uint64SIn [d] b w) (ha : bd64 a) (hb : bd64 b) : Calls Try.prog 54 #[c, d] w (Uint64SRet (minM a b) w) := specNumsMin c d a b w h k ha hb
theorem uImplNumsMin (c : Value) (a : List Nat) (d : Value) (b : List Nat) (w : World) (h : Uint64SIn [c] a w) (k : Uint64SIn [d] b w) (ha : bd64 a) (hb : bd64 b) : Calls Try.prog 29 #[c, d] w (Uint64SRet (minM a b) w) := implNumsMin c d a b w h k ha hb
theorem uSpecNumsLess (c : Value) (a : List Nat) (d : Value) (b : List Nat) (w : World) (h : Uint64SIn [c] a w) (k : Uint64SIn [d] b w) (ha : bd64 a) (hb : bd64 b) : Calls Try.prog 53 #[c, d] w fun e w' => e = .returned (.int .u64 ((lessM a b : Nat) : Int)) ∧ Below w.heap.size w w' := specNumsLess c d a b w h k ha hb
theorem uImplNumsLess (c : Value) (a : List Nat) (d : Value) (b : List Nat) (w : World) (h : Uint64SIn [c] a w) (k : Uint64SIn [d] b w) (ha : bd64 a) (hb : bd64 b) : Calls Try.prog 30 #[c, d] w fun e w' => e = .returned (.int .u64 ((lessM a b : Nat) : Int)) ∧ Below w.heap.size w w' := implNumsLess c d a b w h k ha hb
theorem numsM_bd (l : List Int) (k : Int) : szUint64S (numsM l k) ≤ 1000000000000 := by unfold szUint64S; have := numsM_length l k; omega
theorem addM_bd (a b : List Nat) : szUint64S (addM a b) ≤ 1000000000000 := by unfold szUint64S; have := addM_length a b; omega
theorem minM_bd (a b : List Nat) : szUint64S (minM a b) ≤ 1000000000000 := by unfold szUint64S; have := minM_length a b; omega
end Go.Proofs.Ytfdlmpjccoaejaa
