/- Plain facts for chapter 3: how many bits are 1, by sums within 2, 4 and 8 bits: no program in it. -/
import Derived.Test.YtigigmffigjpeaaDoorBitsP
namespace Go.Proofs.YtigigmffigjpeaaDoor
set_option linter.unusedVariables false

/-- n bytes c. -/
def repB (c : Nat) : Nat → Nat
  | 0 => 0
  | n + 1 => c + 256 * repB c n
theorem repB_succ (c n : Nat) : repB c (n + 1) = c + 256 * repB c n := rfl
theorem and_byte {b c : Nat} (r s : Nat) (hb : b < 256) (hc : c < 256) : (b + 256 * r) &&& (c + 256 * s) = (b &&& c) + 256 * (r &&& s) := by
  have h1 := Nat.and_mod_two_pow (a := b + 256 * r) (b := c + 256 * s) (n := 8)
  have h2 := Nat.and_div_two_pow (a := b + 256 * r) (b := c + 256 * s) (n := 8)
  rw [show (2 : Nat) ^ 8 = 256 from rfl] at h1 h2
  rw [show (b + 256 * r) % 256 = b from by omega, show (c + 256 * s) % 256 = c from by omega] at h1
  rw [show (b + 256 * r) / 256 = r from by omega, show (c + 256 * s) / 256 = s from by omega] at h2
  omega
def popF (n x : Nat) : Nat := (x / 2 &&& repB 85 n) + (x &&& repB 85 n)
def popG (n x : Nat) : Nat := (x / 4 &&& repB 51 n) + (x &&& repB 51 n)
def popH (n x : Nat) : Nat := (x / 16 + x) &&& repB 15 n
def byF (b : Nat) : Nat := (b / 2 &&& 85) + (b &&& 85)
def byG (b : Nat) : Nat := (b / 4 &&& 51) + (b &&& 51)
theorem byF1 : ∀ b : Fin 256, ∀ c : Fin 2, (b.val / 2 + 128 * c.val) &&& 85 = (b.val / 2 &&& 85) := by decide +kernel
theorem byG1 : ∀ b : Fin 256, ∀ c : Fin 4, (b.val / 4 + 64 * c.val) &&& 51 = (b.val / 4 &&& 51) := by decide +kernel
theorem byF2 : ∀ b : Fin 256, byF b.val < 256 := by decide +kernel
theorem byFG : ∀ b : Fin 256, byG (byF b.val) % 16 ≤ 4 ∧ byG (byF b.val) ≤ 68 := by decide +kernel
theorem byH : ∀ b : Fin 256, ∀ d : Fin 5, (byG (byF b.val) / 16 + 16 * d.val + byG (byF b.val)) &&& 15 = popN 8 b.val := by decide +kernel
theorem popF_succ (n b r : Nat) (hb : b < 256) : popF (n + 1) (b + 256 * r) = byF b + 256 * popF n r := by
  unfold popF byF
  rw [repB_succ]
  have e : (b + 256 * r) / 2 = (b / 2 + 128 * (r % 2)) + 256 * (r / 2) := by omega
  have h := byF1 ⟨b, hb⟩ ⟨r % 2, by omega⟩
  simp only at h
  rw [e, and_byte _ _ (by omega) (by omega), and_byte _ _ hb (by omega), h]
  omega
theorem popG_succ (n b r : Nat) (hb : b < 256) : popG (n + 1) (b + 256 * r) = byG b + 256 * popG n r := by
  unfold popG byG
  rw [repB_succ]
  have e : (b + 256 * r) / 4 = (b / 4 + 64 * (r % 4)) + 256 * (r / 4) := by omega
  have h := byG1 ⟨b, hb⟩ ⟨r % 4, by omega⟩
  simp only at h
  rw [e, and_byte _ _ (by omega) (by omega), and_byte _ _ hb (by omega), h]
  omega
/-- Each byte's count. -/
def popP : Nat → Nat → Nat
  | 0, _ => 0
  | n + 1, x => popN 8 (x % 256) + 256 * popP n (x / 256)
theorem popFG (n x : Nat) : popG (n + 1) (popF (n + 1) x) = byG (byF (x % 256)) + 256 * popG n (popF n (x / 256)) := by
  have e : popF (n + 1) x = byF (x % 256) + 256 * popF n (x / 256) := by
    rw [← popF_succ n (x % 256) (x / 256) (by omega)]; congr 1; omega
  rw [e, popG_succ n _ _ (byF2 ⟨x % 256, by omega⟩)]
theorem popFG_low (n x : Nat) : popG n (popF n x) % 16 ≤ 4 := by
  cases n with
  | zero => simp [popG, repB]
  | succ n =>
    rw [popFG]
    have := (byFG ⟨x % 256, by omega⟩).1
    simp only at this
    omega
theorem popFGH : ∀ (n x : Nat), popH n (popG n (popF n x)) = popP n x
  | 0, x => by simp [popH, repB, popP]
  | n + 1, x => by
    rw [popFG, popP, ← popFGH n (x / 256)]
    have h1 := (byFG ⟨x % 256, by omega⟩).2
    have h2 := popFG_low n (x / 256)
    have h3 := byH ⟨x % 256, by omega⟩ ⟨popG n (popF n (x / 256)) % 16, by omega⟩
    simp only at h1 h3
    generalize byG (byF (x % 256)) = c at *
    generalize popG n (popF n (x / 256)) = r at *
    unfold popH
    rw [repB_succ]
    have e : (c + 256 * r) / 16 + (c + 256 * r) = (c / 16 + 16 * (r % 16) + c) + 256 * (r / 16 + r) := by omega
    rw [e, and_byte _ _ (by omega) (by omega), h3]
theorem popP_sum (x : Nat) : ∃ p0 p1 p2 p3 p4 p5 p6 p7 : Nat, (p0 ≤ 8 ∧ p1 ≤ 8 ∧ p2 ≤ 8 ∧ p3 ≤ 8 ∧ p4 ≤ 8 ∧ p5 ≤ 8 ∧ p6 ≤ 8 ∧ p7 ≤ 8) ∧
    popP 8 x = p0 + 256 * p1 + 65536 * p2 + 16777216 * p3 + 4294967296 * p4 + 1099511627776 * p5 + 281474976710656 * p6 + 72057594037927936 * p7 ∧
    popN 64 x = p0 + p1 + p2 + p3 + p4 + p5 + p6 + p7 := by
  have s : ∀ k y, popN (8 + k) y = popN 8 (y % 256) + popN k (y / 256) := fun k y => pop_split 8 k y
  refine ⟨_, _, _, _, _, _, _, _, ⟨pop_le 8 (x % 256), pop_le 8 (x / 256 % 256), pop_le 8 (x / 256 / 256 % 256), pop_le 8 (x / 256 / 256 / 256 % 256), pop_le 8 (x / 256 / 256 / 256 / 256 % 256),
    pop_le 8 (x / 256 / 256 / 256 / 256 / 256 % 256), pop_le 8 (x / 256 / 256 / 256 / 256 / 256 / 256 % 256), pop_le 8 (x / 256 / 256 / 256 / 256 / 256 / 256 / 256 % 256)⟩, ?_, ?_⟩
  · simp only [popP]; omega
  · rw [show (64 : Nat) = 8 + 56 from rfl, s, show (56 : Nat) = 8 + 48 from rfl, s, show (48 : Nat) = 8 + 40 from rfl, s, show (40 : Nat) = 8 + 32 from rfl, s, show (32 : Nat) = 8 + 24 from rfl, s,
      show (24 : Nat) = 8 + 16 from rfl, s, show (16 : Nat) = 8 + 8 from rfl, s, show popN 8 (x / 256 / 256 / 256 / 256 / 256 / 256 / 256) = popN (8 + 0) (x / 256 / 256 / 256 / 256 / 256 / 256 / 256) from rfl, s]
    simp only [popN]; omega
theorem pop_end {e p0 p1 p2 p3 p4 p5 p6 p7 : Nat} (h : p0 ≤ 8 ∧ p1 ≤ 8 ∧ p2 ≤ 8 ∧ p3 ≤ 8 ∧ p4 ≤ 8 ∧ p5 ≤ 8 ∧ p6 ≤ 8 ∧ p7 ≤ 8)
    (he : e = p0 + 256 * p1 + 65536 * p2 + 16777216 * p3 + 4294967296 * p4 + 1099511627776 * p5 + 281474976710656 * p6 + 72057594037927936 * p7) :
    e ≤ 578721382704613384 ∧
    ((e + e / 256) + (e + e / 256) / 65536 + ((e + e / 256) + (e + e / 256) / 65536) / 4294967296) % 128 = p0 + p1 + p2 + p3 + p4 + p5 + p6 + p7 := by
  obtain ⟨h0, h1, h2, h3, h4, h5, h6, h7⟩ := h
  have e1 : e / 256 = p1 + 256 * p2 + 65536 * p3 + 16777216 * p4 + 4294967296 * p5 + 1099511627776 * p6 + 281474976710656 * p7 := by omega
  have e2 : e + e / 256 = (p0 + p1) + 256 * (p1 + p2) + 65536 * (p2 + p3) + 16777216 * (p3 + p4) + 4294967296 * (p4 + p5) + 1099511627776 * (p5 + p6) + 281474976710656 * (p6 + p7) + 72057594037927936 * p7 := by omega
  refine ⟨by omega, ?_⟩
  clear he e1
  generalize e + e / 256 = f at *
  have e3 : f / 65536 = (p2 + p3) + 256 * (p3 + p4) + 65536 * (p4 + p5) + 16777216 * (p5 + p6) + 4294967296 * (p6 + p7) + 1099511627776 * p7 := by omega
  have e4 : f + f / 65536 = (p0 + p1 + p2 + p3) + 256 * (p1 + p2 + p3 + p4) + 65536 * (p2 + p3 + p4 + p5) + 16777216 * (p3 + p4 + p5 + p6) + 4294967296 * (p4 + p5 + p6 + p7) + 1099511627776 * (p5 + p6 + p7) + 281474976710656 * (p6 + p7) + 72057594037927936 * p7 := by omega
  clear e2 e3
  generalize f + f / 65536 = g at *
  have e5 : g / 4294967296 = (p4 + p5 + p6 + p7) + 256 * (p5 + p6 + p7) + 65536 * (p6 + p7) + 16777216 * p7 := by omega
  omega
theorem i64_and127 (a : Nat) (ha : a < 9223372036854775808) : bits .and .i64 (a : Int) (127 : Int) = ((a % 128 : Nat) : Int) := by
  have h := ofInt_u64 a (by omega)
  have h2 := ofInt_u64 127 (by omega)
  show IntKind.i64.wrap ((BitVec.ofInt 64 (a : Int) &&& BitVec.ofInt 64 ((127 : Nat) : Int)).toNat : Int) = _
  rw [BitVec.toNat_and, h, h2, show (127 : Nat) = 2 ^ 7 - 1 from rfl, Nat.and_two_pow_sub_one_eq_mod]
  simp [IntKind.wrap, IntKind.bits, IntKind.signed]
  omega
end Go.Proofs.YtigigmffigjpeaaDoor
