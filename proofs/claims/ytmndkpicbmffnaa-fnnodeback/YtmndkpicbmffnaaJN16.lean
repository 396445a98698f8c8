/- TnP, Pow in one. Written by tools/join2.py. -/
import Derived.Test.YtmndkpicbmffnaaJN4
import Derived.Test.YtmndkpicbmffnaaJN15
import Derived.Test.YtmndkpicbmffnaaJN1
section
namespace Go.Proofs.Ytmndkpicbmffnaa
open Go.RowKit
set_option linter.unusedVariables false

def frameB (z v : Int) : Bool := logB z && (decide (1 ≤ v) && decide (v ≤ 200))
def blockOkB (m : BlkM) (z v : Int) : Bool := frameB z v && (decide (0 ≤ m.id) && (decide (m.id ≤ 255) && (leafB z m.leaf && decide ((m.data.length : Int) = v))))
def atB (l : List BlkM) (i : Nat) : BlkM := l.getD i zeroBlk
/-- What is asked of block i. -/
def goodB (l : List BlkM) (z v : Int) (i : Nat) : Bool := blockOkB (atB l i) z v && (decide (i = 0) || decide ((atB l (i - 1)).id < (atB l i).id))
def blocksOkB (l : List BlkM) (z v : Int) : Bool := frameB z v && (List.range l.length).all (goodB l z v)
def nodeOkB (l : NodeM) (z v : Int) : Bool := decide (l.length ≤ 4) && blocksOkB l z v
def nodeSizeZ (v : Int) : Int := if 1 ≤ v ∧ v ≤ 200 then 4 * (v + 3) else -1
theorem atB_get {l : List BlkM} {i : Nat} (h : i < l.length) : atB l i = l[i] := by unfold atB; rw [List.getD_eq_getElem?_getD]; simp [h]
theorem frameB_ok {z v : Int} (h : frameB z v = true) : ∃ g n : Nat, z = g ∧ v = n ∧ g ≤ 6 ∧ 1 ≤ n ∧ n ≤ 200 := by
  unfold frameB at h
  simp only [Bool.and_eq_true, decide_eq_true_eq] at h
  obtain ⟨g, rfl, hg⟩ := logB_ok h.1
  exact ⟨g, v.toNat, rfl, by omega, hg, by omega, by omega⟩
theorem blockOkB_ok {m : BlkM} {z v : Int} (h : blockOkB m z v = true) : frameB z v = true ∧ (0 ≤ m.id ∧ m.id ≤ 255) ∧ leafB z m.leaf = true ∧ (m.data.length : Int) = v := by
  unfold blockOkB at h
  simp only [Bool.and_eq_true, decide_eq_true_eq] at h
  exact ⟨h.1, ⟨h.2.1, h.2.2.1⟩, h.2.2.2.1, h.2.2.2.2⟩
theorem goodAll_take {l : List BlkM} {z v : Int} : ∀ k, (∀ i, i < k → goodB l z v i = true) → (List.range k).all (goodB l z v) = true := fun k h => by
  rw [List.all_eq_true]
  exact fun i hi => h i (List.mem_range.1 hi)
theorem blocksOkB_bad {l : List BlkM} {z v : Int} {i : Nat} (h : i < l.length) (hb : goodB l z v i = false) : blocksOkB l z v = false := by
  unfold blocksOkB
  have : (List.range l.length).all (goodB l z v) = false := by
    rw [List.all_eq_false]
    exact ⟨i, List.mem_range.2 h, by rw [hb]; decide⟩
  rw [this, Bool.and_false]
theorem blocksOkB_all {l : List BlkM} {z v : Int} (h : blocksOkB l z v = true) : frameB z v = true ∧ ∀ i, i < l.length → goodB l z v i = true := by
  unfold blocksOkB at h
  simp only [Bool.and_eq_true, List.all_eq_true] at h
  exact ⟨h.1, fun i hi => h.2 i (List.mem_range.2 hi)⟩
theorem blocksOkB_each {l : List BlkM} {z v : Int} (h : blocksOkB l z v = true) : ∀ m ∈ l, blockOkB m z v = true := fun m hm => by
  obtain ⟨i, hi, rfl⟩ := List.mem_iff_getElem.1 hm
  have := (blocksOkB_all h).2 i hi
  unfold goodB at this
  simp only [Bool.and_eq_true] at this
  rw [atB_get hi] at this
  exact this.1
/-- A block's bytes. -/
def encB (m : BlkM) : List UInt8 := 1 :: UInt8.ofNat m.id.toNat :: UInt8.ofNat m.leaf.toNat :: m.data
def encAll (l : List BlkM) : List UInt8 := l.flatMap encB
theorem encAll_snoc {l : List BlkM} {k : Nat} (h : k < l.length) : encAll (l.take (k + 1)) = encAll (l.take k) ++ encB l[k] := by
  unfold encAll; rw [List.take_succ_eq_append_getElem h, List.flatMap_append]; simp
theorem encAll_length {n : Nat} : ∀ {l : List BlkM}, (∀ m ∈ l, m.data.length = n) → (encAll l).length = l.length * (n + 3)
  | [], _ => by simp [encAll]
  | m :: l, h => by
    have h1 := h m (by simp)
    have h2 := encAll_length (l := l) (fun x hx => h x (List.mem_cons_of_mem _ hx))
    unfold encAll at h2 ⊢
    rw [List.flatMap_cons, List.length_append, h2, List.length_cons, Nat.add_mul]
    unfold encB
    simp [h1]; omega
def nodeOfL (l : NodeM) (z v : Int) : List UInt8 := if nodeOkB l z v = true then encAll l ++ List.replicate (4 * (v.toNat + 3) - (encAll l).length) 0 else []
theorem nodeOfL_no {l : NodeM} {z v : Int} (h : nodeOkB l z v = false) : nodeOfL l z v = [] := by unfold nodeOfL; rw [if_neg (by rw [h]; decide)]
theorem nodeOkB_ok {l : NodeM} {z v : Int} (h : nodeOkB l z v = true) : l.length ≤ 4 ∧ blocksOkB l z v = true := by
  unfold nodeOkB at h
  simpa using h
theorem nodeOfL_length {l : NodeM} {z v : Int} (h : nodeOkB l z v = true) : (nodeOfL l z v).length = 4 * (v.toNat + 3) ∧ (encAll l).length ≤ 4 * (v.toNat + 3) := by
  obtain ⟨h1, h2⟩ := nodeOkB_ok h
  have h3 : (encAll l).length = l.length * (v.toNat + 3) := encAll_length (fun m hm => by
    have := (blockOkB_ok (blocksOkB_each h2 m hm)).2.2.2
    omega)
  have h4 : l.length * (v.toNat + 3) ≤ 4 * (v.toNat + 3) := Nat.mul_le_mul_right _ h1
  unfold nodeOfL
  rw [if_pos h]
  simp; omega
theorem nodeOfL_bd (l : NodeM) (z v : Int) : (nodeOfL l z v).length ≤ 812 := by
  cases h : nodeOkB l z v
  · rw [nodeOfL_no h]; simp
  · have h1 := (nodeOfL_length h).1
    obtain ⟨g, n, rfl, rfl, _, h2, h3⟩ := frameB_ok (blocksOkB_all (nodeOkB_ok h).2).1
    rw [Int.toNat_natCast] at h1
    omega
end Go.Proofs.Ytmndkpicbmffnaa
end

section
namespace Go.Proofs.Ytmndkpicbmffnaa
open Go.RowKit
set_option linter.unusedVariables false

set_option maxHeartbeats 400000 in
theorem specPow16 (n : Nat) (w : World) (hn : n ≤ 16) :
    Calls Try.prog 67 #[.int .i64 n] w fun e w' => e = .returned (.int .i64 ((2 ^ n : Nat) : Int)) ∧ w = w' := by
  go_enter Try.func67, Try.ntmps67
  go_wp2
  go_loop [0, 3] (fun i o => ∃ k : Nat, k ≤ n ∧ i = .int .i64 k ∧ o = .int .i64 ((2 ^ (n - k) : Nat) : Int)) (fun i _ => (intOf i).toNat)
  case atStart => exact ⟨n, Nat.le_refl _, rfl, by simp⟩
  case round =>
    obtain ⟨k, hk, rfl, rfl⟩ := hrel
    have hp : 2 ^ (n - k) ≤ 65536 := Nat.pow_le_pow_right (n := 2) (by omega) (show n - k ≤ 16 by omega)
    by_cases hlt : 0 < k
    · have HP : Hid (2 ^ (n - (k - 1)) = 2 * 2 ^ (n - k)) := Lib.hid (by rw [show n - (k - 1) = n - k + 1 from by omega, Nat.pow_succ, Nat.mul_comm])
      generalize 2 ^ (n - k) = x at *
      go_wp2
      go_round
      case rel => exact ⟨k - 1, by omega, by congr 1; omega, by rw [HP.out]; congr 1⟩
      case measure => simp [intOf]; omega
    · have hk0 : k = 0 := by omega
      subst hk0
      go_wp2
      go_ret
      exact ⟨rfl, rfl⟩
end Go.Proofs.Ytmndkpicbmffnaa
end
