/- TrQ in one. Written by tools/join2.py. -/
import Derived.Test.YtmndkpicbmffnaaJN3
section
namespace Go.Proofs.Ytmndkpicbmffnaa
open Go.RowKit
set_option linter.unusedVariables false

theorem ble_dec (a b : Nat) : Nat.ble a b = decide (a ≤ b) := by
  by_cases h : a ≤ b
  · rw [Nat.ble_eq_true_of_le h, decide_eq_true h]
  · cases e : Nat.ble a b
    · rw [decide_eq_false h]
    · exact absurd (Nat.le_of_ble_eq_true e) h
theorem beq_dec (a b : Nat) : Nat.beq a b = decide (a = b) := by
  by_cases h : a = b
  · subst h; rw [decide_eq_true rfl]; exact Nat.beq_refl a
  · cases e : Nat.beq a b
    · rw [decide_eq_false h]
    · exact absurd (Nat.eq_of_beq_eq_true e) h
def logB (z : Int) : Bool := decide (0 ≤ z) && decide (z ≤ 6)
theorem logB_ok {z : Int} (h : logB z = true) : ∃ g : Nat, z = g ∧ g ≤ 6 := by
  unfold logB at h
  simp only [Bool.and_eq_true, decide_eq_true_eq] at h
  exact ⟨z.toNat, by omega, by omega⟩
theorem logB_at {g : Nat} (h : g ≤ 6) : logB g = true := by unfold logB; simp; omega
def leafB (z l : Int) : Bool := logB z && (decide (0 ≤ l) && decide (l < (2 ^ z.toNat : Nat)))
theorem leafB_ok {z l : Int} (h : leafB z l = true) : ∃ g a : Nat, z = g ∧ l = a ∧ g ≤ 6 ∧ a < 2 ^ g := by
  unfold leafB at h
  simp only [Bool.and_eq_true, decide_eq_true_eq] at h
  obtain ⟨g, rfl, hg⟩ := logB_ok h.1
  refine ⟨g, l.toNat, rfl, by omega, hg, ?_⟩
  have := h.2.2
  rw [Int.toNat_natCast] at this
  omega
theorem leafB_at {g a : Nat} (h : g ≤ 6) (ha : a < 2 ^ g) : leafB g a = true := by
  unfold leafB; rw [logB_at h]; simp only [Int.toNat_natCast, Bool.true_and, Bool.and_eq_true, decide_eq_true_eq]; omega
theorem pow_64 {g : Nat} (h : g ≤ 6) : 1 ≤ 2 ^ g ∧ 2 ^ g ≤ 64 := ⟨Nat.two_pow_pos g, Nat.pow_le_pow_right (by omega) h⟩
def treeNodesZ (z : Int) : Int := if logB z = true then 2 * (2 ^ z.toNat : Nat) - 1 else -1
theorem treeNodesZ_at {g : Nat} (h : g ≤ 6) : treeNodesZ g = ((2 ^ (g + 1) : Nat) : Int) - 1 := by
  unfold treeNodesZ; rw [if_pos (logB_at h), Int.toNat_natCast, Nat.pow_succ]; omega
theorem treeNodesZ_no {z : Int} (h : logB z = false) : treeNodesZ z = -1 := by unfold treeNodesZ; rw [if_neg (by rw [h]; decide)]
def pathZ (z l : Int) : List Int := if leafB z l = true then (pthN z.toNat l.toNat).map (fun n : Nat => (n : Int)) else []
theorem pathZ_at {g a : Nat} (h : g ≤ 6) (ha : a < 2 ^ g) : pathZ g a = (pthN g a).map (fun n : Nat => (n : Int)) := by unfold pathZ; rw [if_pos (leafB_at h ha)]; simp
theorem pathZ_no {z l : Int} (h : leafB z l = false) : pathZ z l = [] := by unfold pathZ; rw [if_neg (by rw [h]; decide)]
theorem pathZ_length {g a : Nat} (h : g ≤ 6) (ha : a < 2 ^ g) : (pathZ g a).length = g + 1 := by rw [pathZ_at h ha, List.length_map, pthN_length]
theorem pathZ_get {g a i : Nat} (h : g ≤ 6) (ha : a < 2 ^ g) (hi : i < (pathZ g a).length) : (pathZ g a)[i] = (nd g a i : Int) := by
  simp only [pathZ_at h ha, List.getElem_map, pthN_get]
def onZ (z n l : Int) : Bool := (pathZ z l).any (fun m => decide (m = n))
theorem onZ_no {z n l : Int} (h : leafB z l = false) : onZ z n l = false := by unfold onZ; rw [pathZ_no h]; rfl
theorem onZ_neg {z n l : Int} (hn : n < 0) : onZ z n l = false := by
  unfold onZ pathZ
  split
  · rw [List.any_map, List.any_eq_false]
    intro m _
    simp; omega
  · rfl
theorem onZ_at {g n a : Nat} (h : g ≤ 6) (ha : a < 2 ^ g) : onZ g n a = onN g n a := by
  unfold onZ
  rw [onN_any, pathZ_at h ha, List.any_map]
  congr 1
  funext m
  rw [beq_dec]
  simp only [Function.comp_apply, decide_eq_decide]
  exact Int.ofNat_inj
def levelZ (n : Int) : Int := if 1 ≤ n ∧ n ≤ 127 then (lvN n.toNat : Int) else -1
theorem levelZ_at {n : Nat} (h1 : 1 ≤ n) (h2 : n ≤ 127) : levelZ n = lvN n := by unfold levelZ; rw [if_pos (by omega)]; simp
theorem levelZ_no {n : Int} (h : ¬ (1 ≤ n ∧ n ≤ 127)) : levelZ n = -1 := by unfold levelZ; rw [if_neg h]
def nodeB (z n : Int) : Bool := decide (1 ≤ n) && decide (n ≤ treeNodesZ z)
theorem nodeB_ok {z n : Int} (h : nodeB z n = true) : ∃ g m : Nat, z = g ∧ n = m ∧ g ≤ 6 ∧ 1 ≤ m ∧ m < 2 ^ (g + 1) := by
  unfold nodeB at h
  simp only [Bool.and_eq_true, decide_eq_true_eq] at h
  cases e : logB z
  · rw [treeNodesZ_no e] at h; omega
  · obtain ⟨g, rfl, hg⟩ := logB_ok e
    rw [treeNodesZ_at hg] at h
    exact ⟨g, n.toNat, rfl, by omega, hg, by omega, by omega⟩
def lowZ (z n : Int) : Int := if nodeB z n = true then (loN z.toNat n.toNat : Int) else -1
def highZ (z n : Int) : Int := if nodeB z n = true then (hiN z.toNat n.toNat : Int) else -1
theorem nodeB_at {g m : Nat} (h : g ≤ 6) (h1 : 1 ≤ m) (h2 : m < 2 ^ (g + 1)) : nodeB g m = true := by
  unfold nodeB; rw [treeNodesZ_at h]; simp only [Bool.and_eq_true, decide_eq_true_eq]; omega
theorem lowZ_at {g m : Nat} (h : g ≤ 6) (h1 : 1 ≤ m) (h2 : m < 2 ^ (g + 1)) : lowZ g m = loN g m := by unfold lowZ; rw [if_pos (nodeB_at h h1 h2)]; simp
theorem highZ_at {g m : Nat} (h : g ≤ 6) (h1 : 1 ≤ m) (h2 : m < 2 ^ (g + 1)) : highZ g m = hiN g m := by unfold highZ; rw [if_pos (nodeB_at h h1 h2)]; simp
theorem lowZ_no {z n : Int} (h : nodeB z n = false) : lowZ z n = -1 := by unfold lowZ; rw [if_neg (by rw [h]; decide)]
theorem highZ_no {z n : Int} (h : nodeB z n = false) : highZ z n = -1 := by unfold highZ; rw [if_neg (by rw [h]; decide)]
def meetZ (z a b : Int) : Int := if (leafB z a && leafB z b) = true then (mtN z.toNat a.toNat b.toNat (z.toNat + 1) : Int) else -1
theorem meetZ_at {g a b : Nat} (h : g ≤ 6) (ha : a < 2 ^ g) (hb : b < 2 ^ g) : meetZ g a b = mtN g a b (g + 1) := by
  unfold meetZ; rw [leafB_at h ha, leafB_at h hb]; simp
theorem meetZ_no {z a b : Int} (h : leafB z a = false ∨ leafB z b = false) : meetZ z a b = -1 := by
  unfold meetZ
  rw [if_neg]
  rcases h with h | h <;> rw [h] <;> simp
/-- A node of a path is a node of the tree. -/
theorem nd_node {g a i : Nat} (ha : a < 2 ^ g) (hi : i ≤ g) : 1 ≤ nd g a i ∧ nd g a i < 2 ^ (g + 1) := by
  unfold nd
  refine ⟨halve_pos ha (by omega), Nat.lt_of_le_of_lt (Nat.div_le_self _ _) ?_⟩
  rw [Nat.pow_succ]; omega
/-- What two leaves have in common at a level. -/
theorem meet_at {g a b i : Nat} (hg : g ≤ 6) (ha : a < 2 ^ g) (hb : b < 2 ^ g) (hi : i ≤ g) :
    onN g (nd g a i) b = decide (i ≤ mtN g a b (g + 1)) ∧ decide (nd g a i = nd g b i) = decide (i ≤ mtN g a b (g + 1)) ∧ lvN (nd g a i) = i ∧ loN g (nd g a i) ≤ a ∧ a ≤ hiN g (nd g a i) ∧ (decide (loN g (nd g a i) ≤ b) && decide (b ≤ hiN g (nd g a i))) = decide (i ≤ mtN g a b (g + 1)) := by
  have h := rangeAll (rangeAll (rangeAll meet_all g (by omega)) a ha) b hb
  simp only [Bool.and_eq_true] at h
  have h1 := rangeAll h.1 i (by omega)
  unfold ckMeet1 at h1
  simp only [Bool.and_eq_true, beq_iff_eq, ble_dec, beq_dec, decide_eq_true_eq] at h1
  obtain ⟨k1, k2, k3, k4, k5, k6⟩ := h1
  exact ⟨k1, k2, k3, k4, k5, k6⟩
theorem meet_sym {g a b : Nat} (hg : g ≤ 6) (ha : a < 2 ^ g) (hb : b < 2 ^ g) : mtN g b a (g + 1) = mtN g a b (g + 1) ∧ nd g a 0 = 1 ∧ mtN g a b (g + 1) ≤ g := by
  have h := rangeAll (rangeAll (rangeAll meet_all g (by omega)) a ha) b hb
  simp only [Bool.and_eq_true, ble_dec, beq_dec, decide_eq_true_eq] at h
  exact h.2
/-- The leaves of a node found one after the other: what the search has come to. -/
def scanF (lo hi k : Nat) : Int × Int := if k ≤ lo then (-1, -1) else ((lo : Int), if k ≤ hi then (k : Int) - 1 else hi)
theorem scanF_next {lo hi k : Nat} (h : lo ≤ hi) : scanF lo hi (k + 1) = if (decide (lo ≤ k) && decide (k ≤ hi)) = true then ((if (scanF lo hi k).1 < 0 then (k : Int) else (scanF lo hi k).1), (k : Int)) else scanF lo hi k := by
  unfold scanF
  by_cases h1 : lo ≤ k
  · by_cases h2 : k ≤ hi
    · rw [if_neg (by omega), decide_eq_true h1, decide_eq_true h2]
      by_cases h3 : k ≤ lo
      · have : k = lo := by omega
        subst this
        simp; omega
      · rw [if_neg h3]
        simp
        constructor
        · omega
        · intro; omega
    · have e1 : ¬ k + 1 ≤ lo := by omega
      have e2 : ¬ k ≤ lo := by omega
      have e3 : ¬ k + 1 ≤ hi := by omega
      simp [e1, e2, e3, h1, h2]
  · rw [if_pos (by omega), decide_eq_false h1, Bool.false_and, if_neg (by simp), if_pos (by omega)]
theorem scanF_end {lo hi n : Nat} (h : lo ≤ hi) (hn : hi < n) : scanF lo hi n = ((lo : Int), (hi : Int)) := by
  unfold scanF; rw [if_neg (by omega)]
  split
  · congr 1; omega
  · rfl
end Go.Proofs.Ytmndkpicbmffnaa
end
