/- TnK, TnB in one. Written by tools/join2.py. -/
import Derived.Test.YtmkgddbdkpkgpaaJS13
import Derived.Test.YtmkgddbdkpkgpaaJS24
import Derived.Test.YtmkgddbdkpkgpaaJS25
section
namespace Go.Proofs.Ytmkgddbdkpkgpaa
open Go.RowKit
set_option linter.unusedVariables false

theorem enc_at {l : List BlkM} {n : Nat} (h : ∀ m ∈ l, m.data.length = n) {k : Nat} (hk : k < l.length) (r : List UInt8) : ∃ r', (encAll l ++ r).drop (k * (n + 3)) = encB l[k] ++ r' := by
  have h1 : (encAll (l.take k)).length = k * (n + 3) := by
    rw [encAll_length (n := n) (fun m hm => h m (List.mem_of_mem_take hm)), List.length_take, Nat.min_eq_left (Nat.le_of_lt hk)]
  have h2 : encAll l = encAll (l.take k) ++ (encB l[k] ++ encAll (l.drop (k + 1))) := by
    have e : l = l.take k ++ l[k] :: l.drop (k + 1) := by rw [← List.drop_eq_getElem_cons hk, List.take_append_drop]
    unfold encAll
    rw [← List.flatMap_cons, ← List.flatMap_append, ← e]
  refine ⟨encAll (l.drop (k + 1)) ++ r, ?_⟩
  rw [h2, List.append_assoc, ← h1, List.drop_left, List.append_assoc]
theorem enc_end {l : List BlkM} {n : Nat} (h : ∀ m ∈ l, m.data.length = n) (r : List UInt8) : (encAll l ++ r).drop (l.length * (n + 3)) = r := by
  rw [← encAll_length h, List.drop_left]
theorem getD_drop (d : List UInt8) (t i : Nat) : d.getD (t + i) 0 = (d.drop t).getD i 0 := by
  rw [List.getD_eq_getElem?_getD, List.getD_eq_getElem?_getD, List.getElem?_drop]
theorem byte_back {z : Int} (h0 : 0 ≤ z) (h1 : z ≤ 255) : (((UInt8.ofNat z.toNat).toNat : Nat) : Int) = z := by
  rw [UInt8.toNat_ofNat', Nat.mod_eq_of_lt (by omega)]; omega
theorem blkAt_of {d : List UInt8} {n t : Nat} {m : BlkM} {r : List UInt8} (h : d.drop t = encB m ++ r) (hd : m.data.length = n) (hid : 0 ≤ m.id ∧ m.id ≤ 255) (hlf : 0 ≤ m.leaf ∧ m.leaf ≤ 255) : blkAt d n t = m ∧ d.getD t 0 = 1 := by
  have e0 := getD_drop d t 0
  have e1 := getD_drop d t 1
  have e2 := getD_drop d t 2
  have e3 : d.drop (t + 3) = (d.drop t).drop 3 := by rw [List.drop_drop]
  rw [h] at e0 e1 e2 e3
  unfold encB at e0 e1 e2 e3
  simp at e0 e1 e2 e3
  refine ⟨?_, by rw [List.getD_eq_getElem?_getD]; exact e0⟩
  unfold blkAt
  rw [List.getD_eq_getElem?_getD, List.getD_eq_getElem?_getD, e1, e2, e3, byte_back hid.1 hid.2, byte_back hlf.1 hlf.2, ← hd, List.take_left]
theorem cntUp_of {d : List UInt8} {n c : Nat} (hone : ∀ j, j < c → d.getD (j * (n + 3)) 0 = 1) (hstop : c < 4 → ¬ d.getD (c * (n + 3)) 0 = 1) (hc : c ≤ 4) : ∀ f k, k + f = 4 → k ≤ c → cntUp d n f k = c
  | 0, k, hf, hk => by unfold cntUp; omega
  | f + 1, k, hf, hk => by
    unfold cntUp
    by_cases h : k < c
    · rw [if_pos (hone k h)]; exact cntUp_of hone hstop hc f (k + 1) (by omega) h
    · have e : k = c := by omega
      subst e
      rw [if_neg (hstop (by omega))]
theorem leaf_255 {z t : Int} (h : leafB z t = true) : 0 ≤ t ∧ t ≤ 255 := by
  obtain ⟨g, a, rfl, rfl, hg, ha⟩ := leafB_ok h
  have := pow_64 hg
  omega
theorem node_back {l : NodeM} {z v : Int} (h : nodeOkB l z v = true) : readNB (nodeOfL l z v) z v = true ∧ readNM (nodeOfL l z v) z v = l := by
  obtain ⟨h1, h2⟩ := nodeOkB_ok h
  have hf := (blocksOkB_all h2).1
  obtain ⟨g, n, rfl, rfl, hg6, hn1, hn2⟩ := frameB_ok hf
  have hall : ∀ m ∈ l, m.data.length = n := fun m hm => by have := (blockOkB_ok (blocksOkB_each h2 m hm)).2.2.2; omega
  have hlen := nodeOfL_length h
  rw [Int.toNat_natCast] at hlen
  have hd : nodeOfL l g n = encAll l ++ List.replicate (4 * (n + 3) - (encAll l).length) 0 := by unfold nodeOfL; rw [if_pos h, Int.toNat_natCast]
  have hcand : candN (nodeOfL l g n) n = l := by
    have hat : ∀ k (hk : k < l.length), blkAt (nodeOfL l g n) n (k * (n + 3)) = l[k] ∧ (nodeOfL l g n).getD (k * (n + 3)) 0 = 1 := fun k hk => by
      obtain ⟨r', hr⟩ := enc_at hall hk (List.replicate (4 * (n + 3) - (encAll l).length) 0)
      have ok := blockOkB_ok (blocksOkB_each h2 _ (List.getElem_mem hk))
      rw [← hd] at hr
      exact blkAt_of hr (hall _ (List.getElem_mem hk)) ok.2.1 (leaf_255 ok.2.2.1)
    have hcnt : cntN (nodeOfL l g n) n = l.length := cntUp_of (fun j hj => (hat j hj).2) (fun hc => by
      have e := getD_drop (nodeOfL l g n) (l.length * (n + 3)) 0
      have e2 := enc_end hall (List.replicate (4 * (n + 3) - (encAll l).length) 0)
      rw [← hd] at e2
      rw [Nat.add_zero, e2] at e
      rw [e, List.getD_eq_getElem?_getD, List.getElem?_replicate]
      split <;> decide) h1 4 0 rfl (Nat.zero_le _)
    unfold candN firstN
    rw [hcnt]
    apply List.ext_getElem
    · simp
    · intro k k1 k2
      simp
      exact (hat k k2).1
  have hB : readNB (nodeOfL l g n) g n = true := by
    unfold readNB
    rw [hf, Int.toNat_natCast, hcand, hlen.1]
    unfold nodeSizeZ
    rw [if_pos (by omega)]
    simp
  refine ⟨hB, ?_⟩
  unfold readNM
  rw [if_pos hB, Int.toNat_natCast, hcand]
/-- Every node of a width has as many bytes. -/
theorem node_len {l : NodeM} {z v : Int} (h : nodeOkB l z v = true) : (nodeOfL l z v).length = (nodeOfL [] z v).length ∧ ((nodeOfL l z v).length : Int) = nodeSizeZ v := by
  obtain ⟨h1, h2⟩ := nodeOkB_ok h
  have hf := (blocksOkB_all h2).1
  have h0 : nodeOkB [] z v = true := by unfold nodeOkB blocksOkB; rw [hf]; rfl
  obtain ⟨g, n, rfl, rfl, hg6, hn1, hn2⟩ := frameB_ok hf
  rw [(nodeOfL_length h).1, (nodeOfL_length h0).1]
  refine ⟨rfl, ?_⟩
  unfold nodeSizeZ
  rw [if_pos (by omega)]
  omega
end Go.Proofs.Ytmkgddbdkpkgpaa
end

section
namespace Go.Proofs.Ytmkgddbdkpkgpaa
open Go.RowKit
set_option linter.unusedVariables false

theorem nodeOfL_sz (l : NodeM) (z v : Int) : szByteS (nodeOfL l z v) ≤ 1000000000000 := by
  have := nodeOfL_bd l z v
  unfold szByteS
  omega
theorem sumD_le {n : Nat} : ∀ {l : List BlkM}, (∀ m ∈ l, m.data.length ≤ n) → sumD l ≤ l.length * n
  | [], _ => by simp [sumD]
  | m :: l, h => by
    have h1 := h m (by simp)
    have h2 := sumD_le (l := l) (fun x hx => h x (List.mem_cons_of_mem _ hx))
    have e : sumD (m :: l) = m.data.length + sumD l := by unfold sumD; simp
    rw [e, List.length_cons, Nat.add_mul]
    omega
theorem readNM_bd (d : List UInt8) (z v : Int) : mcNode (readNM d z v) ≤ 1000000000000 := by
  unfold readNM
  split
  · rename_i h
    unfold readNB at h
    simp only [Bool.and_eq_true] at h
    obtain ⟨g, n, rfl, rfl, _, _, hn⟩ := frameB_ok h.1
    rw [Int.toNat_natCast]
    have hl : (candN d n).length ≤ 4 := by unfold candN; rw [firstN_length]; exact cntN_le d n
    have hs : sumD (candN d n) ≤ (candN d n).length * n := sumD_le (fun m hm => by
      unfold candN firstN at hm
      obtain ⟨j, _, rfl⟩ := List.mem_map.1 hm
      unfold blkAt
      simp only [List.length_take]
      exact Nat.min_le_left _ _)
    have hp : (candN d n).length * n ≤ 4 * 200 := Nat.mul_le_mul hl hn
    unfold mcNode mcBlockS
    omega
  · simp [mcNode, mcBlockS, sumD]
theorem mcBlockS_le {l : List BlkM} (h : szBlockS l ≤ 1048576) : mcBlockS l ≤ 1000000000000 := by unfold szBlockS at h; unfold mcBlockS; omega
theorem mcNode_le {l : NodeM} (h : szNode l ≤ 1048576) : mcNode l ≤ 1000000000000 := mcBlockS_le h
theorem blockSIn_at {c : Value} {l : List BlkM} {w : World} (h : BlockSIn [c] l w) : ∃ a cap, c = .slice a l.length cap ∧ l.length ≤ cap ∧ l.length ≤ maxLen ∧ True := by
  obtain ⟨a, cap, _, hc, h1, h2, _⟩ := blockSIn_shape h
  exact ⟨a, cap, hc, h1, h2, trivial⟩
end Go.Proofs.Ytmkgddbdkpkgpaa
end
