/- Tree nodes, plain: a node back from its bytes. No function of the program in it. -/
import Derived.Test.YtmndkpicbmffnaaBlkN
namespace Go.Proofs.Ytmndkpicbmffnaa
open Go.RowKit
set_option linter.unusedVariables false

theorem enc_at {l : List BlkM} {n : Nat} (h : ∀ m ∈ l, m.data.length = n) {k : Nat} (hk : k < l.length) (r : List UInt8) : ∃ r', (encAll l ++ r).drop (k * (n + 3)) = encB l[k] ++ r' := by
  have h1 : (encAll (l.take k)).length = k * (n + 3) := by
    rw [encAll_length (n := n) (fun m hm => h m (List.mem_of_mem_take hm)), List.length_take, Nat.min_eq_left (Nat.le_of_lt hk)]
  have h2 : encAll l = encAll (l.take k) ++ (encB l[k] ++ encAll (l.drop (k + 1))) := by
    have e : l = l.take k ++ l[k] :: l.drop (k + 1) := by rw [← List.drop_eq_getElem_cons hk, List.take_append_drop]
    unfold encAll
    rw [← List.flatMap_cons, ← List.flatMap_append, ← e]
  refine ⟨encAll (l.drop (k + 1)) ++ r, ?_⟩
  rw [h2, List.append_assoc, ← h1, List.drop_left, List.append_assoc]
theorem enc_end {l : List BlkM} {n : Nat} (h : ∀ m ∈ l, m.data.length = n) (r : List UInt8) : (encAll l ++ r).drop (l.length * (n + 3)) = r := by
  rw [← encAll_length h, List.drop_left]
theorem getD_drop (d : List UInt8) (t i : Nat) : d.getD (t + i) 0 = (d.drop t).getD i 0 := by
  rw [List.getD_eq_getElem?_getD, List.getD_eq_getElem?_getD, List.getElem?_drop]
theorem byte_back {z : Int} (h0 : 0 ≤ z) (h1 : z ≤ 255) : (((UInt8.ofNat z.toNat).toNat : Nat) : Int) = z := by
  rw [UInt8.toNat_ofNat', Nat.mod_eq_of_lt (by omega)]; omega
theorem blkAt_of {d : List UInt8} {n t : Nat} {m : BlkM} {r : List UInt8} (h : d.drop t = encB m ++ r) (hd : m.data.length = n) (hid : 0 ≤ m.id ∧ m.id ≤ 255) (hlf : 0 ≤ m.leaf ∧ m.leaf ≤ 255) : blkAt d n t = m ∧ d.getD t 0 = 1 := by
  have e0 := getD_drop d t 0
  have e1 := getD_drop d t 1
  have e2 := getD_drop d t 2
  have e3 : d.drop (t + 3) = (d.drop t).drop 3 := by rw [List.drop_drop]
  rw [h] at e0 e1 e2 e3
  unfold encB at e0 e1 e2 e3
  simp at e0 e1 e2 e3
  refine ⟨?_, by rw [List.getD_eq_getElem?_getD]; exact e0⟩
  unfold blkAt
  rw [List.getD_eq_getElem?_getD, List.getD_eq_getElem?_getD, e1, e2, e3, byte_back hid.1 hid.2, byte_back hlf.1 hlf.2, ← hd, List.take_left]
theorem cntUp_of {d : List UInt8} {n c : Nat} (hone : ∀ j, j < c → d.getD (j * (n + 3)) 0 = 1) (hstop : c < 4 → ¬ d.getD (c * (n + 3)) 0 = 1) (hc : c ≤ 4) : ∀ f k, k + f = 4 → k ≤ c → cntUp d n f k = c
  | 0, k, hf, hk => by unfold cntUp; omega
  | f + 1, k, hf, hk => by
    unfold cntUp
    by_cases h : k < c
    · rw [if_pos (hone k h)]; exact cntUp_of hone hstop hc f (k + 1) (by omega) h
    · have e : k = c := by omega
      subst e
      rw [if_neg (hstop (by omega))]
theorem leaf_255 {z t : Int} (h : leafB z t = true) : 0 ≤ t ∧ t ≤ 255 := by
  obtain ⟨g, a, rfl, rfl, hg, ha⟩ := leafB_ok h
  have := pow_64 hg
  omega
theorem node_back {l : NodeM} {z v : Int} (h : nodeOkB l z v = true) : readNB (nodeOfL l z v) z v = true ∧ readNM (nodeOfL l z v) z v = l := by
  obtain ⟨h1, h2⟩ := nodeOkB_ok h
  have hf := (blocksOkB_all h2).1
  obtain ⟨g, n, rfl, rfl, hg6, hn1, hn2⟩ := frameB_ok hf
  have hall : ∀ m ∈ l, m.data.length = n := fun m hm => by have := (blockOkB_ok (blocksOkB_each h2 m hm)).2.2.2; omega
  have hlen := nodeOfL_length h
  rw [Int.toNat_natCast] at hlen
  have hd : nodeOfL l g n = encAll l ++ List.replicate (4 * (n + 3) - (encAll l).length) 0 := by unfold nodeOfL; rw [if_pos h, Int.toNat_natCast]
  have hcand : candN (nodeOfL l g n) n = l := by
    have hat : ∀ k (hk : k < l.length), blkAt (nodeOfL l g n) n (k * (n + 3)) = l[k] ∧ (nodeOfL l g n).getD (k * (n + 3)) 0 = 1 := fun k hk => by
      obtain ⟨r', hr⟩ := enc_at hall hk (List.replicate (4 * (n + 3) - (encAll l).length) 0)
      have ok := blockOkB_ok (blocksOkB_each h2 _ (List.getElem_mem hk))
      rw [← hd] at hr
      exact blkAt_of hr (hall _ (List.getElem_mem hk)) ok.2.1 (leaf_255 ok.2.2.1)
    have hcnt : cntN (nodeOfL l g n) n = l.length := cntUp_of (fun j hj => (hat j hj).2) (fun hc => by
      have e := getD_drop (nodeOfL l g n) (l.length * (n + 3)) 0
      have e2 := enc_end hall (List.replicate (4 * (n + 3) - (encAll l).length) 0)
      rw [← hd] at e2
      rw [Nat.add_zero, e2] at e
      rw [e, List.getD_eq_getElem?_getD, List.getElem?_replicate]
      split <;> decide) h1 4 0 rfl (Nat.zero_le _)
    unfold candN firstN
    rw [hcnt]
    apply List.ext_getElem
    · simp
    · intro k k1 k2
      simp
      exact (hat k k2).1
  have hB : readNB (nodeOfL l g n) g n = true := by
    unfold readNB
    rw [hf, Int.toNat_natCast, hcand, hlen.1]
    unfold nodeSizeZ
    rw [if_pos (by omega)]
    simp
  refine ⟨hB, ?_⟩
  unfold readNM
  rw [if_pos hB, Int.toNat_natCast, hcand]
/-- Every node of a width has as many bytes. -/
theorem node_len {l : NodeM} {z v : Int} (h : nodeOkB l z v = true) : (nodeOfL l z v).length = (nodeOfL [] z v).length ∧ ((nodeOfL l z v).length : Int) = nodeSizeZ v := by
  obtain ⟨h1, h2⟩ := nodeOkB_ok h
  have hf := (blocksOkB_all h2).1
  have h0 : nodeOkB [] z v = true := by unfold nodeOkB blocksOkB; rw [hf]; rfl
  obtain ⟨g, n, rfl, rfl, hg6, hn1, hn2⟩ := frameB_ok hf
  rw [(nodeOfL_length h).1, (nodeOfL_length h0).1]
  refine ⟨rfl, ?_⟩
  unfold nodeSizeZ
  rw [if_pos (by omega)]
  omega
end Go.Proofs.Ytmndkpicbmffnaa
