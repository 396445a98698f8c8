/- Bounds of chapter 12's results and of what the laws mark. -/
import Derived.Test.YtmndkpicbmffnaaTnK
import Derived.Test.YtmndkpicbmffnaaBlkK
import Derived.Test.YtmndkpicbmffnaaBlkL
namespace Go.Proofs.Ytmndkpicbmffnaa
open Go.RowKit
set_option linter.unusedVariables false

theorem nodeOfL_sz (l : NodeM) (z v : Int) : szByteS (nodeOfL l z v) ≤ 1000000000000 := by
  have := nodeOfL_bd l z v
  unfold szByteS
  omega
theorem sumD_le {n : Nat} : ∀ {l : List BlkM}, (∀ m ∈ l, m.data.length ≤ n) → sumD l ≤ l.length * n
  | [], _ => by simp [sumD]
  | m :: l, h => by
    have h1 := h m (by simp)
    have h2 := sumD_le (l := l) (fun x hx => h x (List.mem_cons_of_mem _ hx))
    have e : sumD (m :: l) = m.data.length + sumD l := by unfold sumD; simp
    rw [e, List.length_cons, Nat.add_mul]
    omega
theorem readNM_bd (d : List UInt8) (z v : Int) : mcNode (readNM d z v) ≤ 1000000000000 := by
  unfold readNM
  split
  · rename_i h
    unfold readNB at h
    simp only [Bool.and_eq_true] at h
    obtain ⟨g, n, rfl, rfl, _, _, hn⟩ := frameB_ok h.1
    rw [Int.toNat_natCast]
    have hl : (candN d n).length ≤ 4 := by unfold candN; rw [firstN_length]; exact cntN_le d n
    have hs : sumD (candN d n) ≤ (candN d n).length * n := sumD_le (fun m hm => by
      unfold candN firstN at hm
      obtain ⟨j, _, rfl⟩ := List.mem_map.1 hm
      unfold blkAt
      simp only [List.length_take]
      exact Nat.min_le_left _ _)
    have hp : (candN d n).length * n ≤ 4 * 200 := Nat.mul_le_mul hl hn
    unfold mcNode mcBlockS
    omega
  · simp [mcNode, mcBlockS, sumD]
theorem mcBlockS_le {l : List BlkM} (h : szBlockS l ≤ 1048576) : mcBlockS l ≤ 1000000000000 := by unfold szBlockS at h; unfold mcBlockS; omega
theorem mcNode_le {l : NodeM} (h : szNode l ≤ 1048576) : mcNode l ≤ 1000000000000 := mcBlockS_le h
theorem blockSIn_at {c : Value} {l : List BlkM} {w : World} (h : BlockSIn [c] l w) : ∃ a cap, c = .slice a l.length cap ∧ l.length ≤ cap ∧ l.length ≤ maxLen ∧ True := by
  obtain ⟨a, cap, _, hc, h1, h2, _⟩ := blockSIn_shape h
  exact ⟨a, cap, hc, h1, h2, trivial⟩
end Go.Proofs.Ytmndkpicbmffnaa
