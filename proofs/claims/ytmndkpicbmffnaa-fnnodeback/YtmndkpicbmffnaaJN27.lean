/- Unpad in one. Written by tools/join2.py. -/
import Derived.Test.YtmndkpicbmffnaaJN1
import Derived.Test.YtmndkpicbmffnaaJN26
import Derived.Test.YtmndkpicbmffnaaJN3
import Derived.Deep.RegionWith
section
namespace Go.Proofs.Ytmndkpicbmffnaa
open Go.RowKit
set_option linter.unusedVariables false

/-- string(b) of a slice of bytes that lies in memory, cut or not. -/
theorem conv_row {w : World} {b off n cap : Nat} {l : List UInt8} (hn : l.length = n) (h : ∀ i, i < l.length → w.cell? ⟨b, off + i, none⟩ = (l.map bval)[i]?) :
    (convert 22 9 (.slice (some ⟨b, off, none⟩) n cap)).run Try.prog w = .ok (.string (strL l)) w := by
  have e : strL l = strOfNums (l.map fun c => (c.toNat : Int)) := by
    unfold strL strOfNums; congr 1; simp [Function.comp_def]
  rw [e]
  refine run_convert_bytes_arg w 22 5 Try.underlying22 Try.underlying5 b off n cap _ (by simpa using hn) ?_ 9 Try.underlying9
  intro i hi
  rw [h i (by omega)]
  have hl : i < l.length := by omega
  simp [bval, hl]

theorem strL_toList (l : List UInt8) : (strL l).toList = l := ByteArray.toList_mk l

set_option maxHeartbeats 400000 in
theorem bytesEqual (b1 o1 n1 c1 b2 o2 n2 c2 : Nat) (l1 l2 : List UInt8) (w : World) (hn1 : l1.length = n1) (hn2 : l2.length = n2)
    (r1 : ∀ i, i < l1.length → w.cell? ⟨b1, o1 + i, none⟩ = (l1.map bval)[i]?) (r2 : ∀ i, i < l2.length → w.cell? ⟨b2, o2 + i, none⟩ = (l2.map bval)[i]?) :
    Calls Try.prog 48 #[.slice (some ⟨b1, o1, none⟩) n1 c1, .slice (some ⟨b2, o2, none⟩) n2 c2] w fun e w' => e = .returned (.bool (l1 == l2)) ∧ w = w' := by
  have v1 := conv_row (cap := c1) hn1 r1
  have v2 := conv_row (cap := c2) hn2 r2
  clear r1 r2
  go_enter Try.func48, Try.ntmps48
  go_wp2
  go_ret
  exact ⟨ret_bool (by rw [strL_toList, strL_toList]), rfl⟩

/-- The word that a padded form tells of. -/
def inner (d : List UInt8) : List UInt8 := (d.drop 1).take (d.getD 0 0).toNat
def unpB (d : List UInt8) : Bool := decide (d.length = 33) && decide ((d.getD 0 0).toNat ≤ 32) && wordB (inner d) && (padL (inner d) == d)
def unpL (d : List UInt8) : List UInt8 := if unpB d then inner d else []
theorem ret_pair {a b : ByteArray} {c d : Bool} (h : a = b) (k : c = d) : Ending.returned (.tuple #[.string a, .bool c]) = .returned (.tuple #[.string b, .bool d]) := by rw [h, k]
theorem unp_no {d : List UInt8} (h : unpB d = false) : unpL d = [] := by unfold unpL; rw [h]; rfl
theorem unp_yes {d : List UInt8} (h : unpB d = true) : unpL d = inner d := by unfold unpL; rw [h]; rfl
theorem unp_len {d : List UInt8} (h : d.length ≠ 33) : unpB d = false := by unfold unpB; simp [h]
theorem unp_big {d : List UInt8} (h : ¬ (d.getD 0 0).toNat ≤ 32) : unpB d = false := by unfold unpB; simp only [h, decide_false, Bool.and_false, Bool.false_and]
theorem unp_small {d : List UInt8} (h : (d.getD 0 0).toNat < 1) : unpB d = false := by
  have e : inner d = [] := by unfold inner; rw [show (d.getD 0 0).toNat = 0 from by omega, List.take_zero]
  unfold unpB; rw [e]; simp [wordB]
theorem unp_word {d : List UInt8} (h : wordB (inner d) = false) : unpB d = false := by unfold unpB; simp only [h, Bool.and_false, Bool.false_and]
theorem unp_at {d : List UInt8} (h1 : d.length = 33) (h2 : (d.getD 0 0).toNat ≤ 32) (h3 : wordB (inner d) = true) : unpB d = (padL (inner d) == d) := by
  unfold unpB; simp only [h1, h2, h3, decide_true, Bool.true_and]
theorem inner_length {d : List UInt8} (h1 : d.length = 33) (h2 : (d.getD 0 0).toNat ≤ 32) : (inner d).length = (d.getD 0 0).toNat := by
  unfold inner; rw [List.length_take, List.length_drop, h1]; omega
theorem inner_row {w : World} {b off : Nat} {d : List UInt8} (h1 : d.length = 33) (h : ∀ i, i < (d.map bval).length → w.cell? ⟨b, off + i, none⟩ = (d.map bval)[i]?) :
    ∀ i, i < (inner d).length → w.cell? ⟨b, off + 1 + i, none⟩ = ((inner d).map bval)[i]? := by
  intro i hi
  have hi' : i < (d.getD 0 0).toNat ∧ 1 + i < d.length := by
    unfold inner at hi; rw [List.length_take, List.length_drop] at hi; omega
  rw [Nat.add_assoc, h (1 + i) (by simpa using hi'.2)]
  unfold inner
  rw [List.map_take, List.map_drop, List.getElem?_take_of_lt hi'.1, List.getElem?_drop]

theorem own_cells {w : World} {base g n cap : Nat} {l : List UInt8} (h : w.ownsRow base 5 1 (.slice (some ⟨g, 0, none⟩) n cap) n (l.map bval)) (hn : l.length = n) :
    ∀ i, i < l.length → w.cell? ⟨g, 0 + i, none⟩ = (l.map bval)[i]? := by
  intro i hi; rw [Nat.zero_add]; exact h.cellAt i (by omega)
theorem cells_below {w w' : World} {b off : Nat} {l : List UInt8} (h : ∀ i, i < l.length → w.cell? ⟨b, off + i, none⟩ = (l.map bval)[i]?) (hb : Below w.heap.size w w') :
    ∀ i, i < l.length → w'.cell? ⟨b, off + i, none⟩ = (l.map bval)[i]? := by
  intro i hi
  have h1 := h i hi
  rw [← h1]
  refine hb.cell ?_
  rw [List.getElem?_eq_getElem (by simpa using hi)] at h1
  exact block_lt_of_cell h1


end Go.Proofs.Ytmndkpicbmffnaa
end
