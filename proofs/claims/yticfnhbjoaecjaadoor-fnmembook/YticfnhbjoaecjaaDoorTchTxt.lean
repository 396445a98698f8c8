/- The text of a log, plain; a row of bytes out of a string. (The walks: wip/draft, under way.) -/
import Derived.Test.YticfnhbjoaecjaaDoorNumL
import Derived.Test.YticfnhbjoaecjaaDoorMemL
import Derived.Test.YticfnhbjoaecjaaDoorShelf
import Derived.Lib.AppendIntMem
import Derived.Lib.SmallJoins
import Derived.Lib.ConvBytes
import Derived.Lib.AtoiErrMem
namespace Go.Proofs.YticfnhbjoaecjaaDoor
open Go.RowKit
set_option linter.unusedVariables false
set_option maxRecDepth 100000

def opL (x : Int) : List UInt8 := if x = 1 then [114] else if x = 2 then [119] else [63]
def touchL (t : TouchM) : List UInt8 := opL t.op ++ Lib.itoa t.ad ++ [58] ++ Lib.itoa t.len
def textL (l : List TouchM) : List UInt8 := if 6000 < l.length then [] else Lib.join (l.map touchL) [32]
theorem text_long {l : List TouchM} (h : 6000 < l.length) : textL l = [] := if_pos h
theorem text_fine {l : List TouchM} (h : ¬ 6000 < l.length) : textL l = Lib.join (l.map touchL) [32] := if_neg h
theorem join_snoc (xs : List (List UInt8)) (x sep : List UInt8) : Lib.join (xs ++ [x]) sep = if xs = [] then x else Lib.join xs sep ++ sep ++ x := by
  cases xs with
  | nil => simp [Lib.join_one]
  | cons y r =>
    rw [if_neg (by simp), List.cons_append, Lib.join_cons, Lib.join_cons]
    simp [Lib.joinTail, List.append_assoc]
theorem touchL_len {t : TouchM} (h : tbd t) : (touchL t).length ≤ 44 := by
  have h1 := itoa_len t.ad h.2.1.1 h.2.1.2
  have h2 := itoa_len t.len h.2.2.1 h.2.2.2
  have h3 : (opL t.op).length = 1 := by unfold opL; split <;> (try split) <;> rfl
  unfold touchL
  simp only [List.length_append, List.length_cons, List.length_nil]
  omega
theorem join_len : ∀ (l : List TouchM), (∀ t ∈ l, tbd t) → (Lib.join (l.map touchL) [32]).length ≤ l.length * 45
  | [], _ => by simp [Lib.join_nil]
  | t :: l, h => by
    rw [List.map_cons, Lib.join_cons]
    have h1 := touchL_len (h t List.mem_cons_self)
    have aux : ∀ (r : List TouchM), (∀ t ∈ r, tbd t) → (Lib.joinTail [32] (r.map touchL)).length ≤ r.length * 45 := by
      intro r
      induction r with
      | nil => intro _; simp [Lib.joinTail]
      | cons u r ih =>
        intro hr
        have h2 := ih (fun t ht => hr t (List.mem_cons_of_mem _ ht))
        have h3 := touchL_len (hr u List.mem_cons_self)
        simp only [Lib.joinTail, List.map_cons, List.flatten_cons, List.length_append, List.length_cons, List.length_nil] at h2 ⊢
        omega
    have h4 := aux l (fun t ht => h t (List.mem_cons_of_mem _ ht))
    simp only [List.length_append, List.length_cons]
    omega
theorem row_bytes (w : World) (e : TypeId) (s : ByteArray) : Row (Lib.bytesWorld w e s) (some ⟨w.heap.size, 0, none⟩) (s.data.toList.map bval) := by
  refine .inr ⟨_, 0, rfl, fun i hi => ?_⟩
  have hi' : i < s.size := by simpa using hi
  rw [Nat.zero_add, Lib.bytesWorld_cell w e s i hi']
  have h2 : i < s.data.size := hi'
  have h3 : s.data[i]? = some s.data[i] := Array.getElem?_eq_getElem h2
  simp [List.getD, h3, bval]
theorem op_cases (x : Int) : (x = 1 ∧ opL x = [114]) ∨ (x = 2 ∧ opL x = [119]) ∨ (x ≠ 1 ∧ x ≠ 2 ∧ opL x = [63]) := by
  unfold opL
  by_cases h1 : x = 1
  · left; exact ⟨h1, if_pos h1⟩
  · by_cases h2 : x = 2
    · right; left; exact ⟨h2, by rw [if_neg h1, if_pos h2]⟩
    · right; right; exact ⟨h1, h2, by rw [if_neg h1, if_neg h2]⟩
end Go.Proofs.YticfnhbjoaecjaaDoor
