/- The digits of a number, sorted lists, the first fault of a net: plain, and in the program. -/
import Derived.Test.YtaedamnhobcdlaaNeR
import Derived.Test.YtaedamnhobcdlaaPow
import Derived.Test.YtaedamnhobcdlaaBitsP
import Derived.Deep.RegionWith
import Derived.Test.YtaedamnhobcdlaaArr
namespace Go.Proofs.Ytaedamnhobcdlaa
open Go.RowKit
set_option linter.unusedVariables false
set_option maxRecDepth 100000

def digN (k n i : Nat) : Nat := k / 2 ^ (n - 1 - i) % 2
def digitsM (k n : Nat) : List Int := (List.range n).map fun i => ((digN k n i : Nat) : Int)
theorem digitsM_length (k n : Nat) : (digitsM k n).length = n := by simp [digitsM]
def sortedB (l : List Int) : Bool := (List.range (l.length - 1)).all fun i => decide (l.getD i 0 ≤ l.getD (i + 1) 0)
theorem sortedB_true {l : List Int} : sortedB l = true ↔ ∀ i, i + 1 < l.length → l.getD i 0 ≤ l.getD (i + 1) 0 := by
  unfold sortedB
  rw [List.all_eq_true]
  constructor
  · intro h i hi
    have := h i (by simp; omega)
    simpa using this
  · intro h i hi
    have : i + 1 < l.length := by simp at hi; omega
    simpa using h i this
theorem sortedB_false {l : List Int} {i : Nat} (hi : i + 1 < l.length) (h : l.getD (i + 1) 0 < l.getD i 0) : sortedB l = false := by
  rw [Bool.eq_false_iff]
  intro hs
  have := sortedB_true.1 hs i hi
  omega
def faultAt (m : NetM) (k : Nat) : Bool := !sortedB (runW m.ws (digitsM k m.n.toNat))
def faultK (m : NetM) : Option Nat := (List.range (2 ^ m.n.toNat)).find? (faultAt m)
def provB (m : NetM) : Bool := netOkB m && decide (m.n ≤ 12)
def faultM (m : NetM) : List Int := if provB m = true then (match faultK m with | some k => digitsM k m.n.toNat | none => []) else []
def sortsB (m : NetM) : Bool := provB m && (faultK m).isNone
theorem faultK_some {m : NetM} {k : Nat} (hk : k < 2 ^ m.n.toNat) (h1 : faultAt m k = true) (h2 : ∀ j, j < k → faultAt m j = false) : faultK m = some k := by
  unfold faultK
  rw [List.find?_range_eq_some]
  exact ⟨h1, by simpa using hk, fun j hj => by simp [h2 j hj]⟩
theorem faultK_none {m : NetM} (h2 : ∀ j, j < 2 ^ m.n.toNat → faultAt m j = false) : faultK m = none := by
  unfold faultK
  rw [List.find?_range_eq_none]
  intro j hj
  simp [h2 j hj]
theorem provB_ok {m : NetM} (h : provB m = true) : ∃ n : Nat, m.n = n ∧ 1 ≤ n ∧ n ≤ 12 ∧ (∀ t ∈ m.ws, WireOk n t) ∧ m.ws.length ≤ 2100 ∧ netOkB m = true := by
  unfold provB at h
  simp only [Bool.and_eq_true, decide_eq_true_eq] at h
  obtain ⟨n, h0, h1, h2, h3, h4⟩ := netOkB_ok h.1
  exact ⟨n, h0, h1, by omega, h4, h3, h.1⟩
theorem faultM_le (m : NetM) : (faultM m).length ≤ 64 := by
  unfold faultM
  split
  · rename_i h
    obtain ⟨n, h0, h1, h2, _⟩ := provB_ok h
    split
    · rw [digitsM_length]; omega
    · simp
  · simp
theorem faultM_bd (m : NetM) : szIntS (faultM m) ≤ 1000000000000 := Nat.le_trans (faultM_le m) (by decide)

/-- The first i digits, zeros behind. -/
def digF (k n i : Nat) : Nat → Int := fun j => if j < i then ((digN k n j : Nat) : Int) else 0
theorem digF_zero (k n : Nat) : digF k n 0 = fun _ => 0 := by funext j; simp [digF]
theorem digF_succ (k n i : Nat) : upd (digF k n i) i ((digN k n i : Nat) : Int) = digF k n (i + 1) := by
  funext j
  unfold upd digF
  by_cases e : j = i
  · subst e; simp
  · rw [if_neg e]
    by_cases h : j < i
    · rw [if_pos h, if_pos (by omega)]
    · rw [if_neg h, if_neg (by omega)]
theorem digF_list (k n : Nat) : (List.range n).map (fun j => Value.int .i64 (digF k n n j)) = (digitsM k n).map ival := by
  unfold digitsM
  rw [List.map_map]
  apply List.map_congr_left
  intro j hj
  have : j < n := by simpa using hj
  simp [digF, this, ival]
theorem own_arrD {w : World} {base n g : Nat} (h : w.ownsRow base 3 1 (.slice (some ⟨g, 0, none⟩) n n) n (List.replicate n (.int .i64 0))) : ArrAt w g 3 n (fun _ => 0) := by
  rcases h.2 with ⟨hv, _⟩ | ⟨g', cap', cur, hv, hbg, hg, h1', h2, h3, h4⟩
  · simp at hv
  simp at hv
  obtain ⟨rfl, rfl⟩ := hv
  have hcur : cur.toList = List.replicate n (.int .i64 0) := by rw [← h4, List.take_of_length_le (by simp [h3])]
  unfold ArrAt
  rw [hg]
  congr 2
  apply Array.ext'
  rw [hcur]
  unfold cellsA
  apply List.ext_getElem <;> simp
theorem arrD_own {w : World} {b n base : Nat} {F : Nat → Int} (h : ArrAt w b 3 n F) (hb : base ≤ b) (hn : n ≤ maxLen) : w.ownsRow base 3 1 (.slice (some ⟨b, 0, none⟩) n n) n ((List.range n).map fun j => Value.int .i64 (F j)) := by
  refine ⟨by simp, .inr ⟨b, n, _, rfl, hb, h, Nat.le_refl _, hn, by simp [cellsA], ?_⟩⟩
  simp [cellsA, List.take_of_length_le]
theorem dig_and (k c : Nat) (hk : k < 4096) : bits .and .i64 ((k : Int) / 2 ^ c) (1 : Int) = (k : Int) / 2 ^ c % 2 := by
  rw [show (k : Int) / 2 ^ c % 2 = ((k / 2 ^ c % 2 : Nat) : Int) from by simp]
  have e : (k : Int) / 2 ^ c = ((k / 2 ^ c : Nat) : Int) := by simp
  have hlt : k / 2 ^ c < 4096 := Nat.lt_of_le_of_lt (Nat.div_le_self _ _) hk
  rw [e]
  generalize k / 2 ^ c = a at *
  have h := ofInt_u64 a (by omega)
  have h2 := ofInt_u64 1 (by omega)
  show IntKind.i64.wrap ((BitVec.ofInt 64 (a : Int) &&& BitVec.ofInt 64 ((1 : Nat) : Int)).toNat : Int) = _
  rw [BitVec.toNat_and, h, h2, Nat.and_one_is_mod]
  simp [IntKind.wrap, IntKind.bits, IntKind.signed]
  omega
end Go.Proofs.Ytaedamnhobcdlaa
