/- Records, plain: a record as a value; what is valid; its bytes; which is ahead. No function of the program in it. -/
import Derived.Test.YtaedamnhobcdlaaPad
import Derived.Test.YtaedamnhobcdlaaUnpad
import Derived.Test.YtaedamnhobcdlaaCmp
namespace Go.Proofs.Ytaedamnhobcdlaa
open Go.RowKit
open Go.Lib (compareBytes)
set_option linter.unusedVariables false

structure RecM where
  live : Bool
  dist : Int
  weight : Int
  word : ByteArray
def RecM.cells (r : RecM) : Array Value := #[.bool r.live, .int .i64 r.dist, .int .i64 r.weight, .string r.word]
def zeroR : RecM := ⟨false, 0, 0, ⟨#[]⟩⟩
def emptyB (r : RecM) : Bool := !r.live && (decide (r.dist = 0) && (decide (r.weight = 0) && decide (r.word.size = 0)))
def liveB (r : RecM) : Bool := r.live && (decide (0 ≤ r.dist) && (decide (r.dist ≤ 7) && (decide (0 ≤ r.weight) && (decide (r.weight ≤ 65535) && wordB r.word.data.toList))))
def recOkB (r : RecM) : Bool := emptyB r || liveB r
theorem size_zero {s : ByteArray} (h : s.size = 0) : s = ⟨#[]⟩ := by
  obtain ⟨d⟩ := s
  have : d = #[] := Array.eq_empty_of_size_eq_zero h
  rw [this]
theorem emptyB_eq {r : RecM} (h : emptyB r = true) : r = zeroR := by
  unfold emptyB at h
  simp only [Bool.and_eq_true, Bool.not_eq_true', decide_eq_true_eq] at h
  obtain ⟨h1, h2, h3, h4⟩ := h
  obtain ⟨a, b, c, d⟩ := r
  simp only at h1 h2 h3 h4
  have := size_zero h4
  subst h1 h2 h3 this
  rfl
theorem emptyB_zero : emptyB zeroR = true := rfl
theorem liveB_ok {r : RecM} (h : liveB r = true) : r.live = true ∧ (0 ≤ r.dist ∧ r.dist ≤ 7) ∧ (0 ≤ r.weight ∧ r.weight ≤ 65535) ∧ wordB r.word.data.toList = true := by
  unfold liveB at h
  simp only [Bool.and_eq_true, decide_eq_true_eq] at h
  obtain ⟨h1, h2, h3, h4, h5, h6⟩ := h
  exact ⟨h1, ⟨h2, h3⟩, ⟨h4, h5⟩, h6⟩
theorem recOkB_cases {r : RecM} (h : recOkB r = true) : r = zeroR ∨ liveB r = true := by
  unfold recOkB at h
  rcases Bool.or_eq_true _ _ |>.mp h with h | h
  · exact .inl (emptyB_eq h)
  · exact .inr h
theorem toList_data (s : ByteArray) : s.toList = s.data.toList := ByteArray.toList_mk s.data.toList
theorem word_nil {s : ByteArray} : s.toList = [] ↔ s.size = 0 := by
  rw [toList_data]
  constructor
  · intro h
    have := congrArg List.length h
    simpa using this
  · intro h
    rw [size_zero h]
theorem emptyB_no {r : RecM} (h : ¬ (r.live = false ∧ r.dist = 0 ∧ r.weight = 0 ∧ r.word.toList = [])) : emptyB r = false := by
  cases he : emptyB r
  · rfl
  · exfalso
    apply h
    rw [emptyB_eq he]
    exact ⟨rfl, rfl, rfl, word_nil.2 rfl⟩
theorem liveB_no {r : RecM} (h : ¬ (r.live = true ∧ (0 ≤ r.dist ∧ r.dist ≤ 7) ∧ (0 ≤ r.weight ∧ r.weight ≤ 65535))) : liveB r = false := by
  cases he : liveB r
  · rfl
  · exfalso
    obtain ⟨h1, h2, h3, _⟩ := liveB_ok he
    exact h ⟨h1, h2, h3⟩
theorem liveB_at {r : RecM} (h : r.live = true ∧ (0 ≤ r.dist ∧ r.dist ≤ 7) ∧ (0 ≤ r.weight ∧ r.weight ≤ 65535)) : liveB r = wordB r.word.data.toList := by
  obtain ⟨h1, ⟨h2, h3⟩, h4, h5⟩ := h
  unfold liveB
  simp [h1, h2, h3, h4, h5]
theorem recOkB_live {r : RecM} (h : emptyB r = false) : recOkB r = liveB r := by unfold recOkB; rw [h]; rfl
theorem recOkB_empty {r : RecM} (h : emptyB r = true) : recOkB r = true := by unfold recOkB; rw [h]; rfl
/-- The bytes of a record. -/
def headR (r : RecM) : List UInt8 := [if r.live then 1 else 0, UInt8.ofNat r.dist.toNat, UInt8.ofNat (r.weight.toNat / 256), UInt8.ofNat (r.weight.toNat % 256)]
def bytesR (r : RecM) : List UInt8 := headR r ++ padL r.word.data.toList
def recOfL (r : RecM) : List UInt8 := if recOkB r = true then bytesR r else []
theorem bytesR_length (r : RecM) : (bytesR r).length = 37 := by simp [bytesR, headR, padL_length]
/-- .. and back. -/
def candR (d : List UInt8) : RecM := if d.getD 0 0 = 1 then ⟨true, (d.getD 1 0).toNat, 256 * ((d.getD 2 0).toNat : Int) + ((d.getD 3 0).toNat : Int), strL (unpL (d.drop 4))⟩ else zeroR
def readB (d : List UInt8) : Bool := decide (d.length = 37) && (recOkB (candR d) && decide (bytesR (candR d) = d))
def readM (d : List UInt8) : RecM := if readB d = true then candR d else zeroR
theorem readB_len {d : List UInt8} (h : d.length ≠ 37) : readB d = false := by unfold readB; simp [h]
theorem readB_bad {d : List UInt8} (h : recOkB (candR d) = false) : readB d = false := by unfold readB; simp [h]
theorem readB_at {d : List UInt8} (h1 : d.length = 37) (h2 : recOkB (candR d) = true) : readB d = decide (bytesR (candR d) = d) := by unfold readB; simp [h1, h2]
theorem readM_no {d : List UInt8} (h : readB d = false) : readM d = zeroR := by unfold readM; simp [h]
theorem readM_yes {d : List UInt8} (h : readB d = true) : readM d = candR d := by unfold readM; simp [h]
/-- Which is ahead. -/
def aheadB (a b : RecM) : Bool := recOkB a && (recOkB b && (a.live && (!b.live || (if a.dist ≠ b.dist then decide (a.dist < b.dist) else if a.weight ≠ b.weight then decide (b.weight < a.weight) else decide (compareBytes a.word.data.toList b.word.data.toList < 0)))))
end Go.Proofs.Ytaedamnhobcdlaa
