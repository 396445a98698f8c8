/- Bytes, texts and numbers as values; a text out of a row of bytes. -/
import Derived.Test.YtmndkpicbmffnaaBase
import Derived.Test.YtmndkpicbmffnaaPlain1
import Derived.Test.YtmndkpicbmffnaaOwn
import Derived.Laws.BytesArg
namespace Go.Proofs.Ytmndkpicbmffnaa
open Go.RowKit

def bval (c : UInt8) : Value := .int .u8 c.toNat
def strL (l : List UInt8) : ByteArray := ⟨l.toArray⟩
def sval (l : List UInt8) : Value := .string (strL l)
def ival (z : Int) : Value := .int .i64 z
theorem bval_at {l : List UInt8} {k : Nat} (h : k < l.length) : (l.map bval)[k]? = some (.int .u8 (l[k].toNat : Int)) := by
  simp [h, bval]
theorem ival_at {l : List Int} {k : Nat} (h : k < l.length) : (l.map ival)[k]? = some (.int .i64 l[k]) := by simp [h, ival]
theorem strL_empty : strL [] = ⟨#[]⟩ := rfl
theorem strL_data (l : List UInt8) : (strL l).data.toList = l := rfl
theorem strL_size (l : List UInt8) : (strL l).size = l.length := rfl
theorem Try.info3 : (Try.prog.info? 3).map (fun i => (i.zero, i.size, i.bytes)) = some (some (.int .i64 0), 1, 8) := by kernel_rfl
theorem Try.info5 : (Try.prog.info? 5).map (fun i => (i.zero, i.size, i.bytes)) = some (some (.int .u8 0), 1, 1) := by kernel_rfl
/-- string(b) of a row of bytes that the call owns. -/
theorem conv_own {w : World} {base g cap : Nat} {l : List UInt8} (n : Nat) (hn : l.length = n) (h : w.ownsRow base 5 1 (.slice (some ⟨g, 0, none⟩) n cap) n (l.map bval)) :
    (convert 22 9 (.slice (some ⟨g, 0, none⟩) n cap)).run Try.prog w = .ok (.string (strL l)) w := by
  have e : strL l = strOfNums (l.map fun c => (c.toNat : Int)) := by
    unfold strL strOfNums; congr 1; simp [Function.comp_def]
  rw [e]
  refine run_convert_bytes_arg w 22 5 Try.underlying22 Try.underlying5 g 0 n cap _ (by simpa using hn) ?_ 9 Try.underlying9
  intro i hi
  have := h.cellAt i (by omega)
  rw [Nat.zero_add, this]
  have hl : i < l.length := by omega
  simp [bval, hl]

/-- string(b) of whatever the call owns. -/
theorem conv_any {w : World} {base n : Nat} {v : Value} {l : List UInt8} (h : w.ownsRow base 5 1 v n (l.map bval)) :
    (convert 22 9 v).run Try.prog w = .ok (.string (strL l)) w := by
  have hl : l.length = n := by simpa using h.1
  rcases h.2 with ⟨rfl, hn⟩ | ⟨g, cap, cur, rfl, _⟩
  · have : l = [] := List.eq_nil_of_length_eq_zero (by omega)
    subst this
    exact run_convert_bytes_nil w 22 5 Try.underlying22 Try.underlying5 0 0 9 Try.underlying9
  · exact conv_own n hl h
end Go.Proofs.Ytmndkpicbmffnaa
