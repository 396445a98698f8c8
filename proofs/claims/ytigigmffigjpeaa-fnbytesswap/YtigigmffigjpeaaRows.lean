/-
  No cell of these rows narrows 'for every input' (looked for: loops, veiled, ifaces, maps, wideKeys, modest, calm, conditions, laid).
  DERIVED. THE GIVEN ROWS OF THIS SEAT. 11 by the template 'for every input the law returns true; each argument reads behind the call as it read before'; 0 by the template 'total and deterministic' (their statements: YtigigmffigjpeaaTotals.lean).
  GIVEN WITH THE SEED: the statements are not yours to turn. If you find one false, say at which input.
  Laid BY PROGRAM, IN A SANDBOX (cutbox-rows.mjs): the forced cells as the released guide's own fill.sh prints them over the translation 917767aee62ca3a1… (all of the seat's roots in one cut). By AI agents, Wed Nov 11 2026. No macro, syntax, notation, axiom, sorry.
-/
import Derived.Test.YtigigmffigjpeaaChecked
import GoSem.Claim
import GoSem.ClaimJoined
import GoSem.ClaimMapViews
import Derived.JoinedTies
import Derived.KernelRfl
namespace Go.Proofs.Ytigigmffigjpeaa
/- THE CELL 'sum', in the pinned program and in every row, IS THE sha256 OF THE DUMP (.gsa) THAT YtigigmffigjpeaaProg.lean LOADS. Nothing in Lean hashes anything: it is a label: what it is worth is what the hold of that sum in a sandbox is worth. -/
noncomputable def Try.pinned : Pinned := { name := "ytigigmffigjpeaa", sum := "917767aee62ca3a17020ee6a18fe4833b53f41684044f9a911891fd1f71f7a96", checked := Try.checked }
namespace Rows
def none {H : Type} : Left H := { results := [], args := [] }

/-- 'laws.FnMasks': WHATEVER THE INPUT: true; the input reads as it did. -/
def fnMasksSpec : ChangeSpec := { name := "fnMasks", fn := fun _ => fun
  | [d] => { results := [.lit (.bool true)], args := [d] }
  | _ => none }
def fnMasksRow : OpenClaim := { program := "ytigigmffigjpeaa", sum := "917767aee62ca3a17020ee6a18fe4833b53f41684044f9a911891fd1f71f7a96", func := "loop.example/g00663/laws.FnMasks", spec := "fnMasks", inPlace := ["math/bits.Sub64"], apart := false }
def FnMasksSaid : Prop := fnMasksRow.holds Try.pinned (OpenSpec.ofChange fnMasksSpec)

/-- ITS FALSE NEIGHBOUR: 'it returns false'. Refute it at one input. -/
def fnMasksWrong : ChangeSpec := { name := "fnMasks", fn := fun _ => fun
  | [d] => { results := [.lit (.bool false)], args := [d] }
  | _ => none }
def FnMasksWrongFalsely : Prop := fnMasksRow.holds Try.pinned (OpenSpec.ofChange fnMasksWrong)

/-- 'laws.FnBytesSwap': WHATEVER THE INPUT: true; the input reads as it did. -/
def fnBytesSwapSpec : ChangeSpec := { name := "fnBytesSwap", fn := fun _ => fun
  | [d] => { results := [.lit (.bool true)], args := [d] }
  | _ => none }
def fnBytesSwapRow : OpenClaim := { program := "ytigigmffigjpeaa", sum := "917767aee62ca3a17020ee6a18fe4833b53f41684044f9a911891fd1f71f7a96", func := "loop.example/g00663/laws.FnBytesSwap", spec := "fnBytesSwap", apart := false }
def FnBytesSwapSaid : Prop := fnBytesSwapRow.holds Try.pinned (OpenSpec.ofChange fnBytesSwapSpec)

/-- ITS FALSE NEIGHBOUR: 'it returns false'. Refute it at one input. -/
def fnBytesSwapWrong : ChangeSpec := { name := "fnBytesSwap", fn := fun _ => fun
  | [d] => { results := [.lit (.bool false)], args := [d] }
  | _ => none }
def FnBytesSwapWrongFalsely : Prop := fnBytesSwapRow.holds Try.pinned (OpenSpec.ofChange fnBytesSwapWrong)

/-- 'laws.FnExactMaskEq': WHATEVER THE INPUT: true; the input reads as it did. -/
def fnExactMaskEqSpec : ChangeSpec := { name := "fnExactMaskEq", fn := fun _ => fun
  | [d1, d2] => { results := [.lit (.bool true)], args := [d1, d2] }
  | _ => none }
def fnExactMaskEqRow : OpenClaim := { program := "ytigigmffigjpeaa", sum := "917767aee62ca3a17020ee6a18fe4833b53f41684044f9a911891fd1f71f7a96", func := "loop.example/g00663/laws.FnExactMaskEq", spec := "fnExactMaskEq", apart := false }
def FnExactMaskEqSaid : Prop := fnExactMaskEqRow.holds Try.pinned (OpenSpec.ofChange fnExactMaskEqSpec)

/-- ITS FALSE NEIGHBOUR: 'it returns false'. Refute it at one input. -/
def fnExactMaskEqWrong : ChangeSpec := { name := "fnExactMaskEq", fn := fun _ => fun
  | [d1, d2] => { results := [.lit (.bool false)], args := [d1, d2] }
  | _ => none }
def FnExactMaskEqWrongFalsely : Prop := fnExactMaskEqRow.holds Try.pinned (OpenSpec.ofChange fnExactMaskEqWrong)

/-- 'laws.FnExactMaskLess': WHATEVER THE INPUT: true; the input reads as it did. -/
def fnExactMaskLessSpec : ChangeSpec := { name := "fnExactMaskLess", fn := fun _ => fun
  | [d1, d2] => { results := [.lit (.bool true)], args := [d1, d2] }
  | _ => none }
def fnExactMaskLessRow : OpenClaim := { program := "ytigigmffigjpeaa", sum := "917767aee62ca3a17020ee6a18fe4833b53f41684044f9a911891fd1f71f7a96", func := "loop.example/g00663/laws.FnExactMaskLess", spec := "fnExactMaskLess", inPlace := ["math/bits.Sub64"], apart := false }
def FnExactMaskLessSaid : Prop := fnExactMaskLessRow.holds Try.pinned (OpenSpec.ofChange fnExactMaskLessSpec)

/-- ITS FALSE NEIGHBOUR: 'it returns false'. Refute it at one input. -/
def fnExactMaskLessWrong : ChangeSpec := { name := "fnExactMaskLess", fn := fun _ => fun
  | [d1, d2] => { results := [.lit (.bool false)], args := [d1, d2] }
  | _ => none }
def FnExactMaskLessWrongFalsely : Prop := fnExactMaskLessRow.holds Try.pinned (OpenSpec.ofChange fnExactMaskLessWrong)

/-- 'laws.FnExactMaskLow': WHATEVER THE INPUT: true; the input reads as it did. -/
def fnExactMaskLowSpec : ChangeSpec := { name := "fnExactMaskLow", fn := fun _ => fun
  | [d] => { results := [.lit (.bool true)], args := [d] }
  | _ => none }
def fnExactMaskLowRow : OpenClaim := { program := "ytigigmffigjpeaa", sum := "917767aee62ca3a17020ee6a18fe4833b53f41684044f9a911891fd1f71f7a96", func := "loop.example/g00663/laws.FnExactMaskLow", spec := "fnExactMaskLow", apart := false }
def FnExactMaskLowSaid : Prop := fnExactMaskLowRow.holds Try.pinned (OpenSpec.ofChange fnExactMaskLowSpec)

/-- ITS FALSE NEIGHBOUR: 'it returns false'. Refute it at one input. -/
def fnExactMaskLowWrong : ChangeSpec := { name := "fnExactMaskLow", fn := fun _ => fun
  | [d] => { results := [.lit (.bool false)], args := [d] }
  | _ => none }
def FnExactMaskLowWrongFalsely : Prop := fnExactMaskLowRow.holds Try.pinned (OpenSpec.ofChange fnExactMaskLowWrong)

/-- 'laws.FnExactSelect': WHATEVER THE INPUT: true; the input reads as it did. -/
def fnExactSelectSpec : ChangeSpec := { name := "fnExactSelect", fn := fun _ => fun
  | [d1, d2, d3] => { results := [.lit (.bool true)], args := [d1, d2, d3] }
  | _ => none }
def fnExactSelectRow : OpenClaim := { program := "ytigigmffigjpeaa", sum := "917767aee62ca3a17020ee6a18fe4833b53f41684044f9a911891fd1f71f7a96", func := "loop.example/g00663/laws.FnExactSelect", spec := "fnExactSelect", apart := false }
def FnExactSelectSaid : Prop := fnExactSelectRow.holds Try.pinned (OpenSpec.ofChange fnExactSelectSpec)

/-- ITS FALSE NEIGHBOUR: 'it returns false'. Refute it at one input. -/
def fnExactSelectWrong : ChangeSpec := { name := "fnExactSelect", fn := fun _ => fun
  | [d1, d2, d3] => { results := [.lit (.bool false)], args := [d1, d2, d3] }
  | _ => none }
def FnExactSelectWrongFalsely : Prop := fnExactSelectRow.holds Try.pinned (OpenSpec.ofChange fnExactSelectWrong)

/-- 'laws.FnExactSwapIf': WHATEVER THE INPUT: true; the input reads as it did. -/
def fnExactSwapIfSpec : ChangeSpec := { name := "fnExactSwapIf", fn := fun _ => fun
  | [d1, d2, d3] => { results := [.lit (.bool true)], args := [d1, d2, d3] }
  | _ => none }
def fnExactSwapIfRow : OpenClaim := { program := "ytigigmffigjpeaa", sum := "917767aee62ca3a17020ee6a18fe4833b53f41684044f9a911891fd1f71f7a96", func := "loop.example/g00663/laws.FnExactSwapIf", spec := "fnExactSwapIf", apart := false }
def FnExactSwapIfSaid : Prop := fnExactSwapIfRow.holds Try.pinned (OpenSpec.ofChange fnExactSwapIfSpec)

/-- ITS FALSE NEIGHBOUR: 'it returns false'. Refute it at one input. -/
def fnExactSwapIfWrong : ChangeSpec := { name := "fnExactSwapIf", fn := fun _ => fun
  | [d1, d2, d3] => { results := [.lit (.bool false)], args := [d1, d2, d3] }
  | _ => none }
def FnExactSwapIfWrongFalsely : Prop := fnExactSwapIfRow.holds Try.pinned (OpenSpec.ofChange fnExactSwapIfWrong)

/-- 'laws.FnExactBitCount': WHATEVER THE INPUT: true; the input reads as it did. -/
def fnExactBitCountSpec : ChangeSpec := { name := "fnExactBitCount", fn := fun _ => fun
  | [d] => { results := [.lit (.bool true)], args := [d] }
  | _ => none }
def fnExactBitCountRow : OpenClaim := { program := "ytigigmffigjpeaa", sum := "917767aee62ca3a17020ee6a18fe4833b53f41684044f9a911891fd1f71f7a96", func := "loop.example/g00663/laws.FnExactBitCount", spec := "fnExactBitCount", apart := false }
def FnExactBitCountSaid : Prop := fnExactBitCountRow.holds Try.pinned (OpenSpec.ofChange fnExactBitCountSpec)

/-- ITS FALSE NEIGHBOUR: 'it returns false'. Refute it at one input. -/
def fnExactBitCountWrong : ChangeSpec := { name := "fnExactBitCount", fn := fun _ => fun
  | [d] => { results := [.lit (.bool false)], args := [d] }
  | _ => none }
def FnExactBitCountWrongFalsely : Prop := fnExactBitCountRow.holds Try.pinned (OpenSpec.ofChange fnExactBitCountWrong)

/-- 'laws.FnExactBytesEq': WHATEVER THE INPUT: true; the input reads as it did. -/
def fnExactBytesEqSpec : ChangeSpec := { name := "fnExactBytesEq", fn := fun _ => fun
  | [d1, d2] => { results := [.lit (.bool true)], args := [d1, d2] }
  | _ => none }
def fnExactBytesEqRow : OpenClaim := { program := "ytigigmffigjpeaa", sum := "917767aee62ca3a17020ee6a18fe4833b53f41684044f9a911891fd1f71f7a96", func := "loop.example/g00663/laws.FnExactBytesEq", spec := "fnExactBytesEq", apart := false }
def FnExactBytesEqSaid : Prop := fnExactBytesEqRow.holds Try.pinned (OpenSpec.ofChange fnExactBytesEqSpec)

/-- ITS FALSE NEIGHBOUR: 'it returns false'. Refute it at one input. -/
def fnExactBytesEqWrong : ChangeSpec := { name := "fnExactBytesEq", fn := fun _ => fun
  | [d1, d2] => { results := [.lit (.bool false)], args := [d1, d2] }
  | _ => none }
def FnExactBytesEqWrongFalsely : Prop := fnExactBytesEqRow.holds Try.pinned (OpenSpec.ofChange fnExactBytesEqWrong)

/-- 'laws.FnExactBytesSelect': WHATEVER THE INPUT: true; the input reads as it did. -/
def fnExactBytesSelectSpec : ChangeSpec := { name := "fnExactBytesSelect", fn := fun _ => fun
  | [d1, d2, d3] => { results := [.lit (.bool true)], args := [d1, d2, d3] }
  | _ => none }
def fnExactBytesSelectRow : OpenClaim := { program := "ytigigmffigjpeaa", sum := "917767aee62ca3a17020ee6a18fe4833b53f41684044f9a911891fd1f71f7a96", func := "loop.example/g00663/laws.FnExactBytesSelect", spec := "fnExactBytesSelect", apart := false }
def FnExactBytesSelectSaid : Prop := fnExactBytesSelectRow.holds Try.pinned (OpenSpec.ofChange fnExactBytesSelectSpec)

/-- ITS FALSE NEIGHBOUR: 'it returns false'. Refute it at one input. -/
def fnExactBytesSelectWrong : ChangeSpec := { name := "fnExactBytesSelect", fn := fun _ => fun
  | [d1, d2, d3] => { results := [.lit (.bool false)], args := [d1, d2, d3] }
  | _ => none }
def FnExactBytesSelectWrongFalsely : Prop := fnExactBytesSelectRow.holds Try.pinned (OpenSpec.ofChange fnExactBytesSelectWrong)

/-- 'laws.FnExactBytesSwap': WHATEVER THE INPUT: true; the input reads as it did. -/
def fnExactBytesSwapSpec : ChangeSpec := { name := "fnExactBytesSwap", fn := fun _ => fun
  | [d1, d2, d3] => { results := [.lit (.bool true)], args := [d1, d2, d3] }
  | _ => none }
def fnExactBytesSwapRow : OpenClaim := { program := "ytigigmffigjpeaa", sum := "917767aee62ca3a17020ee6a18fe4833b53f41684044f9a911891fd1f71f7a96", func := "loop.example/g00663/laws.FnExactBytesSwap", spec := "fnExactBytesSwap", apart := false }
def FnExactBytesSwapSaid : Prop := fnExactBytesSwapRow.holds Try.pinned (OpenSpec.ofChange fnExactBytesSwapSpec)

/-- ITS FALSE NEIGHBOUR: 'it returns false'. Refute it at one input. -/
def fnExactBytesSwapWrong : ChangeSpec := { name := "fnExactBytesSwap", fn := fun _ => fun
  | [d1, d2, d3] => { results := [.lit (.bool false)], args := [d1, d2, d3] }
  | _ => none }
def FnExactBytesSwapWrongFalsely : Prop := fnExactBytesSwapRow.holds Try.pinned (OpenSpec.ofChange fnExactBytesSwapWrong)

/- THE SECOND FORM. 'bulk': how many values and letters a reading holds, each counted each time it is reached (what is shared counts as often as it is met; a slice's spare places count too). A statement '..UptoSaid' is the law's where the arguments, and the package variables that the reading takes, are together of bulk at most 1048576: NARROWER than '..Said'. Prove '..Said' where nothing that the law and all that it calls make is longer than what came in: it says more and counts as full. Else prove '..UptoSaid'. A law counts once. -/
mutual
def uptoBulk {H : Type} : DataW H → Nat
  | .lit (.string bytes) => bytes.length + 1
  | .lit _ => 1
  | .nil => 1
  | .ptr d => uptoBulk d + 1
  | .slice elems spare => uptoBulkAll elems + uptoBulkAll spare + 1
  | .agg parts => uptoBulkAll parts + 1
  | .iface _ d => uptoBulk d + 1
  | .map entries => uptoBulkEntries entries + 1
  | .held _ => 1
def uptoBulkAll {H : Type} : List (DataW H) → Nat
  | [] => 0
  | d :: r => uptoBulk d + uptoBulkAll r
def uptoBulkEntries {H : Type} : List (Lit × DataW H) → Nat
  | [] => 0
  | x :: r => uptoBulkEntry x + uptoBulkEntries r
def uptoBulkEntry {H : Type} : Lit × DataW H → Nat
  | (.string bytes, d) => bytes.length + uptoBulk d + 1
  | (_, d) => uptoBulk d + 1
 end
def uptoSmall : (H : Type) → List (DataW H) → Bool := fun _ ds => decide (uptoBulkAll ds ≤ 1048576)
def OpenSpec.upto (s : _root_.Go.ChangeSpec) : _root_.Go.OpenSpec := { _root_.Go.OpenSpec.ofChange s with cond := some uptoSmall }

/-- 'laws.FnMasks', WHERE WHAT IT READS IS OF BULK AT MOST 1048576: true; the input reads as it did. -/
def fnMasksUptoRow : OpenClaim := { program := "ytigigmffigjpeaa", sum := "917767aee62ca3a17020ee6a18fe4833b53f41684044f9a911891fd1f71f7a96", func := "loop.example/g00663/laws.FnMasks", spec := "fnMasks", inPlace := ["math/bits.Sub64"], apart := false, narrowed := true }
def FnMasksUptoSaid : Prop := fnMasksUptoRow.holds Try.pinned (OpenSpec.upto fnMasksSpec)

/-- 'laws.FnBytesSwap', WHERE WHAT IT READS IS OF BULK AT MOST 1048576: true; the input reads as it did. -/
def fnBytesSwapUptoRow : OpenClaim := { program := "ytigigmffigjpeaa", sum := "917767aee62ca3a17020ee6a18fe4833b53f41684044f9a911891fd1f71f7a96", func := "loop.example/g00663/laws.FnBytesSwap", spec := "fnBytesSwap", apart := false, narrowed := true }
def FnBytesSwapUptoSaid : Prop := fnBytesSwapUptoRow.holds Try.pinned (OpenSpec.upto fnBytesSwapSpec)

/-- 'laws.FnExactMaskEq', WHERE WHAT IT READS IS OF BULK AT MOST 1048576: true; the input reads as it did. -/
def fnExactMaskEqUptoRow : OpenClaim := { program := "ytigigmffigjpeaa", sum := "917767aee62ca3a17020ee6a18fe4833b53f41684044f9a911891fd1f71f7a96", func := "loop.example/g00663/laws.FnExactMaskEq", spec := "fnExactMaskEq", apart := false, narrowed := true }
def FnExactMaskEqUptoSaid : Prop := fnExactMaskEqUptoRow.holds Try.pinned (OpenSpec.upto fnExactMaskEqSpec)

/-- 'laws.FnExactMaskLess', WHERE WHAT IT READS IS OF BULK AT MOST 1048576: true; the input reads as it did. -/
def fnExactMaskLessUptoRow : OpenClaim := { program := "ytigigmffigjpeaa", sum := "917767aee62ca3a17020ee6a18fe4833b53f41684044f9a911891fd1f71f7a96", func := "loop.example/g00663/laws.FnExactMaskLess", spec := "fnExactMaskLess", inPlace := ["math/bits.Sub64"], apart := false, narrowed := true }
def FnExactMaskLessUptoSaid : Prop := fnExactMaskLessUptoRow.holds Try.pinned (OpenSpec.upto fnExactMaskLessSpec)

/-- 'laws.FnExactMaskLow', WHERE WHAT IT READS IS OF BULK AT MOST 1048576: true; the input reads as it did. -/
def fnExactMaskLowUptoRow : OpenClaim := { program := "ytigigmffigjpeaa", sum := "917767aee62ca3a17020ee6a18fe4833b53f41684044f9a911891fd1f71f7a96", func := "loop.example/g00663/laws.FnExactMaskLow", spec := "fnExactMaskLow", apart := false, narrowed := true }
def FnExactMaskLowUptoSaid : Prop := fnExactMaskLowUptoRow.holds Try.pinned (OpenSpec.upto fnExactMaskLowSpec)

/-- 'laws.FnExactSelect', WHERE WHAT IT READS IS OF BULK AT MOST 1048576: true; the input reads as it did. -/
def fnExactSelectUptoRow : OpenClaim := { program := "ytigigmffigjpeaa", sum := "917767aee62ca3a17020ee6a18fe4833b53f41684044f9a911891fd1f71f7a96", func := "loop.example/g00663/laws.FnExactSelect", spec := "fnExactSelect", apart := false, narrowed := true }
def FnExactSelectUptoSaid : Prop := fnExactSelectUptoRow.holds Try.pinned (OpenSpec.upto fnExactSelectSpec)

/-- 'laws.FnExactSwapIf', WHERE WHAT IT READS IS OF BULK AT MOST 1048576: true; the input reads as it did. -/
def fnExactSwapIfUptoRow : OpenClaim := { program := "ytigigmffigjpeaa", sum := "917767aee62ca3a17020ee6a18fe4833b53f41684044f9a911891fd1f71f7a96", func := "loop.example/g00663/laws.FnExactSwapIf", spec := "fnExactSwapIf", apart := false, narrowed := true }
def FnExactSwapIfUptoSaid : Prop := fnExactSwapIfUptoRow.holds Try.pinned (OpenSpec.upto fnExactSwapIfSpec)

/-- 'laws.FnExactBitCount', WHERE WHAT IT READS IS OF BULK AT MOST 1048576: true; the input reads as it did. -/
def fnExactBitCountUptoRow : OpenClaim := { program := "ytigigmffigjpeaa", sum := "917767aee62ca3a17020ee6a18fe4833b53f41684044f9a911891fd1f71f7a96", func := "loop.example/g00663/laws.FnExactBitCount", spec := "fnExactBitCount", apart := false, narrowed := true }
def FnExactBitCountUptoSaid : Prop := fnExactBitCountUptoRow.holds Try.pinned (OpenSpec.upto fnExactBitCountSpec)

/-- 'laws.FnExactBytesEq', WHERE WHAT IT READS IS OF BULK AT MOST 1048576: true; the input reads as it did. -/
def fnExactBytesEqUptoRow : OpenClaim := { program := "ytigigmffigjpeaa", sum := "917767aee62ca3a17020ee6a18fe4833b53f41684044f9a911891fd1f71f7a96", func := "loop.example/g00663/laws.FnExactBytesEq", spec := "fnExactBytesEq", apart := false, narrowed := true }
def FnExactBytesEqUptoSaid : Prop := fnExactBytesEqUptoRow.holds Try.pinned (OpenSpec.upto fnExactBytesEqSpec)

/-- 'laws.FnExactBytesSelect', WHERE WHAT IT READS IS OF BULK AT MOST 1048576: true; the input reads as it did. -/
def fnExactBytesSelectUptoRow : OpenClaim := { program := "ytigigmffigjpeaa", sum := "917767aee62ca3a17020ee6a18fe4833b53f41684044f9a911891fd1f71f7a96", func := "loop.example/g00663/laws.FnExactBytesSelect", spec := "fnExactBytesSelect", apart := false, narrowed := true }
def FnExactBytesSelectUptoSaid : Prop := fnExactBytesSelectUptoRow.holds Try.pinned (OpenSpec.upto fnExactBytesSelectSpec)

/-- 'laws.FnExactBytesSwap', WHERE WHAT IT READS IS OF BULK AT MOST 1048576: true; the input reads as it did. -/
def fnExactBytesSwapUptoRow : OpenClaim := { program := "ytigigmffigjpeaa", sum := "917767aee62ca3a17020ee6a18fe4833b53f41684044f9a911891fd1f71f7a96", func := "loop.example/g00663/laws.FnExactBytesSwap", spec := "fnExactBytesSwap", apart := false, narrowed := true }
def FnExactBytesSwapUptoSaid : Prop := fnExactBytesSwapUptoRow.holds Try.pinned (OpenSpec.upto fnExactBytesSwapSpec)

end Rows
end Go.Proofs.Ytigigmffigjpeaa
