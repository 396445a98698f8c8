/-
  No cell of these rows narrows 'for every input' (looked for: loops, veiled, ifaces, maps, wideKeys, modest, calm, conditions, laid).
  DERIVED. THE GIVEN ROWS OF THIS SEAT. 11 by the template 'for every input the law returns true; each argument reads behind the call as it read before'; 0 by the template 'total and deterministic' (their statements: YtfdlmpjccoaejaaTotals.lean).
  GIVEN WITH THE SEED: the statements are not yours to turn. If you find one false, say at which input.
  Laid BY PROGRAM, IN A SANDBOX (cutbox-rows.mjs): the forced cells as the released guide's own fill.sh prints them over the translation 4f90d5c456341580… (all of the seat's roots in one cut). By AI agents, Wed Nov 11 2026. No macro, syntax, notation, axiom, sorry.
-/
import Derived.Test.YtfdlmpjccoaejaaChecked
import GoSem.Claim
import GoSem.ClaimJoined
import GoSem.ClaimMapViews
import Derived.JoinedTies
import Derived.KernelRfl
namespace Go.Proofs.Ytfdlmpjccoaejaa
/- THE CELL 'sum', in the pinned program and in every row, IS THE sha256 OF THE DUMP (.gsa) THAT YtfdlmpjccoaejaaProg.lean LOADS. Nothing in Lean hashes anything: it is a label: what it is worth is what the hold of that sum in a sandbox is worth. -/
noncomputable def Try.pinned : Pinned := { name := "ytfdlmpjccoaejaa", sum := "4f90d5c456341580a96bd53dc939cd7431f22cd3ec0b1b4e062a0ee44580a264", checked := Try.checked }
namespace Rows
def none {H : Type} : Left H := { results := [], args := [] }

/-- 'laws.FnBatch': WHATEVER THE INPUT: true; the input reads as it did. -/
def fnBatchSpec : ChangeSpec := { name := "fnBatch", fn := fun _ => fun
  | [d] => { results := [.lit (.bool true)], args := [d] }
  | _ => none }
def fnBatchRow : OpenClaim := { program := "ytfdlmpjccoaejaa", sum := "4f90d5c456341580a96bd53dc939cd7431f22cd3ec0b1b4e062a0ee44580a264", func := "loop.example/g00663/laws.FnBatch", spec := "fnBatch", apart := false }
def FnBatchSaid : Prop := fnBatchRow.holds Try.pinned (OpenSpec.ofChange fnBatchSpec)

/-- ITS FALSE NEIGHBOUR: 'it returns false'. Refute it at one input. -/
def fnBatchWrong : ChangeSpec := { name := "fnBatch", fn := fun _ => fun
  | [d] => { results := [.lit (.bool false)], args := [d] }
  | _ => none }
def FnBatchWrongFalsely : Prop := fnBatchRow.holds Try.pinned (OpenSpec.ofChange fnBatchWrong)

/-- 'laws.FnNums': WHATEVER THE INPUT: true; the input reads as it did. -/
def fnNumsSpec : ChangeSpec := { name := "fnNums", fn := fun _ => fun
  | [d] => { results := [.lit (.bool true)], args := [d] }
  | _ => none }
def fnNumsRow : OpenClaim := { program := "ytfdlmpjccoaejaa", sum := "4f90d5c456341580a96bd53dc939cd7431f22cd3ec0b1b4e062a0ee44580a264", func := "loop.example/g00663/laws.FnNums", spec := "fnNums", apart := false }
def FnNumsSaid : Prop := fnNumsRow.holds Try.pinned (OpenSpec.ofChange fnNumsSpec)

/-- ITS FALSE NEIGHBOUR: 'it returns false'. Refute it at one input. -/
def fnNumsWrong : ChangeSpec := { name := "fnNums", fn := fun _ => fun
  | [d] => { results := [.lit (.bool false)], args := [d] }
  | _ => none }
def FnNumsWrongFalsely : Prop := fnNumsRow.holds Try.pinned (OpenSpec.ofChange fnNumsWrong)

/-- 'laws.FnExactPlanesOf': WHATEVER THE INPUT: true; the input reads as it did. -/
def fnExactPlanesOfSpec : ChangeSpec := { name := "fnExactPlanesOf", fn := fun _ => fun
  | [d] => { results := [.lit (.bool true)], args := [d] }
  | _ => none }
def fnExactPlanesOfRow : OpenClaim := { program := "ytfdlmpjccoaejaa", sum := "4f90d5c456341580a96bd53dc939cd7431f22cd3ec0b1b4e062a0ee44580a264", func := "loop.example/g00663/laws.FnExactPlanesOf", spec := "fnExactPlanesOf", apart := false }
def FnExactPlanesOfSaid : Prop := fnExactPlanesOfRow.holds Try.pinned (OpenSpec.ofChange fnExactPlanesOfSpec)

/-- ITS FALSE NEIGHBOUR: 'it returns false'. Refute it at one input. -/
def fnExactPlanesOfWrong : ChangeSpec := { name := "fnExactPlanesOf", fn := fun _ => fun
  | [d] => { results := [.lit (.bool false)], args := [d] }
  | _ => none }
def FnExactPlanesOfWrongFalsely : Prop := fnExactPlanesOfRow.holds Try.pinned (OpenSpec.ofChange fnExactPlanesOfWrong)

/-- 'laws.FnExactPlanesOk': WHATEVER THE INPUT: true; the input reads as it did. -/
def fnExactPlanesOkSpec : ChangeSpec := { name := "fnExactPlanesOk", fn := fun _ => fun
  | [d] => { results := [.lit (.bool true)], args := [d] }
  | _ => none }
def fnExactPlanesOkRow : OpenClaim := { program := "ytfdlmpjccoaejaa", sum := "4f90d5c456341580a96bd53dc939cd7431f22cd3ec0b1b4e062a0ee44580a264", func := "loop.example/g00663/laws.FnExactPlanesOk", spec := "fnExactPlanesOk", apart := false }
def FnExactPlanesOkSaid : Prop := fnExactPlanesOkRow.holds Try.pinned (OpenSpec.ofChange fnExactPlanesOkSpec)

/-- ITS FALSE NEIGHBOUR: 'it returns false'. Refute it at one input. -/
def fnExactPlanesOkWrong : ChangeSpec := { name := "fnExactPlanesOk", fn := fun _ => fun
  | [d] => { results := [.lit (.bool false)], args := [d] }
  | _ => none }
def FnExactPlanesOkWrongFalsely : Prop := fnExactPlanesOkRow.holds Try.pinned (OpenSpec.ofChange fnExactPlanesOkWrong)

/-- 'laws.FnExactPlanesWords': WHATEVER THE INPUT: true; the input reads as it did. -/
def fnExactPlanesWordsSpec : ChangeSpec := { name := "fnExactPlanesWords", fn := fun _ => fun
  | [d] => { results := [.lit (.bool true)], args := [d] }
  | _ => none }
def fnExactPlanesWordsRow : OpenClaim := { program := "ytfdlmpjccoaejaa", sum := "4f90d5c456341580a96bd53dc939cd7431f22cd3ec0b1b4e062a0ee44580a264", func := "loop.example/g00663/laws.FnExactPlanesWords", spec := "fnExactPlanesWords", apart := false }
def FnExactPlanesWordsSaid : Prop := fnExactPlanesWordsRow.holds Try.pinned (OpenSpec.ofChange fnExactPlanesWordsSpec)

/-- ITS FALSE NEIGHBOUR: 'it returns false'. Refute it at one input. -/
def fnExactPlanesWordsWrong : ChangeSpec := { name := "fnExactPlanesWords", fn := fun _ => fun
  | [d] => { results := [.lit (.bool false)], args := [d] }
  | _ => none }
def FnExactPlanesWordsWrongFalsely : Prop := fnExactPlanesWordsRow.holds Try.pinned (OpenSpec.ofChange fnExactPlanesWordsWrong)

/-- 'laws.FnExactNumsOf': WHATEVER THE INPUT: true; the input reads as it did. -/
def fnExactNumsOfSpec : ChangeSpec := { name := "fnExactNumsOf", fn := fun _ => fun
  | [d1, d2] => { results := [.lit (.bool true)], args := [d1, d2] }
  | _ => none }
def fnExactNumsOfRow : OpenClaim := { program := "ytfdlmpjccoaejaa", sum := "4f90d5c456341580a96bd53dc939cd7431f22cd3ec0b1b4e062a0ee44580a264", func := "loop.example/g00663/laws.FnExactNumsOf", spec := "fnExactNumsOf", apart := false }
def FnExactNumsOfSaid : Prop := fnExactNumsOfRow.holds Try.pinned (OpenSpec.ofChange fnExactNumsOfSpec)

/-- ITS FALSE NEIGHBOUR: 'it returns false'. Refute it at one input. -/
def fnExactNumsOfWrong : ChangeSpec := { name := "fnExactNumsOf", fn := fun _ => fun
  | [d1, d2] => { results := [.lit (.bool false)], args := [d1, d2] }
  | _ => none }
def FnExactNumsOfWrongFalsely : Prop := fnExactNumsOfRow.holds Try.pinned (OpenSpec.ofChange fnExactNumsOfWrong)

/-- 'laws.FnExactNumAt': WHATEVER THE INPUT: true; the input reads as it did. -/
def fnExactNumAtSpec : ChangeSpec := { name := "fnExactNumAt", fn := fun _ => fun
  | [d1, d2] => { results := [.lit (.bool true)], args := [d1, d2] }
  | _ => none }
def fnExactNumAtRow : OpenClaim := { program := "ytfdlmpjccoaejaa", sum := "4f90d5c456341580a96bd53dc939cd7431f22cd3ec0b1b4e062a0ee44580a264", func := "loop.example/g00663/laws.FnExactNumAt", spec := "fnExactNumAt", apart := false }
def FnExactNumAtSaid : Prop := fnExactNumAtRow.holds Try.pinned (OpenSpec.ofChange fnExactNumAtSpec)

/-- ITS FALSE NEIGHBOUR: 'it returns false'. Refute it at one input. -/
def fnExactNumAtWrong : ChangeSpec := { name := "fnExactNumAt", fn := fun _ => fun
  | [d1, d2] => { results := [.lit (.bool false)], args := [d1, d2] }
  | _ => none }
def FnExactNumAtWrongFalsely : Prop := fnExactNumAtRow.holds Try.pinned (OpenSpec.ofChange fnExactNumAtWrong)

/-- 'laws.FnExactNumsAdd': WHATEVER THE INPUT: true; the input reads as it did. -/
def fnExactNumsAddSpec : ChangeSpec := { name := "fnExactNumsAdd", fn := fun _ => fun
  | [d1, d2] => { results := [.lit (.bool true)], args := [d1, d2] }
  | _ => none }
def fnExactNumsAddRow : OpenClaim := { program := "ytfdlmpjccoaejaa", sum := "4f90d5c456341580a96bd53dc939cd7431f22cd3ec0b1b4e062a0ee44580a264", func := "loop.example/g00663/laws.FnExactNumsAdd", spec := "fnExactNumsAdd", apart := false }
def FnExactNumsAddSaid : Prop := fnExactNumsAddRow.holds Try.pinned (OpenSpec.ofChange fnExactNumsAddSpec)

/-- ITS FALSE NEIGHBOUR: 'it returns false'. Refute it at one input. -/
def fnExactNumsAddWrong : ChangeSpec := { name := "fnExactNumsAdd", fn := fun _ => fun
  | [d1, d2] => { results := [.lit (.bool false)], args := [d1, d2] }
  | _ => none }
def FnExactNumsAddWrongFalsely : Prop := fnExactNumsAddRow.holds Try.pinned (OpenSpec.ofChange fnExactNumsAddWrong)

/-- 'laws.FnExactNumsLess': WHATEVER THE INPUT: true; the input reads as it did. -/
def fnExactNumsLessSpec : ChangeSpec := { name := "fnExactNumsLess", fn := fun _ => fun
  | [d1, d2] => { results := [.lit (.bool true)], args := [d1, d2] }
  | _ => none }
def fnExactNumsLessRow : OpenClaim := { program := "ytfdlmpjccoaejaa", sum := "4f90d5c456341580a96bd53dc939cd7431f22cd3ec0b1b4e062a0ee44580a264", func := "loop.example/g00663/laws.FnExactNumsLess", spec := "fnExactNumsLess", apart := false }
def FnExactNumsLessSaid : Prop := fnExactNumsLessRow.holds Try.pinned (OpenSpec.ofChange fnExactNumsLessSpec)

/-- ITS FALSE NEIGHBOUR: 'it returns false'. Refute it at one input. -/
def fnExactNumsLessWrong : ChangeSpec := { name := "fnExactNumsLess", fn := fun _ => fun
  | [d1, d2] => { results := [.lit (.bool false)], args := [d1, d2] }
  | _ => none }
def FnExactNumsLessWrongFalsely : Prop := fnExactNumsLessRow.holds Try.pinned (OpenSpec.ofChange fnExactNumsLessWrong)

/-- 'laws.FnExactNumsMin': WHATEVER THE INPUT: true; the input reads as it did. -/
def fnExactNumsMinSpec : ChangeSpec := { name := "fnExactNumsMin", fn := fun _ => fun
  | [d1, d2] => { results := [.lit (.bool true)], args := [d1, d2] }
  | _ => none }
def fnExactNumsMinRow : OpenClaim := { program := "ytfdlmpjccoaejaa", sum := "4f90d5c456341580a96bd53dc939cd7431f22cd3ec0b1b4e062a0ee44580a264", func := "loop.example/g00663/laws.FnExactNumsMin", spec := "fnExactNumsMin", apart := false }
def FnExactNumsMinSaid : Prop := fnExactNumsMinRow.holds Try.pinned (OpenSpec.ofChange fnExactNumsMinSpec)

/-- ITS FALSE NEIGHBOUR: 'it returns false'. Refute it at one input. -/
def fnExactNumsMinWrong : ChangeSpec := { name := "fnExactNumsMin", fn := fun _ => fun
  | [d1, d2] => { results := [.lit (.bool false)], args := [d1, d2] }
  | _ => none }
def FnExactNumsMinWrongFalsely : Prop := fnExactNumsMinRow.holds Try.pinned (OpenSpec.ofChange fnExactNumsMinWrong)

/-- 'laws.FnExactBatchCapped': WHATEVER THE INPUT: true; the input reads as it did. -/
def fnExactBatchCappedSpec : ChangeSpec := { name := "fnExactBatchCapped", fn := fun _ => fun
  | [d1, d2] => { results := [.lit (.bool true)], args := [d1, d2] }
  | _ => none }
def fnExactBatchCappedRow : OpenClaim := { program := "ytfdlmpjccoaejaa", sum := "4f90d5c456341580a96bd53dc939cd7431f22cd3ec0b1b4e062a0ee44580a264", func := "loop.example/g00663/laws.FnExactBatchCapped", spec := "fnExactBatchCapped", apart := false }
def FnExactBatchCappedSaid : Prop := fnExactBatchCappedRow.holds Try.pinned (OpenSpec.ofChange fnExactBatchCappedSpec)

/-- ITS FALSE NEIGHBOUR: 'it returns false'. Refute it at one input. -/
def fnExactBatchCappedWrong : ChangeSpec := { name := "fnExactBatchCapped", fn := fun _ => fun
  | [d1, d2] => { results := [.lit (.bool false)], args := [d1, d2] }
  | _ => none }
def FnExactBatchCappedWrongFalsely : Prop := fnExactBatchCappedRow.holds Try.pinned (OpenSpec.ofChange fnExactBatchCappedWrong)

/- THE SECOND FORM. 'bulk': how many values and letters a reading holds, each counted each time it is reached (what is shared counts as often as it is met; a slice's spare places count too). A statement '..UptoSaid' is the law's where the arguments, and the package variables that the reading takes, are together of bulk at most 1048576: NARROWER than '..Said'. Prove '..Said' where nothing that the law and all that it calls make is longer than what came in: it says more and counts as full. Else prove '..UptoSaid'. A law counts once. -/
mutual
def uptoBulk {H : Type} : DataW H → Nat
  | .lit (.string bytes) => bytes.length + 1
  | .lit _ => 1
  | .nil => 1
  | .ptr d => uptoBulk d + 1
  | .slice elems spare => uptoBulkAll elems + uptoBulkAll spare + 1
  | .agg parts => uptoBulkAll parts + 1
  | .iface _ d => uptoBulk d + 1
  | .map entries => uptoBulkEntries entries + 1
  | .held _ => 1
def uptoBulkAll {H : Type} : List (DataW H) → Nat
  | [] => 0
  | d :: r => uptoBulk d + uptoBulkAll r
def uptoBulkEntries {H : Type} : List (Lit × DataW H) → Nat
  | [] => 0
  | x :: r => uptoBulkEntry x + uptoBulkEntries r
def uptoBulkEntry {H : Type} : Lit × DataW H → Nat
  | (.string bytes, d) => bytes.length + uptoBulk d + 1
  | (_, d) => uptoBulk d + 1
 end
def uptoSmall : (H : Type) → List (DataW H) → Bool := fun _ ds => decide (uptoBulkAll ds ≤ 1048576)
def OpenSpec.upto (s : _root_.Go.ChangeSpec) : _root_.Go.OpenSpec := { _root_.Go.OpenSpec.ofChange s with cond := some uptoSmall }

/-- 'laws.FnBatch', WHERE WHAT IT READS IS OF BULK AT MOST 1048576: true; the input reads as it did. -/
def fnBatchUptoRow : OpenClaim := { program := "ytfdlmpjccoaejaa", sum := "4f90d5c456341580a96bd53dc939cd7431f22cd3ec0b1b4e062a0ee44580a264", func := "loop.example/g00663/laws.FnBatch", spec := "fnBatch", apart := false, narrowed := true }
def FnBatchUptoSaid : Prop := fnBatchUptoRow.holds Try.pinned (OpenSpec.upto fnBatchSpec)

/-- 'laws.FnNums', WHERE WHAT IT READS IS OF BULK AT MOST 1048576: true; the input reads as it did. -/
def fnNumsUptoRow : OpenClaim := { program := "ytfdlmpjccoaejaa", sum := "4f90d5c456341580a96bd53dc939cd7431f22cd3ec0b1b4e062a0ee44580a264", func := "loop.example/g00663/laws.FnNums", spec := "fnNums", apart := false, narrowed := true }
def FnNumsUptoSaid : Prop := fnNumsUptoRow.holds Try.pinned (OpenSpec.upto fnNumsSpec)

/-- 'laws.FnExactPlanesOf', WHERE WHAT IT READS IS OF BULK AT MOST 1048576: true; the input reads as it did. -/
def fnExactPlanesOfUptoRow : OpenClaim := { program := "ytfdlmpjccoaejaa", sum := "4f90d5c456341580a96bd53dc939cd7431f22cd3ec0b1b4e062a0ee44580a264", func := "loop.example/g00663/laws.FnExactPlanesOf", spec := "fnExactPlanesOf", apart := false, narrowed := true }
def FnExactPlanesOfUptoSaid : Prop := fnExactPlanesOfUptoRow.holds Try.pinned (OpenSpec.upto fnExactPlanesOfSpec)

/-- 'laws.FnExactPlanesOk', WHERE WHAT IT READS IS OF BULK AT MOST 1048576: true; the input reads as it did. -/
def fnExactPlanesOkUptoRow : OpenClaim := { program := "ytfdlmpjccoaejaa", sum := "4f90d5c456341580a96bd53dc939cd7431f22cd3ec0b1b4e062a0ee44580a264", func := "loop.example/g00663/laws.FnExactPlanesOk", spec := "fnExactPlanesOk", apart := false, narrowed := true }
def FnExactPlanesOkUptoSaid : Prop := fnExactPlanesOkUptoRow.holds Try.pinned (OpenSpec.upto fnExactPlanesOkSpec)

/-- 'laws.FnExactPlanesWords', WHERE WHAT IT READS IS OF BULK AT MOST 1048576: true; the input reads as it did. -/
def fnExactPlanesWordsUptoRow : OpenClaim := { program := "ytfdlmpjccoaejaa", sum := "4f90d5c456341580a96bd53dc939cd7431f22cd3ec0b1b4e062a0ee44580a264", func := "loop.example/g00663/laws.FnExactPlanesWords", spec := "fnExactPlanesWords", apart := false, narrowed := true }
def FnExactPlanesWordsUptoSaid : Prop := fnExactPlanesWordsUptoRow.holds Try.pinned (OpenSpec.upto fnExactPlanesWordsSpec)

/-- 'laws.FnExactNumsOf', WHERE WHAT IT READS IS OF BULK AT MOST 1048576: true; the input reads as it did. -/
def fnExactNumsOfUptoRow : OpenClaim := { program := "ytfdlmpjccoaejaa", sum := "4f90d5c456341580a96bd53dc939cd7431f22cd3ec0b1b4e062a0ee44580a264", func := "loop.example/g00663/laws.FnExactNumsOf", spec := "fnExactNumsOf", apart := false, narrowed := true }
def FnExactNumsOfUptoSaid : Prop := fnExactNumsOfUptoRow.holds Try.pinned (OpenSpec.upto fnExactNumsOfSpec)

/-- 'laws.FnExactNumAt', WHERE WHAT IT READS IS OF BULK AT MOST 1048576: true; the input reads as it did. -/
def fnExactNumAtUptoRow : OpenClaim := { program := "ytfdlmpjccoaejaa", sum := "4f90d5c456341580a96bd53dc939cd7431f22cd3ec0b1b4e062a0ee44580a264", func := "loop.example/g00663/laws.FnExactNumAt", spec := "fnExactNumAt", apart := false, narrowed := true }
def FnExactNumAtUptoSaid : Prop := fnExactNumAtUptoRow.holds Try.pinned (OpenSpec.upto fnExactNumAtSpec)

/-- 'laws.FnExactNumsAdd', WHERE WHAT IT READS IS OF BULK AT MOST 1048576: true; the input reads as it did. -/
def fnExactNumsAddUptoRow : OpenClaim := { program := "ytfdlmpjccoaejaa", sum := "4f90d5c456341580a96bd53dc939cd7431f22cd3ec0b1b4e062a0ee44580a264", func := "loop.example/g00663/laws.FnExactNumsAdd", spec := "fnExactNumsAdd", apart := false, narrowed := true }
def FnExactNumsAddUptoSaid : Prop := fnExactNumsAddUptoRow.holds Try.pinned (OpenSpec.upto fnExactNumsAddSpec)

/-- 'laws.FnExactNumsLess', WHERE WHAT IT READS IS OF BULK AT MOST 1048576: true; the input reads as it did. -/
def fnExactNumsLessUptoRow : OpenClaim := { program := "ytfdlmpjccoaejaa", sum := "4f90d5c456341580a96bd53dc939cd7431f22cd3ec0b1b4e062a0ee44580a264", func := "loop.example/g00663/laws.FnExactNumsLess", spec := "fnExactNumsLess", apart := false, narrowed := true }
def FnExactNumsLessUptoSaid : Prop := fnExactNumsLessUptoRow.holds Try.pinned (OpenSpec.upto fnExactNumsLessSpec)

/-- 'laws.FnExactNumsMin', WHERE WHAT IT READS IS OF BULK AT MOST 1048576: true; the input reads as it did. -/
def fnExactNumsMinUptoRow : OpenClaim := { program := "ytfdlmpjccoaejaa", sum := "4f90d5c456341580a96bd53dc939cd7431f22cd3ec0b1b4e062a0ee44580a264", func := "loop.example/g00663/laws.FnExactNumsMin", spec := "fnExactNumsMin", apart := false, narrowed := true }
def FnExactNumsMinUptoSaid : Prop := fnExactNumsMinUptoRow.holds Try.pinned (OpenSpec.upto fnExactNumsMinSpec)

/-- 'laws.FnExactBatchCapped', WHERE WHAT IT READS IS OF BULK AT MOST 1048576: true; the input reads as it did. -/
def fnExactBatchCappedUptoRow : OpenClaim := { program := "ytfdlmpjccoaejaa", sum := "4f90d5c456341580a96bd53dc939cd7431f22cd3ec0b1b4e062a0ee44580a264", func := "loop.example/g00663/laws.FnExactBatchCapped", spec := "fnExactBatchCapped", apart := false, narrowed := true }
def FnExactBatchCappedUptoSaid : Prop := fnExactBatchCappedUptoRow.holds Try.pinned (OpenSpec.upto fnExactBatchCappedSpec)

end Rows
end Go.Proofs.Ytfdlmpjccoaejaa
