/-
  No cell of these rows narrows 'for every input' (looked for: loops, veiled, ifaces, maps, wideKeys, modest, calm, conditions, laid).
  DERIVED. THE GIVEN ROWS OF THIS SEAT. 8 by the template 'for every input the law returns true; each argument reads behind the call as it read before'; 0 by the template 'total and deterministic' (their statements: YtcjcklpmlfoloaaTotals.lean).
  GIVEN WITH THE SEED: the statements are not yours to turn. If you find one false, say at which input.
  Laid BY PROGRAM, IN A SANDBOX (cutbox-rows.mjs): the forced cells as the released guide's own fill.sh prints them over the translation e5c5a48186b4ea58… (all of the seat's roots in one cut). By AI agents, Wed Nov 11 2026. No macro, syntax, notation, axiom, sorry.
-/
import Derived.Test.YtcjcklpmlfoloaaChecked
import GoSem.Claim
import GoSem.ClaimJoined
import GoSem.ClaimMapViews
import Derived.JoinedTies
import Derived.KernelRfl
namespace Go.Proofs.Ytcjcklpmlfoloaa
/- THE CELL 'sum', in the pinned program and in every row, IS THE sha256 OF THE DUMP (.gsa) THAT YtcjcklpmlfoloaaProg.lean LOADS. Nothing in Lean hashes anything: it is a label: what it is worth is what the hold of that sum in a sandbox is worth. -/
noncomputable def Try.pinned : Pinned := { name := "ytcjcklpmlfoloaa", sum := "e5c5a48186b4ea5880e220923b54858e3d9f8a272a65072ed7eb871c6bab7a6d", checked := Try.checked }
namespace Rows
def none {H : Type} : Left H := { results := [], args := [] }

/-- 'laws.FnEdits': WHATEVER THE INPUT: true; the input reads as it did. -/
def fnEditsSpec : ChangeSpec := { name := "fnEdits", fn := fun _ => fun
  | [d] => { results := [.lit (.bool true)], args := [d] }
  | _ => none }
def fnEditsRow : OpenClaim := { program := "ytcjcklpmlfoloaa", sum := "e5c5a48186b4ea5880e220923b54858e3d9f8a272a65072ed7eb871c6bab7a6d", func := "loop.example/g00663/laws.FnEdits", spec := "fnEdits", apart := false }
def FnEditsSaid : Prop := fnEditsRow.holds Try.pinned (OpenSpec.ofChange fnEditsSpec)

/-- ITS FALSE NEIGHBOUR: 'it returns false'. Refute it at one input. -/
def fnEditsWrong : ChangeSpec := { name := "fnEdits", fn := fun _ => fun
  | [d] => { results := [.lit (.bool false)], args := [d] }
  | _ => none }
def FnEditsWrongFalsely : Prop := fnEditsRow.holds Try.pinned (OpenSpec.ofChange fnEditsWrong)

/-- 'laws.FnEditsLeast': WHATEVER THE INPUT: true; the input reads as it did. -/
def fnEditsLeastSpec : ChangeSpec := { name := "fnEditsLeast", fn := fun _ => fun
  | [d] => { results := [.lit (.bool true)], args := [d] }
  | _ => none }
def fnEditsLeastRow : OpenClaim := { program := "ytcjcklpmlfoloaa", sum := "e5c5a48186b4ea5880e220923b54858e3d9f8a272a65072ed7eb871c6bab7a6d", func := "loop.example/g00663/laws.FnEditsLeast", spec := "fnEditsLeast", apart := false }
def FnEditsLeastSaid : Prop := fnEditsLeastRow.holds Try.pinned (OpenSpec.ofChange fnEditsLeastSpec)

/-- ITS FALSE NEIGHBOUR: 'it returns false'. Refute it at one input. -/
def fnEditsLeastWrong : ChangeSpec := { name := "fnEditsLeast", fn := fun _ => fun
  | [d] => { results := [.lit (.bool false)], args := [d] }
  | _ => none }
def FnEditsLeastWrongFalsely : Prop := fnEditsLeastRow.holds Try.pinned (OpenSpec.ofChange fnEditsLeastWrong)

/-- 'laws.FnMetric': WHATEVER THE INPUT: true; the input reads as it did. -/
def fnMetricSpec : ChangeSpec := { name := "fnMetric", fn := fun _ => fun
  | [d] => { results := [.lit (.bool true)], args := [d] }
  | _ => none }
def fnMetricRow : OpenClaim := { program := "ytcjcklpmlfoloaa", sum := "e5c5a48186b4ea5880e220923b54858e3d9f8a272a65072ed7eb871c6bab7a6d", func := "loop.example/g00663/laws.FnMetric", spec := "fnMetric", apart := false }
def FnMetricSaid : Prop := fnMetricRow.holds Try.pinned (OpenSpec.ofChange fnMetricSpec)

/-- ITS FALSE NEIGHBOUR: 'it returns false'. Refute it at one input. -/
def fnMetricWrong : ChangeSpec := { name := "fnMetric", fn := fun _ => fun
  | [d] => { results := [.lit (.bool false)], args := [d] }
  | _ => none }
def FnMetricWrongFalsely : Prop := fnMetricRow.holds Try.pinned (OpenSpec.ofChange fnMetricWrong)

/-- 'laws.FnExactDistance': WHATEVER THE INPUT: true; the input reads as it did. -/
def fnExactDistanceSpec : ChangeSpec := { name := "fnExactDistance", fn := fun _ => fun
  | [d1, d2] => { results := [.lit (.bool true)], args := [d1, d2] }
  | _ => none }
def fnExactDistanceRow : OpenClaim := { program := "ytcjcklpmlfoloaa", sum := "e5c5a48186b4ea5880e220923b54858e3d9f8a272a65072ed7eb871c6bab7a6d", func := "loop.example/g00663/laws.FnExactDistance", spec := "fnExactDistance", apart := false }
def FnExactDistanceSaid : Prop := fnExactDistanceRow.holds Try.pinned (OpenSpec.ofChange fnExactDistanceSpec)

/-- ITS FALSE NEIGHBOUR: 'it returns false'. Refute it at one input. -/
def fnExactDistanceWrong : ChangeSpec := { name := "fnExactDistance", fn := fun _ => fun
  | [d1, d2] => { results := [.lit (.bool false)], args := [d1, d2] }
  | _ => none }
def FnExactDistanceWrongFalsely : Prop := fnExactDistanceRow.holds Try.pinned (OpenSpec.ofChange fnExactDistanceWrong)

/-- 'laws.FnExactCapped': WHATEVER THE INPUT: true; the input reads as it did. -/
def fnExactCappedSpec : ChangeSpec := { name := "fnExactCapped", fn := fun _ => fun
  | [d1, d2] => { results := [.lit (.bool true)], args := [d1, d2] }
  | _ => none }
def fnExactCappedRow : OpenClaim := { program := "ytcjcklpmlfoloaa", sum := "e5c5a48186b4ea5880e220923b54858e3d9f8a272a65072ed7eb871c6bab7a6d", func := "loop.example/g00663/laws.FnExactCapped", spec := "fnExactCapped", apart := false }
def FnExactCappedSaid : Prop := fnExactCappedRow.holds Try.pinned (OpenSpec.ofChange fnExactCappedSpec)

/-- ITS FALSE NEIGHBOUR: 'it returns false'. Refute it at one input. -/
def fnExactCappedWrong : ChangeSpec := { name := "fnExactCapped", fn := fun _ => fun
  | [d1, d2] => { results := [.lit (.bool false)], args := [d1, d2] }
  | _ => none }
def FnExactCappedWrongFalsely : Prop := fnExactCappedRow.holds Try.pinned (OpenSpec.ofChange fnExactCappedWrong)

/-- 'laws.FnExactWithin': WHATEVER THE INPUT: true; the input reads as it did. -/
def fnExactWithinSpec : ChangeSpec := { name := "fnExactWithin", fn := fun _ => fun
  | [d1, d2, d3] => { results := [.lit (.bool true)], args := [d1, d2, d3] }
  | _ => none }
def fnExactWithinRow : OpenClaim := { program := "ytcjcklpmlfoloaa", sum := "e5c5a48186b4ea5880e220923b54858e3d9f8a272a65072ed7eb871c6bab7a6d", func := "loop.example/g00663/laws.FnExactWithin", spec := "fnExactWithin", apart := false }
def FnExactWithinSaid : Prop := fnExactWithinRow.holds Try.pinned (OpenSpec.ofChange fnExactWithinSpec)

/-- ITS FALSE NEIGHBOUR: 'it returns false'. Refute it at one input. -/
def fnExactWithinWrong : ChangeSpec := { name := "fnExactWithin", fn := fun _ => fun
  | [d1, d2, d3] => { results := [.lit (.bool false)], args := [d1, d2, d3] }
  | _ => none }
def FnExactWithinWrongFalsely : Prop := fnExactWithinRow.holds Try.pinned (OpenSpec.ofChange fnExactWithinWrong)

/-- 'laws.FnExactEditText': WHATEVER THE INPUT: true; the input reads as it did. -/
def fnExactEditTextSpec : ChangeSpec := { name := "fnExactEditText", fn := fun _ => fun
  | [d1, d2] => { results := [.lit (.bool true)], args := [d1, d2] }
  | _ => none }
def fnExactEditTextRow : OpenClaim := { program := "ytcjcklpmlfoloaa", sum := "e5c5a48186b4ea5880e220923b54858e3d9f8a272a65072ed7eb871c6bab7a6d", func := "loop.example/g00663/laws.FnExactEditText", spec := "fnExactEditText", apart := false }
def FnExactEditTextSaid : Prop := fnExactEditTextRow.holds Try.pinned (OpenSpec.ofChange fnExactEditTextSpec)

/-- ITS FALSE NEIGHBOUR: 'it returns false'. Refute it at one input. -/
def fnExactEditTextWrong : ChangeSpec := { name := "fnExactEditText", fn := fun _ => fun
  | [d1, d2] => { results := [.lit (.bool false)], args := [d1, d2] }
  | _ => none }
def FnExactEditTextWrongFalsely : Prop := fnExactEditTextRow.holds Try.pinned (OpenSpec.ofChange fnExactEditTextWrong)

/-- 'laws.FnExactEditCost': WHATEVER THE INPUT: true; the input reads as it did. -/
def fnExactEditCostSpec : ChangeSpec := { name := "fnExactEditCost", fn := fun _ => fun
  | [d1, d2, d3] => { results := [.lit (.bool true)], args := [d1, d2, d3] }
  | _ => none }
def fnExactEditCostRow : OpenClaim := { program := "ytcjcklpmlfoloaa", sum := "e5c5a48186b4ea5880e220923b54858e3d9f8a272a65072ed7eb871c6bab7a6d", func := "loop.example/g00663/laws.FnExactEditCost", spec := "fnExactEditCost", apart := false }
def FnExactEditCostSaid : Prop := fnExactEditCostRow.holds Try.pinned (OpenSpec.ofChange fnExactEditCostSpec)

/-- ITS FALSE NEIGHBOUR: 'it returns false'. Refute it at one input. -/
def fnExactEditCostWrong : ChangeSpec := { name := "fnExactEditCost", fn := fun _ => fun
  | [d1, d2, d3] => { results := [.lit (.bool false)], args := [d1, d2, d3] }
  | _ => none }
def FnExactEditCostWrongFalsely : Prop := fnExactEditCostRow.holds Try.pinned (OpenSpec.ofChange fnExactEditCostWrong)

/- THE SECOND FORM. 'bulk': how many values and letters a reading holds, each counted each time it is reached (what is shared counts as often as it is met; a slice's spare places count too). A statement '..UptoSaid' is the law's where the arguments, and the package variables that the reading takes, are together of bulk at most 1048576: NARROWER than '..Said'. Prove '..Said' where nothing that the law and all that it calls make is longer than what came in: it says more and counts as full. Else prove '..UptoSaid'. A law counts once. -/
mutual
def uptoBulk {H : Type} : DataW H → Nat
  | .lit (.string bytes) => bytes.length + 1
  | .lit _ => 1
  | .nil => 1
  | .ptr d => uptoBulk d + 1
  | .slice elems spare => uptoBulkAll elems + uptoBulkAll spare + 1
  | .agg parts => uptoBulkAll parts + 1
  | .iface _ d => uptoBulk d + 1
  | .map entries => uptoBulkEntries entries + 1
  | .held _ => 1
def uptoBulkAll {H : Type} : List (DataW H) → Nat
  | [] => 0
  | d :: r => uptoBulk d + uptoBulkAll r
def uptoBulkEntries {H : Type} : List (Lit × DataW H) → Nat
  | [] => 0
  | x :: r => uptoBulkEntry x + uptoBulkEntries r
def uptoBulkEntry {H : Type} : Lit × DataW H → Nat
  | (.string bytes, d) => bytes.length + uptoBulk d + 1
  | (_, d) => uptoBulk d + 1
 end
def uptoSmall : (H : Type) → List (DataW H) → Bool := fun _ ds => decide (uptoBulkAll ds ≤ 1048576)
def OpenSpec.upto (s : _root_.Go.ChangeSpec) : _root_.Go.OpenSpec := { _root_.Go.OpenSpec.ofChange s with cond := some uptoSmall }

/-- 'laws.FnEdits', WHERE WHAT IT READS IS OF BULK AT MOST 1048576: true; the input reads as it did. -/
def fnEditsUptoRow : OpenClaim := { program := "ytcjcklpmlfoloaa", sum := "e5c5a48186b4ea5880e220923b54858e3d9f8a272a65072ed7eb871c6bab7a6d", func := "loop.example/g00663/laws.FnEdits", spec := "fnEdits", apart := false, narrowed := true }
def FnEditsUptoSaid : Prop := fnEditsUptoRow.holds Try.pinned (OpenSpec.upto fnEditsSpec)

/-- 'laws.FnEditsLeast', WHERE WHAT IT READS IS OF BULK AT MOST 1048576: true; the input reads as it did. -/
def fnEditsLeastUptoRow : OpenClaim := { program := "ytcjcklpmlfoloaa", sum := "e5c5a48186b4ea5880e220923b54858e3d9f8a272a65072ed7eb871c6bab7a6d", func := "loop.example/g00663/laws.FnEditsLeast", spec := "fnEditsLeast", apart := false, narrowed := true }
def FnEditsLeastUptoSaid : Prop := fnEditsLeastUptoRow.holds Try.pinned (OpenSpec.upto fnEditsLeastSpec)

/-- 'laws.FnMetric', WHERE WHAT IT READS IS OF BULK AT MOST 1048576: true; the input reads as it did. -/
def fnMetricUptoRow : OpenClaim := { program := "ytcjcklpmlfoloaa", sum := "e5c5a48186b4ea5880e220923b54858e3d9f8a272a65072ed7eb871c6bab7a6d", func := "loop.example/g00663/laws.FnMetric", spec := "fnMetric", apart := false, narrowed := true }
def FnMetricUptoSaid : Prop := fnMetricUptoRow.holds Try.pinned (OpenSpec.upto fnMetricSpec)

/-- 'laws.FnExactDistance', WHERE WHAT IT READS IS OF BULK AT MOST 1048576: true; the input reads as it did. -/
def fnExactDistanceUptoRow : OpenClaim := { program := "ytcjcklpmlfoloaa", sum := "e5c5a48186b4ea5880e220923b54858e3d9f8a272a65072ed7eb871c6bab7a6d", func := "loop.example/g00663/laws.FnExactDistance", spec := "fnExactDistance", apart := false, narrowed := true }
def FnExactDistanceUptoSaid : Prop := fnExactDistanceUptoRow.holds Try.pinned (OpenSpec.upto fnExactDistanceSpec)

/-- 'laws.FnExactCapped', WHERE WHAT IT READS IS OF BULK AT MOST 1048576: true; the input reads as it did. -/
def fnExactCappedUptoRow : OpenClaim := { program := "ytcjcklpmlfoloaa", sum := "e5c5a48186b4ea5880e220923b54858e3d9f8a272a65072ed7eb871c6bab7a6d", func := "loop.example/g00663/laws.FnExactCapped", spec := "fnExactCapped", apart := false, narrowed := true }
def FnExactCappedUptoSaid : Prop := fnExactCappedUptoRow.holds Try.pinned (OpenSpec.upto fnExactCappedSpec)

/-- 'laws.FnExactWithin', WHERE WHAT IT READS IS OF BULK AT MOST 1048576: true; the input reads as it did. -/
def fnExactWithinUptoRow : OpenClaim := { program := "ytcjcklpmlfoloaa", sum := "e5c5a48186b4ea5880e220923b54858e3d9f8a272a65072ed7eb871c6bab7a6d", func := "loop.example/g00663/laws.FnExactWithin", spec := "fnExactWithin", apart := false, narrowed := true }
def FnExactWithinUptoSaid : Prop := fnExactWithinUptoRow.holds Try.pinned (OpenSpec.upto fnExactWithinSpec)

/-- 'laws.FnExactEditText', WHERE WHAT IT READS IS OF BULK AT MOST 1048576: true; the input reads as it did. -/
def fnExactEditTextUptoRow : OpenClaim := { program := "ytcjcklpmlfoloaa", sum := "e5c5a48186b4ea5880e220923b54858e3d9f8a272a65072ed7eb871c6bab7a6d", func := "loop.example/g00663/laws.FnExactEditText", spec := "fnExactEditText", apart := false, narrowed := true }
def FnExactEditTextUptoSaid : Prop := fnExactEditTextUptoRow.holds Try.pinned (OpenSpec.upto fnExactEditTextSpec)

/-- 'laws.FnExactEditCost', WHERE WHAT IT READS IS OF BULK AT MOST 1048576: true; the input reads as it did. -/
def fnExactEditCostUptoRow : OpenClaim := { program := "ytcjcklpmlfoloaa", sum := "e5c5a48186b4ea5880e220923b54858e3d9f8a272a65072ed7eb871c6bab7a6d", func := "loop.example/g00663/laws.FnExactEditCost", spec := "fnExactEditCost", apart := false, narrowed := true }
def FnExactEditCostUptoSaid : Prop := fnExactEditCostUptoRow.holds Try.pinned (OpenSpec.upto fnExactEditCostSpec)

end Rows
end Go.Proofs.Ytcjcklpmlfoloaa
