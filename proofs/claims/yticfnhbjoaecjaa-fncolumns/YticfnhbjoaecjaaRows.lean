/-
  No cell of these rows narrows 'for every input' (looked for: loops, veiled, ifaces, maps, wideKeys, modest, calm, conditions, laid).
  DERIVED. THE GIVEN ROWS OF THIS SEAT. 9 by the template 'for every input the law returns true; each argument reads behind the call as it read before'; 0 by the template 'total and deterministic' (their statements: YticfnhbjoaecjaaTotals.lean).
  GIVEN WITH THE SEED: the statements are not yours to turn. If you find one false, say at which input.
  Laid BY PROGRAM, IN A SANDBOX (cutbox-rows.mjs): the forced cells as the released guide's own fill.sh prints them over the translation 5a541285814126ba… (all of the seat's roots in one cut). By AI agents, Wed Nov 11 2026. No macro, syntax, notation, axiom, sorry.
-/
import Derived.Test.YticfnhbjoaecjaaChecked
import GoSem.Claim
import GoSem.ClaimJoined
import GoSem.ClaimMapViews
import Derived.JoinedTies
import Derived.KernelRfl
namespace Go.Proofs.Yticfnhbjoaecjaa
/- THE CELL 'sum', in the pinned program and in every row, IS THE sha256 OF THE DUMP (.gsa) THAT YticfnhbjoaecjaaProg.lean LOADS. Nothing in Lean hashes anything: it is a label: what it is worth is what the hold of that sum in a sandbox is worth. -/
noncomputable def Try.pinned : Pinned := { name := "yticfnhbjoaecjaa", sum := "5a541285814126ba62a7c31cc3f4749a55824727fb6ca61d89bf4654945a7dee", checked := Try.checked }
namespace Rows
def none {H : Type} : Left H := { results := [], args := [] }

/-- 'laws.FnMyers': WHATEVER THE INPUT: true; the input reads as it did. -/
def fnMyersSpec : ChangeSpec := { name := "fnMyers", fn := fun _ => fun
  | [d] => { results := [.lit (.bool true)], args := [d] }
  | _ => none }
def fnMyersRow : OpenClaim := { program := "yticfnhbjoaecjaa", sum := "5a541285814126ba62a7c31cc3f4749a55824727fb6ca61d89bf4654945a7dee", func := "loop.example/g00663/laws.FnMyers", spec := "fnMyers", unfollowed := true, recurses := true, apart := false }
def FnMyersSaid : Prop := fnMyersRow.holds Try.pinned (OpenSpec.ofChange fnMyersSpec)

/-- ITS FALSE NEIGHBOUR: 'it returns false'. Refute it at one input. -/
def fnMyersWrong : ChangeSpec := { name := "fnMyers", fn := fun _ => fun
  | [d] => { results := [.lit (.bool false)], args := [d] }
  | _ => none }
def FnMyersWrongFalsely : Prop := fnMyersRow.holds Try.pinned (OpenSpec.ofChange fnMyersWrong)

/-- 'laws.FnColumns': WHATEVER THE INPUT: true; the input reads as it did. -/
def fnColumnsSpec : ChangeSpec := { name := "fnColumns", fn := fun _ => fun
  | [d] => { results := [.lit (.bool true)], args := [d] }
  | _ => none }
def fnColumnsRow : OpenClaim := { program := "yticfnhbjoaecjaa", sum := "5a541285814126ba62a7c31cc3f4749a55824727fb6ca61d89bf4654945a7dee", func := "loop.example/g00663/laws.FnColumns", spec := "fnColumns", apart := false }
def FnColumnsSaid : Prop := fnColumnsRow.holds Try.pinned (OpenSpec.ofChange fnColumnsSpec)

/-- ITS FALSE NEIGHBOUR: 'it returns false'. Refute it at one input. -/
def fnColumnsWrong : ChangeSpec := { name := "fnColumns", fn := fun _ => fun
  | [d] => { results := [.lit (.bool false)], args := [d] }
  | _ => none }
def FnColumnsWrongFalsely : Prop := fnColumnsRow.holds Try.pinned (OpenSpec.ofChange fnColumnsWrong)

/-- 'laws.FnExactBitsOk': WHATEVER THE INPUT: true; the input reads as it did. -/
def fnExactBitsOkSpec : ChangeSpec := { name := "fnExactBitsOk", fn := fun _ => fun
  | [d] => { results := [.lit (.bool true)], args := [d] }
  | _ => none }
def fnExactBitsOkRow : OpenClaim := { program := "yticfnhbjoaecjaa", sum := "5a541285814126ba62a7c31cc3f4749a55824727fb6ca61d89bf4654945a7dee", func := "loop.example/g00663/laws.FnExactBitsOk", spec := "fnExactBitsOk", apart := false }
def FnExactBitsOkSaid : Prop := fnExactBitsOkRow.holds Try.pinned (OpenSpec.ofChange fnExactBitsOkSpec)

/-- ITS FALSE NEIGHBOUR: 'it returns false'. Refute it at one input. -/
def fnExactBitsOkWrong : ChangeSpec := { name := "fnExactBitsOk", fn := fun _ => fun
  | [d] => { results := [.lit (.bool false)], args := [d] }
  | _ => none }
def FnExactBitsOkWrongFalsely : Prop := fnExactBitsOkRow.holds Try.pinned (OpenSpec.ofChange fnExactBitsOkWrong)

/-- 'laws.FnExactBitsColumn': WHATEVER THE INPUT: true; the input reads as it did. -/
def fnExactBitsColumnSpec : ChangeSpec := { name := "fnExactBitsColumn", fn := fun _ => fun
  | [d] => { results := [.lit (.bool true)], args := [d] }
  | _ => none }
def fnExactBitsColumnRow : OpenClaim := { program := "yticfnhbjoaecjaa", sum := "5a541285814126ba62a7c31cc3f4749a55824727fb6ca61d89bf4654945a7dee", func := "loop.example/g00663/laws.FnExactBitsColumn", spec := "fnExactBitsColumn", apart := false }
def FnExactBitsColumnSaid : Prop := fnExactBitsColumnRow.holds Try.pinned (OpenSpec.ofChange fnExactBitsColumnSpec)

/-- ITS FALSE NEIGHBOUR: 'it returns false'. Refute it at one input. -/
def fnExactBitsColumnWrong : ChangeSpec := { name := "fnExactBitsColumn", fn := fun _ => fun
  | [d] => { results := [.lit (.bool false)], args := [d] }
  | _ => none }
def FnExactBitsColumnWrongFalsely : Prop := fnExactBitsColumnRow.holds Try.pinned (OpenSpec.ofChange fnExactBitsColumnWrong)

/-- 'laws.FnExactMyersPeq': WHATEVER THE INPUT: true; the input reads as it did. -/
def fnExactMyersPeqSpec : ChangeSpec := { name := "fnExactMyersPeq", fn := fun _ => fun
  | [d1, d2] => { results := [.lit (.bool true)], args := [d1, d2] }
  | _ => none }
def fnExactMyersPeqRow : OpenClaim := { program := "yticfnhbjoaecjaa", sum := "5a541285814126ba62a7c31cc3f4749a55824727fb6ca61d89bf4654945a7dee", func := "loop.example/g00663/laws.FnExactMyersPeq", spec := "fnExactMyersPeq", apart := false }
def FnExactMyersPeqSaid : Prop := fnExactMyersPeqRow.holds Try.pinned (OpenSpec.ofChange fnExactMyersPeqSpec)

/-- ITS FALSE NEIGHBOUR: 'it returns false'. Refute it at one input. -/
def fnExactMyersPeqWrong : ChangeSpec := { name := "fnExactMyersPeq", fn := fun _ => fun
  | [d1, d2] => { results := [.lit (.bool false)], args := [d1, d2] }
  | _ => none }
def FnExactMyersPeqWrongFalsely : Prop := fnExactMyersPeqRow.holds Try.pinned (OpenSpec.ofChange fnExactMyersPeqWrong)

/-- 'laws.FnExactMyersStart': WHATEVER THE INPUT: true; the input reads as it did. -/
def fnExactMyersStartSpec : ChangeSpec := { name := "fnExactMyersStart", fn := fun _ => fun
  | [d] => { results := [.lit (.bool true)], args := [d] }
  | _ => none }
def fnExactMyersStartRow : OpenClaim := { program := "yticfnhbjoaecjaa", sum := "5a541285814126ba62a7c31cc3f4749a55824727fb6ca61d89bf4654945a7dee", func := "loop.example/g00663/laws.FnExactMyersStart", spec := "fnExactMyersStart", apart := false }
def FnExactMyersStartSaid : Prop := fnExactMyersStartRow.holds Try.pinned (OpenSpec.ofChange fnExactMyersStartSpec)

/-- ITS FALSE NEIGHBOUR: 'it returns false'. Refute it at one input. -/
def fnExactMyersStartWrong : ChangeSpec := { name := "fnExactMyersStart", fn := fun _ => fun
  | [d] => { results := [.lit (.bool false)], args := [d] }
  | _ => none }
def FnExactMyersStartWrongFalsely : Prop := fnExactMyersStartRow.holds Try.pinned (OpenSpec.ofChange fnExactMyersStartWrong)

/-- 'laws.FnExactMyersStep': WHATEVER THE INPUT: true; the input reads as it did. -/
def fnExactMyersStepSpec : ChangeSpec := { name := "fnExactMyersStep", fn := fun _ => fun
  | [d1, d2] => { results := [.lit (.bool true)], args := [d1, d2] }
  | _ => none }
def fnExactMyersStepRow : OpenClaim := { program := "yticfnhbjoaecjaa", sum := "5a541285814126ba62a7c31cc3f4749a55824727fb6ca61d89bf4654945a7dee", func := "loop.example/g00663/laws.FnExactMyersStep", spec := "fnExactMyersStep", apart := false }
def FnExactMyersStepSaid : Prop := fnExactMyersStepRow.holds Try.pinned (OpenSpec.ofChange fnExactMyersStepSpec)

/-- ITS FALSE NEIGHBOUR: 'it returns false'. Refute it at one input. -/
def fnExactMyersStepWrong : ChangeSpec := { name := "fnExactMyersStep", fn := fun _ => fun
  | [d1, d2] => { results := [.lit (.bool false)], args := [d1, d2] }
  | _ => none }
def FnExactMyersStepWrongFalsely : Prop := fnExactMyersStepRow.holds Try.pinned (OpenSpec.ofChange fnExactMyersStepWrong)

/-- 'laws.FnExactMyersRun': WHATEVER THE INPUT: true; the input reads as it did. -/
def fnExactMyersRunSpec : ChangeSpec := { name := "fnExactMyersRun", fn := fun _ => fun
  | [d1, d2] => { results := [.lit (.bool true)], args := [d1, d2] }
  | _ => none }
def fnExactMyersRunRow : OpenClaim := { program := "yticfnhbjoaecjaa", sum := "5a541285814126ba62a7c31cc3f4749a55824727fb6ca61d89bf4654945a7dee", func := "loop.example/g00663/laws.FnExactMyersRun", spec := "fnExactMyersRun", unfollowed := true, recurses := true, apart := false }
def FnExactMyersRunSaid : Prop := fnExactMyersRunRow.holds Try.pinned (OpenSpec.ofChange fnExactMyersRunSpec)

/-- ITS FALSE NEIGHBOUR: 'it returns false'. Refute it at one input. -/
def fnExactMyersRunWrong : ChangeSpec := { name := "fnExactMyersRun", fn := fun _ => fun
  | [d1, d2] => { results := [.lit (.bool false)], args := [d1, d2] }
  | _ => none }
def FnExactMyersRunWrongFalsely : Prop := fnExactMyersRunRow.holds Try.pinned (OpenSpec.ofChange fnExactMyersRunWrong)

/-- 'laws.FnExactMyersPadded': WHATEVER THE INPUT: true; the input reads as it did. -/
def fnExactMyersPaddedSpec : ChangeSpec := { name := "fnExactMyersPadded", fn := fun _ => fun
  | [d1, d2] => { results := [.lit (.bool true)], args := [d1, d2] }
  | _ => none }
def fnExactMyersPaddedRow : OpenClaim := { program := "yticfnhbjoaecjaa", sum := "5a541285814126ba62a7c31cc3f4749a55824727fb6ca61d89bf4654945a7dee", func := "loop.example/g00663/laws.FnExactMyersPadded", spec := "fnExactMyersPadded", unfollowed := true, recurses := true, apart := false }
def FnExactMyersPaddedSaid : Prop := fnExactMyersPaddedRow.holds Try.pinned (OpenSpec.ofChange fnExactMyersPaddedSpec)

/-- ITS FALSE NEIGHBOUR: 'it returns false'. Refute it at one input. -/
def fnExactMyersPaddedWrong : ChangeSpec := { name := "fnExactMyersPadded", fn := fun _ => fun
  | [d1, d2] => { results := [.lit (.bool false)], args := [d1, d2] }
  | _ => none }
def FnExactMyersPaddedWrongFalsely : Prop := fnExactMyersPaddedRow.holds Try.pinned (OpenSpec.ofChange fnExactMyersPaddedWrong)

/- THE SECOND FORM. 'bulk': how many values and letters a reading holds, each counted each time it is reached (what is shared counts as often as it is met; a slice's spare places count too). A statement '..UptoSaid' is the law's where the arguments, and the package variables that the reading takes, are together of bulk at most 1048576: NARROWER than '..Said'. Prove '..Said' where nothing that the law and all that it calls make is longer than what came in: it says more and counts as full. Else prove '..UptoSaid'. A law counts once. -/
mutual
def uptoBulk {H : Type} : DataW H → Nat
  | .lit (.string bytes) => bytes.length + 1
  | .lit _ => 1
  | .nil => 1
  | .ptr d => uptoBulk d + 1
  | .slice elems spare => uptoBulkAll elems + uptoBulkAll spare + 1
  | .agg parts => uptoBulkAll parts + 1
  | .iface _ d => uptoBulk d + 1
  | .map entries => uptoBulkEntries entries + 1
  | .held _ => 1
def uptoBulkAll {H : Type} : List (DataW H) → Nat
  | [] => 0
  | d :: r => uptoBulk d + uptoBulkAll r
def uptoBulkEntries {H : Type} : List (Lit × DataW H) → Nat
  | [] => 0
  | x :: r => uptoBulkEntry x + uptoBulkEntries r
def uptoBulkEntry {H : Type} : Lit × DataW H → Nat
  | (.string bytes, d) => bytes.length + uptoBulk d + 1
  | (_, d) => uptoBulk d + 1
 end
def uptoSmall : (H : Type) → List (DataW H) → Bool := fun _ ds => decide (uptoBulkAll ds ≤ 1048576)
def OpenSpec.upto (s : _root_.Go.ChangeSpec) : _root_.Go.OpenSpec := { _root_.Go.OpenSpec.ofChange s with cond := some uptoSmall }

/-- 'laws.FnMyers', WHERE WHAT IT READS IS OF BULK AT MOST 1048576: true; the input reads as it did. -/
def fnMyersUptoRow : OpenClaim := { program := "yticfnhbjoaecjaa", sum := "5a541285814126ba62a7c31cc3f4749a55824727fb6ca61d89bf4654945a7dee", func := "loop.example/g00663/laws.FnMyers", spec := "fnMyers", unfollowed := true, recurses := true, apart := false, narrowed := true }
def FnMyersUptoSaid : Prop := fnMyersUptoRow.holds Try.pinned (OpenSpec.upto fnMyersSpec)

/-- 'laws.FnColumns', WHERE WHAT IT READS IS OF BULK AT MOST 1048576: true; the input reads as it did. -/
def fnColumnsUptoRow : OpenClaim := { program := "yticfnhbjoaecjaa", sum := "5a541285814126ba62a7c31cc3f4749a55824727fb6ca61d89bf4654945a7dee", func := "loop.example/g00663/laws.FnColumns", spec := "fnColumns", apart := false, narrowed := true }
def FnColumnsUptoSaid : Prop := fnColumnsUptoRow.holds Try.pinned (OpenSpec.upto fnColumnsSpec)

/-- 'laws.FnExactBitsOk', WHERE WHAT IT READS IS OF BULK AT MOST 1048576: true; the input reads as it did. -/
def fnExactBitsOkUptoRow : OpenClaim := { program := "yticfnhbjoaecjaa", sum := "5a541285814126ba62a7c31cc3f4749a55824727fb6ca61d89bf4654945a7dee", func := "loop.example/g00663/laws.FnExactBitsOk", spec := "fnExactBitsOk", apart := false, narrowed := true }
def FnExactBitsOkUptoSaid : Prop := fnExactBitsOkUptoRow.holds Try.pinned (OpenSpec.upto fnExactBitsOkSpec)

/-- 'laws.FnExactBitsColumn', WHERE WHAT IT READS IS OF BULK AT MOST 1048576: true; the input reads as it did. -/
def fnExactBitsColumnUptoRow : OpenClaim := { program := "yticfnhbjoaecjaa", sum := "5a541285814126ba62a7c31cc3f4749a55824727fb6ca61d89bf4654945a7dee", func := "loop.example/g00663/laws.FnExactBitsColumn", spec := "fnExactBitsColumn", apart := false, narrowed := true }
def FnExactBitsColumnUptoSaid : Prop := fnExactBitsColumnUptoRow.holds Try.pinned (OpenSpec.upto fnExactBitsColumnSpec)

/-- 'laws.FnExactMyersPeq', WHERE WHAT IT READS IS OF BULK AT MOST 1048576: true; the input reads as it did. -/
def fnExactMyersPeqUptoRow : OpenClaim := { program := "yticfnhbjoaecjaa", sum := "5a541285814126ba62a7c31cc3f4749a55824727fb6ca61d89bf4654945a7dee", func := "loop.example/g00663/laws.FnExactMyersPeq", spec := "fnExactMyersPeq", apart := false, narrowed := true }
def FnExactMyersPeqUptoSaid : Prop := fnExactMyersPeqUptoRow.holds Try.pinned (OpenSpec.upto fnExactMyersPeqSpec)

/-- 'laws.FnExactMyersStart', WHERE WHAT IT READS IS OF BULK AT MOST 1048576: true; the input reads as it did. -/
def fnExactMyersStartUptoRow : OpenClaim := { program := "yticfnhbjoaecjaa", sum := "5a541285814126ba62a7c31cc3f4749a55824727fb6ca61d89bf4654945a7dee", func := "loop.example/g00663/laws.FnExactMyersStart", spec := "fnExactMyersStart", apart := false, narrowed := true }
def FnExactMyersStartUptoSaid : Prop := fnExactMyersStartUptoRow.holds Try.pinned (OpenSpec.upto fnExactMyersStartSpec)

/-- 'laws.FnExactMyersStep', WHERE WHAT IT READS IS OF BULK AT MOST 1048576: true; the input reads as it did. -/
def fnExactMyersStepUptoRow : OpenClaim := { program := "yticfnhbjoaecjaa", sum := "5a541285814126ba62a7c31cc3f4749a55824727fb6ca61d89bf4654945a7dee", func := "loop.example/g00663/laws.FnExactMyersStep", spec := "fnExactMyersStep", apart := false, narrowed := true }
def FnExactMyersStepUptoSaid : Prop := fnExactMyersStepUptoRow.holds Try.pinned (OpenSpec.upto fnExactMyersStepSpec)

/-- 'laws.FnExactMyersRun', WHERE WHAT IT READS IS OF BULK AT MOST 1048576: true; the input reads as it did. -/
def fnExactMyersRunUptoRow : OpenClaim := { program := "yticfnhbjoaecjaa", sum := "5a541285814126ba62a7c31cc3f4749a55824727fb6ca61d89bf4654945a7dee", func := "loop.example/g00663/laws.FnExactMyersRun", spec := "fnExactMyersRun", unfollowed := true, recurses := true, apart := false, narrowed := true }
def FnExactMyersRunUptoSaid : Prop := fnExactMyersRunUptoRow.holds Try.pinned (OpenSpec.upto fnExactMyersRunSpec)

/-- 'laws.FnExactMyersPadded', WHERE WHAT IT READS IS OF BULK AT MOST 1048576: true; the input reads as it did. -/
def fnExactMyersPaddedUptoRow : OpenClaim := { program := "yticfnhbjoaecjaa", sum := "5a541285814126ba62a7c31cc3f4749a55824727fb6ca61d89bf4654945a7dee", func := "loop.example/g00663/laws.FnExactMyersPadded", spec := "fnExactMyersPadded", unfollowed := true, recurses := true, apart := false, narrowed := true }
def FnExactMyersPaddedUptoSaid : Prop := fnExactMyersPaddedUptoRow.holds Try.pinned (OpenSpec.upto fnExactMyersPaddedSpec)

end Rows
end Go.Proofs.Yticfnhbjoaecjaa
