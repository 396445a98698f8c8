/-
  No cell of these rows narrows 'for every input' (looked for: loops, veiled, ifaces, maps, wideKeys, modest, calm, conditions, laid).
  DERIVED. THE GIVEN ROWS OF THIS SEAT. 8 by the template 'for every input the law returns true; each argument reads behind the call as it read before'; 0 by the template 'total and deterministic' (their statements: YtmkgddbdkpkgpaaTotals.lean).
  GIVEN WITH THE SEED: the statements are not yours to turn. If you find one false, say at which input.
  Laid BY PROGRAM, IN A SANDBOX (cutbox-rows.mjs): the forced cells as the released guide's own fill.sh prints them over the translation 868f02a4f1bde1fb… (all of the seat's roots in one cut). By AI agents, Wed Nov 11 2026. No macro, syntax, notation, axiom, sorry.
-/
import Derived.Test.YtmkgddbdkpkgpaaChecked
import GoSem.Claim
import GoSem.ClaimJoined
import GoSem.ClaimMapViews
import Derived.JoinedTies
import Derived.KernelRfl
namespace Go.Proofs.Ytmkgddbdkpkgpaa
/- THE CELL 'sum', in the pinned program and in every row, IS THE sha256 OF THE DUMP (.gsa) THAT YtmkgddbdkpkgpaaProg.lean LOADS. Nothing in Lean hashes anything: it is a label: what it is worth is what the hold of that sum in a sandbox is worth. -/
noncomputable def Try.pinned : Pinned := { name := "ytmkgddbdkpkgpaa", sum := "868f02a4f1bde1fb749f97eea44e3e440583f4d5b5dce2cf8133994bb9aaf50b", checked := Try.checked }
namespace Rows
def none {H : Type} : Left H := { results := [], args := [] }

/-- 'laws.FnStashBook': WHATEVER THE INPUT: true; the input reads as it did. -/
def fnStashBookSpec : ChangeSpec := { name := "fnStashBook", fn := fun _ => fun
  | [d] => { results := [.lit (.bool true)], args := [d] }
  | _ => none }
def fnStashBookRow : OpenClaim := { program := "ytmkgddbdkpkgpaa", sum := "868f02a4f1bde1fb749f97eea44e3e440583f4d5b5dce2cf8133994bb9aaf50b", func := "loop.example/g00663/laws.FnStashBook", spec := "fnStashBook", unfollowed := true, recurses := true, apart := false }
def FnStashBookSaid : Prop := fnStashBookRow.holds Try.pinned (OpenSpec.ofChange fnStashBookSpec)

/-- ITS FALSE NEIGHBOUR: 'it returns false'. Refute it at one input. -/
def fnStashBookWrong : ChangeSpec := { name := "fnStashBook", fn := fun _ => fun
  | [d] => { results := [.lit (.bool false)], args := [d] }
  | _ => none }
def FnStashBookWrongFalsely : Prop := fnStashBookRow.holds Try.pinned (OpenSpec.ofChange fnStashBookWrong)

/-- 'laws.FnEvicted': WHATEVER THE INPUT: true; the input reads as it did. -/
def fnEvictedSpec : ChangeSpec := { name := "fnEvicted", fn := fun _ => fun
  | [d] => { results := [.lit (.bool true)], args := [d] }
  | _ => none }
def fnEvictedRow : OpenClaim := { program := "ytmkgddbdkpkgpaa", sum := "868f02a4f1bde1fb749f97eea44e3e440583f4d5b5dce2cf8133994bb9aaf50b", func := "loop.example/g00663/laws.FnEvicted", spec := "fnEvicted", unfollowed := true, recurses := true, apart := false }
def FnEvictedSaid : Prop := fnEvictedRow.holds Try.pinned (OpenSpec.ofChange fnEvictedSpec)

/-- ITS FALSE NEIGHBOUR: 'it returns false'. Refute it at one input. -/
def fnEvictedWrong : ChangeSpec := { name := "fnEvicted", fn := fun _ => fun
  | [d] => { results := [.lit (.bool false)], args := [d] }
  | _ => none }
def FnEvictedWrongFalsely : Prop := fnEvictedRow.holds Try.pinned (OpenSpec.ofChange fnEvictedWrong)

/-- 'laws.FnExactStashOk': WHATEVER THE INPUT: true; the input reads as it did. -/
def fnExactStashOkSpec : ChangeSpec := { name := "fnExactStashOk", fn := fun _ => fun
  | [d1, d2, d3] => { results := [.lit (.bool true)], args := [d1, d2, d3] }
  | _ => none }
def fnExactStashOkRow : OpenClaim := { program := "ytmkgddbdkpkgpaa", sum := "868f02a4f1bde1fb749f97eea44e3e440583f4d5b5dce2cf8133994bb9aaf50b", func := "loop.example/g00663/laws.FnExactStashOk", spec := "fnExactStashOk", apart := false }
def FnExactStashOkSaid : Prop := fnExactStashOkRow.holds Try.pinned (OpenSpec.ofChange fnExactStashOkSpec)

/-- ITS FALSE NEIGHBOUR: 'it returns false'. Refute it at one input. -/
def fnExactStashOkWrong : ChangeSpec := { name := "fnExactStashOk", fn := fun _ => fun
  | [d1, d2, d3] => { results := [.lit (.bool false)], args := [d1, d2, d3] }
  | _ => none }
def FnExactStashOkWrongFalsely : Prop := fnExactStashOkRow.holds Try.pinned (OpenSpec.ofChange fnExactStashOkWrong)

/-- 'laws.FnExactStashPut': WHATEVER THE INPUT: true; the input reads as it did. -/
def fnExactStashPutSpec : ChangeSpec := { name := "fnExactStashPut", fn := fun _ => fun
  | [d1, d2, d3, d4] => { results := [.lit (.bool true)], args := [d1, d2, d3, d4] }
  | _ => none }
def fnExactStashPutRow : OpenClaim := { program := "ytmkgddbdkpkgpaa", sum := "868f02a4f1bde1fb749f97eea44e3e440583f4d5b5dce2cf8133994bb9aaf50b", func := "loop.example/g00663/laws.FnExactStashPut", spec := "fnExactStashPut", unfollowed := true, recurses := true, apart := false }
def FnExactStashPutSaid : Prop := fnExactStashPutRow.holds Try.pinned (OpenSpec.ofChange fnExactStashPutSpec)

/-- ITS FALSE NEIGHBOUR: 'it returns false'. Refute it at one input. -/
def fnExactStashPutWrong : ChangeSpec := { name := "fnExactStashPut", fn := fun _ => fun
  | [d1, d2, d3, d4] => { results := [.lit (.bool false)], args := [d1, d2, d3, d4] }
  | _ => none }
def FnExactStashPutWrongFalsely : Prop := fnExactStashPutRow.holds Try.pinned (OpenSpec.ofChange fnExactStashPutWrong)

/-- 'laws.FnExactStashFind': WHATEVER THE INPUT: true; the input reads as it did. -/
def fnExactStashFindSpec : ChangeSpec := { name := "fnExactStashFind", fn := fun _ => fun
  | [d1, d2] => { results := [.lit (.bool true)], args := [d1, d2] }
  | _ => none }
def fnExactStashFindRow : OpenClaim := { program := "ytmkgddbdkpkgpaa", sum := "868f02a4f1bde1fb749f97eea44e3e440583f4d5b5dce2cf8133994bb9aaf50b", func := "loop.example/g00663/laws.FnExactStashFind", spec := "fnExactStashFind", apart := false }
def FnExactStashFindSaid : Prop := fnExactStashFindRow.holds Try.pinned (OpenSpec.ofChange fnExactStashFindSpec)

/-- ITS FALSE NEIGHBOUR: 'it returns false'. Refute it at one input. -/
def fnExactStashFindWrong : ChangeSpec := { name := "fnExactStashFind", fn := fun _ => fun
  | [d1, d2] => { results := [.lit (.bool false)], args := [d1, d2] }
  | _ => none }
def FnExactStashFindWrongFalsely : Prop := fnExactStashFindRow.holds Try.pinned (OpenSpec.ofChange fnExactStashFindWrong)

/-- 'laws.FnExactStashDrop': WHATEVER THE INPUT: true; the input reads as it did. -/
def fnExactStashDropSpec : ChangeSpec := { name := "fnExactStashDrop", fn := fun _ => fun
  | [d1, d2] => { results := [.lit (.bool true)], args := [d1, d2] }
  | _ => none }
def fnExactStashDropRow : OpenClaim := { program := "ytmkgddbdkpkgpaa", sum := "868f02a4f1bde1fb749f97eea44e3e440583f4d5b5dce2cf8133994bb9aaf50b", func := "loop.example/g00663/laws.FnExactStashDrop", spec := "fnExactStashDrop", apart := false }
def FnExactStashDropSaid : Prop := fnExactStashDropRow.holds Try.pinned (OpenSpec.ofChange fnExactStashDropSpec)

/-- ITS FALSE NEIGHBOUR: 'it returns false'. Refute it at one input. -/
def fnExactStashDropWrong : ChangeSpec := { name := "fnExactStashDrop", fn := fun _ => fun
  | [d1, d2] => { results := [.lit (.bool false)], args := [d1, d2] }
  | _ => none }
def FnExactStashDropWrongFalsely : Prop := fnExactStashDropRow.holds Try.pinned (OpenSpec.ofChange fnExactStashDropWrong)

/-- 'laws.FnExactEvictPlan': WHATEVER THE INPUT: true; the input reads as it did. -/
def fnExactEvictPlanSpec : ChangeSpec := { name := "fnExactEvictPlan", fn := fun _ => fun
  | [d1, d2, d3, d4] => { results := [.lit (.bool true)], args := [d1, d2, d3, d4] }
  | _ => none }
def fnExactEvictPlanRow : OpenClaim := { program := "ytmkgddbdkpkgpaa", sum := "868f02a4f1bde1fb749f97eea44e3e440583f4d5b5dce2cf8133994bb9aaf50b", func := "loop.example/g00663/laws.FnExactEvictPlan", spec := "fnExactEvictPlan", unfollowed := true, recurses := true, apart := false }
def FnExactEvictPlanSaid : Prop := fnExactEvictPlanRow.holds Try.pinned (OpenSpec.ofChange fnExactEvictPlanSpec)

/-- ITS FALSE NEIGHBOUR: 'it returns false'. Refute it at one input. -/
def fnExactEvictPlanWrong : ChangeSpec := { name := "fnExactEvictPlan", fn := fun _ => fun
  | [d1, d2, d3, d4] => { results := [.lit (.bool false)], args := [d1, d2, d3, d4] }
  | _ => none }
def FnExactEvictPlanWrongFalsely : Prop := fnExactEvictPlanRow.holds Try.pinned (OpenSpec.ofChange fnExactEvictPlanWrong)

/-- 'laws.FnExactEvictRest': WHATEVER THE INPUT: true; the input reads as it did. -/
def fnExactEvictRestSpec : ChangeSpec := { name := "fnExactEvictRest", fn := fun _ => fun
  | [d1, d2, d3, d4] => { results := [.lit (.bool true)], args := [d1, d2, d3, d4] }
  | _ => none }
def fnExactEvictRestRow : OpenClaim := { program := "ytmkgddbdkpkgpaa", sum := "868f02a4f1bde1fb749f97eea44e3e440583f4d5b5dce2cf8133994bb9aaf50b", func := "loop.example/g00663/laws.FnExactEvictRest", spec := "fnExactEvictRest", unfollowed := true, recurses := true, apart := false }
def FnExactEvictRestSaid : Prop := fnExactEvictRestRow.holds Try.pinned (OpenSpec.ofChange fnExactEvictRestSpec)

/-- ITS FALSE NEIGHBOUR: 'it returns false'. Refute it at one input. -/
def fnExactEvictRestWrong : ChangeSpec := { name := "fnExactEvictRest", fn := fun _ => fun
  | [d1, d2, d3, d4] => { results := [.lit (.bool false)], args := [d1, d2, d3, d4] }
  | _ => none }
def FnExactEvictRestWrongFalsely : Prop := fnExactEvictRestRow.holds Try.pinned (OpenSpec.ofChange fnExactEvictRestWrong)

/- THE SECOND FORM. 'bulk': how many values and letters a reading holds, each counted each time it is reached (what is shared counts as often as it is met; a slice's spare places count too). A statement '..UptoSaid' is the law's where the arguments, and the package variables that the reading takes, are together of bulk at most 1048576: NARROWER than '..Said'. Prove '..Said' where nothing that the law and all that it calls make is longer than what came in: it says more and counts as full. Else prove '..UptoSaid'. A law counts once. -/
mutual
def uptoBulk {H : Type} : DataW H → Nat
  | .lit (.string bytes) => bytes.length + 1
  | .lit _ => 1
  | .nil => 1
  | .ptr d => uptoBulk d + 1
  | .slice elems spare => uptoBulkAll elems + uptoBulkAll spare + 1
  | .agg parts => uptoBulkAll parts + 1
  | .iface _ d => uptoBulk d + 1
  | .map entries => uptoBulkEntries entries + 1
  | .held _ => 1
def uptoBulkAll {H : Type} : List (DataW H) → Nat
  | [] => 0
  | d :: r => uptoBulk d + uptoBulkAll r
def uptoBulkEntries {H : Type} : List (Lit × DataW H) → Nat
  | [] => 0
  | x :: r => uptoBulkEntry x + uptoBulkEntries r
def uptoBulkEntry {H : Type} : Lit × DataW H → Nat
  | (.string bytes, d) => bytes.length + uptoBulk d + 1
  | (_, d) => uptoBulk d + 1
 end
def uptoSmall : (H : Type) → List (DataW H) → Bool := fun _ ds => decide (uptoBulkAll ds ≤ 1048576)
def OpenSpec.upto (s : _root_.Go.ChangeSpec) : _root_.Go.OpenSpec := { _root_.Go.OpenSpec.ofChange s with cond := some uptoSmall }

/-- 'laws.FnStashBook', WHERE WHAT IT READS IS OF BULK AT MOST 1048576: true; the input reads as it did. -/
def fnStashBookUptoRow : OpenClaim := { program := "ytmkgddbdkpkgpaa", sum := "868f02a4f1bde1fb749f97eea44e3e440583f4d5b5dce2cf8133994bb9aaf50b", func := "loop.example/g00663/laws.FnStashBook", spec := "fnStashBook", unfollowed := true, recurses := true, apart := false, narrowed := true }
def FnStashBookUptoSaid : Prop := fnStashBookUptoRow.holds Try.pinned (OpenSpec.upto fnStashBookSpec)

/-- 'laws.FnEvicted', WHERE WHAT IT READS IS OF BULK AT MOST 1048576: true; the input reads as it did. -/
def fnEvictedUptoRow : OpenClaim := { program := "ytmkgddbdkpkgpaa", sum := "868f02a4f1bde1fb749f97eea44e3e440583f4d5b5dce2cf8133994bb9aaf50b", func := "loop.example/g00663/laws.FnEvicted", spec := "fnEvicted", unfollowed := true, recurses := true, apart := false, narrowed := true }
def FnEvictedUptoSaid : Prop := fnEvictedUptoRow.holds Try.pinned (OpenSpec.upto fnEvictedSpec)

/-- 'laws.FnExactStashOk', WHERE WHAT IT READS IS OF BULK AT MOST 1048576: true; the input reads as it did. -/
def fnExactStashOkUptoRow : OpenClaim := { program := "ytmkgddbdkpkgpaa", sum := "868f02a4f1bde1fb749f97eea44e3e440583f4d5b5dce2cf8133994bb9aaf50b", func := "loop.example/g00663/laws.FnExactStashOk", spec := "fnExactStashOk", apart := false, narrowed := true }
def FnExactStashOkUptoSaid : Prop := fnExactStashOkUptoRow.holds Try.pinned (OpenSpec.upto fnExactStashOkSpec)

/-- 'laws.FnExactStashPut', WHERE WHAT IT READS IS OF BULK AT MOST 1048576: true; the input reads as it did. -/
def fnExactStashPutUptoRow : OpenClaim := { program := "ytmkgddbdkpkgpaa", sum := "868f02a4f1bde1fb749f97eea44e3e440583f4d5b5dce2cf8133994bb9aaf50b", func := "loop.example/g00663/laws.FnExactStashPut", spec := "fnExactStashPut", unfollowed := true, recurses := true, apart := false, narrowed := true }
def FnExactStashPutUptoSaid : Prop := fnExactStashPutUptoRow.holds Try.pinned (OpenSpec.upto fnExactStashPutSpec)

/-- 'laws.FnExactStashFind', WHERE WHAT IT READS IS OF BULK AT MOST 1048576: true; the input reads as it did. -/
def fnExactStashFindUptoRow : OpenClaim := { program := "ytmkgddbdkpkgpaa", sum := "868f02a4f1bde1fb749f97eea44e3e440583f4d5b5dce2cf8133994bb9aaf50b", func := "loop.example/g00663/laws.FnExactStashFind", spec := "fnExactStashFind", apart := false, narrowed := true }
def FnExactStashFindUptoSaid : Prop := fnExactStashFindUptoRow.holds Try.pinned (OpenSpec.upto fnExactStashFindSpec)

/-- 'laws.FnExactStashDrop', WHERE WHAT IT READS IS OF BULK AT MOST 1048576: true; the input reads as it did. -/
def fnExactStashDropUptoRow : OpenClaim := { program := "ytmkgddbdkpkgpaa", sum := "868f02a4f1bde1fb749f97eea44e3e440583f4d5b5dce2cf8133994bb9aaf50b", func := "loop.example/g00663/laws.FnExactStashDrop", spec := "fnExactStashDrop", apart := false, narrowed := true }
def FnExactStashDropUptoSaid : Prop := fnExactStashDropUptoRow.holds Try.pinned (OpenSpec.upto fnExactStashDropSpec)

/-- 'laws.FnExactEvictPlan', WHERE WHAT IT READS IS OF BULK AT MOST 1048576: true; the input reads as it did. -/
def fnExactEvictPlanUptoRow : OpenClaim := { program := "ytmkgddbdkpkgpaa", sum := "868f02a4f1bde1fb749f97eea44e3e440583f4d5b5dce2cf8133994bb9aaf50b", func := "loop.example/g00663/laws.FnExactEvictPlan", spec := "fnExactEvictPlan", unfollowed := true, recurses := true, apart := false, narrowed := true }
def FnExactEvictPlanUptoSaid : Prop := fnExactEvictPlanUptoRow.holds Try.pinned (OpenSpec.upto fnExactEvictPlanSpec)

/-- 'laws.FnExactEvictRest', WHERE WHAT IT READS IS OF BULK AT MOST 1048576: true; the input reads as it did. -/
def fnExactEvictRestUptoRow : OpenClaim := { program := "ytmkgddbdkpkgpaa", sum := "868f02a4f1bde1fb749f97eea44e3e440583f4d5b5dce2cf8133994bb9aaf50b", func := "loop.example/g00663/laws.FnExactEvictRest", spec := "fnExactEvictRest", unfollowed := true, recurses := true, apart := false, narrowed := true }
def FnExactEvictRestUptoSaid : Prop := fnExactEvictRestUptoRow.holds Try.pinned (OpenSpec.upto fnExactEvictRestSpec)

end Rows
end Go.Proofs.Ytmkgddbdkpkgpaa
