/-
  No cell of these rows narrows 'for every input' (looked for: loops, veiled, ifaces, maps, wideKeys, modest, calm, conditions, laid).
  DERIVED. THE GIVEN ROWS OF THIS SEAT. 8 by the template 'for every input the law returns true; each argument reads behind the call as it read before'; 0 by the template 'total and deterministic' (their statements: YtmdgigaplfbcpaaTotals.lean).
  GIVEN WITH THE SEED: the statements are not yours to turn. If you find one false, say at which input.
  Laid BY PROGRAM, IN A SANDBOX (cutbox-rows.mjs): the forced cells as the released guide's own fill.sh prints them over the translation ed2f44684763e585… (all of the seat's roots in one cut). By AI agents, Wed Nov 11 2026. No macro, syntax, notation, axiom, sorry.
-/
import Derived.Test.YtmdgigaplfbcpaaChecked
import GoSem.Claim
import GoSem.ClaimJoined
import GoSem.ClaimMapViews
import Derived.JoinedTies
import Derived.KernelRfl
namespace Go.Proofs.Ytmdgigaplfbcpaa
/- THE CELL 'sum', in the pinned program and in every row, IS THE sha256 OF THE DUMP (.gsa) THAT YtmdgigaplfbcpaaProg.lean LOADS. Nothing in Lean hashes anything: it is a label: what it is worth is what the hold of that sum in a sandbox is worth. -/
noncomputable def Try.pinned : Pinned := { name := "ytmdgigaplfbcpaa", sum := "ed2f44684763e585ab65aa36611c09fef7b8cb283474f83663ee6b18a712507d", checked := Try.checked }
namespace Rows
def none {H : Type} : Left H := { results := [], args := [] }

/-- 'laws.FnPadBack': WHATEVER THE INPUT: true; the input reads as it did. -/
def fnPadBackSpec : ChangeSpec := { name := "fnPadBack", fn := fun _ => fun
  | [d] => { results := [.lit (.bool true)], args := [d] }
  | _ => none }
def fnPadBackRow : OpenClaim := { program := "ytmdgigaplfbcpaa", sum := "ed2f44684763e585ab65aa36611c09fef7b8cb283474f83663ee6b18a712507d", func := "loop.example/g00663/laws.FnPadBack", spec := "fnPadBack", apart := false }
def FnPadBackSaid : Prop := fnPadBackRow.holds Try.pinned (OpenSpec.ofChange fnPadBackSpec)

/-- ITS FALSE NEIGHBOUR: 'it returns false'. Refute it at one input. -/
def fnPadBackWrong : ChangeSpec := { name := "fnPadBack", fn := fun _ => fun
  | [d] => { results := [.lit (.bool false)], args := [d] }
  | _ => none }
def FnPadBackWrongFalsely : Prop := fnPadBackRow.holds Try.pinned (OpenSpec.ofChange fnPadBackWrong)

/-- 'laws.FnTokens': WHATEVER THE INPUT: true; the input reads as it did. -/
def fnTokensSpec : ChangeSpec := { name := "fnTokens", fn := fun _ => fun
  | [d] => { results := [.lit (.bool true)], args := [d] }
  | _ => none }
def fnTokensRow : OpenClaim := { program := "ytmdgigaplfbcpaa", sum := "ed2f44684763e585ab65aa36611c09fef7b8cb283474f83663ee6b18a712507d", func := "loop.example/g00663/laws.FnTokens", spec := "fnTokens", apart := false }
def FnTokensSaid : Prop := fnTokensRow.holds Try.pinned (OpenSpec.ofChange fnTokensSpec)

/-- ITS FALSE NEIGHBOUR: 'it returns false'. Refute it at one input. -/
def fnTokensWrong : ChangeSpec := { name := "fnTokens", fn := fun _ => fun
  | [d] => { results := [.lit (.bool false)], args := [d] }
  | _ => none }
def FnTokensWrongFalsely : Prop := fnTokensRow.holds Try.pinned (OpenSpec.ofChange fnTokensWrong)

/-- 'laws.FnExactWordOk': WHATEVER THE INPUT: true; the input reads as it did. -/
def fnExactWordOkSpec : ChangeSpec := { name := "fnExactWordOk", fn := fun _ => fun
  | [d] => { results := [.lit (.bool true)], args := [d] }
  | _ => none }
def fnExactWordOkRow : OpenClaim := { program := "ytmdgigaplfbcpaa", sum := "ed2f44684763e585ab65aa36611c09fef7b8cb283474f83663ee6b18a712507d", func := "loop.example/g00663/laws.FnExactWordOk", spec := "fnExactWordOk", apart := false }
def FnExactWordOkSaid : Prop := fnExactWordOkRow.holds Try.pinned (OpenSpec.ofChange fnExactWordOkSpec)

/-- ITS FALSE NEIGHBOUR: 'it returns false'. Refute it at one input. -/
def fnExactWordOkWrong : ChangeSpec := { name := "fnExactWordOk", fn := fun _ => fun
  | [d] => { results := [.lit (.bool false)], args := [d] }
  | _ => none }
def FnExactWordOkWrongFalsely : Prop := fnExactWordOkRow.holds Try.pinned (OpenSpec.ofChange fnExactWordOkWrong)

/-- 'laws.FnExactFold': WHATEVER THE INPUT: true; the input reads as it did. -/
def fnExactFoldSpec : ChangeSpec := { name := "fnExactFold", fn := fun _ => fun
  | [d] => { results := [.lit (.bool true)], args := [d] }
  | _ => none }
def fnExactFoldRow : OpenClaim := { program := "ytmdgigaplfbcpaa", sum := "ed2f44684763e585ab65aa36611c09fef7b8cb283474f83663ee6b18a712507d", func := "loop.example/g00663/laws.FnExactFold", spec := "fnExactFold", apart := false }
def FnExactFoldSaid : Prop := fnExactFoldRow.holds Try.pinned (OpenSpec.ofChange fnExactFoldSpec)

/-- ITS FALSE NEIGHBOUR: 'it returns false'. Refute it at one input. -/
def fnExactFoldWrong : ChangeSpec := { name := "fnExactFold", fn := fun _ => fun
  | [d] => { results := [.lit (.bool false)], args := [d] }
  | _ => none }
def FnExactFoldWrongFalsely : Prop := fnExactFoldRow.holds Try.pinned (OpenSpec.ofChange fnExactFoldWrong)

/-- 'laws.FnExactPad': WHATEVER THE INPUT: true; the input reads as it did. -/
def fnExactPadSpec : ChangeSpec := { name := "fnExactPad", fn := fun _ => fun
  | [d] => { results := [.lit (.bool true)], args := [d] }
  | _ => none }
def fnExactPadRow : OpenClaim := { program := "ytmdgigaplfbcpaa", sum := "ed2f44684763e585ab65aa36611c09fef7b8cb283474f83663ee6b18a712507d", func := "loop.example/g00663/laws.FnExactPad", spec := "fnExactPad", apart := false }
def FnExactPadSaid : Prop := fnExactPadRow.holds Try.pinned (OpenSpec.ofChange fnExactPadSpec)

/-- ITS FALSE NEIGHBOUR: 'it returns false'. Refute it at one input. -/
def fnExactPadWrong : ChangeSpec := { name := "fnExactPad", fn := fun _ => fun
  | [d] => { results := [.lit (.bool false)], args := [d] }
  | _ => none }
def FnExactPadWrongFalsely : Prop := fnExactPadRow.holds Try.pinned (OpenSpec.ofChange fnExactPadWrong)

/-- 'laws.FnExactUnpad': WHATEVER THE INPUT: true; the input reads as it did. -/
def fnExactUnpadSpec : ChangeSpec := { name := "fnExactUnpad", fn := fun _ => fun
  | [d] => { results := [.lit (.bool true)], args := [d] }
  | _ => none }
def fnExactUnpadRow : OpenClaim := { program := "ytmdgigaplfbcpaa", sum := "ed2f44684763e585ab65aa36611c09fef7b8cb283474f83663ee6b18a712507d", func := "loop.example/g00663/laws.FnExactUnpad", spec := "fnExactUnpad", apart := false }
def FnExactUnpadSaid : Prop := fnExactUnpadRow.holds Try.pinned (OpenSpec.ofChange fnExactUnpadSpec)

/-- ITS FALSE NEIGHBOUR: 'it returns false'. Refute it at one input. -/
def fnExactUnpadWrong : ChangeSpec := { name := "fnExactUnpad", fn := fun _ => fun
  | [d] => { results := [.lit (.bool false)], args := [d] }
  | _ => none }
def FnExactUnpadWrongFalsely : Prop := fnExactUnpadRow.holds Try.pinned (OpenSpec.ofChange fnExactUnpadWrong)

/-- 'laws.FnExactWordCmp': WHATEVER THE INPUT: true; the input reads as it did. -/
def fnExactWordCmpSpec : ChangeSpec := { name := "fnExactWordCmp", fn := fun _ => fun
  | [d1, d2] => { results := [.lit (.bool true)], args := [d1, d2] }
  | _ => none }
def fnExactWordCmpRow : OpenClaim := { program := "ytmdgigaplfbcpaa", sum := "ed2f44684763e585ab65aa36611c09fef7b8cb283474f83663ee6b18a712507d", func := "loop.example/g00663/laws.FnExactWordCmp", spec := "fnExactWordCmp", inPlace := ["internal/bytealg.abigen_runtime_cmpstring"], apart := false }
def FnExactWordCmpSaid : Prop := fnExactWordCmpRow.holds Try.pinned (OpenSpec.ofChange fnExactWordCmpSpec)

/-- ITS FALSE NEIGHBOUR: 'it returns false'. Refute it at one input. -/
def fnExactWordCmpWrong : ChangeSpec := { name := "fnExactWordCmp", fn := fun _ => fun
  | [d1, d2] => { results := [.lit (.bool false)], args := [d1, d2] }
  | _ => none }
def FnExactWordCmpWrongFalsely : Prop := fnExactWordCmpRow.holds Try.pinned (OpenSpec.ofChange fnExactWordCmpWrong)

/-- 'laws.FnExactTokens': WHATEVER THE INPUT: true; the input reads as it did. -/
def fnExactTokensSpec : ChangeSpec := { name := "fnExactTokens", fn := fun _ => fun
  | [d1, d2] => { results := [.lit (.bool true)], args := [d1, d2] }
  | _ => none }
def fnExactTokensRow : OpenClaim := { program := "ytmdgigaplfbcpaa", sum := "ed2f44684763e585ab65aa36611c09fef7b8cb283474f83663ee6b18a712507d", func := "loop.example/g00663/laws.FnExactTokens", spec := "fnExactTokens", apart := false }
def FnExactTokensSaid : Prop := fnExactTokensRow.holds Try.pinned (OpenSpec.ofChange fnExactTokensSpec)

/-- ITS FALSE NEIGHBOUR: 'it returns false'. Refute it at one input. -/
def fnExactTokensWrong : ChangeSpec := { name := "fnExactTokens", fn := fun _ => fun
  | [d1, d2] => { results := [.lit (.bool false)], args := [d1, d2] }
  | _ => none }
def FnExactTokensWrongFalsely : Prop := fnExactTokensRow.holds Try.pinned (OpenSpec.ofChange fnExactTokensWrong)

/- THE SECOND FORM. 'bulk': how many values and letters a reading holds, each counted each time it is reached (what is shared counts as often as it is met; a slice's spare places count too). A statement '..UptoSaid' is the law's where the arguments, and the package variables that the reading takes, are together of bulk at most 1048576: NARROWER than '..Said'. Prove '..Said' where nothing that the law and all that it calls make is longer than what came in: it says more and counts as full. Else prove '..UptoSaid'. A law counts once. -/
mutual
def uptoBulk {H : Type} : DataW H → Nat
  | .lit (.string bytes) => bytes.length + 1
  | .lit _ => 1
  | .nil => 1
  | .ptr d => uptoBulk d + 1
  | .slice elems spare => uptoBulkAll elems + uptoBulkAll spare + 1
  | .agg parts => uptoBulkAll parts + 1
  | .iface _ d => uptoBulk d + 1
  | .map entries => uptoBulkEntries entries + 1
  | .held _ => 1
def uptoBulkAll {H : Type} : List (DataW H) → Nat
  | [] => 0
  | d :: r => uptoBulk d + uptoBulkAll r
def uptoBulkEntries {H : Type} : List (Lit × DataW H) → Nat
  | [] => 0
  | x :: r => uptoBulkEntry x + uptoBulkEntries r
def uptoBulkEntry {H : Type} : Lit × DataW H → Nat
  | (.string bytes, d) => bytes.length + uptoBulk d + 1
  | (_, d) => uptoBulk d + 1
 end
def uptoSmall : (H : Type) → List (DataW H) → Bool := fun _ ds => decide (uptoBulkAll ds ≤ 1048576)
def OpenSpec.upto (s : _root_.Go.ChangeSpec) : _root_.Go.OpenSpec := { _root_.Go.OpenSpec.ofChange s with cond := some uptoSmall }

/-- 'laws.FnPadBack', WHERE WHAT IT READS IS OF BULK AT MOST 1048576: true; the input reads as it did. -/
def fnPadBackUptoRow : OpenClaim := { program := "ytmdgigaplfbcpaa", sum := "ed2f44684763e585ab65aa36611c09fef7b8cb283474f83663ee6b18a712507d", func := "loop.example/g00663/laws.FnPadBack", spec := "fnPadBack", apart := false, narrowed := true }
def FnPadBackUptoSaid : Prop := fnPadBackUptoRow.holds Try.pinned (OpenSpec.upto fnPadBackSpec)

/-- 'laws.FnTokens', WHERE WHAT IT READS IS OF BULK AT MOST 1048576: true; the input reads as it did. -/
def fnTokensUptoRow : OpenClaim := { program := "ytmdgigaplfbcpaa", sum := "ed2f44684763e585ab65aa36611c09fef7b8cb283474f83663ee6b18a712507d", func := "loop.example/g00663/laws.FnTokens", spec := "fnTokens", apart := false, narrowed := true }
def FnTokensUptoSaid : Prop := fnTokensUptoRow.holds Try.pinned (OpenSpec.upto fnTokensSpec)

/-- 'laws.FnExactWordOk', WHERE WHAT IT READS IS OF BULK AT MOST 1048576: true; the input reads as it did. -/
def fnExactWordOkUptoRow : OpenClaim := { program := "ytmdgigaplfbcpaa", sum := "ed2f44684763e585ab65aa36611c09fef7b8cb283474f83663ee6b18a712507d", func := "loop.example/g00663/laws.FnExactWordOk", spec := "fnExactWordOk", apart := false, narrowed := true }
def FnExactWordOkUptoSaid : Prop := fnExactWordOkUptoRow.holds Try.pinned (OpenSpec.upto fnExactWordOkSpec)

/-- 'laws.FnExactFold', WHERE WHAT IT READS IS OF BULK AT MOST 1048576: true; the input reads as it did. -/
def fnExactFoldUptoRow : OpenClaim := { program := "ytmdgigaplfbcpaa", sum := "ed2f44684763e585ab65aa36611c09fef7b8cb283474f83663ee6b18a712507d", func := "loop.example/g00663/laws.FnExactFold", spec := "fnExactFold", apart := false, narrowed := true }
def FnExactFoldUptoSaid : Prop := fnExactFoldUptoRow.holds Try.pinned (OpenSpec.upto fnExactFoldSpec)

/-- 'laws.FnExactPad', WHERE WHAT IT READS IS OF BULK AT MOST 1048576: true; the input reads as it did. -/
def fnExactPadUptoRow : OpenClaim := { program := "ytmdgigaplfbcpaa", sum := "ed2f44684763e585ab65aa36611c09fef7b8cb283474f83663ee6b18a712507d", func := "loop.example/g00663/laws.FnExactPad", spec := "fnExactPad", apart := false, narrowed := true }
def FnExactPadUptoSaid : Prop := fnExactPadUptoRow.holds Try.pinned (OpenSpec.upto fnExactPadSpec)

/-- 'laws.FnExactUnpad', WHERE WHAT IT READS IS OF BULK AT MOST 1048576: true; the input reads as it did. -/
def fnExactUnpadUptoRow : OpenClaim := { program := "ytmdgigaplfbcpaa", sum := "ed2f44684763e585ab65aa36611c09fef7b8cb283474f83663ee6b18a712507d", func := "loop.example/g00663/laws.FnExactUnpad", spec := "fnExactUnpad", apart := false, narrowed := true }
def FnExactUnpadUptoSaid : Prop := fnExactUnpadUptoRow.holds Try.pinned (OpenSpec.upto fnExactUnpadSpec)

/-- 'laws.FnExactWordCmp', WHERE WHAT IT READS IS OF BULK AT MOST 1048576: true; the input reads as it did. -/
def fnExactWordCmpUptoRow : OpenClaim := { program := "ytmdgigaplfbcpaa", sum := "ed2f44684763e585ab65aa36611c09fef7b8cb283474f83663ee6b18a712507d", func := "loop.example/g00663/laws.FnExactWordCmp", spec := "fnExactWordCmp", inPlace := ["internal/bytealg.abigen_runtime_cmpstring"], apart := false, narrowed := true }
def FnExactWordCmpUptoSaid : Prop := fnExactWordCmpUptoRow.holds Try.pinned (OpenSpec.upto fnExactWordCmpSpec)

/-- 'laws.FnExactTokens', WHERE WHAT IT READS IS OF BULK AT MOST 1048576: true; the input reads as it did. -/
def fnExactTokensUptoRow : OpenClaim := { program := "ytmdgigaplfbcpaa", sum := "ed2f44684763e585ab65aa36611c09fef7b8cb283474f83663ee6b18a712507d", func := "loop.example/g00663/laws.FnExactTokens", spec := "fnExactTokens", apart := false, narrowed := true }
def FnExactTokensUptoSaid : Prop := fnExactTokensUptoRow.holds Try.pinned (OpenSpec.upto fnExactTokensSpec)

end Rows
end Go.Proofs.Ytmdgigaplfbcpaa
