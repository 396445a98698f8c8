/-
  No cell of these rows narrows 'for every input' (looked for: loops, veiled, ifaces, maps, wideKeys, modest, calm, conditions, laid).
  DERIVED. THE GIVEN ROWS OF THIS SEAT. 7 by the template 'for every input the law returns true; each argument reads behind the call as it read before'; 0 by the template 'total and deterministic' (their statements: YtmndkpicbmffnaaTotals.lean).
  GIVEN WITH THE SEED: the statements are not yours to turn. If you find one false, say at which input.
  Laid BY PROGRAM, IN A SANDBOX (cutbox-rows.mjs): the forced cells as the released guide's own fill.sh prints them over the translation b0531d34b0b1a5e4… (all of the seat's roots in one cut). By AI agents, Wed Nov 11 2026. No macro, syntax, notation, axiom, sorry.
-/
import Derived.Test.YtmndkpicbmffnaaChecked
import GoSem.Claim
import GoSem.ClaimJoined
import GoSem.ClaimMapViews
import Derived.JoinedTies
import Derived.KernelRfl
namespace Go.Proofs.Ytmndkpicbmffnaa
/- THE CELL 'sum', in the pinned program and in every row, IS THE sha256 OF THE DUMP (.gsa) THAT YtmndkpicbmffnaaProg.lean LOADS. Nothing in Lean hashes anything: it is a label: what it is worth is what the hold of that sum in a sandbox is worth. -/
noncomputable def Try.pinned : Pinned := { name := "ytmndkpicbmffnaa", sum := "b0531d34b0b1a5e4604d8bbd735ff6ee8d55c0527e22438913fd481806c36ddc", checked := Try.checked }
namespace Rows
def none {H : Type} : Left H := { results := [], args := [] }

/-- 'laws.FnNodeBack': WHATEVER THE INPUT: true; the input reads as it did. -/
def fnNodeBackSpec : ChangeSpec := { name := "fnNodeBack", fn := fun _ => fun
  | [d] => { results := [.lit (.bool true)], args := [d] }
  | _ => none }
def fnNodeBackRow : OpenClaim := { program := "ytmndkpicbmffnaa", sum := "b0531d34b0b1a5e4604d8bbd735ff6ee8d55c0527e22438913fd481806c36ddc", func := "loop.example/g00663/laws.FnNodeBack", spec := "fnNodeBack", apart := false }
def FnNodeBackSaid : Prop := fnNodeBackRow.holds Try.pinned (OpenSpec.ofChange fnNodeBackSpec)

/-- ITS FALSE NEIGHBOUR: 'it returns false'. Refute it at one input. -/
def fnNodeBackWrong : ChangeSpec := { name := "fnNodeBack", fn := fun _ => fun
  | [d] => { results := [.lit (.bool false)], args := [d] }
  | _ => none }
def FnNodeBackWrongFalsely : Prop := fnNodeBackRow.holds Try.pinned (OpenSpec.ofChange fnNodeBackWrong)

/-- 'laws.FnExactBlockOk': WHATEVER THE INPUT: true; the input reads as it did. -/
def fnExactBlockOkSpec : ChangeSpec := { name := "fnExactBlockOk", fn := fun _ => fun
  | [d1, d2, d3] => { results := [.lit (.bool true)], args := [d1, d2, d3] }
  | _ => none }
def fnExactBlockOkRow : OpenClaim := { program := "ytmndkpicbmffnaa", sum := "b0531d34b0b1a5e4604d8bbd735ff6ee8d55c0527e22438913fd481806c36ddc", func := "loop.example/g00663/laws.FnExactBlockOk", spec := "fnExactBlockOk", apart := false }
def FnExactBlockOkSaid : Prop := fnExactBlockOkRow.holds Try.pinned (OpenSpec.ofChange fnExactBlockOkSpec)

/-- ITS FALSE NEIGHBOUR: 'it returns false'. Refute it at one input. -/
def fnExactBlockOkWrong : ChangeSpec := { name := "fnExactBlockOk", fn := fun _ => fun
  | [d1, d2, d3] => { results := [.lit (.bool false)], args := [d1, d2, d3] }
  | _ => none }
def FnExactBlockOkWrongFalsely : Prop := fnExactBlockOkRow.holds Try.pinned (OpenSpec.ofChange fnExactBlockOkWrong)

/-- 'laws.FnExactBlocksOk': WHATEVER THE INPUT: true; the input reads as it did. -/
def fnExactBlocksOkSpec : ChangeSpec := { name := "fnExactBlocksOk", fn := fun _ => fun
  | [d1, d2, d3] => { results := [.lit (.bool true)], args := [d1, d2, d3] }
  | _ => none }
def fnExactBlocksOkRow : OpenClaim := { program := "ytmndkpicbmffnaa", sum := "b0531d34b0b1a5e4604d8bbd735ff6ee8d55c0527e22438913fd481806c36ddc", func := "loop.example/g00663/laws.FnExactBlocksOk", spec := "fnExactBlocksOk", apart := false }
def FnExactBlocksOkSaid : Prop := fnExactBlocksOkRow.holds Try.pinned (OpenSpec.ofChange fnExactBlocksOkSpec)

/-- ITS FALSE NEIGHBOUR: 'it returns false'. Refute it at one input. -/
def fnExactBlocksOkWrong : ChangeSpec := { name := "fnExactBlocksOk", fn := fun _ => fun
  | [d1, d2, d3] => { results := [.lit (.bool false)], args := [d1, d2, d3] }
  | _ => none }
def FnExactBlocksOkWrongFalsely : Prop := fnExactBlocksOkRow.holds Try.pinned (OpenSpec.ofChange fnExactBlocksOkWrong)

/-- 'laws.FnExactNodeOk': WHATEVER THE INPUT: true; the input reads as it did. -/
def fnExactNodeOkSpec : ChangeSpec := { name := "fnExactNodeOk", fn := fun _ => fun
  | [d1, d2, d3] => { results := [.lit (.bool true)], args := [d1, d2, d3] }
  | _ => none }
def fnExactNodeOkRow : OpenClaim := { program := "ytmndkpicbmffnaa", sum := "b0531d34b0b1a5e4604d8bbd735ff6ee8d55c0527e22438913fd481806c36ddc", func := "loop.example/g00663/laws.FnExactNodeOk", spec := "fnExactNodeOk", apart := false }
def FnExactNodeOkSaid : Prop := fnExactNodeOkRow.holds Try.pinned (OpenSpec.ofChange fnExactNodeOkSpec)

/-- ITS FALSE NEIGHBOUR: 'it returns false'. Refute it at one input. -/
def fnExactNodeOkWrong : ChangeSpec := { name := "fnExactNodeOk", fn := fun _ => fun
  | [d1, d2, d3] => { results := [.lit (.bool false)], args := [d1, d2, d3] }
  | _ => none }
def FnExactNodeOkWrongFalsely : Prop := fnExactNodeOkRow.holds Try.pinned (OpenSpec.ofChange fnExactNodeOkWrong)

/-- 'laws.FnExactNodeSize': WHATEVER THE INPUT: true; the input reads as it did. -/
def fnExactNodeSizeSpec : ChangeSpec := { name := "fnExactNodeSize", fn := fun _ => fun
  | [d] => { results := [.lit (.bool true)], args := [d] }
  | _ => none }
def fnExactNodeSizeRow : OpenClaim := { program := "ytmndkpicbmffnaa", sum := "b0531d34b0b1a5e4604d8bbd735ff6ee8d55c0527e22438913fd481806c36ddc", func := "loop.example/g00663/laws.FnExactNodeSize", spec := "fnExactNodeSize", apart := false }
def FnExactNodeSizeSaid : Prop := fnExactNodeSizeRow.holds Try.pinned (OpenSpec.ofChange fnExactNodeSizeSpec)

/-- ITS FALSE NEIGHBOUR: 'it returns false'. Refute it at one input. -/
def fnExactNodeSizeWrong : ChangeSpec := { name := "fnExactNodeSize", fn := fun _ => fun
  | [d] => { results := [.lit (.bool false)], args := [d] }
  | _ => none }
def FnExactNodeSizeWrongFalsely : Prop := fnExactNodeSizeRow.holds Try.pinned (OpenSpec.ofChange fnExactNodeSizeWrong)

/-- 'laws.FnExactNodeOf': WHATEVER THE INPUT: true; the input reads as it did. -/
def fnExactNodeOfSpec : ChangeSpec := { name := "fnExactNodeOf", fn := fun _ => fun
  | [d1, d2, d3] => { results := [.lit (.bool true)], args := [d1, d2, d3] }
  | _ => none }
def fnExactNodeOfRow : OpenClaim := { program := "ytmndkpicbmffnaa", sum := "b0531d34b0b1a5e4604d8bbd735ff6ee8d55c0527e22438913fd481806c36ddc", func := "loop.example/g00663/laws.FnExactNodeOf", spec := "fnExactNodeOf", apart := false }
def FnExactNodeOfSaid : Prop := fnExactNodeOfRow.holds Try.pinned (OpenSpec.ofChange fnExactNodeOfSpec)

/-- ITS FALSE NEIGHBOUR: 'it returns false'. Refute it at one input. -/
def fnExactNodeOfWrong : ChangeSpec := { name := "fnExactNodeOf", fn := fun _ => fun
  | [d1, d2, d3] => { results := [.lit (.bool false)], args := [d1, d2, d3] }
  | _ => none }
def FnExactNodeOfWrongFalsely : Prop := fnExactNodeOfRow.holds Try.pinned (OpenSpec.ofChange fnExactNodeOfWrong)

/-- 'laws.FnExactNodeRead': WHATEVER THE INPUT: true; the input reads as it did. -/
def fnExactNodeReadSpec : ChangeSpec := { name := "fnExactNodeRead", fn := fun _ => fun
  | [d1, d2, d3] => { results := [.lit (.bool true)], args := [d1, d2, d3] }
  | _ => none }
def fnExactNodeReadRow : OpenClaim := { program := "ytmndkpicbmffnaa", sum := "b0531d34b0b1a5e4604d8bbd735ff6ee8d55c0527e22438913fd481806c36ddc", func := "loop.example/g00663/laws.FnExactNodeRead", spec := "fnExactNodeRead", apart := false }
def FnExactNodeReadSaid : Prop := fnExactNodeReadRow.holds Try.pinned (OpenSpec.ofChange fnExactNodeReadSpec)

/-- ITS FALSE NEIGHBOUR: 'it returns false'. Refute it at one input. -/
def fnExactNodeReadWrong : ChangeSpec := { name := "fnExactNodeRead", fn := fun _ => fun
  | [d1, d2, d3] => { results := [.lit (.bool false)], args := [d1, d2, d3] }
  | _ => none }
def FnExactNodeReadWrongFalsely : Prop := fnExactNodeReadRow.holds Try.pinned (OpenSpec.ofChange fnExactNodeReadWrong)

/- THE SECOND FORM. 'bulk': how many values and letters a reading holds, each counted each time it is reached (what is shared counts as often as it is met; a slice's spare places count too). A statement '..UptoSaid' is the law's where the arguments, and the package variables that the reading takes, are together of bulk at most 1048576: NARROWER than '..Said'. Prove '..Said' where nothing that the law and all that it calls make is longer than what came in: it says more and counts as full. Else prove '..UptoSaid'. A law counts once. -/
mutual
def uptoBulk {H : Type} : DataW H → Nat
  | .lit (.string bytes) => bytes.length + 1
  | .lit _ => 1
  | .nil => 1
  | .ptr d => uptoBulk d + 1
  | .slice elems spare => uptoBulkAll elems + uptoBulkAll spare + 1
  | .agg parts => uptoBulkAll parts + 1
  | .iface _ d => uptoBulk d + 1
  | .map entries => uptoBulkEntries entries + 1
  | .held _ => 1
def uptoBulkAll {H : Type} : List (DataW H) → Nat
  | [] => 0
  | d :: r => uptoBulk d + uptoBulkAll r
def uptoBulkEntries {H : Type} : List (Lit × DataW H) → Nat
  | [] => 0
  | x :: r => uptoBulkEntry x + uptoBulkEntries r
def uptoBulkEntry {H : Type} : Lit × DataW H → Nat
  | (.string bytes, d) => bytes.length + uptoBulk d + 1
  | (_, d) => uptoBulk d + 1
 end
def uptoSmall : (H : Type) → List (DataW H) → Bool := fun _ ds => decide (uptoBulkAll ds ≤ 1048576)
def OpenSpec.upto (s : _root_.Go.ChangeSpec) : _root_.Go.OpenSpec := { _root_.Go.OpenSpec.ofChange s with cond := some uptoSmall }

/-- 'laws.FnNodeBack', WHERE WHAT IT READS IS OF BULK AT MOST 1048576: true; the input reads as it did. -/
def fnNodeBackUptoRow : OpenClaim := { program := "ytmndkpicbmffnaa", sum := "b0531d34b0b1a5e4604d8bbd735ff6ee8d55c0527e22438913fd481806c36ddc", func := "loop.example/g00663/laws.FnNodeBack", spec := "fnNodeBack", apart := false, narrowed := true }
def FnNodeBackUptoSaid : Prop := fnNodeBackUptoRow.holds Try.pinned (OpenSpec.upto fnNodeBackSpec)

/-- 'laws.FnExactBlockOk', WHERE WHAT IT READS IS OF BULK AT MOST 1048576: true; the input reads as it did. -/
def fnExactBlockOkUptoRow : OpenClaim := { program := "ytmndkpicbmffnaa", sum := "b0531d34b0b1a5e4604d8bbd735ff6ee8d55c0527e22438913fd481806c36ddc", func := "loop.example/g00663/laws.FnExactBlockOk", spec := "fnExactBlockOk", apart := false, narrowed := true }
def FnExactBlockOkUptoSaid : Prop := fnExactBlockOkUptoRow.holds Try.pinned (OpenSpec.upto fnExactBlockOkSpec)

/-- 'laws.FnExactBlocksOk', WHERE WHAT IT READS IS OF BULK AT MOST 1048576: true; the input reads as it did. -/
def fnExactBlocksOkUptoRow : OpenClaim := { program := "ytmndkpicbmffnaa", sum := "b0531d34b0b1a5e4604d8bbd735ff6ee8d55c0527e22438913fd481806c36ddc", func := "loop.example/g00663/laws.FnExactBlocksOk", spec := "fnExactBlocksOk", apart := false, narrowed := true }
def FnExactBlocksOkUptoSaid : Prop := fnExactBlocksOkUptoRow.holds Try.pinned (OpenSpec.upto fnExactBlocksOkSpec)

/-- 'laws.FnExactNodeOk', WHERE WHAT IT READS IS OF BULK AT MOST 1048576: true; the input reads as it did. -/
def fnExactNodeOkUptoRow : OpenClaim := { program := "ytmndkpicbmffnaa", sum := "b0531d34b0b1a5e4604d8bbd735ff6ee8d55c0527e22438913fd481806c36ddc", func := "loop.example/g00663/laws.FnExactNodeOk", spec := "fnExactNodeOk", apart := false, narrowed := true }
def FnExactNodeOkUptoSaid : Prop := fnExactNodeOkUptoRow.holds Try.pinned (OpenSpec.upto fnExactNodeOkSpec)

/-- 'laws.FnExactNodeSize', WHERE WHAT IT READS IS OF BULK AT MOST 1048576: true; the input reads as it did. -/
def fnExactNodeSizeUptoRow : OpenClaim := { program := "ytmndkpicbmffnaa", sum := "b0531d34b0b1a5e4604d8bbd735ff6ee8d55c0527e22438913fd481806c36ddc", func := "loop.example/g00663/laws.FnExactNodeSize", spec := "fnExactNodeSize", apart := false, narrowed := true }
def FnExactNodeSizeUptoSaid : Prop := fnExactNodeSizeUptoRow.holds Try.pinned (OpenSpec.upto fnExactNodeSizeSpec)

/-- 'laws.FnExactNodeOf', WHERE WHAT IT READS IS OF BULK AT MOST 1048576: true; the input reads as it did. -/
def fnExactNodeOfUptoRow : OpenClaim := { program := "ytmndkpicbmffnaa", sum := "b0531d34b0b1a5e4604d8bbd735ff6ee8d55c0527e22438913fd481806c36ddc", func := "loop.example/g00663/laws.FnExactNodeOf", spec := "fnExactNodeOf", apart := false, narrowed := true }
def FnExactNodeOfUptoSaid : Prop := fnExactNodeOfUptoRow.holds Try.pinned (OpenSpec.upto fnExactNodeOfSpec)

/-- 'laws.FnExactNodeRead', WHERE WHAT IT READS IS OF BULK AT MOST 1048576: true; the input reads as it did. -/
def fnExactNodeReadUptoRow : OpenClaim := { program := "ytmndkpicbmffnaa", sum := "b0531d34b0b1a5e4604d8bbd735ff6ee8d55c0527e22438913fd481806c36ddc", func := "loop.example/g00663/laws.FnExactNodeRead", spec := "fnExactNodeRead", apart := false, narrowed := true }
def FnExactNodeReadUptoSaid : Prop := fnExactNodeReadUptoRow.holds Try.pinned (OpenSpec.upto fnExactNodeReadSpec)

end Rows
end Go.Proofs.Ytmndkpicbmffnaa
