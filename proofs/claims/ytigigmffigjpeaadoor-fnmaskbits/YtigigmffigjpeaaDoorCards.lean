/-
  DERIVED. GIVEN WITH THE SEED: THE CARDS: each row of YtigigmffigjpeaaDoorRows.lean that lists a variable, with what it lists TIED to the program's text (the seventh form; the later family's looks); each row that meets fmt, with fmt's text TOLD by the authors' own Lean function (tested against real Go, not proved from fmt's source: count such statements apart). THE CARD IS WHAT COUNTS. Prove the row's statement (the work); the ties are given (YtigigmffigjpeaaDoorTie.lean); close each card by the builder's one call (the guide's Derived/Test/ToyasCard.lean, 'card_holds'). Laid BY PROGRAM, IN A SANDBOX (cutbox-door.mjs). By AI agents, Wed Nov 11 2026. No macro, syntax, notation, axiom, sorry.
-/
import Derived.Test.YtigigmffigjpeaaDoorRows
import GoSem.ClaimSeven
namespace Go.Proofs.YtigigmffigjpeaaDoor
namespace Rows

/-- THE TIED CARD OF 'laws.FnMaskBits'. -/
def fnMaskBitsCard : Claim7 := { stood := { row := fnMaskBitsRow, standIns := [], harness := (true, "4cb3b6ed665d3cb7f270754543088bd0150585664ec2b81703eff8643436dcf7"), looks := false }, kinds := [], alts := [], laidByText := true, laidKinds := [.data], laidTests := true, laidLooks := .later }
def FnMaskBitsCardSaid : Prop := Claim7.holds Tryd.pinned (.plain (OpenSpec.ofChange fnMaskBitsSpec)) fnMaskBitsCard

/-- THE TIED CARD OF 'laws.FnExactLowBit'. -/
def fnExactLowBitCard : Claim7 := { stood := { row := fnExactLowBitRow, standIns := [], harness := (true, "4cb3b6ed665d3cb7f270754543088bd0150585664ec2b81703eff8643436dcf7"), looks := false }, kinds := [], alts := [], laidByText := true, laidKinds := [.data], laidTests := true, laidLooks := .later }
def FnExactLowBitCardSaid : Prop := Claim7.holds Tryd.pinned (.plain (OpenSpec.ofChange fnExactLowBitSpec)) fnExactLowBitCard

/-- THE SECOND FORM's CARD OF 'laws.FnMaskBits'. -/
def fnMaskBitsUptoCard : Claim7 := { stood := { row := fnMaskBitsUptoRow, standIns := [], harness := (true, "4cb3b6ed665d3cb7f270754543088bd0150585664ec2b81703eff8643436dcf7"), looks := false }, kinds := [], alts := [], laidByText := true, laidKinds := [.data], laidTests := true, laidLooks := .later }
def FnMaskBitsUptoCardSaid : Prop := Claim7.holds Tryd.pinned (.plain (OpenSpec.upto fnMaskBitsSpec)) fnMaskBitsUptoCard

/-- THE SECOND FORM's CARD OF 'laws.FnExactLowBit'. -/
def fnExactLowBitUptoCard : Claim7 := { stood := { row := fnExactLowBitUptoRow, standIns := [], harness := (true, "4cb3b6ed665d3cb7f270754543088bd0150585664ec2b81703eff8643436dcf7"), looks := false }, kinds := [], alts := [], laidByText := true, laidKinds := [.data], laidTests := true, laidLooks := .later }
def FnExactLowBitUptoCardSaid : Prop := Claim7.holds Tryd.pinned (.plain (OpenSpec.upto fnExactLowBitSpec)) fnExactLowBitUptoCard
end Rows
end Go.Proofs.YtigigmffigjpeaaDoor
