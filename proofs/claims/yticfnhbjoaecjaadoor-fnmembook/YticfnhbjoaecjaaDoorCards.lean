/-
  DERIVED. GIVEN WITH THE SEED: THE CARDS: each row of YticfnhbjoaecjaaDoorRows.lean that lists a variable, with what it lists TIED to the program's text (the seventh form; the later family's looks); each row that meets fmt, with fmt's text TOLD by the authors' own Lean function (tested against real Go, not proved from fmt's source: count such statements apart). THE CARD IS WHAT COUNTS. Prove the row's statement (the work); the ties are given (YticfnhbjoaecjaaDoorTie.lean); close each card by the builder's one call (the guide's Derived/Test/ToyasCard.lean, 'card_holds'). Laid BY PROGRAM, IN A SANDBOX (cutbox-door.mjs). By AI agents, Wed Nov 11 2026. No macro, syntax, notation, axiom, sorry.
-/
import Derived.Test.YticfnhbjoaecjaaDoorRows
import GoSem.ClaimSeven
namespace Go.Proofs.YticfnhbjoaecjaaDoor
namespace Rows

/-- THE TIED CARD OF 'laws.FnMemBook'. -/
def fnMemBookCard : Claim7 := { stood := { row := fnMemBookRow, standIns := [], harness := (true, "bd836615f771003c49001c458d51b50de1c30d80923c7a36ac7c45403aca993d"), looks := false }, kinds := [], alts := [], laidByText := true, laidKinds := [.data, .data, .data], laidTests := true, laidLooks := .later }
def FnMemBookCardSaid : Prop := Claim7.holds Tryd.pinned (.plain (OpenSpec.ofChange fnMemBookSpec)) fnMemBookCard

/-- THE SECOND FORM's CARD OF 'laws.FnMemBook'. -/
def fnMemBookUptoCard : Claim7 := { stood := { row := fnMemBookUptoRow, standIns := [], harness := (true, "bd836615f771003c49001c458d51b50de1c30d80923c7a36ac7c45403aca993d"), looks := false }, kinds := [], alts := [], laidByText := true, laidKinds := [.data, .data, .data], laidTests := true, laidLooks := .later }
def FnMemBookUptoCardSaid : Prop := Claim7.holds Tryd.pinned (.plain (OpenSpec.upto fnMemBookSpec)) fnMemBookUptoCard
end Rows
end Go.Proofs.YticfnhbjoaecjaaDoor
