/-
  DERIVED. GIVEN WITH THE SEED: THE CARDS: each row of YtgdhjgfoalianabDoorRows.lean that lists a variable, with what it lists TIED to the program's text (the seventh form; the later family's looks); each row that meets fmt, with fmt's text TOLD by the authors' own Lean function (tested against real Go, not proved from fmt's source: count such statements apart). THE CARD IS WHAT COUNTS. Prove the row's statement (the work); the ties are given (YtgdhjgfoalianabDoorTie.lean); close each card by the builder's one call (the guide's Derived/Test/ToyasCard.lean, 'card_holds'). Laid BY PROGRAM, IN A SANDBOX (cutbox-door.mjs). By AI agents, Wed Nov 11 2026. No macro, syntax, notation, axiom, sorry.
-/
import Derived.Test.YtgdhjgfoalianabDoorRows
import GoSem.ClaimSeven
namespace Go.Proofs.YtgdhjgfoalianabDoor
namespace Rows

/-- THE TIED CARD OF 'indenturelaw06.WalLong'. -/
def walLongCard : Claim7 := { stood := { row := walLongRow, standIns := [], harness := (true, "a2e6c5c148e3e0dad4d0ef5b2a01b886eee4de06ca2ce4bd20334274320d3deb"), looks := false }, kinds := [], alts := [], laidByText := true, laidKinds := [.data], laidTests := true, laidLooks := .later }
def WalLongCardSaid : Prop := Claim7.holds Tryd.pinned (.plain (OpenSpec.ofChange walLongSpec)) walLongCard

/-- THE SECOND FORM's CARD OF 'indenturelaw06.WalLong'. -/
def walLongUptoCard : Claim7 := { stood := { row := walLongUptoRow, standIns := [], harness := (true, "a2e6c5c148e3e0dad4d0ef5b2a01b886eee4de06ca2ce4bd20334274320d3deb"), looks := false }, kinds := [], alts := [], laidByText := true, laidKinds := [.data], laidTests := true, laidLooks := .later }
def WalLongUptoCardSaid : Prop := Claim7.holds Tryd.pinned (.plain (OpenSpec.upto walLongSpec)) walLongUptoCard
end Rows
end Go.Proofs.YtgdhjgfoalianabDoor
