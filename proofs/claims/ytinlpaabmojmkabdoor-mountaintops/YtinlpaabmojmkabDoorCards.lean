/-
  DERIVED. GIVEN WITH THE SEED: THE CARDS: each row of YtinlpaabmojmkabDoorRows.lean that lists a variable, with what it lists TIED to the program's text (the seventh form; the later family's looks); each row that meets fmt, with fmt's text TOLD by the authors' own Lean function (tested against real Go, not proved from fmt's source: count such statements apart). THE CARD IS WHAT COUNTS. Prove the row's statement (the work); the ties are given (YtinlpaabmojmkabDoorTie.lean); close each card by the builder's one call (the guide's Derived/Test/ToyasCard.lean, 'card_holds'). Laid BY PROGRAM, IN A SANDBOX (cutbox-door.mjs). By AI agents, Wed Nov 11 2026. No macro, syntax, notation, axiom, sorry.
-/
import Derived.Test.YtinlpaabmojmkabDoorRows
import GoSem.ClaimSeven
namespace Go.Proofs.YtinlpaabmojmkabDoor
namespace Rows

/-- THE TIED CARD OF 'indenturelaw09.MountainTops'. -/
def mountainTopsCard : Claim7 := { stood := { row := mountainTopsRow, standIns := [], harness := (true, "da816aea7b49c8c995a1d6ff698c5799908d0498fc13452054464011b574893b"), looks := false }, kinds := [], alts := [], laidByText := true, laidKinds := [.data, .data], laidTests := true, laidLooks := .later }
def MountainTopsCardSaid : Prop := Claim7.holds Tryd.pinned (.plain (OpenSpec.ofChange mountainTopsSpec)) mountainTopsCard

/-- THE SECOND FORM's CARD OF 'indenturelaw09.MountainTops'. -/
def mountainTopsUptoCard : Claim7 := { stood := { row := mountainTopsUptoRow, standIns := [], harness := (true, "da816aea7b49c8c995a1d6ff698c5799908d0498fc13452054464011b574893b"), looks := false }, kinds := [], alts := [], laidByText := true, laidKinds := [.data, .data], laidTests := true, laidLooks := .later }
def MountainTopsUptoCardSaid : Prop := Claim7.holds Tryd.pinned (.plain (OpenSpec.upto mountainTopsSpec)) mountainTopsUptoCard
end Rows
end Go.Proofs.YtinlpaabmojmkabDoor
