/-
  DERIVED. GIVEN WITH THE SEED: THE CARDS: each row of YtfclmjfbcmjfbabDoorRows.lean that lists a variable, with what it lists TIED to the program's text (the seventh form; the later family's looks); each row that meets fmt, with fmt's text TOLD by the authors' own Lean function (tested against real Go, not proved from fmt's source: count such statements apart). THE CARD IS WHAT COUNTS. Prove the row's statement (the work); the ties are given (YtfclmjfbcmjfbabDoorTie.lean); close each card by the builder's one call (the guide's Derived/Test/ToyasCard.lean, 'card_holds'). Laid BY PROGRAM, IN A SANDBOX (cutbox-door.mjs). By AI agents, Wed Nov 11 2026. No macro, syntax, notation, axiom, sorry.
-/
import Derived.Test.YtfclmjfbcmjfbabDoorRows
import GoSem.ClaimSeven
namespace Go.Proofs.YtfclmjfbcmjfbabDoor
namespace Rows

/-- THE TIED CARD OF 'indenturelaw10.ProofSame'. -/
def proofSameCard : Claim7 := { stood := { row := proofSameRow, standIns := [], harness := (true, "3cc0ab4326cec53519467de16fc30a685b4c37a39a4fb58e03ba3a51a38d20cb"), looks := false }, kinds := [], alts := [], laidByText := true, laidKinds := [.data, .data], laidTests := true, laidLooks := .later }
def ProofSameCardSaid : Prop := Claim7.holds Tryd.pinned (.plain (OpenSpec.ofChange proofSameSpec)) proofSameCard

/-- THE SECOND FORM's CARD OF 'indenturelaw10.ProofSame'. -/
def proofSameUptoCard : Claim7 := { stood := { row := proofSameUptoRow, standIns := [], harness := (true, "3cc0ab4326cec53519467de16fc30a685b4c37a39a4fb58e03ba3a51a38d20cb"), looks := false }, kinds := [], alts := [], laidByText := true, laidKinds := [.data, .data], laidTests := true, laidLooks := .later }
def ProofSameUptoCardSaid : Prop := Claim7.holds Tryd.pinned (.plain (OpenSpec.upto proofSameSpec)) proofSameUptoCard
end Rows
end Go.Proofs.YtfclmjfbcmjfbabDoor
