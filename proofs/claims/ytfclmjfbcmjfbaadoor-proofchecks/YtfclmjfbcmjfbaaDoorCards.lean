/-
  DERIVED. GIVEN WITH THE SEED: THE CARDS: each row of YtfclmjfbcmjfbaaDoorRows.lean that lists a variable, with what it lists TIED to the program's text (the seventh form; the later family's looks); each row that meets fmt, with fmt's text TOLD by the authors' own Lean function (tested against real Go, not proved from fmt's source: count such statements apart). THE CARD IS WHAT COUNTS. Prove the row's statement (the work); the ties are given (YtfclmjfbcmjfbaaDoorTie.lean); close each card by the builder's one call (the guide's Derived/Test/ToyasCard.lean, 'card_holds'). Laid BY PROGRAM, IN A SANDBOX (cutbox-door.mjs). By AI agents, Wed Nov 11 2026. No macro, syntax, notation, axiom, sorry.
-/
import Derived.Test.YtfclmjfbcmjfbaaDoorRows
import GoSem.ClaimSeven
namespace Go.Proofs.YtfclmjfbcmjfbaaDoor
namespace Rows

/-- THE TIED CARD OF 'indenturelaw10.ProofPaths'. -/
def proofPathsCard : Claim7 := { stood := { row := proofPathsRow, standIns := [], harness := (true, "7c3b8d96711a93cee51fbb64f61daa87d8dde799d14001cb4b9d69afea628587"), looks := false }, kinds := [], alts := [], laidByText := true, laidKinds := [.data, .data], laidTests := true, laidLooks := .later }
def ProofPathsCardSaid : Prop := Claim7.holds Tryd.pinned (.plain (OpenSpec.ofChange proofPathsSpec)) proofPathsCard

/-- THE TIED CARD OF 'indenturelaw10.ProofClimbs'. -/
def proofClimbsCard : Claim7 := { stood := { row := proofClimbsRow, standIns := [], harness := (true, "7c3b8d96711a93cee51fbb64f61daa87d8dde799d14001cb4b9d69afea628587"), looks := false }, kinds := [], alts := [], laidByText := true, laidKinds := [.data, .data], laidTests := true, laidLooks := .later }
def ProofClimbsCardSaid : Prop := Claim7.holds Tryd.pinned (.plain (OpenSpec.ofChange proofClimbsSpec)) proofClimbsCard

/-- THE TIED CARD OF 'indenturelaw10.ProofChecks'. -/
def proofChecksCard : Claim7 := { stood := { row := proofChecksRow, standIns := [], harness := (true, "7c3b8d96711a93cee51fbb64f61daa87d8dde799d14001cb4b9d69afea628587"), looks := false }, kinds := [], alts := [], laidByText := true, laidKinds := [.data, .data], laidTests := true, laidLooks := .later }
def ProofChecksCardSaid : Prop := Claim7.holds Tryd.pinned (.plain (OpenSpec.ofChange proofChecksSpec)) proofChecksCard

/-- THE TIED CARD OF 'indenturelaw10.ProofHolds'. -/
def proofHoldsCard : Claim7 := { stood := { row := proofHoldsRow, standIns := [], harness := (true, "7c3b8d96711a93cee51fbb64f61daa87d8dde799d14001cb4b9d69afea628587"), looks := false }, kinds := [], alts := [], laidByText := true, laidKinds := [.data, .data], laidTests := true, laidLooks := .later }
def ProofHoldsCardSaid : Prop := Claim7.holds Tryd.pinned (.plain (OpenSpec.ofChange proofHoldsSpec)) proofHoldsCard

/-- THE TIED CARD OF 'indenturelaw10.ProofJoins'. -/
def proofJoinsCard : Claim7 := { stood := { row := proofJoinsRow, standIns := [], harness := (true, "7c3b8d96711a93cee51fbb64f61daa87d8dde799d14001cb4b9d69afea628587"), looks := false }, kinds := [], alts := [], laidByText := true, laidKinds := [.data, .data], laidTests := true, laidLooks := .later }
def ProofJoinsCardSaid : Prop := Claim7.holds Tryd.pinned (.plain (OpenSpec.ofChange proofJoinsSpec)) proofJoinsCard

/-- THE TIED CARD OF 'indenturelaw10.ProofLengths'. -/
def proofLengthsCard : Claim7 := { stood := { row := proofLengthsRow, standIns := [], harness := (true, "7c3b8d96711a93cee51fbb64f61daa87d8dde799d14001cb4b9d69afea628587"), looks := false }, kinds := [], alts := [], laidByText := true, laidKinds := [.data, .data], laidTests := true, laidLooks := .later }
def ProofLengthsCardSaid : Prop := Claim7.holds Tryd.pinned (.plain (OpenSpec.ofChange proofLengthsSpec)) proofLengthsCard

/-- THE SECOND FORM's CARD OF 'indenturelaw10.ProofPaths'. -/
def proofPathsUptoCard : Claim7 := { stood := { row := proofPathsUptoRow, standIns := [], harness := (true, "7c3b8d96711a93cee51fbb64f61daa87d8dde799d14001cb4b9d69afea628587"), looks := false }, kinds := [], alts := [], laidByText := true, laidKinds := [.data, .data], laidTests := true, laidLooks := .later }
def ProofPathsUptoCardSaid : Prop := Claim7.holds Tryd.pinned (.plain (OpenSpec.upto proofPathsSpec)) proofPathsUptoCard

/-- THE SECOND FORM's CARD OF 'indenturelaw10.ProofClimbs'. -/
def proofClimbsUptoCard : Claim7 := { stood := { row := proofClimbsUptoRow, standIns := [], harness := (true, "7c3b8d96711a93cee51fbb64f61daa87d8dde799d14001cb4b9d69afea628587"), looks := false }, kinds := [], alts := [], laidByText := true, laidKinds := [.data, .data], laidTests := true, laidLooks := .later }
def ProofClimbsUptoCardSaid : Prop := Claim7.holds Tryd.pinned (.plain (OpenSpec.upto proofClimbsSpec)) proofClimbsUptoCard

/-- THE SECOND FORM's CARD OF 'indenturelaw10.ProofChecks'. -/
def proofChecksUptoCard : Claim7 := { stood := { row := proofChecksUptoRow, standIns := [], harness := (true, "7c3b8d96711a93cee51fbb64f61daa87d8dde799d14001cb4b9d69afea628587"), looks := false }, kinds := [], alts := [], laidByText := true, laidKinds := [.data, .data], laidTests := true, laidLooks := .later }
def ProofChecksUptoCardSaid : Prop := Claim7.holds Tryd.pinned (.plain (OpenSpec.upto proofChecksSpec)) proofChecksUptoCard

/-- THE SECOND FORM's CARD OF 'indenturelaw10.ProofHolds'. -/
def proofHoldsUptoCard : Claim7 := { stood := { row := proofHoldsUptoRow, standIns := [], harness := (true, "7c3b8d96711a93cee51fbb64f61daa87d8dde799d14001cb4b9d69afea628587"), looks := false }, kinds := [], alts := [], laidByText := true, laidKinds := [.data, .data], laidTests := true, laidLooks := .later }
def ProofHoldsUptoCardSaid : Prop := Claim7.holds Tryd.pinned (.plain (OpenSpec.upto proofHoldsSpec)) proofHoldsUptoCard

/-- THE SECOND FORM's CARD OF 'indenturelaw10.ProofJoins'. -/
def proofJoinsUptoCard : Claim7 := { stood := { row := proofJoinsUptoRow, standIns := [], harness := (true, "7c3b8d96711a93cee51fbb64f61daa87d8dde799d14001cb4b9d69afea628587"), looks := false }, kinds := [], alts := [], laidByText := true, laidKinds := [.data, .data], laidTests := true, laidLooks := .later }
def ProofJoinsUptoCardSaid : Prop := Claim7.holds Tryd.pinned (.plain (OpenSpec.upto proofJoinsSpec)) proofJoinsUptoCard

/-- THE SECOND FORM's CARD OF 'indenturelaw10.ProofLengths'. -/
def proofLengthsUptoCard : Claim7 := { stood := { row := proofLengthsUptoRow, standIns := [], harness := (true, "7c3b8d96711a93cee51fbb64f61daa87d8dde799d14001cb4b9d69afea628587"), looks := false }, kinds := [], alts := [], laidByText := true, laidKinds := [.data, .data], laidTests := true, laidLooks := .later }
def ProofLengthsUptoCardSaid : Prop := Claim7.holds Tryd.pinned (.plain (OpenSpec.upto proofLengthsSpec)) proofLengthsUptoCard
end Rows
end Go.Proofs.YtfclmjfbcmjfbaaDoor
