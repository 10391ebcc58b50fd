/-
  DERIVED. GIVEN WITH THE SEED: THE CARDS: each row of YtooffljimdklfaaDoorRows.lean that lists a variable, with what it lists TIED to the program's text (the seventh form; the later family's looks); each row that meets fmt, with fmt's text TOLD by the authors' own Lean function (tested against real Go, not proved from fmt's source: count such statements apart). THE CARD IS WHAT COUNTS. Prove the row's statement (the work); the ties are given (YtooffljimdklfaaDoorTie.lean); close each card by the builder's one call (the guide's Derived/Test/ToyasCard.lean, 'card_holds'). Laid BY PROGRAM, IN A SANDBOX (cutbox-door.mjs). By AI agents, Wed Nov 11 2026. No macro, syntax, notation, axiom, sorry.
-/
import Derived.Test.YtooffljimdklfaaDoorRows
import GoSem.ClaimSeven
namespace Go.Proofs.YtooffljimdklfaaDoor
namespace Rows

/-- THE TIED CARD OF 'indenturelaw12.MemberProves'. -/
def memberProvesCard : Claim7 := { stood := { row := memberProvesRow, standIns := [], harness := (true, "3b889ae4cf452a4de943455db1a76d94fbe70d8b0e05f5852348a2c3c9ebba4b"), looks := false }, kinds := [], alts := [], laidByText := true, laidKinds := [.data, .data], laidTests := true, laidLooks := .later }
def MemberProvesCardSaid : Prop := Claim7.holds Tryd.pinned (.plain (OpenSpec.ofChange memberProvesSpec)) memberProvesCard

/-- THE TIED CARD OF 'indenturelaw12.MemberChecks'. -/
def memberChecksCard : Claim7 := { stood := { row := memberChecksRow, standIns := [], harness := (true, "3b889ae4cf452a4de943455db1a76d94fbe70d8b0e05f5852348a2c3c9ebba4b"), looks := false }, kinds := [], alts := [], laidByText := true, laidKinds := [.data, .data], laidTests := true, laidLooks := .later }
def MemberChecksCardSaid : Prop := Claim7.holds Tryd.pinned (.plain (OpenSpec.ofChange memberChecksSpec)) memberChecksCard

/-- THE TIED CARD OF 'indenturelaw12.MemberHolds'. -/
def memberHoldsCard : Claim7 := { stood := { row := memberHoldsRow, standIns := [], harness := (true, "3b889ae4cf452a4de943455db1a76d94fbe70d8b0e05f5852348a2c3c9ebba4b"), looks := false }, kinds := [], alts := [], laidByText := true, laidKinds := [.data, .data], laidTests := true, laidLooks := .later }
def MemberHoldsCardSaid : Prop := Claim7.holds Tryd.pinned (.plain (OpenSpec.ofChange memberHoldsSpec)) memberHoldsCard

/-- THE TIED CARD OF 'indenturelaw12.MemberOthers'. -/
def memberOthersCard : Claim7 := { stood := { row := memberOthersRow, standIns := [], harness := (true, "3b889ae4cf452a4de943455db1a76d94fbe70d8b0e05f5852348a2c3c9ebba4b"), looks := false }, kinds := [], alts := [], laidByText := true, laidKinds := [.data, .data], laidTests := true, laidLooks := .later }
def MemberOthersCardSaid : Prop := Claim7.holds Tryd.pinned (.plain (OpenSpec.ofChange memberOthersSpec)) memberOthersCard

/-- THE TIED CARD OF 'indenturelaw12.MemberNone'. -/
def memberNoneCard : Claim7 := { stood := { row := memberNoneRow, standIns := [], harness := (true, "3b889ae4cf452a4de943455db1a76d94fbe70d8b0e05f5852348a2c3c9ebba4b"), looks := false }, kinds := [], alts := [], laidByText := true, laidKinds := [.data, .data], laidTests := true, laidLooks := .later }
def MemberNoneCardSaid : Prop := Claim7.holds Tryd.pinned (.plain (OpenSpec.ofChange memberNoneSpec)) memberNoneCard

/-- THE TIED CARD OF 'indenturelaw12.MemberChanges'. -/
def memberChangesCard : Claim7 := { stood := { row := memberChangesRow, standIns := [], harness := (true, "3b889ae4cf452a4de943455db1a76d94fbe70d8b0e05f5852348a2c3c9ebba4b"), looks := false }, kinds := [], alts := [], laidByText := true, laidKinds := [.data, .data], laidTests := true, laidLooks := .later }
def MemberChangesCardSaid : Prop := Claim7.holds Tryd.pinned (.plain (OpenSpec.ofChange memberChangesSpec)) memberChangesCard

/-- THE SECOND FORM's CARD OF 'indenturelaw12.MemberProves'. -/
def memberProvesUptoCard : Claim7 := { stood := { row := memberProvesUptoRow, standIns := [], harness := (true, "3b889ae4cf452a4de943455db1a76d94fbe70d8b0e05f5852348a2c3c9ebba4b"), looks := false }, kinds := [], alts := [], laidByText := true, laidKinds := [.data, .data], laidTests := true, laidLooks := .later }
def MemberProvesUptoCardSaid : Prop := Claim7.holds Tryd.pinned (.plain (OpenSpec.upto memberProvesSpec)) memberProvesUptoCard

/-- THE SECOND FORM's CARD OF 'indenturelaw12.MemberChecks'. -/
def memberChecksUptoCard : Claim7 := { stood := { row := memberChecksUptoRow, standIns := [], harness := (true, "3b889ae4cf452a4de943455db1a76d94fbe70d8b0e05f5852348a2c3c9ebba4b"), looks := false }, kinds := [], alts := [], laidByText := true, laidKinds := [.data, .data], laidTests := true, laidLooks := .later }
def MemberChecksUptoCardSaid : Prop := Claim7.holds Tryd.pinned (.plain (OpenSpec.upto memberChecksSpec)) memberChecksUptoCard

/-- THE SECOND FORM's CARD OF 'indenturelaw12.MemberHolds'. -/
def memberHoldsUptoCard : Claim7 := { stood := { row := memberHoldsUptoRow, standIns := [], harness := (true, "3b889ae4cf452a4de943455db1a76d94fbe70d8b0e05f5852348a2c3c9ebba4b"), looks := false }, kinds := [], alts := [], laidByText := true, laidKinds := [.data, .data], laidTests := true, laidLooks := .later }
def MemberHoldsUptoCardSaid : Prop := Claim7.holds Tryd.pinned (.plain (OpenSpec.upto memberHoldsSpec)) memberHoldsUptoCard

/-- THE SECOND FORM's CARD OF 'indenturelaw12.MemberOthers'. -/
def memberOthersUptoCard : Claim7 := { stood := { row := memberOthersUptoRow, standIns := [], harness := (true, "3b889ae4cf452a4de943455db1a76d94fbe70d8b0e05f5852348a2c3c9ebba4b"), looks := false }, kinds := [], alts := [], laidByText := true, laidKinds := [.data, .data], laidTests := true, laidLooks := .later }
def MemberOthersUptoCardSaid : Prop := Claim7.holds Tryd.pinned (.plain (OpenSpec.upto memberOthersSpec)) memberOthersUptoCard

/-- THE SECOND FORM's CARD OF 'indenturelaw12.MemberNone'. -/
def memberNoneUptoCard : Claim7 := { stood := { row := memberNoneUptoRow, standIns := [], harness := (true, "3b889ae4cf452a4de943455db1a76d94fbe70d8b0e05f5852348a2c3c9ebba4b"), looks := false }, kinds := [], alts := [], laidByText := true, laidKinds := [.data, .data], laidTests := true, laidLooks := .later }
def MemberNoneUptoCardSaid : Prop := Claim7.holds Tryd.pinned (.plain (OpenSpec.upto memberNoneSpec)) memberNoneUptoCard

/-- THE SECOND FORM's CARD OF 'indenturelaw12.MemberChanges'. -/
def memberChangesUptoCard : Claim7 := { stood := { row := memberChangesUptoRow, standIns := [], harness := (true, "3b889ae4cf452a4de943455db1a76d94fbe70d8b0e05f5852348a2c3c9ebba4b"), looks := false }, kinds := [], alts := [], laidByText := true, laidKinds := [.data, .data], laidTests := true, laidLooks := .later }
def MemberChangesUptoCardSaid : Prop := Claim7.holds Tryd.pinned (.plain (OpenSpec.upto memberChangesSpec)) memberChangesUptoCard
end Rows
end Go.Proofs.YtooffljimdklfaaDoor
