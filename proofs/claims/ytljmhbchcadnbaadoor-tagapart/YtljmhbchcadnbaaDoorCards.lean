/-
  DERIVED. GIVEN WITH THE SEED: THE CARDS: each row of YtljmhbchcadnbaaDoorRows.lean that lists a variable, with what it lists TIED to the program's text (the seventh form; the later family's looks); each row that meets fmt, with fmt's text TOLD by the authors' own Lean function (tested against real Go, not proved from fmt's source: count such statements apart). THE CARD IS WHAT COUNTS. Prove the row's statement (the work); the ties are given (YtljmhbchcadnbaaDoorTie.lean); close each card by the builder's one call (the guide's Derived/Test/ToyasCard.lean, 'card_holds'). Laid BY PROGRAM, IN A SANDBOX (cutbox-door.mjs). By AI agents, Wed Nov 11 2026. No macro, syntax, notation, axiom, sorry.
-/
import Derived.Test.YtljmhbchcadnbaaDoorRows
import GoSem.ClaimSeven
namespace Go.Proofs.YtljmhbchcadnbaaDoor
namespace Rows

/-- THE TIED CARD OF 'indenturelaw04.TagHashes'. -/
def tagHashesCard : Claim7 := { stood := { row := tagHashesRow, standIns := [], harness := (true, "69ee6b36575cdde05d57888d96dee105f29b5e6c6c5bd55be6d63ebc135bf9b2"), looks := false }, kinds := [], alts := [], laidByText := true, laidKinds := [.data, .data], laidTests := true, laidLooks := .later }
def TagHashesCardSaid : Prop := Claim7.holds Tryd.pinned (.plain (OpenSpec.ofChange tagHashesSpec)) tagHashesCard

/-- THE TIED CARD OF 'indenturelaw04.TagBytes'. -/
def tagBytesCard : Claim7 := { stood := { row := tagBytesRow, standIns := [], harness := (true, "69ee6b36575cdde05d57888d96dee105f29b5e6c6c5bd55be6d63ebc135bf9b2"), looks := false }, kinds := [], alts := [], laidByText := true, laidKinds := [.data, .data], laidTests := true, laidLooks := .later }
def TagBytesCardSaid : Prop := Claim7.holds Tryd.pinned (.plain (OpenSpec.ofChange tagBytesSpec)) tagBytesCard

/-- THE TIED CARD OF 'indenturelaw04.TagApart'. -/
def tagApartCard : Claim7 := { stood := { row := tagApartRow, standIns := [], harness := (true, "69ee6b36575cdde05d57888d96dee105f29b5e6c6c5bd55be6d63ebc135bf9b2"), looks := false }, kinds := [], alts := [], laidByText := true, laidKinds := [.data, .data], laidTests := true, laidLooks := .later }
def TagApartCardSaid : Prop := Claim7.holds Tryd.pinned (.plain (OpenSpec.ofChange tagApartSpec)) tagApartCard

/-- THE TIED CARD OF 'indenturelaw04.TagSides'. -/
def tagSidesCard : Claim7 := { stood := { row := tagSidesRow, standIns := [], harness := (true, "69ee6b36575cdde05d57888d96dee105f29b5e6c6c5bd55be6d63ebc135bf9b2"), looks := false }, kinds := [], alts := [], laidByText := true, laidKinds := [.data, .data], laidTests := true, laidLooks := .later }
def TagSidesCardSaid : Prop := Claim7.holds Tryd.pinned (.plain (OpenSpec.ofChange tagSidesSpec)) tagSidesCard

/-- THE TIED CARD OF 'indenturelaw04.TagForks'. -/
def tagForksCard : Claim7 := { stood := { row := tagForksRow, standIns := [], harness := (true, "69ee6b36575cdde05d57888d96dee105f29b5e6c6c5bd55be6d63ebc135bf9b2"), looks := false }, kinds := [], alts := [], laidByText := true, laidKinds := [.data, .data], laidTests := true, laidLooks := .later }
def TagForksCardSaid : Prop := Claim7.holds Tryd.pinned (.plain (OpenSpec.ofChange tagForksSpec)) tagForksCard

/-- THE SECOND FORM's CARD OF 'indenturelaw04.TagHashes'. -/
def tagHashesUptoCard : Claim7 := { stood := { row := tagHashesUptoRow, standIns := [], harness := (true, "69ee6b36575cdde05d57888d96dee105f29b5e6c6c5bd55be6d63ebc135bf9b2"), looks := false }, kinds := [], alts := [], laidByText := true, laidKinds := [.data, .data], laidTests := true, laidLooks := .later }
def TagHashesUptoCardSaid : Prop := Claim7.holds Tryd.pinned (.plain (OpenSpec.upto tagHashesSpec)) tagHashesUptoCard

/-- THE SECOND FORM's CARD OF 'indenturelaw04.TagBytes'. -/
def tagBytesUptoCard : Claim7 := { stood := { row := tagBytesUptoRow, standIns := [], harness := (true, "69ee6b36575cdde05d57888d96dee105f29b5e6c6c5bd55be6d63ebc135bf9b2"), looks := false }, kinds := [], alts := [], laidByText := true, laidKinds := [.data, .data], laidTests := true, laidLooks := .later }
def TagBytesUptoCardSaid : Prop := Claim7.holds Tryd.pinned (.plain (OpenSpec.upto tagBytesSpec)) tagBytesUptoCard

/-- THE SECOND FORM's CARD OF 'indenturelaw04.TagApart'. -/
def tagApartUptoCard : Claim7 := { stood := { row := tagApartUptoRow, standIns := [], harness := (true, "69ee6b36575cdde05d57888d96dee105f29b5e6c6c5bd55be6d63ebc135bf9b2"), looks := false }, kinds := [], alts := [], laidByText := true, laidKinds := [.data, .data], laidTests := true, laidLooks := .later }
def TagApartUptoCardSaid : Prop := Claim7.holds Tryd.pinned (.plain (OpenSpec.upto tagApartSpec)) tagApartUptoCard

/-- THE SECOND FORM's CARD OF 'indenturelaw04.TagSides'. -/
def tagSidesUptoCard : Claim7 := { stood := { row := tagSidesUptoRow, standIns := [], harness := (true, "69ee6b36575cdde05d57888d96dee105f29b5e6c6c5bd55be6d63ebc135bf9b2"), looks := false }, kinds := [], alts := [], laidByText := true, laidKinds := [.data, .data], laidTests := true, laidLooks := .later }
def TagSidesUptoCardSaid : Prop := Claim7.holds Tryd.pinned (.plain (OpenSpec.upto tagSidesSpec)) tagSidesUptoCard

/-- THE SECOND FORM's CARD OF 'indenturelaw04.TagForks'. -/
def tagForksUptoCard : Claim7 := { stood := { row := tagForksUptoRow, standIns := [], harness := (true, "69ee6b36575cdde05d57888d96dee105f29b5e6c6c5bd55be6d63ebc135bf9b2"), looks := false }, kinds := [], alts := [], laidByText := true, laidKinds := [.data, .data], laidTests := true, laidLooks := .later }
def TagForksUptoCardSaid : Prop := Claim7.holds Tryd.pinned (.plain (OpenSpec.upto tagForksSpec)) tagForksUptoCard
end Rows
end Go.Proofs.YtljmhbchcadnbaaDoor
