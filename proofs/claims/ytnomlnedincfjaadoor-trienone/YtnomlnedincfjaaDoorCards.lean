/-
  DERIVED. GIVEN WITH THE SEED: THE CARDS: each row of YtnomlnedincfjaaDoorRows.lean that lists a variable, with what it lists TIED to the program's text (the seventh form; the later family's looks); each row that meets fmt, with fmt's text TOLD by the authors' own Lean function (tested against real Go, not proved from fmt's source: count such statements apart). THE CARD IS WHAT COUNTS. Prove the row's statement (the work); the ties are given (YtnomlnedincfjaaDoorTie.lean); close each card by the builder's one call (the guide's Derived/Test/ToyasCard.lean, 'card_holds'). Laid BY PROGRAM, IN A SANDBOX (cutbox-door.mjs). By AI agents, Wed Nov 11 2026. No macro, syntax, notation, axiom, sorry.
-/
import Derived.Test.YtnomlnedincfjaaDoorRows
import GoSem.ClaimSeven
namespace Go.Proofs.YtnomlnedincfjaaDoor
namespace Rows

/-- THE TIED CARD OF 'indenturelaw11.TrieActs'. -/
def trieActsCard : Claim7 := { stood := { row := trieActsRow, standIns := [], harness := (true, "f043fe6f8d53a3752824a8d3c63a7f8b4e17ab439cdac3cf4e8de71975c697ba"), looks := false }, kinds := [], alts := [], laidByText := true, laidKinds := [.data, .data], laidTests := true, laidLooks := .later }
def TrieActsCardSaid : Prop := Claim7.holds Tryd.pinned (.plain (OpenSpec.ofChange trieActsSpec)) trieActsCard

/-- THE TIED CARD OF 'indenturelaw11.TrieBits'. -/
def trieBitsCard : Claim7 := { stood := { row := trieBitsRow, standIns := [], harness := (true, "f043fe6f8d53a3752824a8d3c63a7f8b4e17ab439cdac3cf4e8de71975c697ba"), looks := false }, kinds := [], alts := [], laidByText := true, laidKinds := [.data, .data], laidTests := true, laidLooks := .later }
def TrieBitsCardSaid : Prop := Claim7.holds Tryd.pinned (.plain (OpenSpec.ofChange trieBitsSpec)) trieBitsCard

/-- THE TIED CARD OF 'indenturelaw11.TrieOrder'. -/
def trieOrderCard : Claim7 := { stood := { row := trieOrderRow, standIns := [], harness := (true, "f043fe6f8d53a3752824a8d3c63a7f8b4e17ab439cdac3cf4e8de71975c697ba"), looks := false }, kinds := [], alts := [], laidByText := true, laidKinds := [.data, .data], laidTests := true, laidLooks := .later }
def TrieOrderCardSaid : Prop := Claim7.holds Tryd.pinned (.plain (OpenSpec.ofChange trieOrderSpec)) trieOrderCard

/-- THE TIED CARD OF 'indenturelaw11.TrieGets'. -/
def trieGetsCard : Claim7 := { stood := { row := trieGetsRow, standIns := [], harness := (true, "f043fe6f8d53a3752824a8d3c63a7f8b4e17ab439cdac3cf4e8de71975c697ba"), looks := false }, kinds := [], alts := [], laidByText := true, laidKinds := [.data, .data], laidTests := true, laidLooks := .later }
def TrieGetsCardSaid : Prop := Claim7.holds Tryd.pinned (.plain (OpenSpec.ofChange trieGetsSpec)) trieGetsCard

/-- THE TIED CARD OF 'indenturelaw11.TrieNone'. -/
def trieNoneCard : Claim7 := { stood := { row := trieNoneRow, standIns := [], harness := (true, "f043fe6f8d53a3752824a8d3c63a7f8b4e17ab439cdac3cf4e8de71975c697ba"), looks := false }, kinds := [], alts := [], laidByText := true, laidKinds := [.data, .data], laidTests := true, laidLooks := .later }
def TrieNoneCardSaid : Prop := Claim7.holds Tryd.pinned (.plain (OpenSpec.ofChange trieNoneSpec)) trieNoneCard

/-- THE TIED CARD OF 'indenturelaw11.TrieAlike'. -/
def trieAlikeCard : Claim7 := { stood := { row := trieAlikeRow, standIns := [], harness := (true, "f043fe6f8d53a3752824a8d3c63a7f8b4e17ab439cdac3cf4e8de71975c697ba"), looks := false }, kinds := [], alts := [], laidByText := true, laidKinds := [.data, .data], laidTests := true, laidLooks := .later }
def TrieAlikeCardSaid : Prop := Claim7.holds Tryd.pinned (.plain (OpenSpec.ofChange trieAlikeSpec)) trieAlikeCard

/-- THE SECOND FORM's CARD OF 'indenturelaw11.TrieActs'. -/
def trieActsUptoCard : Claim7 := { stood := { row := trieActsUptoRow, standIns := [], harness := (true, "f043fe6f8d53a3752824a8d3c63a7f8b4e17ab439cdac3cf4e8de71975c697ba"), looks := false }, kinds := [], alts := [], laidByText := true, laidKinds := [.data, .data], laidTests := true, laidLooks := .later }
def TrieActsUptoCardSaid : Prop := Claim7.holds Tryd.pinned (.plain (OpenSpec.upto trieActsSpec)) trieActsUptoCard

/-- THE SECOND FORM's CARD OF 'indenturelaw11.TrieBits'. -/
def trieBitsUptoCard : Claim7 := { stood := { row := trieBitsUptoRow, standIns := [], harness := (true, "f043fe6f8d53a3752824a8d3c63a7f8b4e17ab439cdac3cf4e8de71975c697ba"), looks := false }, kinds := [], alts := [], laidByText := true, laidKinds := [.data, .data], laidTests := true, laidLooks := .later }
def TrieBitsUptoCardSaid : Prop := Claim7.holds Tryd.pinned (.plain (OpenSpec.upto trieBitsSpec)) trieBitsUptoCard

/-- THE SECOND FORM's CARD OF 'indenturelaw11.TrieOrder'. -/
def trieOrderUptoCard : Claim7 := { stood := { row := trieOrderUptoRow, standIns := [], harness := (true, "f043fe6f8d53a3752824a8d3c63a7f8b4e17ab439cdac3cf4e8de71975c697ba"), looks := false }, kinds := [], alts := [], laidByText := true, laidKinds := [.data, .data], laidTests := true, laidLooks := .later }
def TrieOrderUptoCardSaid : Prop := Claim7.holds Tryd.pinned (.plain (OpenSpec.upto trieOrderSpec)) trieOrderUptoCard

/-- THE SECOND FORM's CARD OF 'indenturelaw11.TrieGets'. -/
def trieGetsUptoCard : Claim7 := { stood := { row := trieGetsUptoRow, standIns := [], harness := (true, "f043fe6f8d53a3752824a8d3c63a7f8b4e17ab439cdac3cf4e8de71975c697ba"), looks := false }, kinds := [], alts := [], laidByText := true, laidKinds := [.data, .data], laidTests := true, laidLooks := .later }
def TrieGetsUptoCardSaid : Prop := Claim7.holds Tryd.pinned (.plain (OpenSpec.upto trieGetsSpec)) trieGetsUptoCard

/-- THE SECOND FORM's CARD OF 'indenturelaw11.TrieNone'. -/
def trieNoneUptoCard : Claim7 := { stood := { row := trieNoneUptoRow, standIns := [], harness := (true, "f043fe6f8d53a3752824a8d3c63a7f8b4e17ab439cdac3cf4e8de71975c697ba"), looks := false }, kinds := [], alts := [], laidByText := true, laidKinds := [.data, .data], laidTests := true, laidLooks := .later }
def TrieNoneUptoCardSaid : Prop := Claim7.holds Tryd.pinned (.plain (OpenSpec.upto trieNoneSpec)) trieNoneUptoCard

/-- THE SECOND FORM's CARD OF 'indenturelaw11.TrieAlike'. -/
def trieAlikeUptoCard : Claim7 := { stood := { row := trieAlikeUptoRow, standIns := [], harness := (true, "f043fe6f8d53a3752824a8d3c63a7f8b4e17ab439cdac3cf4e8de71975c697ba"), looks := false }, kinds := [], alts := [], laidByText := true, laidKinds := [.data, .data], laidTests := true, laidLooks := .later }
def TrieAlikeUptoCardSaid : Prop := Claim7.holds Tryd.pinned (.plain (OpenSpec.upto trieAlikeSpec)) trieAlikeUptoCard
end Rows
end Go.Proofs.YtnomlnedincfjaaDoor
