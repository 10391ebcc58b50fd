/-
  DERIVED. GIVEN WITH THE SEED: THE CARDS: each row of YtinlpaabmojmkaaDoorRows.lean that lists a variable, with what it lists TIED to the program's text (the seventh form; the later family's looks); each row that meets fmt, with fmt's text TOLD by the authors' own Lean function (tested against real Go, not proved from fmt's source: count such statements apart). THE CARD IS WHAT COUNTS. Prove the row's statement (the work); the ties are given (YtinlpaabmojmkaaDoorTie.lean); close each card by the builder's one call (the guide's Derived/Test/ToyasCard.lean, 'card_holds'). Laid BY PROGRAM, IN A SANDBOX (cutbox-door.mjs). By AI agents, Wed Nov 11 2026. No macro, syntax, notation, axiom, sorry.
-/
import Derived.Test.YtinlpaabmojmkaaDoorRows
import GoSem.ClaimSeven
namespace Go.Proofs.YtinlpaabmojmkaaDoor
namespace Rows

/-- THE TIED CARD OF 'indenturelaw09.MountainRoots'. -/
def mountainRootsCard : Claim7 := { stood := { row := mountainRootsRow, standIns := [], harness := (true, "a33461091e29adfcdae13b17a9288addeef6612f376b417a2a9f6aebee531a70"), looks := false }, kinds := [], alts := [], laidByText := true, laidKinds := [.data, .data], laidTests := true, laidLooks := .later }
def MountainRootsCardSaid : Prop := Claim7.holds Tryd.pinned (.plain (OpenSpec.ofChange mountainRootsSpec)) mountainRootsCard

/-- THE TIED CARD OF 'indenturelaw09.MountainAdds'. -/
def mountainAddsCard : Claim7 := { stood := { row := mountainAddsRow, standIns := [], harness := (true, "a33461091e29adfcdae13b17a9288addeef6612f376b417a2a9f6aebee531a70"), looks := false }, kinds := [], alts := [], laidByText := true, laidKinds := [.data, .data], laidTests := true, laidLooks := .later }
def MountainAddsCardSaid : Prop := Claim7.holds Tryd.pinned (.plain (OpenSpec.ofChange mountainAddsSpec)) mountainAddsCard

/-- THE TIED CARD OF 'indenturelaw09.MountainGrows'. -/
def mountainGrowsCard : Claim7 := { stood := { row := mountainGrowsRow, standIns := [], harness := (true, "a33461091e29adfcdae13b17a9288addeef6612f376b417a2a9f6aebee531a70"), looks := false }, kinds := [], alts := [], laidByText := true, laidKinds := [.data, .data], laidTests := true, laidLooks := .later }
def MountainGrowsCardSaid : Prop := Claim7.holds Tryd.pinned (.plain (OpenSpec.ofChange mountainGrowsSpec)) mountainGrowsCard

/-- THE TIED CARD OF 'indenturelaw09.MountainHalves'. -/
def mountainHalvesCard : Claim7 := { stood := { row := mountainHalvesRow, standIns := [], harness := (true, "a33461091e29adfcdae13b17a9288addeef6612f376b417a2a9f6aebee531a70"), looks := false }, kinds := [], alts := [], laidByText := true, laidKinds := [.data, .data], laidTests := true, laidLooks := .later }
def MountainHalvesCardSaid : Prop := Claim7.holds Tryd.pinned (.plain (OpenSpec.ofChange mountainHalvesSpec)) mountainHalvesCard

/-- THE SECOND FORM's CARD OF 'indenturelaw09.MountainRoots'. -/
def mountainRootsUptoCard : Claim7 := { stood := { row := mountainRootsUptoRow, standIns := [], harness := (true, "a33461091e29adfcdae13b17a9288addeef6612f376b417a2a9f6aebee531a70"), looks := false }, kinds := [], alts := [], laidByText := true, laidKinds := [.data, .data], laidTests := true, laidLooks := .later }
def MountainRootsUptoCardSaid : Prop := Claim7.holds Tryd.pinned (.plain (OpenSpec.upto mountainRootsSpec)) mountainRootsUptoCard

/-- THE SECOND FORM's CARD OF 'indenturelaw09.MountainAdds'. -/
def mountainAddsUptoCard : Claim7 := { stood := { row := mountainAddsUptoRow, standIns := [], harness := (true, "a33461091e29adfcdae13b17a9288addeef6612f376b417a2a9f6aebee531a70"), looks := false }, kinds := [], alts := [], laidByText := true, laidKinds := [.data, .data], laidTests := true, laidLooks := .later }
def MountainAddsUptoCardSaid : Prop := Claim7.holds Tryd.pinned (.plain (OpenSpec.upto mountainAddsSpec)) mountainAddsUptoCard

/-- THE SECOND FORM's CARD OF 'indenturelaw09.MountainGrows'. -/
def mountainGrowsUptoCard : Claim7 := { stood := { row := mountainGrowsUptoRow, standIns := [], harness := (true, "a33461091e29adfcdae13b17a9288addeef6612f376b417a2a9f6aebee531a70"), looks := false }, kinds := [], alts := [], laidByText := true, laidKinds := [.data, .data], laidTests := true, laidLooks := .later }
def MountainGrowsUptoCardSaid : Prop := Claim7.holds Tryd.pinned (.plain (OpenSpec.upto mountainGrowsSpec)) mountainGrowsUptoCard

/-- THE SECOND FORM's CARD OF 'indenturelaw09.MountainHalves'. -/
def mountainHalvesUptoCard : Claim7 := { stood := { row := mountainHalvesUptoRow, standIns := [], harness := (true, "a33461091e29adfcdae13b17a9288addeef6612f376b417a2a9f6aebee531a70"), looks := false }, kinds := [], alts := [], laidByText := true, laidKinds := [.data, .data], laidTests := true, laidLooks := .later }
def MountainHalvesUptoCardSaid : Prop := Claim7.holds Tryd.pinned (.plain (OpenSpec.upto mountainHalvesSpec)) mountainHalvesUptoCard
end Rows
end Go.Proofs.YtinlpaabmojmkaaDoor
