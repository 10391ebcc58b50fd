/-
  DERIVED. GIVEN WITH THE SEED: THE CARDS: each row of YtmopfipkbjfhoaaDoorRows.lean that lists a variable, with what it lists TIED to the program's text (the seventh form; the later family's looks); each row that meets fmt, with fmt's text TOLD by the authors' own Lean function (tested against real Go, not proved from fmt's source: count such statements apart). THE CARD IS WHAT COUNTS. Prove the row's statement (the work); the ties are given (YtmopfipkbjfhoaaDoorTie.lean); close each card by the builder's one call (the guide's Derived/Test/ToyasCard.lean, 'card_holds'). Laid BY PROGRAM, IN A SANDBOX (cutbox-door.mjs). By AI agents, Wed Nov 11 2026. No macro, syntax, notation, axiom, sorry.
-/
import Derived.Test.YtmopfipkbjfhoaaDoorRows
import GoSem.ClaimSeven
namespace Go.Proofs.YtmopfipkbjfhoaaDoor
namespace Rows

/-- THE TIED CARD OF 'indenturelaw02.SumAdds'. -/
def sumAddsCard : Claim7 := { stood := { row := sumAddsRow, standIns := [], harness := (true, "48409837a008d92d12fd4bbc704cd992ef4fb249d61783370fe8f58b5c291b7f"), looks := false }, kinds := [], alts := [], laidByText := true, laidKinds := [.data], laidTests := true, laidLooks := .later }
def SumAddsCardSaid : Prop := Claim7.holds Tryd.pinned (.plain (OpenSpec.ofChange sumAddsSpec)) sumAddsCard

/-- THE TIED CARD OF 'indenturelaw02.SumFrames'. -/
def sumFramesCard : Claim7 := { stood := { row := sumFramesRow, standIns := [], harness := (true, "48409837a008d92d12fd4bbc704cd992ef4fb249d61783370fe8f58b5c291b7f"), looks := false }, kinds := [], alts := [], laidByText := true, laidKinds := [.data], laidTests := true, laidLooks := .later }
def SumFramesCardSaid : Prop := Claim7.holds Tryd.pinned (.plain (OpenSpec.ofChange sumFramesSpec)) sumFramesCard

/-- THE TIED CARD OF 'indenturelaw02.SumJoins'. -/
def sumJoinsCard : Claim7 := { stood := { row := sumJoinsRow, standIns := [], harness := (true, "48409837a008d92d12fd4bbc704cd992ef4fb249d61783370fe8f58b5c291b7f"), looks := false }, kinds := [], alts := [], laidByText := true, laidKinds := [.data], laidTests := true, laidLooks := .later }
def SumJoinsCardSaid : Prop := Claim7.holds Tryd.pinned (.plain (OpenSpec.ofChange sumJoinsSpec)) sumJoinsCard

/-- THE TIED CARD OF 'indenturelaw02.SumBack'. -/
def sumBackCard : Claim7 := { stood := { row := sumBackRow, standIns := [], harness := (true, "48409837a008d92d12fd4bbc704cd992ef4fb249d61783370fe8f58b5c291b7f"), looks := false }, kinds := [], alts := [], laidByText := true, laidKinds := [.data], laidTests := true, laidLooks := .later }
def SumBackCardSaid : Prop := Claim7.holds Tryd.pinned (.plain (OpenSpec.ofChange sumBackSpec)) sumBackCard

/-- THE TIED CARD OF 'indenturelaw02.SumFlips'. -/
def sumFlipsCard : Claim7 := { stood := { row := sumFlipsRow, standIns := [], harness := (true, "48409837a008d92d12fd4bbc704cd992ef4fb249d61783370fe8f58b5c291b7f"), looks := false }, kinds := [], alts := [], laidByText := true, laidKinds := [.data], laidTests := true, laidLooks := .later }
def SumFlipsCardSaid : Prop := Claim7.holds Tryd.pinned (.plain (OpenSpec.ofChange sumFlipsSpec)) sumFlipsCard

/-- THE TIED CARD OF 'indenturelaw02.SumNoughts'. -/
def sumNoughtsCard : Claim7 := { stood := { row := sumNoughtsRow, standIns := [], harness := (true, "48409837a008d92d12fd4bbc704cd992ef4fb249d61783370fe8f58b5c291b7f"), looks := false }, kinds := [], alts := [], laidByText := true, laidKinds := [.data], laidTests := true, laidLooks := .later }
def SumNoughtsCardSaid : Prop := Claim7.holds Tryd.pinned (.plain (OpenSpec.ofChange sumNoughtsSpec)) sumNoughtsCard

/-- THE SECOND FORM's CARD OF 'indenturelaw02.SumAdds'. -/
def sumAddsUptoCard : Claim7 := { stood := { row := sumAddsUptoRow, standIns := [], harness := (true, "48409837a008d92d12fd4bbc704cd992ef4fb249d61783370fe8f58b5c291b7f"), looks := false }, kinds := [], alts := [], laidByText := true, laidKinds := [.data], laidTests := true, laidLooks := .later }
def SumAddsUptoCardSaid : Prop := Claim7.holds Tryd.pinned (.plain (OpenSpec.upto sumAddsSpec)) sumAddsUptoCard

/-- THE SECOND FORM's CARD OF 'indenturelaw02.SumFrames'. -/
def sumFramesUptoCard : Claim7 := { stood := { row := sumFramesUptoRow, standIns := [], harness := (true, "48409837a008d92d12fd4bbc704cd992ef4fb249d61783370fe8f58b5c291b7f"), looks := false }, kinds := [], alts := [], laidByText := true, laidKinds := [.data], laidTests := true, laidLooks := .later }
def SumFramesUptoCardSaid : Prop := Claim7.holds Tryd.pinned (.plain (OpenSpec.upto sumFramesSpec)) sumFramesUptoCard

/-- THE SECOND FORM's CARD OF 'indenturelaw02.SumJoins'. -/
def sumJoinsUptoCard : Claim7 := { stood := { row := sumJoinsUptoRow, standIns := [], harness := (true, "48409837a008d92d12fd4bbc704cd992ef4fb249d61783370fe8f58b5c291b7f"), looks := false }, kinds := [], alts := [], laidByText := true, laidKinds := [.data], laidTests := true, laidLooks := .later }
def SumJoinsUptoCardSaid : Prop := Claim7.holds Tryd.pinned (.plain (OpenSpec.upto sumJoinsSpec)) sumJoinsUptoCard

/-- THE SECOND FORM's CARD OF 'indenturelaw02.SumBack'. -/
def sumBackUptoCard : Claim7 := { stood := { row := sumBackUptoRow, standIns := [], harness := (true, "48409837a008d92d12fd4bbc704cd992ef4fb249d61783370fe8f58b5c291b7f"), looks := false }, kinds := [], alts := [], laidByText := true, laidKinds := [.data], laidTests := true, laidLooks := .later }
def SumBackUptoCardSaid : Prop := Claim7.holds Tryd.pinned (.plain (OpenSpec.upto sumBackSpec)) sumBackUptoCard

/-- THE SECOND FORM's CARD OF 'indenturelaw02.SumFlips'. -/
def sumFlipsUptoCard : Claim7 := { stood := { row := sumFlipsUptoRow, standIns := [], harness := (true, "48409837a008d92d12fd4bbc704cd992ef4fb249d61783370fe8f58b5c291b7f"), looks := false }, kinds := [], alts := [], laidByText := true, laidKinds := [.data], laidTests := true, laidLooks := .later }
def SumFlipsUptoCardSaid : Prop := Claim7.holds Tryd.pinned (.plain (OpenSpec.upto sumFlipsSpec)) sumFlipsUptoCard

/-- THE SECOND FORM's CARD OF 'indenturelaw02.SumNoughts'. -/
def sumNoughtsUptoCard : Claim7 := { stood := { row := sumNoughtsUptoRow, standIns := [], harness := (true, "48409837a008d92d12fd4bbc704cd992ef4fb249d61783370fe8f58b5c291b7f"), looks := false }, kinds := [], alts := [], laidByText := true, laidKinds := [.data], laidTests := true, laidLooks := .later }
def SumNoughtsUptoCardSaid : Prop := Claim7.holds Tryd.pinned (.plain (OpenSpec.upto sumNoughtsSpec)) sumNoughtsUptoCard
end Rows
end Go.Proofs.YtmopfipkbjfhoaaDoor
