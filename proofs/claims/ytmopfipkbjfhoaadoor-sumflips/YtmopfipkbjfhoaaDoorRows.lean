/-
  NARROWER THAN 'FOR EVERY INPUT', by the rows' own cells (each row's printed sentence says how): SumAdds: laid · SumFrames: laid · SumJoins: laid · SumBack: laid · SumFlips: laid · SumNoughts: laid.
  DERIVED. THE GIVEN ROWS OF THIS SEAT. 6 by the template 'for every input the law returns true; each argument reads behind the call as it read before'; 0 by the template 'total and deterministic' (their statements: YtmopfipkbjfhoaaDoorTotals.lean).
  GIVEN WITH THE SEED: the statements are not yours to turn. If you find one false, say at which input.
  Laid BY PROGRAM, IN A SANDBOX (cutbox-rows.mjs): the forced cells as the released guide's own fill.sh prints them over the translation c61c8b609e40ad2c… (all of the seat's roots in one cut). By AI agents, Wed Nov 11 2026. No macro, syntax, notation, axiom, sorry.
-/
import Derived.Test.YtmopfipkbjfhoaaDoorChecked
import GoSem.Claim
import GoSem.ClaimJoined
import GoSem.ClaimMapViews
import Derived.JoinedTies
import Derived.KernelRfl
namespace Go.Proofs.YtmopfipkbjfhoaaDoor
/- THE CELL 'sum', in the pinned program and in every row, IS THE sha256 OF THE DUMP (.gsa) THAT YtmopfipkbjfhoaaDoorProg.lean LOADS. Nothing in Lean hashes anything: it is a label: what it is worth is what the hold of that sum in a sandbox is worth. -/
noncomputable def Tryd.pinned : Pinned := { name := "ytmopfipkbjfhoaadoor", sum := "c61c8b609e40ad2c3070dcd624f4ef568677bc8d004e78a5d186bd4034e141de", checked := Tryd.checked }
namespace Rows
def none {H : Type} : Left H := { results := [], args := [] }

/- WHAT THE LISTED PACKAGE-LEVEL VARIABLES READ AS WHEN THE CALL BEGINS. Each datum BY PROGRAM (the guide's laid-datum.mjs) off the statement by which the dump's own 'gosem.cut.vars' lays the variable. In a bare row this is a premise. The card (YtmopfipkbjfhoaaDoorCards.lean) ties it to the program's text. -/
def laid_indenture_sum_nibbles {H : Type} : DataW H := .agg [.lit (.int .u32 0), .lit (.int .u32 274646895), .lit (.int .u32 549293790), .lit (.int .u32 820201905), .lit (.int .u32 1098587580), .lit (.int .u32 1361435347), .lit (.int .u32 1640403810), .lit (.int .u32 1905808397), .lit (.int .u32 2197175160), .lit (.int .u32 2460548119), .lit (.int .u32 2722870694), .lit (.int .u32 2987750089), .lit (.int .u32 3280807620), .lit (.int .u32 3553878443), .lit (.int .u32 3811616794), .lit (.int .u32 4084100981)]

/-- 'indenturelaw02.SumAdds': WHATEVER THE INPUT: true; the input reads as it did. -/
def sumAddsSpec : ChangeSpec := { name := "sumAdds", fn := fun _ => fun
  | [d1, d2, d3] => { results := [.lit (.bool true)], args := [d1, d2, d3] }
  | _ => none }
def sumAddsRow : OpenClaim := { program := "ytmopfipkbjfhoaadoor", sum := "c61c8b609e40ad2c3070dcd624f4ef568677bc8d004e78a5d186bd4034e141de", func := "indenture/indenturelaw02.SumAdds", spec := "sumAdds", named := ["indenture/sum.nibbles"], apart := false, laid := [("indenture/sum.nibbles", laid_indenture_sum_nibbles)] }
def SumAddsSaid : Prop := sumAddsRow.holds Tryd.pinned (OpenSpec.ofChange sumAddsSpec)

/-- ITS FALSE NEIGHBOUR: 'it returns false'. Refute it at one input. -/
def sumAddsWrong : ChangeSpec := { name := "sumAdds", fn := fun _ => fun
  | [d1, d2, d3] => { results := [.lit (.bool false)], args := [d1, d2, d3] }
  | _ => none }
def SumAddsWrongFalsely : Prop := sumAddsRow.holds Tryd.pinned (OpenSpec.ofChange sumAddsWrong)

/-- 'indenturelaw02.SumFrames': WHATEVER THE INPUT: true; the input reads as it did. -/
def sumFramesSpec : ChangeSpec := { name := "sumFrames", fn := fun _ => fun
  | [d] => { results := [.lit (.bool true)], args := [d] }
  | _ => none }
def sumFramesRow : OpenClaim := { program := "ytmopfipkbjfhoaadoor", sum := "c61c8b609e40ad2c3070dcd624f4ef568677bc8d004e78a5d186bd4034e141de", func := "indenture/indenturelaw02.SumFrames", spec := "sumFrames", named := ["indenture/sum.nibbles"], apart := false, laid := [("indenture/sum.nibbles", laid_indenture_sum_nibbles)] }
def SumFramesSaid : Prop := sumFramesRow.holds Tryd.pinned (OpenSpec.ofChange sumFramesSpec)

/-- ITS FALSE NEIGHBOUR: 'it returns false'. Refute it at one input. -/
def sumFramesWrong : ChangeSpec := { name := "sumFrames", fn := fun _ => fun
  | [d] => { results := [.lit (.bool false)], args := [d] }
  | _ => none }
def SumFramesWrongFalsely : Prop := sumFramesRow.holds Tryd.pinned (OpenSpec.ofChange sumFramesWrong)

/-- 'indenturelaw02.SumJoins': WHATEVER THE INPUT: true; the input reads as it did. -/
def sumJoinsSpec : ChangeSpec := { name := "sumJoins", fn := fun _ => fun
  | [d1, d2] => { results := [.lit (.bool true)], args := [d1, d2] }
  | _ => none }
def sumJoinsRow : OpenClaim := { program := "ytmopfipkbjfhoaadoor", sum := "c61c8b609e40ad2c3070dcd624f4ef568677bc8d004e78a5d186bd4034e141de", func := "indenture/indenturelaw02.SumJoins", spec := "sumJoins", named := ["indenture/sum.nibbles"], apart := false, laid := [("indenture/sum.nibbles", laid_indenture_sum_nibbles)] }
def SumJoinsSaid : Prop := sumJoinsRow.holds Tryd.pinned (OpenSpec.ofChange sumJoinsSpec)

/-- ITS FALSE NEIGHBOUR: 'it returns false'. Refute it at one input. -/
def sumJoinsWrong : ChangeSpec := { name := "sumJoins", fn := fun _ => fun
  | [d1, d2] => { results := [.lit (.bool false)], args := [d1, d2] }
  | _ => none }
def SumJoinsWrongFalsely : Prop := sumJoinsRow.holds Tryd.pinned (OpenSpec.ofChange sumJoinsWrong)

/-- 'indenturelaw02.SumBack': WHATEVER THE INPUT: true; the input reads as it did. -/
def sumBackSpec : ChangeSpec := { name := "sumBack", fn := fun _ => fun
  | [d1, d2, d3] => { results := [.lit (.bool true)], args := [d1, d2, d3] }
  | _ => none }
def sumBackRow : OpenClaim := { program := "ytmopfipkbjfhoaadoor", sum := "c61c8b609e40ad2c3070dcd624f4ef568677bc8d004e78a5d186bd4034e141de", func := "indenture/indenturelaw02.SumBack", spec := "sumBack", named := ["indenture/sum.nibbles"], apart := false, laid := [("indenture/sum.nibbles", laid_indenture_sum_nibbles)] }
def SumBackSaid : Prop := sumBackRow.holds Tryd.pinned (OpenSpec.ofChange sumBackSpec)

/-- ITS FALSE NEIGHBOUR: 'it returns false'. Refute it at one input. -/
def sumBackWrong : ChangeSpec := { name := "sumBack", fn := fun _ => fun
  | [d1, d2, d3] => { results := [.lit (.bool false)], args := [d1, d2, d3] }
  | _ => none }
def SumBackWrongFalsely : Prop := sumBackRow.holds Tryd.pinned (OpenSpec.ofChange sumBackWrong)

/-- 'indenturelaw02.SumFlips': WHATEVER THE INPUT: true; the input reads as it did. -/
def sumFlipsSpec : ChangeSpec := { name := "sumFlips", fn := fun _ => fun
  | [d1, d2] => { results := [.lit (.bool true)], args := [d1, d2] }
  | _ => none }
def sumFlipsRow : OpenClaim := { program := "ytmopfipkbjfhoaadoor", sum := "c61c8b609e40ad2c3070dcd624f4ef568677bc8d004e78a5d186bd4034e141de", func := "indenture/indenturelaw02.SumFlips", spec := "sumFlips", named := ["indenture/sum.nibbles"], apart := false, laid := [("indenture/sum.nibbles", laid_indenture_sum_nibbles)] }
def SumFlipsSaid : Prop := sumFlipsRow.holds Tryd.pinned (OpenSpec.ofChange sumFlipsSpec)

/-- ITS FALSE NEIGHBOUR: 'it returns false'. Refute it at one input. -/
def sumFlipsWrong : ChangeSpec := { name := "sumFlips", fn := fun _ => fun
  | [d1, d2] => { results := [.lit (.bool false)], args := [d1, d2] }
  | _ => none }
def SumFlipsWrongFalsely : Prop := sumFlipsRow.holds Tryd.pinned (OpenSpec.ofChange sumFlipsWrong)

/-- 'indenturelaw02.SumNoughts': WHATEVER THE INPUT: true; the input reads as it did. -/
def sumNoughtsSpec : ChangeSpec := { name := "sumNoughts", fn := fun _ => fun
  | [d1, d2, d3] => { results := [.lit (.bool true)], args := [d1, d2, d3] }
  | _ => none }
def sumNoughtsRow : OpenClaim := { program := "ytmopfipkbjfhoaadoor", sum := "c61c8b609e40ad2c3070dcd624f4ef568677bc8d004e78a5d186bd4034e141de", func := "indenture/indenturelaw02.SumNoughts", spec := "sumNoughts", named := ["indenture/sum.nibbles"], apart := false, laid := [("indenture/sum.nibbles", laid_indenture_sum_nibbles)] }
def SumNoughtsSaid : Prop := sumNoughtsRow.holds Tryd.pinned (OpenSpec.ofChange sumNoughtsSpec)

/-- ITS FALSE NEIGHBOUR: 'it returns false'. Refute it at one input. -/
def sumNoughtsWrong : ChangeSpec := { name := "sumNoughts", fn := fun _ => fun
  | [d1, d2, d3] => { results := [.lit (.bool false)], args := [d1, d2, d3] }
  | _ => none }
def SumNoughtsWrongFalsely : Prop := sumNoughtsRow.holds Tryd.pinned (OpenSpec.ofChange sumNoughtsWrong)

/- THE SECOND FORM. 'bulk': how many values and letters a reading holds, each counted each time it is reached (what is shared counts as often as it is met; a slice's spare places count too). A statement '..UptoSaid' is the law's where the arguments, and the package variables that the reading takes, are together of bulk at most 1048576: NARROWER than '..Said'. Prove '..Said' where nothing that the law and all that it calls make is longer than what came in: it says more and counts as full. Else prove '..UptoSaid'. A law counts once. -/
mutual
def uptoBulk {H : Type} : DataW H → Nat
  | .lit (.string bytes) => bytes.length + 1
  | .lit _ => 1
  | .nil => 1
  | .ptr d => uptoBulk d + 1
  | .slice elems spare => uptoBulkAll elems + uptoBulkAll spare + 1
  | .agg parts => uptoBulkAll parts + 1
  | .iface _ d => uptoBulk d + 1
  | .map entries => uptoBulkEntries entries + 1
  | .held _ => 1
def uptoBulkAll {H : Type} : List (DataW H) → Nat
  | [] => 0
  | d :: r => uptoBulk d + uptoBulkAll r
def uptoBulkEntries {H : Type} : List (Lit × DataW H) → Nat
  | [] => 0
  | x :: r => uptoBulkEntry x + uptoBulkEntries r
def uptoBulkEntry {H : Type} : Lit × DataW H → Nat
  | (.string bytes, d) => bytes.length + uptoBulk d + 1
  | (_, d) => uptoBulk d + 1
 end
def uptoSmall : (H : Type) → List (DataW H) → Bool := fun _ ds => decide (uptoBulkAll ds ≤ 1048576)
def OpenSpec.upto (s : _root_.Go.ChangeSpec) : _root_.Go.OpenSpec := { _root_.Go.OpenSpec.ofChange s with cond := some uptoSmall }

/-- 'indenturelaw02.SumAdds', WHERE WHAT IT READS IS OF BULK AT MOST 1048576: true; the input reads as it did. -/
def sumAddsUptoRow : OpenClaim := { program := "ytmopfipkbjfhoaadoor", sum := "c61c8b609e40ad2c3070dcd624f4ef568677bc8d004e78a5d186bd4034e141de", func := "indenture/indenturelaw02.SumAdds", spec := "sumAdds", named := ["indenture/sum.nibbles"], apart := false, laid := [("indenture/sum.nibbles", laid_indenture_sum_nibbles)], narrowed := true }
def SumAddsUptoSaid : Prop := sumAddsUptoRow.holds Tryd.pinned (OpenSpec.upto sumAddsSpec)

/-- 'indenturelaw02.SumFrames', WHERE WHAT IT READS IS OF BULK AT MOST 1048576: true; the input reads as it did. -/
def sumFramesUptoRow : OpenClaim := { program := "ytmopfipkbjfhoaadoor", sum := "c61c8b609e40ad2c3070dcd624f4ef568677bc8d004e78a5d186bd4034e141de", func := "indenture/indenturelaw02.SumFrames", spec := "sumFrames", named := ["indenture/sum.nibbles"], apart := false, laid := [("indenture/sum.nibbles", laid_indenture_sum_nibbles)], narrowed := true }
def SumFramesUptoSaid : Prop := sumFramesUptoRow.holds Tryd.pinned (OpenSpec.upto sumFramesSpec)

/-- 'indenturelaw02.SumJoins', WHERE WHAT IT READS IS OF BULK AT MOST 1048576: true; the input reads as it did. -/
def sumJoinsUptoRow : OpenClaim := { program := "ytmopfipkbjfhoaadoor", sum := "c61c8b609e40ad2c3070dcd624f4ef568677bc8d004e78a5d186bd4034e141de", func := "indenture/indenturelaw02.SumJoins", spec := "sumJoins", named := ["indenture/sum.nibbles"], apart := false, laid := [("indenture/sum.nibbles", laid_indenture_sum_nibbles)], narrowed := true }
def SumJoinsUptoSaid : Prop := sumJoinsUptoRow.holds Tryd.pinned (OpenSpec.upto sumJoinsSpec)

/-- 'indenturelaw02.SumBack', WHERE WHAT IT READS IS OF BULK AT MOST 1048576: true; the input reads as it did. -/
def sumBackUptoRow : OpenClaim := { program := "ytmopfipkbjfhoaadoor", sum := "c61c8b609e40ad2c3070dcd624f4ef568677bc8d004e78a5d186bd4034e141de", func := "indenture/indenturelaw02.SumBack", spec := "sumBack", named := ["indenture/sum.nibbles"], apart := false, laid := [("indenture/sum.nibbles", laid_indenture_sum_nibbles)], narrowed := true }
def SumBackUptoSaid : Prop := sumBackUptoRow.holds Tryd.pinned (OpenSpec.upto sumBackSpec)

/-- 'indenturelaw02.SumFlips', WHERE WHAT IT READS IS OF BULK AT MOST 1048576: true; the input reads as it did. -/
def sumFlipsUptoRow : OpenClaim := { program := "ytmopfipkbjfhoaadoor", sum := "c61c8b609e40ad2c3070dcd624f4ef568677bc8d004e78a5d186bd4034e141de", func := "indenture/indenturelaw02.SumFlips", spec := "sumFlips", named := ["indenture/sum.nibbles"], apart := false, laid := [("indenture/sum.nibbles", laid_indenture_sum_nibbles)], narrowed := true }
def SumFlipsUptoSaid : Prop := sumFlipsUptoRow.holds Tryd.pinned (OpenSpec.upto sumFlipsSpec)

/-- 'indenturelaw02.SumNoughts', WHERE WHAT IT READS IS OF BULK AT MOST 1048576: true; the input reads as it did. -/
def sumNoughtsUptoRow : OpenClaim := { program := "ytmopfipkbjfhoaadoor", sum := "c61c8b609e40ad2c3070dcd624f4ef568677bc8d004e78a5d186bd4034e141de", func := "indenture/indenturelaw02.SumNoughts", spec := "sumNoughts", named := ["indenture/sum.nibbles"], apart := false, laid := [("indenture/sum.nibbles", laid_indenture_sum_nibbles)], narrowed := true }
def SumNoughtsUptoSaid : Prop := sumNoughtsUptoRow.holds Tryd.pinned (OpenSpec.upto sumNoughtsSpec)

end Rows
end Go.Proofs.YtmopfipkbjfhoaaDoor
