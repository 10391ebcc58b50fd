/-
  No cell of these rows narrows 'for every input' (looked for: loops, veiled, ifaces, maps, wideKeys, modest, calm, conditions, laid).
  DERIVED. THE GIVEN ROWS OF THIS SEAT. 2 by the template 'for every input the law returns true; each argument reads behind the call as it read before'; 0 by the template 'total and deterministic' (their statements: YtinlpaabmojmkaaTotals.lean).
  GIVEN WITH THE SEED: the statements are not yours to turn. If you find one false, say at which input.
  Laid BY PROGRAM, IN A SANDBOX (cutbox-rows.mjs): the forced cells as the released guide's own fill.sh prints them over the translation 08ed9a419673bdf1… (all of the seat's roots in one cut). By AI agents, Wed Nov 11 2026. No macro, syntax, notation, axiom, sorry.
-/
import Derived.Test.YtinlpaabmojmkaaChecked
import GoSem.Claim
import GoSem.ClaimJoined
import GoSem.ClaimMapViews
import Derived.JoinedTies
import Derived.KernelRfl
namespace Go.Proofs.Ytinlpaabmojmkaa
/- THE CELL 'sum', in the pinned program and in every row, IS THE sha256 OF THE DUMP (.gsa) THAT YtinlpaabmojmkaaProg.lean LOADS. Nothing in Lean hashes anything: it is a label: what it is worth is what the hold of that sum in a sandbox is worth. -/
noncomputable def Try.pinned : Pinned := { name := "ytinlpaabmojmkaa", sum := "08ed9a419673bdf1394e3952a83ddbdb3ffea8f97822f3da2320f2d3f7e61f62", checked := Try.checked }
namespace Rows
def none {H : Type} : Left H := { results := [], args := [] }

/-- 'indenturelaw09.MountainNumbers': WHATEVER THE INPUT: true; the input reads as it did. -/
def mountainNumbersSpec : ChangeSpec := { name := "mountainNumbers", fn := fun _ => fun
  | [d] => { results := [.lit (.bool true)], args := [d] }
  | _ => none }
def mountainNumbersRow : OpenClaim := { program := "ytinlpaabmojmkaa", sum := "08ed9a419673bdf1394e3952a83ddbdb3ffea8f97822f3da2320f2d3f7e61f62", func := "indenture/indenturelaw09.MountainNumbers", spec := "mountainNumbers", apart := false }
def MountainNumbersSaid : Prop := mountainNumbersRow.holds Try.pinned (OpenSpec.ofChange mountainNumbersSpec)

/-- ITS FALSE NEIGHBOUR: 'it returns false'. Refute it at one input. -/
def mountainNumbersWrong : ChangeSpec := { name := "mountainNumbers", fn := fun _ => fun
  | [d] => { results := [.lit (.bool false)], args := [d] }
  | _ => none }
def MountainNumbersWrongFalsely : Prop := mountainNumbersRow.holds Try.pinned (OpenSpec.ofChange mountainNumbersWrong)

/-- 'indenturelaw09.MountainBits': WHATEVER THE INPUT: true; the input reads as it did. -/
def mountainBitsSpec : ChangeSpec := { name := "mountainBits", fn := fun _ => fun
  | [d] => { results := [.lit (.bool true)], args := [d] }
  | _ => none }
def mountainBitsRow : OpenClaim := { program := "ytinlpaabmojmkaa", sum := "08ed9a419673bdf1394e3952a83ddbdb3ffea8f97822f3da2320f2d3f7e61f62", func := "indenture/indenturelaw09.MountainBits", spec := "mountainBits", apart := false }
def MountainBitsSaid : Prop := mountainBitsRow.holds Try.pinned (OpenSpec.ofChange mountainBitsSpec)

/-- ITS FALSE NEIGHBOUR: 'it returns false'. Refute it at one input. -/
def mountainBitsWrong : ChangeSpec := { name := "mountainBits", fn := fun _ => fun
  | [d] => { results := [.lit (.bool false)], args := [d] }
  | _ => none }
def MountainBitsWrongFalsely : Prop := mountainBitsRow.holds Try.pinned (OpenSpec.ofChange mountainBitsWrong)

/- THE SECOND FORM. 'bulk': how many values and letters a reading holds, each counted each time it is reached (what is shared counts as often as it is met; a slice's spare places count too). A statement '..UptoSaid' is the law's where the arguments, and the package variables that the reading takes, are together of bulk at most 1048576: NARROWER than '..Said'. Prove '..Said' where nothing that the law and all that it calls make is longer than what came in: it says more and counts as full. Else prove '..UptoSaid'. A law counts once. -/
mutual
def uptoBulk {H : Type} : DataW H → Nat
  | .lit (.string bytes) => bytes.length + 1
  | .lit _ => 1
  | .nil => 1
  | .ptr d => uptoBulk d + 1
  | .slice elems spare => uptoBulkAll elems + uptoBulkAll spare + 1
  | .agg parts => uptoBulkAll parts + 1
  | .iface _ d => uptoBulk d + 1
  | .map entries => uptoBulkEntries entries + 1
  | .held _ => 1
def uptoBulkAll {H : Type} : List (DataW H) → Nat
  | [] => 0
  | d :: r => uptoBulk d + uptoBulkAll r
def uptoBulkEntries {H : Type} : List (Lit × DataW H) → Nat
  | [] => 0
  | x :: r => uptoBulkEntry x + uptoBulkEntries r
def uptoBulkEntry {H : Type} : Lit × DataW H → Nat
  | (.string bytes, d) => bytes.length + uptoBulk d + 1
  | (_, d) => uptoBulk d + 1
 end
def uptoSmall : (H : Type) → List (DataW H) → Bool := fun _ ds => decide (uptoBulkAll ds ≤ 1048576)
def OpenSpec.upto (s : _root_.Go.ChangeSpec) : _root_.Go.OpenSpec := { _root_.Go.OpenSpec.ofChange s with cond := some uptoSmall }

/-- 'indenturelaw09.MountainNumbers', WHERE WHAT IT READS IS OF BULK AT MOST 1048576: true; the input reads as it did. -/
def mountainNumbersUptoRow : OpenClaim := { program := "ytinlpaabmojmkaa", sum := "08ed9a419673bdf1394e3952a83ddbdb3ffea8f97822f3da2320f2d3f7e61f62", func := "indenture/indenturelaw09.MountainNumbers", spec := "mountainNumbers", apart := false, narrowed := true }
def MountainNumbersUptoSaid : Prop := mountainNumbersUptoRow.holds Try.pinned (OpenSpec.upto mountainNumbersSpec)

/-- 'indenturelaw09.MountainBits', WHERE WHAT IT READS IS OF BULK AT MOST 1048576: true; the input reads as it did. -/
def mountainBitsUptoRow : OpenClaim := { program := "ytinlpaabmojmkaa", sum := "08ed9a419673bdf1394e3952a83ddbdb3ffea8f97822f3da2320f2d3f7e61f62", func := "indenture/indenturelaw09.MountainBits", spec := "mountainBits", apart := false, narrowed := true }
def MountainBitsUptoSaid : Prop := mountainBitsUptoRow.holds Try.pinned (OpenSpec.upto mountainBitsSpec)

end Rows
end Go.Proofs.Ytinlpaabmojmkaa
