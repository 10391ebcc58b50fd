/-
  NARROWER THAN 'FOR EVERY INPUT', by the rows' own cells (each row's printed sentence says how): TagHashes: laid · TagBytes: laid · TagApart: laid · TagSides: laid · TagForks: laid.
  DERIVED. THE GIVEN ROWS OF THIS SEAT. 5 by the template 'for every input the law returns true; each argument reads behind the call as it read before'; 0 by the template 'total and deterministic' (their statements: YtljmhbchcadnbaaDoorTotals.lean).
  GIVEN WITH THE SEED: the statements are not yours to turn. If you find one false, say at which input.
  Laid BY PROGRAM, IN A SANDBOX (cutbox-rows.mjs): the forced cells as the released guide's own fill.sh prints them over the translation f11ecdd5e0381a91… (all of the seat's roots in one cut). By AI agents, Wed Nov 11 2026. No macro, syntax, notation, axiom, sorry.
-/
import Derived.Test.YtljmhbchcadnbaaDoorChecked
import GoSem.Claim
import GoSem.ClaimJoined
import GoSem.ClaimMapViews
import Derived.JoinedTies
import Derived.KernelRfl
namespace Go.Proofs.YtljmhbchcadnbaaDoor
/- THE CELL 'sum', in the pinned program and in every row, IS THE sha256 OF THE DUMP (.gsa) THAT YtljmhbchcadnbaaDoorProg.lean LOADS. Nothing in Lean hashes anything: it is a label: what it is worth is what the hold of that sum in a sandbox is worth. -/
noncomputable def Tryd.pinned : Pinned := { name := "ytljmhbchcadnbaadoor", sum := "f11ecdd5e0381a917acb567f4a623f85b60faab93e29074e73c0771743b57cdd", checked := Tryd.checked }
namespace Rows
def none {H : Type} : Left H := { results := [], args := [] }

/- WHAT THE LISTED PACKAGE-LEVEL VARIABLES READ AS WHEN THE CALL BEGINS. Each datum BY PROGRAM (the guide's laid-datum.mjs) off the statement by which the dump's own 'gosem.cut.vars' lays the variable. In a bare row this is a premise. The card (YtljmhbchcadnbaaDoorCards.lean) ties it to the program's text. -/
def laid_indenture_sha_begin {H : Type} : DataW H := .agg [.lit (.int .u32 1779033703), .lit (.int .u32 3144134277), .lit (.int .u32 1013904242), .lit (.int .u32 2773480762), .lit (.int .u32 1359893119), .lit (.int .u32 2600822924), .lit (.int .u32 528734635), .lit (.int .u32 1541459225)]
def laid_indenture_sha_rounds {H : Type} : DataW H := .agg [.lit (.int .u32 1116352408), .lit (.int .u32 1899447441), .lit (.int .u32 3049323471), .lit (.int .u32 3921009573), .lit (.int .u32 961987163), .lit (.int .u32 1508970993), .lit (.int .u32 2453635748), .lit (.int .u32 2870763221), .lit (.int .u32 3624381080), .lit (.int .u32 310598401), .lit (.int .u32 607225278), .lit (.int .u32 1426881987), .lit (.int .u32 1925078388), .lit (.int .u32 2162078206), .lit (.int .u32 2614888103), .lit (.int .u32 3248222580), .lit (.int .u32 3835390401), .lit (.int .u32 4022224774), .lit (.int .u32 264347078), .lit (.int .u32 604807628), .lit (.int .u32 770255983), .lit (.int .u32 1249150122), .lit (.int .u32 1555081692), .lit (.int .u32 1996064986), .lit (.int .u32 2554220882), .lit (.int .u32 2821834349), .lit (.int .u32 2952996808), .lit (.int .u32 3210313671), .lit (.int .u32 3336571891), .lit (.int .u32 3584528711), .lit (.int .u32 113926993), .lit (.int .u32 338241895), .lit (.int .u32 666307205), .lit (.int .u32 773529912), .lit (.int .u32 1294757372), .lit (.int .u32 1396182291), .lit (.int .u32 1695183700), .lit (.int .u32 1986661051), .lit (.int .u32 2177026350), .lit (.int .u32 2456956037), .lit (.int .u32 2730485921), .lit (.int .u32 2820302411), .lit (.int .u32 3259730800), .lit (.int .u32 3345764771), .lit (.int .u32 3516065817), .lit (.int .u32 3600352804), .lit (.int .u32 4094571909), .lit (.int .u32 275423344), .lit (.int .u32 430227734), .lit (.int .u32 506948616), .lit (.int .u32 659060556), .lit (.int .u32 883997877), .lit (.int .u32 958139571), .lit (.int .u32 1322822218), .lit (.int .u32 1537002063), .lit (.int .u32 1747873779), .lit (.int .u32 1955562222), .lit (.int .u32 2024104815), .lit (.int .u32 2227730452), .lit (.int .u32 2361852424), .lit (.int .u32 2428436474), .lit (.int .u32 2756734187), .lit (.int .u32 3204031479), .lit (.int .u32 3329325298)]

/-- 'indenturelaw04.TagHashes': WHATEVER THE INPUT: true; the input reads as it did. -/
def tagHashesSpec : ChangeSpec := { name := "tagHashes", fn := fun _ => fun
  | [d1, d2, d3] => { results := [.lit (.bool true)], args := [d1, d2, d3] }
  | _ => none }
def tagHashesRow : OpenClaim := { program := "ytljmhbchcadnbaadoor", sum := "f11ecdd5e0381a917acb567f4a623f85b60faab93e29074e73c0771743b57cdd", func := "indenture/indenturelaw04.TagHashes", spec := "tagHashes", named := ["indenture/sha.begin", "indenture/sha.rounds"], apart := false, laid := [("indenture/sha.begin", laid_indenture_sha_begin), ("indenture/sha.rounds", laid_indenture_sha_rounds)] }
def TagHashesSaid : Prop := tagHashesRow.holds Tryd.pinned (OpenSpec.ofChange tagHashesSpec)

/-- ITS FALSE NEIGHBOUR: 'it returns false'. Refute it at one input. -/
def tagHashesWrong : ChangeSpec := { name := "tagHashes", fn := fun _ => fun
  | [d1, d2, d3] => { results := [.lit (.bool false)], args := [d1, d2, d3] }
  | _ => none }
def TagHashesWrongFalsely : Prop := tagHashesRow.holds Tryd.pinned (OpenSpec.ofChange tagHashesWrong)

/-- 'indenturelaw04.TagBytes': WHATEVER THE INPUT: true; the input reads as it did. -/
def tagBytesSpec : ChangeSpec := { name := "tagBytes", fn := fun _ => fun
  | [d1, d2] => { results := [.lit (.bool true)], args := [d1, d2] }
  | _ => none }
def tagBytesRow : OpenClaim := { program := "ytljmhbchcadnbaadoor", sum := "f11ecdd5e0381a917acb567f4a623f85b60faab93e29074e73c0771743b57cdd", func := "indenture/indenturelaw04.TagBytes", spec := "tagBytes", named := ["indenture/sha.begin", "indenture/sha.rounds"], apart := false, laid := [("indenture/sha.begin", laid_indenture_sha_begin), ("indenture/sha.rounds", laid_indenture_sha_rounds)] }
def TagBytesSaid : Prop := tagBytesRow.holds Tryd.pinned (OpenSpec.ofChange tagBytesSpec)

/-- ITS FALSE NEIGHBOUR: 'it returns false'. Refute it at one input. -/
def tagBytesWrong : ChangeSpec := { name := "tagBytes", fn := fun _ => fun
  | [d1, d2] => { results := [.lit (.bool false)], args := [d1, d2] }
  | _ => none }
def TagBytesWrongFalsely : Prop := tagBytesRow.holds Tryd.pinned (OpenSpec.ofChange tagBytesWrong)

/-- 'indenturelaw04.TagApart': WHATEVER THE INPUT: true; the input reads as it did. -/
def tagApartSpec : ChangeSpec := { name := "tagApart", fn := fun _ => fun
  | [d1, d2, d3] => { results := [.lit (.bool true)], args := [d1, d2, d3] }
  | _ => none }
def tagApartRow : OpenClaim := { program := "ytljmhbchcadnbaadoor", sum := "f11ecdd5e0381a917acb567f4a623f85b60faab93e29074e73c0771743b57cdd", func := "indenture/indenturelaw04.TagApart", spec := "tagApart", named := ["indenture/sha.begin", "indenture/sha.rounds"], apart := false, laid := [("indenture/sha.begin", laid_indenture_sha_begin), ("indenture/sha.rounds", laid_indenture_sha_rounds)] }
def TagApartSaid : Prop := tagApartRow.holds Tryd.pinned (OpenSpec.ofChange tagApartSpec)

/-- ITS FALSE NEIGHBOUR: 'it returns false'. Refute it at one input. -/
def tagApartWrong : ChangeSpec := { name := "tagApart", fn := fun _ => fun
  | [d1, d2, d3] => { results := [.lit (.bool false)], args := [d1, d2, d3] }
  | _ => none }
def TagApartWrongFalsely : Prop := tagApartRow.holds Tryd.pinned (OpenSpec.ofChange tagApartWrong)

/-- 'indenturelaw04.TagSides': WHATEVER THE INPUT: true; the input reads as it did. -/
def tagSidesSpec : ChangeSpec := { name := "tagSides", fn := fun _ => fun
  | [d1, d2, d3] => { results := [.lit (.bool true)], args := [d1, d2, d3] }
  | _ => none }
def tagSidesRow : OpenClaim := { program := "ytljmhbchcadnbaadoor", sum := "f11ecdd5e0381a917acb567f4a623f85b60faab93e29074e73c0771743b57cdd", func := "indenture/indenturelaw04.TagSides", spec := "tagSides", named := ["indenture/sha.begin", "indenture/sha.rounds"], apart := false, laid := [("indenture/sha.begin", laid_indenture_sha_begin), ("indenture/sha.rounds", laid_indenture_sha_rounds)] }
def TagSidesSaid : Prop := tagSidesRow.holds Tryd.pinned (OpenSpec.ofChange tagSidesSpec)

/-- ITS FALSE NEIGHBOUR: 'it returns false'. Refute it at one input. -/
def tagSidesWrong : ChangeSpec := { name := "tagSides", fn := fun _ => fun
  | [d1, d2, d3] => { results := [.lit (.bool false)], args := [d1, d2, d3] }
  | _ => none }
def TagSidesWrongFalsely : Prop := tagSidesRow.holds Tryd.pinned (OpenSpec.ofChange tagSidesWrong)

/-- 'indenturelaw04.TagForks': WHATEVER THE INPUT: true; the input reads as it did. -/
def tagForksSpec : ChangeSpec := { name := "tagForks", fn := fun _ => fun
  | [d1, d2] => { results := [.lit (.bool true)], args := [d1, d2] }
  | _ => none }
def tagForksRow : OpenClaim := { program := "ytljmhbchcadnbaadoor", sum := "f11ecdd5e0381a917acb567f4a623f85b60faab93e29074e73c0771743b57cdd", func := "indenture/indenturelaw04.TagForks", spec := "tagForks", named := ["indenture/sha.begin", "indenture/sha.rounds"], apart := false, laid := [("indenture/sha.begin", laid_indenture_sha_begin), ("indenture/sha.rounds", laid_indenture_sha_rounds)] }
def TagForksSaid : Prop := tagForksRow.holds Tryd.pinned (OpenSpec.ofChange tagForksSpec)

/-- ITS FALSE NEIGHBOUR: 'it returns false'. Refute it at one input. -/
def tagForksWrong : ChangeSpec := { name := "tagForks", fn := fun _ => fun
  | [d1, d2] => { results := [.lit (.bool false)], args := [d1, d2] }
  | _ => none }
def TagForksWrongFalsely : Prop := tagForksRow.holds Tryd.pinned (OpenSpec.ofChange tagForksWrong)

/- THE SECOND FORM. 'bulk': how many values and letters a reading holds, each counted each time it is reached (what is shared counts as often as it is met; a slice's spare places count too). A statement '..UptoSaid' is the law's where the arguments, and the package variables that the reading takes, are together of bulk at most 1048576: NARROWER than '..Said'. Prove '..Said' where nothing that the law and all that it calls make is longer than what came in: it says more and counts as full. Else prove '..UptoSaid'. A law counts once. -/
mutual
def uptoBulk {H : Type} : DataW H → Nat
  | .lit (.string bytes) => bytes.length + 1
  | .lit _ => 1
  | .nil => 1
  | .ptr d => uptoBulk d + 1
  | .slice elems spare => uptoBulkAll elems + uptoBulkAll spare + 1
  | .agg parts => uptoBulkAll parts + 1
  | .iface _ d => uptoBulk d + 1
  | .map entries => uptoBulkEntries entries + 1
  | .held _ => 1
def uptoBulkAll {H : Type} : List (DataW H) → Nat
  | [] => 0
  | d :: r => uptoBulk d + uptoBulkAll r
def uptoBulkEntries {H : Type} : List (Lit × DataW H) → Nat
  | [] => 0
  | x :: r => uptoBulkEntry x + uptoBulkEntries r
def uptoBulkEntry {H : Type} : Lit × DataW H → Nat
  | (.string bytes, d) => bytes.length + uptoBulk d + 1
  | (_, d) => uptoBulk d + 1
 end
def uptoSmall : (H : Type) → List (DataW H) → Bool := fun _ ds => decide (uptoBulkAll ds ≤ 1048576)
def OpenSpec.upto (s : _root_.Go.ChangeSpec) : _root_.Go.OpenSpec := { _root_.Go.OpenSpec.ofChange s with cond := some uptoSmall }

/-- 'indenturelaw04.TagHashes', WHERE WHAT IT READS IS OF BULK AT MOST 1048576: true; the input reads as it did. -/
def tagHashesUptoRow : OpenClaim := { program := "ytljmhbchcadnbaadoor", sum := "f11ecdd5e0381a917acb567f4a623f85b60faab93e29074e73c0771743b57cdd", func := "indenture/indenturelaw04.TagHashes", spec := "tagHashes", named := ["indenture/sha.begin", "indenture/sha.rounds"], apart := false, laid := [("indenture/sha.begin", laid_indenture_sha_begin), ("indenture/sha.rounds", laid_indenture_sha_rounds)], narrowed := true }
def TagHashesUptoSaid : Prop := tagHashesUptoRow.holds Tryd.pinned (OpenSpec.upto tagHashesSpec)

/-- 'indenturelaw04.TagBytes', WHERE WHAT IT READS IS OF BULK AT MOST 1048576: true; the input reads as it did. -/
def tagBytesUptoRow : OpenClaim := { program := "ytljmhbchcadnbaadoor", sum := "f11ecdd5e0381a917acb567f4a623f85b60faab93e29074e73c0771743b57cdd", func := "indenture/indenturelaw04.TagBytes", spec := "tagBytes", named := ["indenture/sha.begin", "indenture/sha.rounds"], apart := false, laid := [("indenture/sha.begin", laid_indenture_sha_begin), ("indenture/sha.rounds", laid_indenture_sha_rounds)], narrowed := true }
def TagBytesUptoSaid : Prop := tagBytesUptoRow.holds Tryd.pinned (OpenSpec.upto tagBytesSpec)

/-- 'indenturelaw04.TagApart', WHERE WHAT IT READS IS OF BULK AT MOST 1048576: true; the input reads as it did. -/
def tagApartUptoRow : OpenClaim := { program := "ytljmhbchcadnbaadoor", sum := "f11ecdd5e0381a917acb567f4a623f85b60faab93e29074e73c0771743b57cdd", func := "indenture/indenturelaw04.TagApart", spec := "tagApart", named := ["indenture/sha.begin", "indenture/sha.rounds"], apart := false, laid := [("indenture/sha.begin", laid_indenture_sha_begin), ("indenture/sha.rounds", laid_indenture_sha_rounds)], narrowed := true }
def TagApartUptoSaid : Prop := tagApartUptoRow.holds Tryd.pinned (OpenSpec.upto tagApartSpec)

/-- 'indenturelaw04.TagSides', WHERE WHAT IT READS IS OF BULK AT MOST 1048576: true; the input reads as it did. -/
def tagSidesUptoRow : OpenClaim := { program := "ytljmhbchcadnbaadoor", sum := "f11ecdd5e0381a917acb567f4a623f85b60faab93e29074e73c0771743b57cdd", func := "indenture/indenturelaw04.TagSides", spec := "tagSides", named := ["indenture/sha.begin", "indenture/sha.rounds"], apart := false, laid := [("indenture/sha.begin", laid_indenture_sha_begin), ("indenture/sha.rounds", laid_indenture_sha_rounds)], narrowed := true }
def TagSidesUptoSaid : Prop := tagSidesUptoRow.holds Tryd.pinned (OpenSpec.upto tagSidesSpec)

/-- 'indenturelaw04.TagForks', WHERE WHAT IT READS IS OF BULK AT MOST 1048576: true; the input reads as it did. -/
def tagForksUptoRow : OpenClaim := { program := "ytljmhbchcadnbaadoor", sum := "f11ecdd5e0381a917acb567f4a623f85b60faab93e29074e73c0771743b57cdd", func := "indenture/indenturelaw04.TagForks", spec := "tagForks", named := ["indenture/sha.begin", "indenture/sha.rounds"], apart := false, laid := [("indenture/sha.begin", laid_indenture_sha_begin), ("indenture/sha.rounds", laid_indenture_sha_rounds)], narrowed := true }
def TagForksUptoSaid : Prop := tagForksUptoRow.holds Tryd.pinned (OpenSpec.upto tagForksSpec)

end Rows
end Go.Proofs.YtljmhbchcadnbaaDoor
