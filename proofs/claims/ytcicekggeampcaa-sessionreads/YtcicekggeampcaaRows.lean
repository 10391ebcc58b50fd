/-
  No cell of these rows narrows 'for every input' (looked for: loops, veiled, ifaces, maps, wideKeys, modest, calm, conditions, laid).
  DERIVED. THE GIVEN ROWS OF THIS SEAT. 5 by the template 'for every input the law returns true; each argument reads behind the call as it read before'; 0 by the template 'total and deterministic' (their statements: YtcicekggeampcaaTotals.lean).
  GIVEN WITH THE SEED: the statements are not yours to turn. If you find one false, say at which input.
  Laid BY PROGRAM, IN A SANDBOX (cutbox-rows.mjs): the forced cells as the released guide's own fill.sh prints them over the translation ca49126b8e63243e… (all of the seat's roots in one cut). By AI agents, Wed Nov 11 2026. No macro, syntax, notation, axiom, sorry.
-/
import Derived.Test.YtcicekggeampcaaChecked
import GoSem.Claim
import GoSem.ClaimJoined
import GoSem.ClaimMapViews
import Derived.JoinedTies
import Derived.KernelRfl
namespace Go.Proofs.Ytcicekggeampcaa
/- THE CELL 'sum', in the pinned program and in every row, IS THE sha256 OF THE DUMP (.gsa) THAT YtcicekggeampcaaProg.lean LOADS. Nothing in Lean hashes anything: it is a label: what it is worth is what the hold of that sum in a sandbox is worth. -/
noncomputable def Try.pinned : Pinned := { name := "ytcicekggeampcaa", sum := "ca49126b8e63243e0f63e904772fd5759a62539e72355aca9bd8cb1349d5301e", checked := Try.checked }
namespace Rows
def none {H : Type} : Left H := { results := [], args := [] }

/-- 'indenturelaw15.SessionSees': WHATEVER THE INPUT: true; the input reads as it did. -/
def sessionSeesSpec : ChangeSpec := { name := "sessionSees", fn := fun _ => fun
  | [d1, d2, d3] => { results := [.lit (.bool true)], args := [d1, d2, d3] }
  | _ => none }
def sessionSeesRow : OpenClaim := { program := "ytcicekggeampcaa", sum := "ca49126b8e63243e0f63e904772fd5759a62539e72355aca9bd8cb1349d5301e", func := "indenture/indenturelaw15.SessionSees", spec := "sessionSees", inPlace := ["sync/atomic.LoadInt64", "sync/atomic.AddInt64", "internal/bytealg.abigen_runtime_cmpstring"], unfollowed := true, recurses := true, apart := false }
def SessionSeesSaid : Prop := sessionSeesRow.holds Try.pinned (OpenSpec.ofChange sessionSeesSpec)

/-- ITS FALSE NEIGHBOUR: 'it returns false'. Refute it at one input. -/
def sessionSeesWrong : ChangeSpec := { name := "sessionSees", fn := fun _ => fun
  | [d1, d2, d3] => { results := [.lit (.bool false)], args := [d1, d2, d3] }
  | _ => none }
def SessionSeesWrongFalsely : Prop := sessionSeesRow.holds Try.pinned (OpenSpec.ofChange sessionSeesWrong)

/-- 'indenturelaw15.SessionLimits': WHATEVER THE INPUT: true; the input reads as it did. -/
def sessionLimitsSpec : ChangeSpec := { name := "sessionLimits", fn := fun _ => fun
  | [d1, d2] => { results := [.lit (.bool true)], args := [d1, d2] }
  | _ => none }
def sessionLimitsRow : OpenClaim := { program := "ytcicekggeampcaa", sum := "ca49126b8e63243e0f63e904772fd5759a62539e72355aca9bd8cb1349d5301e", func := "indenture/indenturelaw15.SessionLimits", spec := "sessionLimits", inPlace := ["sync/atomic.LoadInt64", "sync/atomic.AddInt64", "internal/bytealg.abigen_runtime_cmpstring"], unfollowed := true, recurses := true, apart := false }
def SessionLimitsSaid : Prop := sessionLimitsRow.holds Try.pinned (OpenSpec.ofChange sessionLimitsSpec)

/-- ITS FALSE NEIGHBOUR: 'it returns false'. Refute it at one input. -/
def sessionLimitsWrong : ChangeSpec := { name := "sessionLimits", fn := fun _ => fun
  | [d1, d2] => { results := [.lit (.bool false)], args := [d1, d2] }
  | _ => none }
def SessionLimitsWrongFalsely : Prop := sessionLimitsRow.holds Try.pinned (OpenSpec.ofChange sessionLimitsWrong)

/-- 'indenturelaw15.SessionNone': WHATEVER THE INPUT: true; the input reads as it did. -/
def sessionNoneSpec : ChangeSpec := { name := "sessionNone", fn := fun _ => fun
  | [d] => { results := [.lit (.bool true)], args := [d] }
  | _ => none }
def sessionNoneRow : OpenClaim := { program := "ytcicekggeampcaa", sum := "ca49126b8e63243e0f63e904772fd5759a62539e72355aca9bd8cb1349d5301e", func := "indenture/indenturelaw15.SessionNone", spec := "sessionNone", inPlace := ["sync/atomic.LoadInt64", "sync/atomic.AddInt64", "internal/bytealg.abigen_runtime_cmpstring"], unfollowed := true, recurses := true, apart := false }
def SessionNoneSaid : Prop := sessionNoneRow.holds Try.pinned (OpenSpec.ofChange sessionNoneSpec)

/-- ITS FALSE NEIGHBOUR: 'it returns false'. Refute it at one input. -/
def sessionNoneWrong : ChangeSpec := { name := "sessionNone", fn := fun _ => fun
  | [d] => { results := [.lit (.bool false)], args := [d] }
  | _ => none }
def SessionNoneWrongFalsely : Prop := sessionNoneRow.holds Try.pinned (OpenSpec.ofChange sessionNoneWrong)

/-- 'indenturelaw15.SessionReads': WHATEVER THE INPUT: true; the input reads as it did. -/
def sessionReadsSpec : ChangeSpec := { name := "sessionReads", fn := fun _ => fun
  | [d1, d2] => { results := [.lit (.bool true)], args := [d1, d2] }
  | _ => none }
def sessionReadsRow : OpenClaim := { program := "ytcicekggeampcaa", sum := "ca49126b8e63243e0f63e904772fd5759a62539e72355aca9bd8cb1349d5301e", func := "indenture/indenturelaw15.SessionReads", spec := "sessionReads", inPlace := ["sync/atomic.LoadInt64", "sync/atomic.AddInt64", "internal/bytealg.abigen_runtime_cmpstring"], unfollowed := true, recurses := true, apart := false }
def SessionReadsSaid : Prop := sessionReadsRow.holds Try.pinned (OpenSpec.ofChange sessionReadsSpec)

/-- ITS FALSE NEIGHBOUR: 'it returns false'. Refute it at one input. -/
def sessionReadsWrong : ChangeSpec := { name := "sessionReads", fn := fun _ => fun
  | [d1, d2] => { results := [.lit (.bool false)], args := [d1, d2] }
  | _ => none }
def SessionReadsWrongFalsely : Prop := sessionReadsRow.holds Try.pinned (OpenSpec.ofChange sessionReadsWrong)

/-- 'indenturelaw15.SessionScans': WHATEVER THE INPUT: true; the input reads as it did. -/
def sessionScansSpec : ChangeSpec := { name := "sessionScans", fn := fun _ => fun
  | [d1, d2, d3] => { results := [.lit (.bool true)], args := [d1, d2, d3] }
  | _ => none }
def sessionScansRow : OpenClaim := { program := "ytcicekggeampcaa", sum := "ca49126b8e63243e0f63e904772fd5759a62539e72355aca9bd8cb1349d5301e", func := "indenture/indenturelaw15.SessionScans", spec := "sessionScans", inPlace := ["sync/atomic.LoadInt64", "sync/atomic.AddInt64", "internal/bytealg.abigen_runtime_cmpstring"], unfollowed := true, recurses := true, apart := false }
def SessionScansSaid : Prop := sessionScansRow.holds Try.pinned (OpenSpec.ofChange sessionScansSpec)

/-- ITS FALSE NEIGHBOUR: 'it returns false'. Refute it at one input. -/
def sessionScansWrong : ChangeSpec := { name := "sessionScans", fn := fun _ => fun
  | [d1, d2, d3] => { results := [.lit (.bool false)], args := [d1, d2, d3] }
  | _ => none }
def SessionScansWrongFalsely : Prop := sessionScansRow.holds Try.pinned (OpenSpec.ofChange sessionScansWrong)

/- THE SECOND FORM. 'bulk': how many values and letters a reading holds, each counted each time it is reached (what is shared counts as often as it is met; a slice's spare places count too). A statement '..UptoSaid' is the law's where the arguments, and the package variables that the reading takes, are together of bulk at most 1048576: NARROWER than '..Said'. Prove '..Said' where nothing that the law and all that it calls make is longer than what came in: it says more and counts as full. Else prove '..UptoSaid'. A law counts once. -/
mutual
def uptoBulk {H : Type} : DataW H → Nat
  | .lit (.string bytes) => bytes.length + 1
  | .lit _ => 1
  | .nil => 1
  | .ptr d => uptoBulk d + 1
  | .slice elems spare => uptoBulkAll elems + uptoBulkAll spare + 1
  | .agg parts => uptoBulkAll parts + 1
  | .iface _ d => uptoBulk d + 1
  | .map entries => uptoBulkEntries entries + 1
  | .held _ => 1
def uptoBulkAll {H : Type} : List (DataW H) → Nat
  | [] => 0
  | d :: r => uptoBulk d + uptoBulkAll r
def uptoBulkEntries {H : Type} : List (Lit × DataW H) → Nat
  | [] => 0
  | x :: r => uptoBulkEntry x + uptoBulkEntries r
def uptoBulkEntry {H : Type} : Lit × DataW H → Nat
  | (.string bytes, d) => bytes.length + uptoBulk d + 1
  | (_, d) => uptoBulk d + 1
 end
def uptoSmall : (H : Type) → List (DataW H) → Bool := fun _ ds => decide (uptoBulkAll ds ≤ 1048576)
def OpenSpec.upto (s : _root_.Go.ChangeSpec) : _root_.Go.OpenSpec := { _root_.Go.OpenSpec.ofChange s with cond := some uptoSmall }

/-- 'indenturelaw15.SessionSees', WHERE WHAT IT READS IS OF BULK AT MOST 1048576: true; the input reads as it did. -/
def sessionSeesUptoRow : OpenClaim := { program := "ytcicekggeampcaa", sum := "ca49126b8e63243e0f63e904772fd5759a62539e72355aca9bd8cb1349d5301e", func := "indenture/indenturelaw15.SessionSees", spec := "sessionSees", inPlace := ["sync/atomic.LoadInt64", "sync/atomic.AddInt64", "internal/bytealg.abigen_runtime_cmpstring"], unfollowed := true, recurses := true, apart := false, narrowed := true }
def SessionSeesUptoSaid : Prop := sessionSeesUptoRow.holds Try.pinned (OpenSpec.upto sessionSeesSpec)

/-- 'indenturelaw15.SessionLimits', WHERE WHAT IT READS IS OF BULK AT MOST 1048576: true; the input reads as it did. -/
def sessionLimitsUptoRow : OpenClaim := { program := "ytcicekggeampcaa", sum := "ca49126b8e63243e0f63e904772fd5759a62539e72355aca9bd8cb1349d5301e", func := "indenture/indenturelaw15.SessionLimits", spec := "sessionLimits", inPlace := ["sync/atomic.LoadInt64", "sync/atomic.AddInt64", "internal/bytealg.abigen_runtime_cmpstring"], unfollowed := true, recurses := true, apart := false, narrowed := true }
def SessionLimitsUptoSaid : Prop := sessionLimitsUptoRow.holds Try.pinned (OpenSpec.upto sessionLimitsSpec)

/-- 'indenturelaw15.SessionNone', WHERE WHAT IT READS IS OF BULK AT MOST 1048576: true; the input reads as it did. -/
def sessionNoneUptoRow : OpenClaim := { program := "ytcicekggeampcaa", sum := "ca49126b8e63243e0f63e904772fd5759a62539e72355aca9bd8cb1349d5301e", func := "indenture/indenturelaw15.SessionNone", spec := "sessionNone", inPlace := ["sync/atomic.LoadInt64", "sync/atomic.AddInt64", "internal/bytealg.abigen_runtime_cmpstring"], unfollowed := true, recurses := true, apart := false, narrowed := true }
def SessionNoneUptoSaid : Prop := sessionNoneUptoRow.holds Try.pinned (OpenSpec.upto sessionNoneSpec)

/-- 'indenturelaw15.SessionReads', WHERE WHAT IT READS IS OF BULK AT MOST 1048576: true; the input reads as it did. -/
def sessionReadsUptoRow : OpenClaim := { program := "ytcicekggeampcaa", sum := "ca49126b8e63243e0f63e904772fd5759a62539e72355aca9bd8cb1349d5301e", func := "indenture/indenturelaw15.SessionReads", spec := "sessionReads", inPlace := ["sync/atomic.LoadInt64", "sync/atomic.AddInt64", "internal/bytealg.abigen_runtime_cmpstring"], unfollowed := true, recurses := true, apart := false, narrowed := true }
def SessionReadsUptoSaid : Prop := sessionReadsUptoRow.holds Try.pinned (OpenSpec.upto sessionReadsSpec)

/-- 'indenturelaw15.SessionScans', WHERE WHAT IT READS IS OF BULK AT MOST 1048576: true; the input reads as it did. -/
def sessionScansUptoRow : OpenClaim := { program := "ytcicekggeampcaa", sum := "ca49126b8e63243e0f63e904772fd5759a62539e72355aca9bd8cb1349d5301e", func := "indenture/indenturelaw15.SessionScans", spec := "sessionScans", inPlace := ["sync/atomic.LoadInt64", "sync/atomic.AddInt64", "internal/bytealg.abigen_runtime_cmpstring"], unfollowed := true, recurses := true, apart := false, narrowed := true }
def SessionScansUptoSaid : Prop := sessionScansUptoRow.holds Try.pinned (OpenSpec.upto sessionScansSpec)

end Rows
end Go.Proofs.Ytcicekggeampcaa
