/-
  package buffer: New, isMade, Len, Get, write, Put, Drop: what the calls do.
-/
import Derived.Test.YthniaoacanabdaaBfM
namespace Go.Proofs.Ythniaoacanabdaa
open Go.RowKit
end Go.Proofs.Ythniaoacanabdaa
