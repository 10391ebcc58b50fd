/-
  indentureref01.GetNum: what the call does.
-/
import Derived.Test.YtcfakmjkbgcbhabGet
import Derived.Test.YtcfakmjkbgcbhabPlain2
namespace Go.Proofs.Ytcfakmjkbgcbhab
open Go.RowKit

theorem shl_add (N y : Nat) (hN : N < 72057594037927936) (hy : y < 256) : IntKind.u64.wrap (IntKind.u64.wrap ((N : Int) * 256) + (y : Int)) = ((N * 256 + y : Nat) : Int) := by
  rw [IntKind.wrap_u64, IntKind.wrap_u64]
  omega

end Go.Proofs.Ytcfakmjkbgcbhab
