/-
  indentureref03.Sum: what the call does.
-/
import Derived.Test.YtinlpaabmojmkabDoorPadded
import Derived.Test.YtinlpaabmojmkabDoorBlock
namespace Go.Proofs.YtinlpaabmojmkabDoor
open Go.RowKit
theorem Tryd.sizeT29 : (Tryd.prog.info? 29).map (·.size) = some 32 := by kernel_rfl
theorem padded_div (l : List UInt8) : (l ++ padb l.length).length = 64 * ((l ++ padb l.length).length / 64) := by
  rw [List.length_append, padb_length]
  omega
end Go.Proofs.YtinlpaabmojmkabDoor
