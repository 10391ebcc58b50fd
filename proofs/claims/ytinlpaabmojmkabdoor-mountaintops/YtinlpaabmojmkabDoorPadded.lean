/-
  indentureref03.padded: what the call does.
-/
import Derived.Test.YtinlpaabmojmkabDoorSums
import Derived.Test.YtinlpaabmojmkabDoorHashB
namespace Go.Proofs.YtinlpaabmojmkabDoor
open Go.RowKit
theorem be8_take (n k : Nat) (hk : k < 8) : (be8 n).take (k + 1) = (be8 n).take k ++ [UInt8.ofNat (n / 2 ^ (8 * (7 - k)))] := by
  rw [List.take_add_one, be8_get n k hk]
  rfl
end Go.Proofs.YtinlpaabmojmkabDoor
