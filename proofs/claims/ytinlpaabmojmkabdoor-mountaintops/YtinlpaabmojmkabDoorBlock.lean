/-
  indentureref03.keys, indentureref03.block: what the calls do.
-/
import Derived.Test.YtinlpaabmojmkabDoorEnded
namespace Go.Proofs.YtinlpaabmojmkabDoor
open Go.RowKit
theorem eight {l : List W} (h : l.length = 8) : ∃ x0 x1 x2 x3 x4 x5 x6 x7 : W, l = [x0, x1, x2, x3, x4, x5, x6, x7] := by
  match l, h with
  | [a, b, c, d, e, f, g, i], _ => exact ⟨a, b, c, d, e, f, g, i, rfl⟩
end Go.Proofs.YtinlpaabmojmkabDoor
