/-
  The reference's Get: what the call does.
-/
import Derived.Test.YtgaoionnfkbhaabChF
namespace Go.Proofs.Ytgaoionnfkbhaab
open Go.RowKit

/-- What the loop holds: the last one, or none. -/
def lastOr (M : List Ver) : Ver := M.getLast?.getD zv
theorem lastOr_snoc (M : List Ver) (v : Ver) : lastOr (M ++ [v]) = v := by simp [lastOr]
theorem lastOr_some {M : List Ver} (h : M ≠ []) : M.getLast? = some (lastOr M) := by
  unfold lastOr
  cases e : M.getLast? with
  | none => exact absurd (List.getLast?_eq_none_iff.1 e) h
  | some v => rfl

end Go.Proofs.Ytgaoionnfkbhaab
