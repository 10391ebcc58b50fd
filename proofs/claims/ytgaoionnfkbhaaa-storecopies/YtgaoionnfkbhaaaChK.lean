/-
  The law's lives: what the call does.
-/
import Derived.Test.YtgaoionnfkbhaaaChJ
namespace Go.Proofs.Ytgaoionnfkbhaaa
open Go.RowKit

/-- The document's example. -/
def exL : List Ver := [(1, ⟨#[97]⟩, false), (3, ⟨#[]⟩, true), (5, ⟨#[98]⟩, false)]
theorem ex_get2 : getP exL 2 = ((1, ⟨#[97]⟩, false), true) := by decide +kernel
theorem ex_get4 : getP exL 4 = (zv, false) := by decide +kernel
theorem ex_trim : trimP exL 4 = [(5, ⟨#[98]⟩, false)] := by decide +kernel
end Go.Proofs.Ytgaoionnfkbhaaa
