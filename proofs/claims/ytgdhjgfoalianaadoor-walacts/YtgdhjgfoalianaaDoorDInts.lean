/-
  indenturelaw05.ints: what the call does.
-/
import Derived.Test.YtgdhjgfoalianaaDoorDArgs
import Derived.Test.YtgdhjgfoalianaaDoorDUn
namespace Go.Proofs.YtgdhjgfoalianaaDoor
open Go.RowKit
theorem RdN.at {w : World} {v : Value} {l : List Int} (h : RdN w v l) : ∃ a cp, v = .slice a l.length cp ∧ l.length ≤ 9223372036854775807 ∧ (0 < l.length → ∃ b off, a = some ⟨b, off, none⟩ ∧ ∀ j (hj : j < l.length), w.cell? ⟨b, off + j, none⟩ = some (.int .i64 l[j])) := by
  obtain ⟨a, cp, rfl, h1, h2, h3, h4⟩ := h
  refine ⟨a, cp, rfl, by unfold maxLen at h2; omega, fun hp => ?_⟩
  obtain ⟨b, off, rfl, _, hc⟩ := h4 hp
  exact ⟨b, off, rfl, fun j hj => hc j hj⟩
end Go.Proofs.YtgdhjgfoalianaaDoor
