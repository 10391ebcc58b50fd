/-
  A block of cells: what it reads as, a cell of it set; a world that is as another but for one block; words as cells.
-/
import Derived.Test.YtooffljimdklfaaDoorWords
import Derived.Test.YtooffljimdklfaaDoorBase
namespace Go.Proofs.YtooffljimdklfaaDoor
open Go.RowKit

/-- Words as cells. -/
def Ws (l : List W) : List Value := l.map wv
theorem Ws_length (l : List W) : (Ws l).length = l.length := by simp [Ws]
theorem Ws_append (l m : List W) : Ws (l ++ m) = Ws l ++ Ws m := by simp [Ws]
theorem Ws_one (l : List W) : ∀ u ∈ Ws l, u.oneCell' = true := by
  intro u hu
  obtain ⟨_, _, rfl⟩ := List.mem_map.1 hu
  rfl
theorem Ws_get {l : List W} {j : Nat} (h : j < l.length) : (Ws l)[j]? = some (wv (gW l j)) := by
  simp [Ws, h, gW, List.getD]
theorem Ws_set (l : List W) (j : Nat) (x : W) : (Ws l).set j (wv x) = Ws (l.set j x) := by simp [Ws, List.map_set]

end Go.Proofs.YtooffljimdklfaaDoor
