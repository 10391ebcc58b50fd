/-
  indentureref01.Num, Str, Flag: what the calls do.
-/
import Derived.Test.YtcfakmjkbgcbhabNum
namespace Go.Proofs.Ytcfakmjkbgcbhab
open Go.RowKit

/-- A new slice without elements is the call's own. -/
theorem own_none (w : World) (B : Nat) (hB : B ≤ w.heap.size) : Own (w.alloc (.cells #[] 5 (0, 0))) B (.slice (some ⟨w.heap.size, 0, none⟩) 0 0) [] :=
  ⟨rfl, .inr ⟨w.heap.size, 0, #[], rfl, hB, heap_alloc_new w _, Nat.le_refl _, by simp [maxLen], rfl, rfl⟩⟩
/-- A new slice of one byte is the call's own. -/
theorem own_one (w : World) (B : Nat) (hB : B ≤ w.heap.size) (x : UInt8) : Own (w.alloc (.cells #[.int .u8 (x.toNat : Int)] 5 (0, 0))) B (.slice (some ⟨w.heap.size, 0, none⟩) 1 1) [x] :=
  ⟨rfl, .inr ⟨w.heap.size, 1, _, rfl, hB, heap_alloc_new w _, Nat.le_refl _, by simp [maxLen], rfl, rfl⟩⟩

theorem own_one' (w : World) (B : Nat) (hB : B ≤ w.heap.size) (x : UInt8) (y : Int) (hy : Hid (y = (x.toNat : Int))) : Own (w.alloc (.cells #[.int .u8 y] 5 (0, 0))) B (.slice (some ⟨w.heap.size, 0, none⟩) 1 1) [x] := by
  rw [hy.out]; exact own_one w B hB x

end Go.Proofs.Ytcfakmjkbgcbhab
