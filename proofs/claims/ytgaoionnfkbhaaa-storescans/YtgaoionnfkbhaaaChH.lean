/-
  Versions held against each other; the reference's Same and Put: what the calls do.
-/
import Derived.Test.YtgaoionnfkbhaaaChG
import Derived.Laws.StructEq
namespace Go.Proofs.Ytgaoionnfkbhaaa
open Go.RowKit

theorem ba_inj {s t : ByteArray} : s.toList = t.toList ↔ s = t := by
  rw [ByteArray.toList_eq, ByteArray.toList_eq]
  obtain ⟨⟨x⟩⟩ := s
  obtain ⟨⟨y⟩⟩ := t
  simp
theorem eq_ver (x y : Ver) (W : World) : (binOp .eql 76 (.agg (VC x).toArray) (.agg (VC y).toArray)).run Try.prog W = .ok (.bool (decide (x = y))) W := by
  have u3 := Try.underlying3
  have u4 := Try.underlying4
  have u9 := Try.underlying9
  obtain ⟨a, s, d⟩ := x
  obtain ⟨a', s', d'⟩ := y
  rw [run_eql_struct, run_equalIn_agg W 9999 76 _ _ (by kernel_rfl) (by kernel_rfl)]
  simp [Program.fieldsOf, Try.underlying76, Op.eqFields, VC, go_sem, part, u3, u4, u9, ba_inj]
  by_cases h1 : a = a' <;> by_cases h2 : s = s' <;> by_cases h3 : d = d' <;> simp [h1, h2, h3]
theorem ne_ver (x y : Ver) (W : World) : (binOp .neq 76 (.agg (VC x).toArray) (.agg (VC y).toArray)).run Try.prog W = .ok (.bool (!decide (x = y))) W := by
  have u3 := Try.underlying3
  have u4 := Try.underlying4
  have u9 := Try.underlying9
  obtain ⟨a, s, d⟩ := x
  obtain ⟨a', s', d'⟩ := y
  rw [run_neq_struct, run_equalIn_agg W 9999 76 _ _ (by kernel_rfl) (by kernel_rfl)]
  simp [Program.fieldsOf, Try.underlying76, Op.eqFields, VC, go_sem, part, u3, u4, u9, ba_inj]
  by_cases h1 : a = a' <;> by_cases h2 : s = s' <;> by_cases h3 : d = d' <;> simp [h1, h2, h3]
theorem eq_rver (x y : Ver) (W : World) : (binOp .eql 87 (.agg (VC x).toArray) (.agg (VC y).toArray)).run Try.prog W = .ok (.bool (decide (x = y))) W := by
  have u3 := Try.underlying3
  have u4 := Try.underlying4
  have u9 := Try.underlying9
  obtain ⟨a, s, d⟩ := x
  obtain ⟨a', s', d'⟩ := y
  rw [run_eql_struct, run_equalIn_agg W 9999 87 _ _ (by kernel_rfl) (by kernel_rfl)]
  simp [Program.fieldsOf, Try.underlying87, Op.eqFields, VC, go_sem, part, u3, u4, u9, ba_inj]
  by_cases h1 : a = a' <;> by_cases h2 : s = s' <;> by_cases h3 : d = d' <;> simp [h1, h2, h3]
theorem ne_rver (x y : Ver) (W : World) : (binOp .neq 87 (.agg (VC x).toArray) (.agg (VC y).toArray)).run Try.prog W = .ok (.bool (!decide (x = y))) W := by
  have u3 := Try.underlying3
  have u4 := Try.underlying4
  have u9 := Try.underlying9
  obtain ⟨a, s, d⟩ := x
  obtain ⟨a', s', d'⟩ := y
  rw [run_neq_struct, run_equalIn_agg W 9999 87 _ _ (by kernel_rfl) (by kernel_rfl)]
  simp [Program.fieldsOf, Try.underlying87, Op.eqFields, VC, go_sem, part, u3, u4, u9, ba_inj]
  by_cases h1 : a = a' <;> by_cases h2 : s = s' <;> by_cases h3 : d = d' <;> simp [h1, h2, h3]

end Go.Proofs.Ytgaoionnfkbhaaa
