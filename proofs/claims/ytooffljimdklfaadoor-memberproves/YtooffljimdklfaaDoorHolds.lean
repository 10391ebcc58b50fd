/-
  What a State holds of the bytes that were written; a copy of bytes into the middle of a block.
-/
import Derived.Test.YtooffljimdklfaaDoorState
import Derived.Laws.CopyOwn
namespace Go.Proofs.YtooffljimdklfaaDoor
open Go.RowKit

theorem blks_take (m l : List UInt8) : ∀ j, 64 * j ≤ m.length → blks (m ++ l) j = blks m j
  | 0, _ => rfl
  | j + 1, h => by
    rw [blks, blks, blks_take m l j (by omega)]
    congr 1
    rw [List.drop_append_of_le_length (by omega), List.take_append_of_le_length (by simp; omega)]
theorem blks_length (m : List UInt8) (hb : ∀ h b, h.length = 8 → (blk h b).length = 8) : ∀ j, (blks m j).length = 8
  | 0 => rfl
  | j + 1 => hb _ _ (blks_length m hb j)

/-- The words h and the block k are those of the bytes m. -/
structure Holds (h : List W) (k m : List UInt8) : Prop where
  words : h = blks m (m.length / 64)
  size : k.length = 64
  rest : k.take (m.length % 64) = m.drop (64 * (m.length / 64))

theorem holds_nil : Holds H0 (List.replicate 64 0) [] := ⟨rfl, rfl, rfl⟩

/-- Not yet a whole block. -/
theorem holds_few {h : List W} {k m l : List UInt8} (hh : Holds h k m) (hl : m.length % 64 + l.length < 64) :
    Holds h (k.take (m.length % 64) ++ l ++ k.drop (m.length % 64 + l.length)) (m ++ l) := by
  have hq : (m ++ l).length / 64 = m.length / 64 := by simp; omega
  have hr : (m ++ l).length % 64 = m.length % 64 + l.length := by simp; omega
  have hk := hh.size
  refine ⟨?_, ?_, ?_⟩
  · rw [hq, blks_take _ _ _ (by omega)]; exact hh.words
  · simp [hk]; omega
  · rw [hq, hr, List.drop_append_of_le_length (by omega), ← hh.rest]
    rw [List.take_append_of_le_length (by simp [hk]; omega), List.take_of_length_le (by simp [hk]; omega)]
/-- The block is full now. -/
theorem full_block {h : List W} {k m l : List UInt8} (hh : Holds h k m) :
    k.take (m.length % 64) ++ l.take (64 - m.length % 64) = ((m ++ l).drop (64 * (m.length / 64))).take 64 := by
  have hd : (m.drop (64 * (m.length / 64))).length = m.length % 64 := by simp; omega
  rw [hh.rest, List.drop_append_of_le_length (by omega), List.take_append, hd, List.take_of_length_le (l := m.drop _) (by omega)]
theorem full_words {h : List W} {k m l : List UInt8} (hh : Holds h k m) :
    blk h (k.take (m.length % 64) ++ l.take (64 - m.length % 64)) = blks (m ++ l) (m.length / 64 + 1) := by
  rw [full_block hh, blks, blks_take _ _ _ (by omega), hh.words]
theorem full_rest (m l : List UInt8) : l.drop (64 - m.length % 64) = (m ++ l).drop (64 * (m.length / 64 + 1)) := by
  rw [List.drop_append, (List.drop_eq_nil_of_le (by omega) : m.drop (64 * (m.length / 64 + 1)) = []), List.nil_append]
  congr 1
  omega
theorem none_rest (m l : List UInt8) (hr : m.length % 64 = 0) : l = (m ++ l).drop (64 * (m.length / 64)) := by
  rw [List.drop_append_of_le_length (by omega), List.drop_eq_nil_of_le (by omega), List.nil_append]
theorem none_words {h : List W} {k m : List UInt8} (l : List UInt8) (hh : Holds h k m) : h = blks (m ++ l) (m.length / 64) := by
  rw [blks_take _ _ _ (by omega)]; exact hh.words
/-- What is left over at the end. -/
theorem holds_end (M k : List UInt8) (j : Nat) (hk : k.length = 64) (hj : 64 * j ≤ M.length) (hr : (M.drop (64 * j)).length < 64) :
    Holds (blks M j) (M.drop (64 * j) ++ k.drop (M.drop (64 * j)).length) M := by
  have hl : (M.drop (64 * j)).length = M.length - 64 * j := by simp
  have hq : M.length / 64 = j := by omega
  have hm : M.length % 64 = M.length - 64 * j := by omega
  refine ⟨by rw [hq], by rw [List.length_append, hl, List.length_drop, hk]; omega, ?_⟩
  rw [hq, hm, List.take_append_of_le_length (by omega), List.take_of_length_le (by omega)]

end Go.Proofs.YtooffljimdklfaaDoor
