/-
  A State's cells; the tables.
-/
import Derived.Test.YtooffljimdklfaaDoorCells
namespace Go.Proofs.YtooffljimdklfaaDoor
open Go.RowKit

/-- The cells of a State. -/
def SC (m : Bool) (h : List W) (k : List UInt8) (n : Nat) : List Value := .bool m :: (Ws h ++ (By k ++ [.int .u64 (n : Int)]))
theorem SC_length {m : Bool} {h : List W} {k : List UInt8} {n : Nat} (hh : h.length = 8) (hk : k.length = 64) : (SC m h k n).length = 74 := by
  simp [SC, Ws_length, By_length, hh, hk]
theorem SC_made (m : Bool) (h : List W) (k : List UInt8) (n : Nat) : (SC m h k n)[0]? = some (.bool m) := rfl
theorem SC_word {m : Bool} {h : List W} {k : List UInt8} {n : Nat} (j : Nat) (hj : j < h.length) : (SC m h k n)[1 + j]? = some (wv (gW h j)) := by
  rw [Nat.add_comm, SC, List.getElem?_cons_succ, List.getElem?_append_left (by rw [Ws_length]; exact hj), Ws_get hj]
theorem SC_byte {m : Bool} {h : List W} {k : List UInt8} {n : Nat} (hh : h.length = 8) (j : Nat) (hj : j < k.length) : (SC m h k n)[9 + j]? = some (.int .u8 ((gB k j).toNat : Int)) := by
  rw [show 9 + j = (8 + j) + 1 by omega, SC, List.getElem?_cons_succ, List.getElem?_append_right (by rw [Ws_length]; omega), Ws_length, hh, Nat.add_sub_cancel_left,
    List.getElem?_append_left (by rw [By_length]; exact hj), By_get hj]
  simp [gB, List.getD, hj]
theorem SC_len {m : Bool} {h : List W} {k : List UInt8} {n : Nat} (hh : h.length = 8) (hk : k.length = 64) : (SC m h k n)[73]? = some (.int .u64 (n : Int)) := by
  rw [SC, List.getElem?_cons_succ, List.getElem?_append_right (by rw [Ws_length]; omega), Ws_length, hh, List.getElem?_append_right (by rw [By_length]; omega), By_length, hk]
  rfl
theorem SC_set_word {m : Bool} {h : List W} {k : List UInt8} {n : Nat} (j : Nat) (hj : j < h.length) (x : W) : (SC m h k n).set (1 + j) (wv x) = SC m (h.set j x) k n := by
  rw [Nat.add_comm, SC, List.set_cons_succ, List.set_append_left _ _ (by rw [Ws_length]; exact hj), Ws_set, SC]
theorem SC_set_len {m : Bool} {h : List W} {k : List UInt8} {n n' : Nat} (hh : h.length = 8) (hk : k.length = 64) : (SC m h k n).set 73 (.int .u64 (n' : Int)) = SC m h k n' := by
  rw [SC, List.set_cons_succ, List.set_append_right _ _ (by rw [Ws_length]; omega), Ws_length, hh, List.set_append_right _ _ (by rw [By_length]; omega), By_length, hk, SC]
  rfl
theorem SC_over {m : Bool} {h : List W} {k : List UInt8} {n : Nat} (hh : h.length = 8) (hk : k.length = 64) (o : Nat) (l : List UInt8) (ho : o + l.length ≤ 64) :
    over (SC m h k n) (9 + o) (By l) = SC m h (k.take o ++ l ++ k.drop (o + l.length)) n := by
  unfold over
  rw [By_length, show 9 + o = (8 + o) + 1 by omega, show 8 + o + 1 + l.length = (8 + (o + l.length)) + 1 by omega, SC, List.take_succ_cons, List.drop_succ_cons,
    List.take_append, List.drop_append, Ws_length, hh, List.take_of_length_le (by rw [Ws_length]; omega), List.drop_eq_nil_of_le (by rw [Ws_length]; omega),
    Nat.add_sub_cancel_left, Nat.add_sub_cancel_left, List.take_append, List.drop_append, By_length, hk, show o - 64 = 0 by omega, show o + l.length - 64 = 0 by omega]
  simp [SC, By, List.map_take, List.map_drop]

/-- The tables are laid. -/
structure Tabs (w : World) : Prop where
  size : 2 ≤ w.heap.size
  begin : ∀ j, j < 8 → w.cell? ⟨0, j, none⟩ = some (wv (gW H0 j))
  rounds : ∀ j, j < 64 → w.cell? ⟨1, j, none⟩ = some (wv (gW K j))
theorem Tabs.kept {w w' : World} (h : Tabs w) (hb : Below 2 w w') : Tabs w' :=
  ⟨Nat.le_trans h.size hb.size, fun j hj => (hb.cell (p := ⟨0, j, none⟩) (by show 0 < 2; omega)).trans (h.begin j hj), fun j hj => (hb.cell (p := ⟨1, j, none⟩) (by show 1 < 2; omega)).trans (h.rounds j hj)⟩
theorem Tabs.gr {w w' : World} (h : Tabs w) (hb : Below w.heap.size w w') : Tabs w' := h.kept (hb.mono h.size)
theorem Tabs.but {w w' : World} (h : Tabs w) {b : Nat} (hb : But b w w') (h2 : 2 ≤ b) : Tabs w' := h.kept (hb.below h2 h.size)
end Go.Proofs.YtooffljimdklfaaDoor
