/-
  What comes in, as the walks ask it: rows of bytes.
-/
import Derived.Test.YtooffljimdklfaaDoorArgsB
import Derived.Test.YtooffljimdklfaaDoorRowsB
import Derived.Deep.Matrix
namespace Go.Proofs.YtooffljimdklfaaDoor
open Go.RowKit Go.ChangeShapes Go.WideShapes Go.ChangeAt Go.Deep
set_option maxRecDepth 4000

theorem rows_arg {H : Type} {enc : TypeId × Value → H} {W : World} {r : Reach} {base : Nat} {v : Value} {d : DataW H} {p : List MemPlace} (hval : Value.okWide Tryd.prog W r base 121 v)
    (h : DataW.Trod enc Tryd.prog W 0 (fun _ => true) true 121 v d p) : ∃ L, RdR W v L := by
  obtain ⟨a, len, cap, rfl⟩ := okWide_slice Tryd.underlying121 hval
  obtain ⟨fuel, hf⟩ := h
  rcases open_int_rows Tryd.underlying121 Tryd.underlying118 Tryd.underlying5 (by kernel_rfl) (by kernel_rfl) hf with ⟨hcs, _⟩ | ⟨x, l, c, A, LL, C, Z, hcs, _, hl, hm, -, hrow⟩
  · simp [Value.cells] at hcs
    obtain ⟨rfl, rfl, rfl⟩ := hcs
    exact ⟨[], RdR_nil W⟩
  · simp [Value.cells] at hcs
    obtain ⟨rfl, rfl, rfl⟩ := hcs
    have hall : ∀ j, j < len → ∃ l, Rd W (.slice (A j) (LL j) (C j)) l := fun j hj => by
      obtain ⟨-, q1, q2, q3, q4, q5, q6⟩ := hrow j (by omega)
      refine rd_of_row (zs := Z j) ?_
      cases hA : A j with
      | none =>
        have := q5 hA
        exact .inl ⟨rfl, by omega, this, List.eq_nil_of_length_eq_zero (by omega)⟩
      | some y => exact .inr ⟨y, rfl, q1, q2, q3, fun i hi => (q6 y hA).2 i (by omega), q4⟩
    refine ⟨(List.range len).map fun j => if h : j < len then (hall j h).choose else [], some x, cap, by simp, fun hp => ?_⟩
    simp only [List.length_map, List.length_range] at hp
    obtain ⟨b, off, spot⟩ := x
    have h0 := (hrow 0 (by omega)).1
    have hspot : spot = none := by simpa [Addr.add] using World.cell?_spot h0
    subst hspot
    rw [Addr.add_lit] at h0
    refine ⟨b, off, rfl, World.block_lt_of_cell? _ _ h0, fun j hj => ?_⟩
    simp only [List.length_map, List.length_range] at hj
    refine ⟨.slice (A j) (LL j) (C j), ?_, ?_⟩
    · have := (hrow j (by omega)).1
      rwa [Addr.add_lit] at this
    · simp only [List.getElem_map, List.getElem_range, hj, dif_pos]
      exact (hall j hj).choose_spec
end Go.Proofs.YtooffljimdklfaaDoor
