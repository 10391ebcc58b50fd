/-
  What comes in, as the walks ask it: rows of bytes, each of which fits.
-/
import Derived.Test.YtooffljimdklfaaDoorArgsL
namespace Go.Proofs.YtooffljimdklfaaDoor
open Go.RowKit Go.ChangeShapes Go.WideShapes Go.ChangeAt Go.Deep
set_option maxRecDepth 4000

theorem weightsAll_mem {H : Type} {P : Program} {e : TypeId} : ∀ {l : List (DataW H)} {d : DataW H}, d ∈ l → ∀ n ∈ d.weights P e, n ∈ DataW.weightsAll P e l
  | d0 :: r, d, hd, n, hn => by
    simp only [DataW.weightsAll, List.mem_append]
    rcases List.mem_cons.1 hd with rfl | hd
    · exact .inl hn
    · exact .inr (weightsAll_mem hd n hn)

theorem rows_fit {H : Type} {enc : TypeId × Value → H} {W : World} {r : Reach} {base : Nat} {v : Value} {d : DataW H} {p : List MemPlace} {ts : List TypeId} {ds : List (DataW H)} {j : Nat} (hval : Value.okWide Tryd.prog W r base 121 v)
    (h : DataW.Trod enc Tryd.prog W 0 (fun _ => true) true 121 v d p) (hsz : (DataW.weightsEach Tryd.prog ts ds).all (· ≤ reachBytes) = true) (ht : ts[j]? = some 121) (hd : ds[j]? = some d) :
    ∃ L, RdR W v L ∧ ∀ l ∈ L, l.length ≤ 140737488351232 := by
  obtain ⟨a, len, cap, rfl⟩ := okWide_slice Tryd.underlying121 hval
  obtain ⟨fuel, hf⟩ := h
  rcases open_int_rows Tryd.underlying121 Tryd.underlying118 Tryd.underlying5 (by kernel_rfl) (by kernel_rfl) hf with ⟨hcs, _⟩ | ⟨x, l, c, A, LL, C, Z, hcs, _, hl, hm, hx, hrow⟩
  · simp [Value.cells] at hcs
    obtain ⟨rfl, rfl, rfl⟩ := hcs
    exact ⟨[], RdR_nil W, by simp⟩
  · simp [Value.cells] at hcs
    obtain ⟨rfl, rfl, rfl⟩ := hcs
    simp only [Prod.mk.injEq] at hx
    obtain ⟨rfl, -⟩ := hx
    have hall : ∀ j, j < len → ∃ l, Rd W (.slice (A j) (LL j) (C j)) l := fun j hj => by
      obtain ⟨-, q1, q2, q3, q4, q5, q6⟩ := hrow j (by omega)
      refine rd_of_row (zs := Z j) ?_
      cases hA : A j with
      | none =>
        have := q5 hA
        exact .inl ⟨rfl, by omega, this, List.eq_nil_of_length_eq_zero (by omega)⟩
      | some y => exact .inr ⟨y, rfl, q1, q2, q3, fun i hi => (q6 y hA).2 i (by omega), q4⟩
    refine ⟨(List.range len).map fun j => if h : j < len then (hall j h).choose else [], ⟨some x, cap, by simp, fun hp => ?_⟩, fun l hlm => ?_⟩
    · simp only [List.length_map, List.length_range] at hp
      obtain ⟨b, off, spot⟩ := x
      have h0 := (hrow 0 (by omega)).1
      have hspot : spot = none := by simpa [Addr.add] using World.cell?_spot h0
      subst hspot
      rw [Addr.add_lit] at h0
      refine ⟨b, off, rfl, World.block_lt_of_cell? _ _ h0, fun j hj => ?_⟩
      simp only [List.length_map, List.length_range] at hj
      refine ⟨.slice (A j) (LL j) (C j), ?_, ?_⟩
      · have := (hrow j (by omega)).1
        rwa [Addr.add_lit] at this
      · simp only [List.getElem_map, List.getElem_range, hj, dif_pos]
        exact (hall j hj).choose_spec
    · obtain ⟨j, hj, rfl⟩ := List.mem_map.1 hlm
      rw [List.mem_range] at hj
      rw [dif_pos hj]
      have hlen := args_len (hall j hj).choose_spec
      rw [hlen]
      obtain ⟨-, q1, q2, q3, q4, q5, q6⟩ := hrow j (by omega)
      cases hA : A j with
      | none => have := q5 hA; omega
      | some y =>
        have hw : (Z j).length ∈ (DataW.slice (H := H) ((List.range len).map fun r => intRow .u8 (A r) (LL r) (Z r)) ((List.range (cap - len)).map fun j => intRow .u8 (A (len + j)) (LL (len + j)) (Z (len + j)))).weights Tryd.prog 121 := by
          simp only [DataW.weights, Tryd.underlying121, List.mem_cons, List.mem_append]
          refine .inr (.inl (weightsAll_mem (d := intRow .u8 (A j) (LL j) (Z j)) (List.mem_map.2 ⟨j, by simpa using hj, rfl⟩) _ ?_))
          have hb : Tryd.prog.bytesOf 5 = 1 := by kernel_rfl
          simp [intRow, hA, DataW.weights, Tryd.underlying118, hb, lits]
          omega
        have := List.all_eq_true.1 hsz _ (DataW.weights_mem_each ht hd _ hw)
        have h2 : (Z j).length ≤ reachBytes := of_decide_eq_true this
        simp only [reachBytes] at h2
        omega
end Go.Proofs.YtooffljimdklfaaDoor
