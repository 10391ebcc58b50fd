/-
  What comes in, as the walks ask it: items, hashes, a proof.
-/
import Derived.Test.YtooffljimdklfaaDoorG12a
import Derived.Test.YtooffljimdklfaaDoorG11l
namespace Go.Proofs.YtooffljimdklfaaDoor
open Go.RowKit Go.ChangeShapes Go.WideShapes Go.ChangeAt Go.Deep
set_option maxRecDepth 4000
section
variable {H : Type} {enc : TypeId × Value → H} {W : World}
theorem item_cell (n : Nat) (cs : List Value) (y : DataW H × List MemPlace) (h : DataW.trod enc Tryd.prog W 0 (fun _ => true) true n 63 cs = some y) : ∃ x : It, cs = IE.c x ∧ True := by
  obtain ⟨xs, k, _, hy, hl, hlen, hf⟩ := DataW.trod_struct Tryd.underlying63 h
  have hcl : cs.length = 64 := by rw [hl]; kernel_rfl
  have kh : Tryd.prog.cellsOf 24 = 32 := by kernel_rfl
  have hx2 : xs.length = 2 := hlen
  match xs, hx2 with
  | [x0, x1], _ =>
    have g0 : DataW.trod enc Tryd.prog W 0 (fun _ => true) true k 24 (cs.take 32) = some x0 := by simpa [kh] using hf 0 _ rfl
    have g1 : DataW.trod enc Tryd.prog W 0 (fun _ => true) true k 24 ((cs.drop 32).take 32) = some x1 := by simpa [kh] using hf 1 _ rfl
    obtain ⟨l0, e0, h0⟩ := hash_cells g0
    obtain ⟨l1, e1, h1⟩ := hash_cells g1
    refine ⟨(⟨l0, h0⟩, ⟨l1, h1⟩), ?_, trivial⟩
    show cs = By l0 ++ By l1
    rw [← e0, ← e1]
    have a1 : cs = cs.take 32 ++ cs.drop 32 := (List.take_append_drop _ _).symm
    have a2 : (cs.drop 32).take 32 = cs.drop 32 := List.take_of_length_le (by rw [List.length_drop, hcl]; decide)
    rw [a2, ← a1]
theorem item_arg12 {r : Reach} {base : Nat} {v : Value} {d : DataW H} {p : List MemPlace} (hval : Value.okWide Tryd.prog W r base 63 v) (h : DataW.Trod enc Tryd.prog W 0 (fun _ => true) true 63 v d p) : ∃ x : It, v = .agg (IE.c x).toArray := by
  obtain ⟨cs, rfl, _⟩ := okWide_struct Tryd.underlying63 hval
  obtain ⟨fuel, hf⟩ := h
  obtain ⟨x, e, _⟩ := item_cell _ _ _ hf
  refine ⟨x, ?_⟩
  have e' : cs.toList = IE.c x := by simpa [Value.cells] using e
  rw [← e']
theorem items_arg12 {r : Reach} {base : Nat} {v : Value} {d : DataW H} {p : List MemPlace} (hval : Value.okWide Tryd.prog W r base 22 v) (h : DataW.Trod enc Tryd.prog W 0 (fun _ => true) true 22 v d p) : ∃ L : List It, RdG IE W v L := by
  obtain ⟨a, len, cap, rfl⟩ := okWide_slice Tryd.underlying22 hval
  obtain ⟨fuel, hf⟩ := h
  have ka : Tryd.prog.cellsOf 63 = IE.n := by kernel_rfl
  have hf' : DataW.trod enc Tryd.prog W 0 (fun _ => true) true fuel 22 [.slice a len cap] = some (d, p) := by simpa [Value.cells] using hf
  obtain ⟨L, hL, _⟩ := slice_open (E := IE) (Q := fun _ _ => True) (by decide) Tryd.underlying22 ka zi item_cell hf'
  exact ⟨L, hL⟩
theorem hashes_arg12 {r : Reach} {base : Nat} {v : Value} {d : DataW H} {p : List MemPlace} (hval : Value.okWide Tryd.prog W r base 25 v) (h : DataW.Trod enc Tryd.prog W 0 (fun _ => true) true 25 v d p) : ∃ L : List Hs, RdG HE W v L := by
  obtain ⟨a, len, cap, rfl⟩ := okWide_slice Tryd.underlying25 hval
  obtain ⟨fuel, hf⟩ := h
  have ka : Tryd.prog.cellsOf 24 = HE.n := by kernel_rfl
  have hf' : DataW.trod enc Tryd.prog W 0 (fun _ => true) true fuel 25 [.slice a len cap] = some (d, p) := by simpa [Value.cells] using hf
  obtain ⟨L, hL, _⟩ := slice_open (E := HE) (Q := fun _ _ => True) (by decide) Tryd.underlying25 ka zh hash_cell hf'
  exact ⟨L, hL⟩
theorem step_cell (n : Nat) (cs : List Value) (y : DataW H × List MemPlace) (h : DataW.trod enc Tryd.prog W 0 (fun _ => true) true n 70 cs = some y) : ∃ x : Sp, cs = SE.c x ∧ True := by
  obtain ⟨xs, k, _, hy, hl, hlen, hf⟩ := DataW.trod_struct Tryd.underlying70 h
  have hcl : cs.length = 33 := by rw [hl]; kernel_rfl
  have kh : Tryd.prog.cellsOf 24 = 32 := by kernel_rfl
  have ki : Tryd.prog.cellsOf 3 = 1 := by kernel_rfl
  have hx2 : xs.length = 2 := hlen
  match xs, hx2 with
  | [x0, x1], _ =>
    have g0 : DataW.trod enc Tryd.prog W 0 (fun _ => true) true k 3 (cs.take 1) = some x0 := by simpa [ki] using hf 0 _ rfl
    have g1 : DataW.trod enc Tryd.prog W 0 (fun _ => true) true k 24 ((cs.drop 1).take 32) = some x1 := by simpa [kh] using hf 1 _ rfl
    obtain ⟨z0, e0, _⟩ := DataW.trod_int Tryd.underlying3 g0
    obtain ⟨l1, e1, h1⟩ := hash_cells g1
    refine ⟨(z0, ⟨l1, h1⟩), ?_, trivial⟩
    show cs = [.int .i64 z0] ++ By l1
    rw [← e0, ← e1]
    have a1 : cs = cs.take 1 ++ cs.drop 1 := (List.take_append_drop _ _).symm
    have a2 : (cs.drop 1).take 32 = cs.drop 1 := List.take_of_length_le (by rw [List.length_drop, hcl]; decide)
    rw [a2, ← a1]
theorem proof_arg {r : Reach} {base : Nat} {v : Value} {d : DataW H} {p : List MemPlace} (hval : Value.okWide Tryd.prog W r base 39 v) (h : DataW.Trod enc Tryd.prog W 0 (fun _ => true) true 39 v d p) : ∃ (s : Value) (q : Pr), v = .agg (PrC s q).toArray ∧ RdG SE W s q.1 := by
  obtain ⟨cs, rfl, _⟩ := okWide_struct Tryd.underlying39 hval
  obtain ⟨fuel, hf⟩ := h
  obtain ⟨xs, k, _, hy, hl, hlen, hfs⟩ := DataW.trod_struct Tryd.underlying39 hf
  have hcl : cs.toList.length = 66 := by
    have : (Value.agg cs).cells.toList.length = 66 := by rw [hl]; kernel_rfl
    simpa [Value.cells] using this
  have kh : Tryd.prog.cellsOf 24 = 32 := by kernel_rfl
  have kb : Tryd.prog.cellsOf 4 = 1 := by kernel_rfl
  have ks : Tryd.prog.cellsOf 37 = 1 := by kernel_rfl
  have hx4 : xs.length = 4 := hlen
  match xs, hx4 with
  | [x0, x1, x2, x3], _ =>
    have g0 : DataW.trod enc Tryd.prog W 0 (fun _ => true) true k 37 (cs.toList.take 1) = some x0 := by simpa [ks, Value.cells] using hfs 0 _ rfl
    have g1 : DataW.trod enc Tryd.prog W 0 (fun _ => true) true k 4 ((cs.toList.drop 1).take 1) = some x1 := by simpa [kb, Value.cells] using hfs 1 _ rfl
    have g2 : DataW.trod enc Tryd.prog W 0 (fun _ => true) true k 24 ((cs.toList.drop 2).take 32) = some x2 := by simpa [kh, Value.cells] using hfs 2 _ rfl
    have g3 : DataW.trod enc Tryd.prog W 0 (fun _ => true) true k 24 ((cs.toList.drop 34).take 32) = some x3 := by simpa [kh, Value.cells] using hfs 3 _ rfl
    obtain ⟨b1, e1, _⟩ := DataW.trod_bool Tryd.underlying4 g1
    obtain ⟨l2, e2, h2⟩ := hash_cells g2
    obtain ⟨l3, e3, h3⟩ := hash_cells g3
    obtain ⟨a, len, cap, e0⟩ : ∃ a len cap, cs.toList.take 1 = [.slice a len cap] := by
      rcases open_slice Tryd.underlying37 g0 with ⟨hcs, _⟩ | ⟨x, l, c, m, n, D, Pl, hcs, _⟩
      · exact ⟨_, _, _, hcs⟩
      · exact ⟨_, _, _, hcs⟩
    rw [e0] at g0
    have ka : Tryd.prog.cellsOf 70 = SE.n := by kernel_rfl
    obtain ⟨L, hL, _⟩ := slice_open (E := SE) (Q := fun _ _ => True) (by decide) Tryd.underlying37 ka zs step_cell g0
    refine ⟨.slice a len cap, (L, b1, ⟨l2, h2⟩, ⟨l3, h3⟩), ?_, hL⟩
    have : cs.toList = PrC (.slice a len cap) (L, b1, ⟨l2, h2⟩, ⟨l3, h3⟩) := by
      show cs.toList = [.slice a len cap] ++ ([.bool b1] ++ (By l2 ++ By l3))
      rw [← e0, ← e1, ← e2, ← e3]
      have a1 : cs.toList = cs.toList.take 1 ++ cs.toList.drop 1 := (List.take_append_drop _ _).symm
      have a2 : cs.toList.drop 1 = (cs.toList.drop 1).take 1 ++ cs.toList.drop 2 := by
        have := (List.take_append_drop 1 (cs.toList.drop 1)).symm
        rwa [List.drop_drop] at this
      have a3 : cs.toList.drop 2 = (cs.toList.drop 2).take 32 ++ cs.toList.drop 34 := by
        have := (List.take_append_drop 32 (cs.toList.drop 2)).symm
        rwa [List.drop_drop] at this
      have a4 : (cs.toList.drop 34).take 32 = cs.toList.drop 34 := List.take_of_length_le (by rw [List.length_drop, hcl]; decide)
      rw [a4, ← a3, ← a2, ← a1]
    rw [← this]
end
#print axioms proof_arg
#print axioms items_arg12
#print axioms hashes_arg12
end Go.Proofs.YtooffljimdklfaaDoor
