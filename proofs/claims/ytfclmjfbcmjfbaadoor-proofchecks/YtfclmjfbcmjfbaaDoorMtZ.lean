/-
  What comes in, as the walks ask it: hashes, and peaks.
-/
import Derived.Test.YtfclmjfbcmjfbaaDoorGMb
import Derived.Test.YtfclmjfbcmjfbaaDoorArgsT
import Derived.Test.YtfclmjfbcmjfbaaDoorArgsR
import Derived.Deep.Matrix
namespace Go.Proofs.YtfclmjfbcmjfbaaDoor
open Go.RowKit Go.ChangeShapes Go.WideShapes Go.ChangeAt Go.Deep
set_option maxRecDepth 4000
section
variable {H : Type} {enc : TypeId × Value → H} {W : World}
/-- A slice that came in, element by element. -/
theorem slice_open {α : Type} {E : Enc α} {t e : TypeId} (hn0 : 0 < E.n) (hu : Tryd.prog.underlying t = some (.slice e)) (hce : Tryd.prog.cellsOf e = E.n) {Q : α → DataW H → Prop} (z : α)
    (hinv : ∀ n cs y, DataW.trod enc Tryd.prog W 0 (fun _ => true) true n e cs = some y → ∃ x, cs = E.c x ∧ Q x y.1)
    {n0 : Nat} {a : Option Addr} {len cap : Nat} {y : DataW H × List MemPlace} (hf : DataW.trod enc Tryd.prog W 0 (fun _ => true) true n0 t [.slice a len cap] = some y) :
    ∃ L : List α, RdG E W (.slice a len cap) L ∧ ∀ x ∈ L, ∃ dx, Q x dx ∧ ∀ m ∈ dx.weights Tryd.prog e, m ∈ y.1.weights Tryd.prog t := by
  rcases open_slice hu hf with ⟨hcs, _⟩ | ⟨x, l, c, m, n, D, Pl, hcs, _, hl, hm, hmm, hxd, hx⟩
  · simp at hcs
    obtain ⟨rfl, rfl, rfl⟩ := hcs
    exact ⟨[], RdG_nil W, by simp⟩
  · simp at hcs
    obtain ⟨rfl, rfl, rfl⟩ := hcs
    have hlm : len ≤ m := by rw [hmm]; simp; exact hl
    have hall : ∀ j, j < len → ∃ v : α, W.cells? 0 (x.add (j * E.n)) E.n = some (E.c v) ∧ Q v (D j) := fun j hj => by
      obtain ⟨cs, h1, h2⟩ := hx j (by omega)
      rw [hce] at h1
      obtain ⟨v, rfl, hD⟩ := hinv _ _ _ h2
      exact ⟨v, h1, hD⟩
    obtain ⟨L, hLl, hL⟩ : ∃ L : List α, L.length = len ∧ ∀ j (hj : j < L.length), W.cells? 0 (x.add (j * E.n)) E.n = some (E.c L[j]) ∧ Q L[j] (D j) := by
      refine ⟨(List.range len).map fun j => if h : j < len then (hall j h).choose else z, by simp, fun j hj => ?_⟩
      simp only [List.length_map, List.length_range] at hj
      simp only [List.getElem_map, List.getElem_range, hj, dif_pos]
      exact (hall j hj).choose_spec
    refine ⟨L, ⟨some x, cap, by rw [hLl], by rw [hLl]; exact hl, hm, fun h => by simp at h, fun hp => ?_⟩, fun y' hy => ?_⟩
    · obtain ⟨b, off, spot⟩ := x
      have hcells : ∀ j (hj : j < L.length), ∀ i u, (E.c L[j])[i]? = some u → W.cell? (((⟨b, off, spot⟩ : Addr).add (j * E.n)).add i) = some u := fun j hj i u hu => by
        obtain ⟨_, hlen, hc⟩ := World.cells?_some (hL j hj).1
        have hi : i < E.n := by have := (List.getElem?_eq_some_iff.1 hu).1; rw [E.len] at this; exact this
        rw [hc i hi, hu]
      have hl0 : 0 < (E.c L[0]).length := by rw [E.len]; exact hn0
      have h0 : W.cell? ⟨b, off, spot⟩ = some ((E.c L[0])[0]) := by
        have := hcells 0 hp 0 _ (List.getElem?_eq_getElem hl0)
        simpa [Addr.add] using this
      have hspot : spot = none := by simpa using World.cell?_spot h0
      subst hspot
      refine ⟨b, off, rfl, World.block_lt_of_cell? _ _ h0, fun j u hj => ?_⟩
      have hjl : j < (E.cs L).length := (List.getElem?_eq_some_iff.1 hj).1
      rw [Enc.cs_length] at hjl
      have h3 : j / E.n < L.length := (Nat.div_lt_iff_lt_mul hn0).2 hjl
      have hm3 : j % E.n < (E.c L[j / E.n]).length := by rw [E.len]; exact Nat.mod_lt _ hn0
      have e1 := Enc.cs_get h3 (i := j % E.n) (u := (E.c L[j / E.n])[j % E.n]) (List.getElem?_eq_getElem hm3)
      have e2 : j / E.n * E.n + j % E.n = j := Nat.div_add_mod' j E.n
      rw [e2, hj] at e1
      have := hcells (j / E.n) h3 (j % E.n) u (by rw [List.getElem?_eq_getElem hm3]; exact e1.symm)
      rwa [Addr.add_lit, Addr.add_lit, Nat.add_assoc, e2] at this
    · obtain ⟨i, hi, rfl⟩ := List.getElem_of_mem hy
      refine ⟨D i, (hL i hi).2, fun m' hm' => ?_⟩
      rw [hxd]
      simp only [DataW.weights, hu, List.mem_cons, List.mem_append]
      exact .inr (.inl (weightsAll_mem (d := D i) (List.mem_map.2 ⟨i, by simp; omega, rfl⟩) _ hm'))
theorem hash_cell (n : Nat) (cs : List Value) (y : DataW H × List MemPlace) (h : DataW.trod enc Tryd.prog W 0 (fun _ => true) true n 30 cs = some y) : ∃ x : Hs, cs = HE.c x ∧ True := by
  obtain ⟨l, rfl, hl⟩ := hash_cells h
  exact ⟨⟨l, hl⟩, rfl, trivial⟩
theorem hashes_arg {r : Reach} {base : Nat} {v : Value} {d : DataW H} {p : List MemPlace} (hval : Value.okWide Tryd.prog W r base 22 v) (h : DataW.Trod enc Tryd.prog W 0 (fun _ => true) true 22 v d p) : ∃ L : List Hs, RdG HE W v L := by
  obtain ⟨a, len, cap, rfl⟩ := okWide_slice Tryd.underlying22 hval
  obtain ⟨fuel, hf⟩ := h
  have ka : Tryd.prog.cellsOf 30 = HE.n := by kernel_rfl
  have hf' : DataW.trod enc Tryd.prog W 0 (fun _ => true) true fuel 22 [.slice a len cap] = some (d, p) := by simpa [Value.cells] using hf
  obtain ⟨L, hL, _⟩ := slice_open (E := HE) (Q := fun _ _ => True) (by decide) Tryd.underlying22 ka zh hash_cell hf'
  exact ⟨L, hL⟩
theorem hash_arg9 {r : Reach} {base : Nat} {v : Value} {d : DataW H} {p : List MemPlace} (hval : Value.okWide Tryd.prog W r base 30 v) (h : DataW.Trod enc Tryd.prog W 0 (fun _ => true) true 30 v d p) : ∃ x : Hs, v = HV x := by
  obtain ⟨l, rfl, hl⟩ := hash_arg hval h
  exact ⟨⟨l, hl⟩, rfl⟩
end
end Go.Proofs.YtfclmjfbcmjfbaaDoor
