/-
  What comes in, as the walks ask it: a version, and versions.
-/
import Derived.Test.YtgaoionnfkbhaaaGK
import Derived.Test.YtgaoionnfkbhaaaGC
import Derived.Deep.Slices
import Derived.Lib.SmallJoins
namespace Go.Proofs.Ytgaoionnfkbhaaa
open Go.RowKit Go.ChangeShapes Go.WideShapes Go.ChangeAt Go.Deep
set_option maxRecDepth 4000
theorem weightsAll_mem {H : Type} {P : Program} {e : TypeId} : ∀ {l : List (DataW H)} {d : DataW H}, d ∈ l → ∀ n ∈ d.weights P e, n ∈ DataW.weightsAll P e l
  | d0 :: r, d, hd, n, hn => by
    simp only [DataW.weightsAll, List.mem_append]
    rcases List.mem_cons.1 hd with rfl | hd
    · exact .inl hn
    · exact .inr (weightsAll_mem hd n hn)
section
variable {H : Type} {enc : TypeId × Value → H} {W : World}
/-- What a version reads as. -/
def verD (v : Ver) : DataW H := .agg [.lit (.int .i64 v.1), .lit (.string v.2.1.data.toList), .lit (.bool v.2.2)]
theorem ver_cells {n : Nat} {cs : List Value} {y : DataW H × List MemPlace} (h : DataW.trod enc Try.prog W 0 (fun _ => true) true n 76 cs = some y) : ∃ v : Ver, cs = VC v ∧ y.1 = verD v := by
  obtain ⟨xs, k, _, rfl, hl, hlen, hf⟩ := DataW.trod_struct Try.underlying76 h
  have hcl : cs.length = 3 := by rw [hl]; kernel_rfl
  match cs, hcl with
  | [c0, c1, c2], _ =>
    have k3 : Try.prog.cellsOf 3 = 1 := by kernel_rfl
    have k9 : Try.prog.cellsOf 9 = 1 := by kernel_rfl
    have k4 : Try.prog.cellsOf 4 = 1 := by kernel_rfl
    have hx3 : xs.length = 3 := hlen
    match xs, hx3 with
    | [x0, x1, x2], _ =>
      have g0 : DataW.trod enc Try.prog W 0 (fun _ => true) true k 3 [c0] = some x0 := by simpa [k3] using hf 0 _ rfl
      have g1 : DataW.trod enc Try.prog W 0 (fun _ => true) true k 9 [c1] = some x1 := by simpa [k9] using hf 1 _ rfl
      have g2 : DataW.trod enc Try.prog W 0 (fun _ => true) true k 4 [c2] = some x2 := by simpa [k4] using hf 2 _ rfl
      obtain ⟨n0, e0, rfl, _⟩ := DataW.trod_int Try.underlying3 g0
      obtain ⟨s, e1, rfl, _⟩ := DataW.trod_string Try.underlying9 g1
      obtain ⟨b, e2, rfl⟩ := DataW.trod_bool Try.underlying4 g2
      simp only [List.cons.injEq, and_true] at e0 e1 e2
      subst e0 e1 e2
      exact ⟨(n0, s, b), rfl, rfl⟩
theorem verD_weight (v : Ver) : v.2.1.size ∈ (verD (H := H) v).weights Try.prog 76 := by
  have e : v.2.1.data.toList.length = v.2.1.size := Array.length_toList
  simp [verD, DataW.weights, Try.underlying76, DataW.weightsEach, e]
theorem ver_arg {r : Reach} {base : Nat} {v : Value} {d : DataW H} {p : List MemPlace} {ts : List TypeId} {ds : List (DataW H)} {j : Nat} (hval : Value.okWide Try.prog W r base 76 v) (h : DataW.Trod enc Try.prog W 0 (fun _ => true) true 76 v d p)
    (hsz : (DataW.weightsEach Try.prog ts ds).all (· ≤ reachBytes) = true) (ht : ts[j]? = some 76) (hd : ds[j]? = some d) : ∃ x : Ver, v = .agg (VC x).toArray ∧ x.2.1.size ≤ 140737488351232 := by
  obtain ⟨cs, rfl, _⟩ := okWide_struct Try.underlying76 hval
  obtain ⟨fuel, hf⟩ := h
  obtain ⟨x, e, hy⟩ := ver_cells hf
  refine ⟨x, ?_, ?_⟩
  · have e' : cs.toList = VC x := by simpa [Value.cells] using e
    rw [← e']
  · simp only at hy
    subst hy
    have := List.all_eq_true.1 hsz _ (DataW.weights_mem_each ht hd _ (verD_weight x))
    have h2 : x.2.1.size ≤ reachBytes := of_decide_eq_true this
    simpa [reachBytes] using h2
theorem chain_arg {r : Reach} {base : Nat} {v : Value} {d : DataW H} {p : List MemPlace} {ts : List TypeId} {ds : List (DataW H)} {j : Nat} (hval : Value.okWide Try.prog W r base 66 v) (h : DataW.Trod enc Try.prog W 0 (fun _ => true) true 66 v d p)
    (hsz : (DataW.weightsEach Try.prog ts ds).all (· ≤ reachBytes) = true) (ht : ts[j]? = some 66) (hd : ds[j]? = some d) : ∃ L, RdV W v L ∧ ∀ x ∈ L, x.2.1.size ≤ 140737488351232 := by
  obtain ⟨a, len, cap, rfl⟩ := okWide_slice Try.underlying66 hval
  obtain ⟨fuel, hf⟩ := h
  have k3 : Try.prog.cellsOf 76 = 3 := by kernel_rfl
  rcases open_slice Try.underlying66 hf with ⟨hcs, _⟩ | ⟨x, l, c, m, n, D, Pl, hcs, _, hl, hm, hmm, hxd, hx⟩
  · simp [Value.cells] at hcs
    obtain ⟨rfl, rfl, rfl⟩ := hcs
    exact ⟨[], RdV_nil W, by simp⟩
  · simp [Value.cells] at hcs
    obtain ⟨rfl, rfl, rfl⟩ := hcs
    simp only [Prod.mk.injEq] at hxd
    obtain ⟨rfl, -⟩ := hxd
    have hlm : len ≤ m := by rw [hmm]; simp; exact hl
    have hall : ∀ j, j < len → ∃ v : Ver, W.cells? 0 (x.add (j * 3)) 3 = some (VC v) ∧ D j = verD v := fun j hj => by
      obtain ⟨cs, h1, h2⟩ := hx j (by omega)
      rw [k3] at h1
      obtain ⟨v, rfl, hD⟩ := ver_cells h2
      exact ⟨v, h1, hD⟩
    obtain ⟨L, hLl, hL⟩ : ∃ L : List Ver, L.length = len ∧ ∀ j (hj : j < L.length), W.cells? 0 (x.add (j * 3)) 3 = some (VC L[j]) ∧ D j = verD L[j] := by
      refine ⟨(List.range len).map fun j => if h : j < len then (hall j h).choose else zv, by simp, fun j hj => ?_⟩
      simp only [List.length_map, List.length_range] at hj
      simp only [List.getElem_map, List.getElem_range, hj, dif_pos]
      exact (hall j hj).choose_spec
    refine ⟨L, ⟨some x, cap, by rw [hLl], by rw [hLl]; exact hl, hm, fun h => by simp at h, fun hp => ?_⟩, fun y hy => ?_⟩
    · obtain ⟨b, off, spot⟩ := x
      have hcells : ∀ j (hj : j < L.length), ∀ i u, (VC L[j])[i]? = some u → W.cell? (((⟨b, off, spot⟩ : Addr).add (j * 3)).add i) = some u := fun j hj i u hu => by
        obtain ⟨_, hlen, hc⟩ := World.cells?_some (hL j hj).1
        have hi : i < 3 := by have := (List.getElem?_eq_some_iff.1 hu).1; simpa [VC] using this
        rw [hc i hi, hu]
      have h0 : W.cell? ⟨b, off, spot⟩ = some (.int .i64 (L[0]).1) := by
        have := hcells 0 hp 0 _ rfl
        simpa [Addr.add] using this
      have hspot : spot = none := by simpa using World.cell?_spot h0
      subst hspot
      refine ⟨b, off, rfl, World.block_lt_of_cell? _ _ h0, fun j u hj => ?_⟩
      have hjl : j < (VCs L).length := (List.getElem?_eq_some_iff.1 hj).1
      rw [VCs_length] at hjl
      have h3 : j / 3 < L.length := by omega
      have hm3 : j % 3 < (VC L[j / 3]).length := by rw [VC_length]; omega
      have e1 := VCs_get h3 (i := j % 3) (u := (VC L[j / 3])[j % 3]) (List.getElem?_eq_getElem hm3)
      rw [show j / 3 * 3 + j % 3 = j by omega, hj] at e1
      have := hcells (j / 3) h3 (j % 3) u (by rw [List.getElem?_eq_getElem hm3]; exact e1.symm)
      rwa [Addr.add_lit, Addr.add_lit, Nat.add_assoc, show j / 3 * 3 + j % 3 = j by omega] at this
    · obtain ⟨i, hi, rfl⟩ := List.getElem_of_mem hy
      have hw : (L[i]).2.1.size ∈ (DataW.slice (H := H) ((List.range len).map D) ((List.range (m - len)).map fun j => D (len + j))).weights Try.prog 66 := by
        simp only [DataW.weights, Try.underlying66, List.mem_cons, List.mem_append]
        refine .inr (.inl (weightsAll_mem (d := D i) (List.mem_map.2 ⟨i, by simp; omega, rfl⟩) _ ?_))
        rw [(hL i hi).2]
        exact verD_weight _
      have := List.all_eq_true.1 hsz _ (DataW.weights_mem_each ht hd _ hw)
      have h2 : (L[i]).2.1.size ≤ reachBytes := of_decide_eq_true this
      simpa [reachBytes] using h2
end
#print axioms chain_arg
end Go.Proofs.Ytgaoionnfkbhaaa
