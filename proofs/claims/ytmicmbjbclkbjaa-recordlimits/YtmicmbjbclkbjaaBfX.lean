/-
  What comes in, as the walks ask it: pairs, acts, a range.
-/
import Derived.Test.YtmicmbjbclkbjaaArgsB
import Derived.Test.YtmicmbjbclkbjaaBfM
import Derived.Deep.Slices
import Derived.Lib.SmallJoins
namespace Go.Proofs.Ytmicmbjbclkbjaa
open Go.RowKit Go.ChangeShapes Go.WideShapes Go.ChangeAt Go.Deep
set_option maxRecDepth 4000
section
variable {H : Type} {enc : TypeId × Value → H} {W : World}
set_option maxRecDepth 4000
theorem weightsAll_mem {H : Type} {P : Program} {e : TypeId} : ∀ {l : List (DataW H)} {d : DataW H}, d ∈ l → ∀ n ∈ d.weights P e, n ∈ DataW.weightsAll P e l
  | d0 :: r, d, hd, n, hn => by
    simp only [DataW.weightsAll, List.mem_append]
    rcases List.mem_cons.1 hd with rfl | hd
    · exact .inl hn
    · exact .inr (weightsAll_mem hd n hn)
/-- A slice that came in, element by element. -/
theorem slice_open {α : Type} {E : Enc α} {t e : TypeId} (hn0 : 0 < E.n) (hu : Try.prog.underlying t = some (.slice e)) (hce : Try.prog.cellsOf e = E.n) {Q : α → DataW H → Prop} (z : α)
    (hinv : ∀ n cs y, DataW.trod enc Try.prog W 0 (fun _ => true) true n e cs = some y → ∃ x, cs = E.c x ∧ Q x y.1)
    {n0 : Nat} {a : Option Addr} {len cap : Nat} {y : DataW H × List MemPlace} (hf : DataW.trod enc Try.prog W 0 (fun _ => true) true n0 t [.slice a len cap] = some y) :
    ∃ L : List α, RdG E W (.slice a len cap) L ∧ ∀ x ∈ L, ∃ dx, Q x dx ∧ ∀ m ∈ dx.weights Try.prog e, m ∈ y.1.weights Try.prog t := by
  rcases open_slice hu hf with ⟨hcs, _⟩ | ⟨x, l, c, m, n, D, Pl, hcs, _, hl, hm, hmm, hxd, hx⟩
  · simp at hcs
    obtain ⟨rfl, rfl, rfl⟩ := hcs
    exact ⟨[], RdG_nil W, by simp⟩
  · simp at hcs
    obtain ⟨rfl, rfl, rfl⟩ := hcs
    have hlm : len ≤ m := by rw [hmm]; simp; exact hl
    have hall : ∀ j, j < len → ∃ v : α, W.cells? 0 (x.add (j * E.n)) E.n = some (E.c v) ∧ Q v (D j) := fun j hj => by
      obtain ⟨cs, h1, h2⟩ := hx j (by omega)
      rw [hce] at h1
      obtain ⟨v, rfl, hD⟩ := hinv _ _ _ h2
      exact ⟨v, h1, hD⟩
    obtain ⟨L, hLl, hL⟩ : ∃ L : List α, L.length = len ∧ ∀ j (hj : j < L.length), W.cells? 0 (x.add (j * E.n)) E.n = some (E.c L[j]) ∧ Q L[j] (D j) := by
      refine ⟨(List.range len).map fun j => if h : j < len then (hall j h).choose else z, by simp, fun j hj => ?_⟩
      simp only [List.length_map, List.length_range] at hj
      simp only [List.getElem_map, List.getElem_range, hj, dif_pos]
      exact (hall j hj).choose_spec
    refine ⟨L, ⟨some x, cap, by rw [hLl], by rw [hLl]; exact hl, hm, fun h => by simp at h, fun hp => ?_⟩, fun y' hy => ?_⟩
    · obtain ⟨b, off, spot⟩ := x
      have hcells : ∀ j (hj : j < L.length), ∀ i u, (E.c L[j])[i]? = some u → W.cell? (((⟨b, off, spot⟩ : Addr).add (j * E.n)).add i) = some u := fun j hj i u hu => by
        obtain ⟨_, hlen, hc⟩ := World.cells?_some (hL j hj).1
        have hi : i < E.n := by have := (List.getElem?_eq_some_iff.1 hu).1; rw [E.len] at this; exact this
        rw [hc i hi, hu]
      have hl0 : 0 < (E.c L[0]).length := by rw [E.len]; exact hn0
      have h0 : W.cell? ⟨b, off, spot⟩ = some ((E.c L[0])[0]) := by
        have := hcells 0 hp 0 _ (List.getElem?_eq_getElem hl0)
        simpa [Addr.add] using this
      have hspot : spot = none := by simpa using World.cell?_spot h0
      subst hspot
      refine ⟨b, off, rfl, World.block_lt_of_cell? _ _ h0, fun j u hj => ?_⟩
      have hjl : j < (E.cs L).length := (List.getElem?_eq_some_iff.1 hj).1
      rw [Enc.cs_length] at hjl
      have h3 : j / E.n < L.length := (Nat.div_lt_iff_lt_mul hn0).2 hjl
      have hm3 : j % E.n < (E.c L[j / E.n]).length := by rw [E.len]; exact Nat.mod_lt _ hn0
      have e1 := Enc.cs_get h3 (i := j % E.n) (u := (E.c L[j / E.n])[j % E.n]) (List.getElem?_eq_getElem hm3)
      have e2 : j / E.n * E.n + j % E.n = j := Nat.div_add_mod' j E.n
      rw [e2, hj] at e1
      have := hcells (j / E.n) h3 (j % E.n) u (by rw [List.getElem?_eq_getElem hm3]; exact e1.symm)
      rwa [Addr.add_lit, Addr.add_lit, Nat.add_assoc, e2] at this
    · obtain ⟨i, hi, rfl⟩ := List.getElem_of_mem hy
      refine ⟨D i, (hL i hi).2, fun m' hm' => ?_⟩
      rw [hxd]
      simp only [DataW.weights, hu, List.mem_cons, List.mem_append]
      exact .inr (.inl (weightsAll_mem (d := D i) (List.mem_map.2 ⟨i, by simp; omega, rfl⟩) _ hm'))
def prD (p : Pr) : DataW H := .agg [.lit (.string p.1.data.toList), .lit (.string p.2.1.data.toList), .lit (.bool p.2.2)]
theorem pair_cells (n : Nat) (cs : List Value) (y : DataW H × List MemPlace) (h : DataW.trod enc Try.prog W 0 (fun _ => true) true n 41 cs = some y) : ∃ p : Pr, cs = PC p ∧ y.1 = prD p := by
  obtain ⟨xs, k, _, rfl, hl, hlen, hf⟩ := DataW.trod_struct Try.underlying41 h
  have hcl : cs.length = 3 := by rw [hl]; kernel_rfl
  match cs, hcl with
  | [c0, c1, c2], _ =>
    have k9 : Try.prog.cellsOf 9 = 1 := by kernel_rfl
    have k4 : Try.prog.cellsOf 4 = 1 := by kernel_rfl
    have hx3 : xs.length = 3 := hlen
    match xs, hx3 with
    | [x0, x1, x2], _ =>
      have g0 : DataW.trod enc Try.prog W 0 (fun _ => true) true k 9 [c0] = some x0 := by simpa [k9] using hf 0 _ rfl
      have g1 : DataW.trod enc Try.prog W 0 (fun _ => true) true k 9 [c1] = some x1 := by simpa [k9] using hf 1 _ rfl
      have g2 : DataW.trod enc Try.prog W 0 (fun _ => true) true k 4 [c2] = some x2 := by simpa [k4] using hf 2 _ rfl
      obtain ⟨s0, e0, rfl, _⟩ := DataW.trod_string Try.underlying9 g0
      obtain ⟨s1, e1, rfl, _⟩ := DataW.trod_string Try.underlying9 g1
      obtain ⟨b, e2, rfl⟩ := DataW.trod_bool Try.underlying4 g2
      simp only [List.cons.injEq, and_true] at e0 e1 e2
      subst e0 e1 e2
      exact ⟨(s0, s1, b), rfl, rfl⟩
theorem prD_weight (p : Pr) : p.1.size ∈ (prD (H := H) p).weights Try.prog 41 ∧ p.2.1.size ∈ (prD (H := H) p).weights Try.prog 41 := by
  have e : p.1.data.toList.length = p.1.size := Array.length_toList
  have e' : p.2.1.data.toList.length = p.2.1.size := Array.length_toList
  simp [prD, DataW.weights, Try.underlying41, DataW.weightsEach, e, e']
/-- Strings that came in are no longer than may be. -/
def PrOk (p : Pr) : Prop := p.1.size ≤ 140737488355328 ∧ p.2.1.size ≤ 140737488355328
theorem le_reach {ws : List Nat} (hsz : ws.all (· ≤ reachBytes) = true) {m : Nat} (h : m ∈ ws) : m ≤ 140737488355328 := by
  have := of_decide_eq_true (List.all_eq_true.1 hsz m h)
  simp only [reachBytes] at this
  omega
theorem pairs_arg {r : Reach} {base : Nat} {v : Value} {d : DataW H} {p : List MemPlace} {ts : List TypeId} {ds : List (DataW H)} {j : Nat} (hval : Value.okWide Try.prog W r base 25 v) (h : DataW.Trod enc Try.prog W 0 (fun _ => true) true 25 v d p)
    (hsz : (DataW.weightsEach Try.prog ts ds).all (· ≤ reachBytes) = true) (ht : ts[j]? = some 25) (hd : ds[j]? = some d) : ∃ L, RdG PE W v L ∧ ∀ x ∈ L, PrOk x := by
  obtain ⟨a, len, cap, rfl⟩ := okWide_slice Try.underlying25 hval
  obtain ⟨fuel, hf⟩ := h
  have ka : Try.prog.cellsOf 41 = PE.n := by kernel_rfl
  have hf' : DataW.trod enc Try.prog W 0 (fun _ => true) true fuel 25 [.slice a len cap] = some (d, p) := by simpa [Value.cells] using hf
  obtain ⟨L, hL, hw⟩ := slice_open (E := PE) (Q := fun x d => d = prD x) (by decide) Try.underlying25 ka zp pair_cells hf'
  refine ⟨L, hL, fun x hx => ?_⟩
  obtain ⟨dx, rfl, hm⟩ := hw x hx
  exact ⟨le_reach hsz (DataW.weights_mem_each ht hd _ (hm _ (prD_weight x).1)), le_reach hsz (DataW.weights_mem_each ht hd _ (hm _ (prD_weight x).2))⟩
end
end Go.Proofs.Ytmicmbjbclkbjaa
