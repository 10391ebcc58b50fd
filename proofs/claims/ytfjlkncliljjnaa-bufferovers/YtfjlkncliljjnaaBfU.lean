/-
  What comes in: a range.
-/
import Derived.Test.YtfjlkncliljjnaaBfX
namespace Go.Proofs.Ytfjlkncliljjnaa
open Go.RowKit Go.ChangeShapes Go.WideShapes Go.ChangeAt Go.Deep
set_option maxRecDepth 4000
section
variable {H : Type} {enc : TypeId × Value → H} {W : World}
/-- A range: from, to, how many. -/
abbrev Rg : Type := ByteArray × ByteArray × Int
def RGC (x : Rg) : List Value := [.string x.1, .string x.2.1, .int .i64 x.2.2]
def rgD (x : Rg) : DataW H := .agg [.lit (.string x.1.data.toList), .lit (.string x.2.1.data.toList), .lit (.int .i64 x.2.2)]
theorem range_cells (n : Nat) (cs : List Value) (y : DataW H × List MemPlace) (h : DataW.trod enc Try.prog W 0 (fun _ => true) true n 46 cs = some y) : ∃ p : Rg, cs = RGC p ∧ y.1 = rgD p := by
  obtain ⟨xs, k, _, rfl, hl, hlen, hf⟩ := DataW.trod_struct Try.underlying46 h
  have hcl : cs.length = 3 := by rw [hl]; kernel_rfl
  match cs, hcl with
  | [c0, c1, c2], _ =>
    have k9 : Try.prog.cellsOf 9 = 1 := by kernel_rfl
    have k3 : Try.prog.cellsOf 3 = 1 := by kernel_rfl
    have hx3 : xs.length = 3 := hlen
    match xs, hx3 with
    | [x0, x1, x2], _ =>
      have g0 : DataW.trod enc Try.prog W 0 (fun _ => true) true k 9 [c0] = some x0 := by simpa [k9] using hf 0 _ rfl
      have g1 : DataW.trod enc Try.prog W 0 (fun _ => true) true k 9 [c1] = some x1 := by simpa [k9] using hf 1 _ rfl
      have g2 : DataW.trod enc Try.prog W 0 (fun _ => true) true k 3 [c2] = some x2 := by simpa [k3, k9] using hf 2 _ rfl
      obtain ⟨s0, e0, rfl, _⟩ := DataW.trod_string Try.underlying9 g0
      obtain ⟨s1, e1, rfl, _⟩ := DataW.trod_string Try.underlying9 g1
      obtain ⟨z, e2, rfl, _⟩ := DataW.trod_int Try.underlying3 g2
      simp only [List.cons.injEq, and_true] at e0 e1 e2
      subst e0 e1 e2
      exact ⟨(s0, s1, z), rfl, rfl⟩
theorem rgD_weight (p : Rg) : p.1.size ∈ (rgD (H := H) p).weights Try.prog 46 ∧ p.2.1.size ∈ (rgD (H := H) p).weights Try.prog 46 := by
  have e : p.1.data.toList.length = p.1.size := Array.length_toList
  have e' : p.2.1.data.toList.length = p.2.1.size := Array.length_toList
  simp [rgD, DataW.weights, Try.underlying46, DataW.weightsEach, e, e']
def RgOk (p : Rg) : Prop := p.1.size ≤ 140737488355328 ∧ p.2.1.size ≤ 140737488355328
theorem range13_arg {r : Reach} {base : Nat} {v : Value} {d : DataW H} {p : List MemPlace} {ts : List TypeId} {ds : List (DataW H)} {j : Nat} (hval : Value.okWide Try.prog W r base 46 v) (h : DataW.Trod enc Try.prog W 0 (fun _ => true) true 46 v d p)
    (hsz : (DataW.weightsEach Try.prog ts ds).all (· ≤ reachBytes) = true) (ht : ts[j]? = some 46) (hd : ds[j]? = some d) : ∃ x : Rg, v = .agg (RGC x).toArray ∧ RgOk x := by
  obtain ⟨cs, rfl, _⟩ := okWide_struct Try.underlying46 hval
  obtain ⟨fuel, hf⟩ := h
  obtain ⟨x, e, hy⟩ := range_cells _ _ _ hf
  simp only at hy
  subst hy
  refine ⟨x, ?_, le_reach hsz (DataW.weights_mem_each ht hd _ (rgD_weight x).1), le_reach hsz (DataW.weights_mem_each ht hd _ (rgD_weight x).2)⟩
  have e' : cs.toList = RGC x := by simpa [Value.cells] using e
  rw [← e']
end
end Go.Proofs.Ytfjlkncliljjnaa
