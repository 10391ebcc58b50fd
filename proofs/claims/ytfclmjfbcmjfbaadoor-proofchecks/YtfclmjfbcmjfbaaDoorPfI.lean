/-
  What comes in: two numbers, two hashes.
-/
import Derived.Test.YtfclmjfbcmjfbaaDoorMtZ
namespace Go.Proofs.YtfclmjfbcmjfbaaDoor
open Go.RowKit
open Go.ChangeShapes Go.WideShapes
theorem twoint_arg {H : Type} {enc : TypeId × Value → H} {W : World} {r : Reach} {base : Nat} {v : Value} {d : DataW H} {p : List MemPlace} (hval : Value.okWide Tryd.prog W r base 32 v)
    (h : DataW.Trod enc Tryd.prog W 0 (fun _ => true) true 32 v d p) : ∃ a b : Int, v = .agg #[.int .i64 a, .int .i64 b] := by
  simp only [Value.okWide, Tryd.underlying32] at hval
  obtain ⟨cs, rfl, -, -⟩ := hval
  obtain ⟨fuel, hf⟩ := h
  obtain ⟨xs, m1, rfl, -, hlen, hn, hel⟩ := DataW.trod_array Tryd.underlying32 hf
  have c3 : Tryd.prog.cellsOf 3 = 1 := by kernel_rfl
  have c25 : Tryd.prog.cellsOf 32 = 2 := by kernel_rfl
  simp only [Value.cells] at hlen hel
  rw [c25] at hlen
  have h0 := hel 0 (by decide)
  have h1 := hel 1 (by decide)
  rw [List.getElem?_eq_getElem (by omega), c3] at h0 h1
  obtain ⟨a, ha, -⟩ := DataW.trod_int Tryd.underlying3 h0
  obtain ⟨b, hb, -⟩ := DataW.trod_int Tryd.underlying3 h1
  refine ⟨a, b, ?_⟩
  congr 1
  apply Array.toList_inj.1
  match hc : cs.toList, hlen with
  | [x, y], _ =>
    rw [hc] at ha hb
    simp at ha hb
    rw [ha, hb]
#print axioms twoint_arg
end Go.Proofs.YtfclmjfbcmjfbaaDoor
