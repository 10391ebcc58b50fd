/-
  What comes in: two hashes side by side.
-/
import Derived.Test.YtfclmjfbcmjfbaaDoorPfI
namespace Go.Proofs.YtfclmjfbcmjfbaaDoor
open Go.RowKit
theorem twohash_arg {H : Type} {enc : TypeId × Value → H} {W : World} {r : Reach} {base : Nat} {v : Value} {d : DataW H} {p : List MemPlace} (hval : Value.okWide Tryd.prog W r base 31 v)
    (h : DataW.Trod enc Tryd.prog W 0 (fun _ => true) true 31 v d p) : ∃ x y : Hs, v = .agg (By x.1 ++ By y.1).toArray := by
  obtain ⟨x, y, rfl, hx, hy⟩ := two_arg hval h
  exact ⟨⟨x, hx⟩, ⟨y, hy⟩, by rw [By_append]⟩
#print axioms twohash_arg
end Go.Proofs.YtfclmjfbcmjfbaaDoor
