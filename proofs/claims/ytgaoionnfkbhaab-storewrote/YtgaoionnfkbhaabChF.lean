/-
  The reference's Since, Cut, and plain: what the calls do.
-/
import Derived.Test.YtgaoionnfkbhaabChE
namespace Go.Proofs.Ytgaoionnfkbhaab
open Go.RowKit

theorem take_snoc {L : List Ver} {i : Nat} (h : i < L.length) : L.take (i + 1) = L.take i ++ [L[i]] := List.take_succ_eq_append_getElem h
theorem past_snoc (n : Int) (M : List Ver) (v : Ver) : past n (M ++ [v]) = past n M ++ if n < v.1 then [v] else [] := by
  unfold past
  rw [List.filter_append]
  congr 1
  by_cases h : n < v.1 <;> simp [h]
theorem upto_snoc (n : Int) (M : List Ver) (v : Ver) : upto n (M ++ [v]) = upto n M ++ if v.1 ≤ n then [v] else [] := by
  unfold upto
  rw [List.filter_append]
  congr 1
  by_cases h : v.1 ≤ n <;> simp [h]

/-- append(out, v). -/
theorem src_one (P : Program) (W : World) (p : Ver) (T t e : TypeId) (hk : P.underlying t = some (.slice e)) : Src P 3 t (.slice (some ⟨W.heap.size, 0, none⟩) 1 1) [p].length (VCs [p]) (W.alloc (.cells (VC p).toArray T (0, 0))) :=
  RdV.src (L := [p]) (rdV_one W T p) t e hk

end Go.Proofs.Ytgaoionnfkbhaab
