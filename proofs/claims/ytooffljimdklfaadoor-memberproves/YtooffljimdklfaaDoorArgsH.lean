/-
  What comes in, as the walks ask it: a hash by its value.
-/
import Derived.Test.YtooffljimdklfaaDoorArgs
import Derived.Test.YtooffljimdklfaaDoorBase
import Derived.SizedLaws
namespace Go.Proofs.YtooffljimdklfaaDoor
open Go.RowKit Go.ChangeShapes Go.WideShapes Go.ChangeAt
set_option maxRecDepth 4000

theorem hash_arg {H : Type} {enc : TypeId × Value → H} {W : World} {r : Reach} {base : Nat} {v : Value} {d : DataW H} {p : List MemPlace} (hval : Value.okWide Tryd.prog W r base 24 v)
    (h : DataW.Trod enc Tryd.prog W 0 (fun _ => true) true 24 v d p) : ∃ l : List UInt8, v = .agg (By l).toArray ∧ l.length = 32 := by
  simp only [Value.okWide, Tryd.underlying24] at hval
  obtain ⟨cs, rfl, -, -⟩ := hval
  obtain ⟨fuel, hf⟩ := h
  obtain ⟨xs, m1, rfl, -, hlen, hn, hel⟩ := DataW.trod_array Tryd.underlying24 hf
  have c5 : Tryd.prog.cellsOf 5 = 1 := by kernel_rfl
  have c25 : Tryd.prog.cellsOf 24 = 32 := by kernel_rfl
  simp only [Value.cells] at hlen hel
  rw [c25] at hlen
  have hall : ∀ i, i < 32 → ∃ u : UInt8, cs.toList[i]? = some (.int .u8 (u.toNat : Int)) := by
    intro i hi
    have h0 := hel i hi
    have hxi : i < xs.length := by omega
    rw [List.getElem?_eq_getElem hxi, c5, Nat.mul_one] at h0
    obtain ⟨k, e1, -, hw⟩ := DataW.trod_int Tryd.underlying5 h0
    have hb := bounds_u8 hw
    refine ⟨UInt8.ofNat k.toNat, ?_⟩
    have e6 : ((cs.toList.drop i).take 1)[0]? = some (.int .u8 k) := by rw [e1]; rfl
    rw [List.getElem?_take_of_lt (by decide), List.getElem?_drop, Nat.add_zero] at e6
    rw [e6]
    congr 2
    simp
    omega
  refine ⟨(List.range 32).map fun i => if h : i < 32 then (hall i h).choose else 0, ?_, by simp⟩
  congr 1
  apply Array.toList_inj.1
  apply List.ext_getElem?
  intro i
  by_cases hi : i < 32
  · rw [(hall i hi).choose_spec]
    simp [By, hi]
  · rw [List.getElem?_eq_none (by omega), List.getElem?_eq_none (by simp [By]; omega)]
end Go.Proofs.YtooffljimdklfaaDoor
