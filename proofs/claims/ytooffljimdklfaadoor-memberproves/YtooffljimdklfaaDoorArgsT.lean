/-
  What comes in, as the walks ask it: two hashes by value, two slices of bytes by value.
-/
import Derived.Test.YtooffljimdklfaaDoorArgsH
import Derived.Test.YtooffljimdklfaaDoorArgsB
namespace Go.Proofs.YtooffljimdklfaaDoor
open Go.RowKit Go.ChangeShapes Go.WideShapes Go.ChangeAt
set_option maxRecDepth 4000

theorem hash_cells {H : Type} {enc : TypeId × Value → H} {W : World} {fuel : Nat} {cs : List Value} {r : DataW H × List MemPlace}
    (hf : DataW.trod enc Tryd.prog W 0 (fun _ => true) true fuel 24 cs = some r) : ∃ l : List UInt8, cs = By l ∧ l.length = 32 := by
  obtain ⟨xs, m1, rfl, -, hlen, hn, hel⟩ := DataW.trod_array Tryd.underlying24 hf
  have c5 : Tryd.prog.cellsOf 5 = 1 := by kernel_rfl
  have c24 : Tryd.prog.cellsOf 24 = 32 := by kernel_rfl
  rw [c24] at hlen
  have hall : ∀ i, i < 32 → ∃ u : UInt8, cs[i]? = some (.int .u8 (u.toNat : Int)) := by
    intro i hi
    have h0 := hel i hi
    have hxi : i < xs.length := by omega
    rw [List.getElem?_eq_getElem hxi, c5, Nat.mul_one] at h0
    obtain ⟨k, e1, -, hw⟩ := DataW.trod_int Tryd.underlying5 h0
    have hb := bounds_u8 hw
    refine ⟨UInt8.ofNat k.toNat, ?_⟩
    have e6 : ((cs.drop i).take 1)[0]? = some (.int .u8 k) := by rw [e1]; rfl
    rw [List.getElem?_take_of_lt (by decide), List.getElem?_drop, Nat.add_zero] at e6
    rw [e6]
    congr 2
    simp
    omega
  refine ⟨(List.range 32).map fun i => if h : i < 32 then (hall i h).choose else 0, ?_, by simp⟩
  apply List.ext_getElem?
  intro i
  by_cases hi : i < 32
  · rw [(hall i hi).choose_spec]
    simp [By, hi]
  · rw [List.getElem?_eq_none (by omega), List.getElem?_eq_none (by simp [By]; omega)]

theorem two_arg {H : Type} {enc : TypeId × Value → H} {W : World} {r : Reach} {base : Nat} {v : Value} {d : DataW H} {p : List MemPlace} (hval : Value.okWide Tryd.prog W r base 117 v)
    (h : DataW.Trod enc Tryd.prog W 0 (fun _ => true) true 117 v d p) : ∃ x y : List UInt8, v = .agg (By (x ++ y)).toArray ∧ x.length = 32 ∧ y.length = 32 := by
  simp only [Value.okWide, Tryd.underlying117] at hval
  obtain ⟨cs, rfl, -, -⟩ := hval
  obtain ⟨fuel, hf⟩ := h
  obtain ⟨xs, m1, rfl, -, hlen, hn, hel⟩ := DataW.trod_array Tryd.underlying117 hf
  have c24 : Tryd.prog.cellsOf 24 = 32 := by kernel_rfl
  have c25 : Tryd.prog.cellsOf 117 = 64 := by kernel_rfl
  simp only [Value.cells] at hlen hel
  rw [c25] at hlen
  have h0 := hel 0 (by decide)
  have h1 := hel 1 (by decide)
  rw [List.getElem?_eq_getElem (by omega), c24] at h0 h1
  obtain ⟨x, hx, lx⟩ := hash_cells h0
  obtain ⟨y, hy, ly⟩ := hash_cells h1
  refine ⟨x, y, ?_, lx, ly⟩
  congr 1
  apply Array.toList_inj.1
  rw [By_append, ← hx, ← hy]
  simp only [Nat.zero_mul, List.drop_zero, Nat.one_mul]
  rw [List.take_of_length_le (l := cs.toList.drop 32) (by rw [List.length_drop]; omega)]
  simp

theorem slice_cells {H : Type} {enc : TypeId × Value → H} {W : World} {fuel : Nat} {cs : List Value} {r : DataW H × List MemPlace}
    (hf : DataW.trod enc Tryd.prog W 0 (fun _ => true) true fuel 118 cs = some r) : ∃ v l, cs = [v] ∧ Rd W v l := by
  obtain ⟨d, p⟩ := r
  rcases open_ints Tryd.underlying118 Tryd.underlying5 (by kernel_rfl) hf with ⟨hcs, _⟩ | ⟨x, l, c, zs, hcs, _, hl, hm, hz, hx, hcell, hwz⟩
  · exact ⟨_, [], hcs, Rd_nil W⟩
  · have hzz : zs.length = c := by simpa using hz
    obtain ⟨l', hrd⟩ := rd_of_row (w := W) (a := some x) (len := l) (cap := c) (zs := zs) (.inr ⟨x, rfl, hl, hm, hzz, hcell, hwz⟩)
    exact ⟨_, l', hcs, hrd⟩
end Go.Proofs.YtooffljimdklfaaDoor
