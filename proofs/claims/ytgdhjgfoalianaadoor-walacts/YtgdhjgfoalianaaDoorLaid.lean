/-
  What the listed table gives the walks; that the door's own heap bears it.
-/
import Derived.Test.YtgdhjgfoalianaaDoorRows
import Derived.Test.YtgdhjgfoalianaaDoorGSb
import Derived.ProofKit
import Derived.LaidMore
import Derived.OpenShut
import Derived.Stop.Joined
namespace Go.Proofs.YtgdhjgfoalianaaDoor
open Go.ChangeShapes Go.WideShapes Go.ChangeAt Go.WideMaps Go.WideElems Go.RowKit

theorem own : ownKnob Tryd.prog.godebug = none := by kernel_rfl
theorem laidOut : laidOutB Tryd.prog = true := by kernel_rfl
theorem gTab : Tryd.prog.globalNamed "indenture/sum.nibbles" = some 0 := by kernel_rfl
theorem tTab : (Tryd.prog.globals[0]?).map (·.type) = some 113 := by kernel_rfl

theorem door_met (os : Os) (args : Array Value) : laidMetH Tryd.prog [("indenture/sum.nibbles", Rows.laid_indenture_sum_nibbles)] ((World.doorLaid Tryd.prog 400 os).forCall (fun _ _ => 0) ⟨#[], args, []⟩).memory :=
  laidMetH_of_parts3 (fuel := 20) (laidMet_of_run' 20 (by kernel_rfl) (by kernel_rfl)) (by kernel_rfl) (by kernel_rfl)

theorem tab_list : Rows.laid_indenture_sum_nibbles (H := Unit) = .agg ((List.range 16).map fun i => .lit (.int .u32 (tab i : Int))) := by rfl

theorem of_laid {W : World} (h : laidMetH Tryd.prog [("indenture/sum.nibbles", Rows.laid_indenture_sum_nibbles)] W) : Tab W := by
  rw [MakeChecks.laidMetH_plain _ _ _ (by kernel_rfl)] at h
  obtain ⟨ps, ⟨g0, t0, cs0, f0, p0, q0, hg0, ht0, hv0, hd0, _⟩, _, _⟩ := h
  obtain rfl := Option.some.inj (gTab.symm.trans hg0)
  obtain rfl := Option.some.inj (tTab.symm.trans ht0)
  obtain ⟨xs, m1, rfl, hx1, hlen, hn, hel⟩ := DataW.trod_array Tryd.underlying113 hd0
  have c24 : Tryd.prog.cellsOf 98 = 1 := by kernel_rfl
  simp only [Prod.mk.injEq] at hx1
  have key : ∀ i, i < 16 → W.cell? ⟨0, i, none⟩ = some (.int .u32 (tab i : Int)) := by
    intro i hi
    have h0 := hel i hi
    have hxi : i < xs.length := by omega
    rw [List.getElem?_eq_getElem hxi, c24, Nat.mul_one] at h0
    obtain ⟨k, e1, e2, _⟩ := DataW.trod_int Tryd.underlying98 h0
    have e3 : (xs.map (·.1))[i]? = some (.lit (.int .u32 k)) := by
      rw [List.getElem?_map, List.getElem?_eq_getElem hxi, e2]; rfl
    have e4 := hx1.1
    rw [tab_list, DataW.agg.injEq] at e4
    rw [← e4, List.getElem?_map, List.getElem?_range hi] at e3
    have hk : k = (tab i : Int) := by simpa using e3.symm
    have h5 := World.var?_cell hg0 hv0 i
    rw [h5, ← Array.getElem?_toList]
    have e6 : ((cs0.toList.drop i).take 1)[0]? = some (.int .u32 k) := by rw [e1]; rfl
    rw [List.getElem?_take_of_lt (by decide), List.getElem?_drop, Nat.add_zero] at e6
    rw [e6, hk]
  exact ⟨World.block_lt_of_cell? _ _ (key 0 (by decide)), key⟩
end Go.Proofs.YtgdhjgfoalianaaDoor
