/-
  What the listed tables give the walks; that the door's own heap bears them.
-/
import Derived.Test.YtmicmbjbclkbjaaDoorRows
import Derived.Test.YtmicmbjbclkbjaaDoorGHc
import Derived.ProofKit
import Derived.LaidMore
import Derived.OpenShut
import Derived.Stop.Joined
namespace Go.Proofs.YtmicmbjbclkbjaaDoor
open Go.ChangeShapes Go.WideShapes Go.ChangeAt Go.WideMaps Go.WideElems Go.RowKit

theorem own : ownKnob Tryd.prog.godebug = none := by kernel_rfl
theorem laidOut : laidOutB Tryd.prog = true := by kernel_rfl
theorem gBegin : Tryd.prog.globalNamed "indenture/sha.begin" = some 0 := by kernel_rfl
theorem tBegin : (Tryd.prog.globals[0]?).map (·.type) = some 99 := by kernel_rfl
theorem gRounds : Tryd.prog.globalNamed "indenture/sha.rounds" = some 1 := by kernel_rfl
theorem tRounds : (Tryd.prog.globals[1]?).map (·.type) = some 117 := by kernel_rfl

theorem door_met (os : Os) (args : Array Value) : laidMetH Tryd.prog [("indenture/sha.begin", Rows.laid_indenture_sha_begin), ("indenture/sha.rounds", Rows.laid_indenture_sha_rounds)] ((World.doorLaid Tryd.prog 400 os).forCall (fun _ _ => 0) ⟨#[], args, []⟩).memory :=
  laidMetH_of_parts3 (fuel := 20) (laidMet_of_run' 20 (by kernel_rfl) (by kernel_rfl)) (by kernel_rfl) (by kernel_rfl)

theorem begin_list : Rows.laid_indenture_sha_begin (H := Unit) = .agg ((List.range 8).map fun i => .lit (.int .u32 ((gW H0 i).toNat : Int))) := by rfl
theorem rounds_list : Rows.laid_indenture_sha_rounds (H := Unit) = .agg ((List.range 64).map fun i => .lit (.int .u32 ((gW K i).toNat : Int))) := by rfl


theorem key {W : World} {name : String} {g t N f : Nat} {cs : Array Value} {d : DataW Unit} {p : List MemPlace} {F : Nat → Int} (hu : Tryd.prog.underlying t = some (.array N 98)) (hg : Tryd.prog.globalNamed name = some g)
    (hv : World.var? Tryd.prog W name = some cs) (hd : DataW.trod (fun _ => ()) Tryd.prog W 0 (fun _ => true) false f t cs.toList = some (d, p))
    (hl : d = .agg ((List.range N).map fun i => .lit (.int .u32 (F i)))) : ∀ i, i < N → W.cell? ⟨g, i, none⟩ = some (.int .u32 (F i)) := by
  obtain ⟨xs, m1, rfl, hx1, hlen, hn, hel⟩ := DataW.trod_array hu hd
  have c42 : Tryd.prog.cellsOf 98 = 1 := by kernel_rfl
  simp only [Prod.mk.injEq] at hx1
  intro i hi
  have h0 := hel i hi
  have hxi : i < xs.length := by omega
  rw [List.getElem?_eq_getElem hxi, c42, Nat.mul_one] at h0
  obtain ⟨k, e1, e2, _⟩ := DataW.trod_int Tryd.underlying98 h0
  have e3 : (xs.map (·.1))[i]? = some (.lit (.int .u32 k)) := by
    rw [List.getElem?_map, List.getElem?_eq_getElem hxi, e2]; rfl
  have e4 := hx1.1
  rw [hl, DataW.agg.injEq] at e4
  rw [← e4, List.getElem?_map, List.getElem?_range hi] at e3
  have hk : k = F i := by simpa using e3.symm
  have h5 := World.var?_cell hg hv i
  rw [h5, ← Array.getElem?_toList]
  have e6 : ((cs.toList.drop i).take 1)[0]? = some (.int .u32 k) := by rw [e1]; rfl
  rw [List.getElem?_take_of_lt (by decide), List.getElem?_drop, Nat.add_zero] at e6
  rw [e6, hk]

theorem of_laid {W : World} (h : laidMetH Tryd.prog [("indenture/sha.begin", Rows.laid_indenture_sha_begin), ("indenture/sha.rounds", Rows.laid_indenture_sha_rounds)] W) : Tabs W := by
  rw [MakeChecks.laidMetH_plain _ _ _ (by kernel_rfl)] at h
  obtain ⟨ps, ⟨g0, t0, cs0, f0, p0, q0, hg0, ht0, hv0, hd0, hrest⟩, _, _⟩ := h
  obtain rfl := Option.some.inj (gBegin.symm.trans hg0)
  obtain rfl := Option.some.inj (tBegin.symm.trans ht0)
  obtain ⟨⟨g1, t1, cs1, f1, p1, q1, hg1, ht1, hv1, hd1, _⟩, _⟩ := hrest
  obtain rfl := Option.some.inj (gRounds.symm.trans hg1)
  obtain rfl := Option.some.inj (tRounds.symm.trans ht1)
  have k0 := key Tryd.underlying99 hg0 hv0 hd0 begin_list
  have k1 := key Tryd.underlying117 hg1 hv1 hd1 rounds_list
  exact ⟨World.block_lt_of_cell? _ _ (k1 0 (by decide)), k0, k1⟩
end Go.Proofs.YtmicmbjbclkbjaaDoor
