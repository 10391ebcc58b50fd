/-
  A list of hashes: what it reads as, and a new one.
-/
import Derived.Test.YtljmhbchcadnbaaDoorEqs
namespace Go.Proofs.YtljmhbchcadnbaaDoor
open Go.RowKit
/-- The slice value v reads as the hashes Hs. -/
def RdH (w : World) (v : Value) (Hs : List (List UInt8)) : Prop :=
  ∃ b cap, v = .slice (some ⟨b, 0, none⟩) Hs.length cap ∧ b < w.heap.size ∧ Hs.length ≤ cap ∧ ∀ j (_ : j < Hs.length), w.rangeAt b (32 * j) (By Hs[j])
theorem RdH.kept (Hs : List (List UInt8)) : ∀ (w w' : World) (v : Value), Gr w w' → RdH w v Hs → RdH w' v Hs := by
  rintro w w' v hg ⟨b, cap, rfl, hb, hc, h⟩
  refine ⟨b, cap, rfl, Nat.lt_of_lt_of_le hb hg.size, hc, fun j hj i u hu => ?_⟩
  exact (Below.cell hg (p := ⟨b, 32 * j + i, none⟩) hb).trans (h j hj i u hu)
/-- A new list of rows, whole. -/
def RdF (w : World) (v : Value) (L : List (List UInt8)) : Prop := RdR w v L ∧ ∃ b, v = .slice (some ⟨b, 0, none⟩) L.length L.length
theorem RdF.kept (L : List (List UInt8)) : ∀ (w w' : World) (v : Value), Gr w w' → RdF w v L → RdF w' v L := fun _ _ _ hg h => ⟨RdR.kept h.1 hg, h.2⟩
theorem Tryd.info24 : (Tryd.prog.info? 24).map (fun i => (i.zero.isSome, i.size)) = some (true, 32) := by kernel_rfl
theorem hashes_new (w : World) (Hs : List (List UInt8)) (h32 : ∀ l ∈ Hs, l.length = 32) (h0 : 0 < Hs.length) (h1 : Hs.length ≤ 1000) :
    ∃ w1, (Instr.buildSlice 37 Hs.length (((Hs.map fun l => Value.agg (By l).toArray).zipIdx 0).map fun x => (x.2, x.1)).toArray).run Tryd.prog w = .ok (.slice (some ⟨w.heap.size, 0, none⟩) Hs.length Hs.length) w1 ∧ Gr w w1 ∧ RdH w1 (.slice (some ⟨w.heap.size, 0, none⟩) Hs.length Hs.length) Hs := by
  have hi := Tryd.info24
  cases hq : Tryd.prog.info? 24 with
  | none => simp [hq] at hi
  | some ie =>
    simp only [hq, Option.map_some, Option.some.injEq, Prod.mk.injEq] at hi
    obtain ⟨hz, hs⟩ := hi
    obtain ⟨z, hz⟩ := Option.isSome_iff_exists.1 hz
    obtain ⟨r, hr, hsz, hk⟩ := Great.fill_dense (s := 32) (by decide) (Hs.map fun l => Value.agg (By l).toArray) 0 ((Array.range (Hs.length * 32)).map (z.cells[· % z.cells.size]!))
      (fun v hv => by
        obtain ⟨l, hl, rfl⟩ := List.mem_map.1 hv
        simp [Value.cells, By_length, h32 l hl]) (by simp)
    refine ⟨_, run_buildSlice w 37 24 Hs.length _ r ie z Tryd.underlying37 hq hz (by rw [hs]; omega) (by rw [hs]; omega) (by rw [hs]; simpa using hr), (Below.refl _ _).alloc (Nat.le_refl _) _, w.heap.size, _, rfl, by simp, Nat.le_refl _, fun j hj i u hu => ?_⟩
    have hil : i < 32 := by
      have := (List.getElem?_eq_some_iff.1 hu).1
      rw [By_length, h32 _ (List.getElem_mem hj)] at this
      exact this
    rw [World.cell?_alloc_mark, hk, if_pos (by simp; omega)]
    rw [show (32 * j + i) / 32 - 0 = j by omega, show (32 * j + i) % 32 = i by omega, List.getElem?_map, List.getElem?_eq_getElem hj]
    simpa [Value.cells] using hu
end Go.Proofs.YtljmhbchcadnbaaDoor
