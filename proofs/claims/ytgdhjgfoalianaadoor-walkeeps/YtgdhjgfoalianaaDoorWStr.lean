/-
  Texts that come in: what they read as.
-/
import Derived.Test.YtgdhjgfoalianaaDoorWalC
import Derived.SizedLaws
import Derived.SliceStrings
namespace Go.Proofs.YtgdhjgfoalianaaDoor
open Go.RowKit Go.ChangeShapes Go.WideShapes Go.ChangeAt

/-- The slice value v reads as the texts of these bytes. -/
def RdT (w : World) (v : Value) (L : List (List UInt8)) : Prop :=
  ∃ a cap, v = .slice a L.length cap ∧ (0 < L.length → ∃ b off, a = some ⟨b, off, none⟩ ∧ b < w.heap.size ∧ ∀ j (hj : j < L.length), w.cell? ⟨b, off + j, none⟩ = some (.string ⟨L[j].toArray⟩))
theorem RdT.kept {w w' : World} {v : Value} {L : List (List UInt8)} (h : RdT w v L) (hb : Below w.heap.size w w') : RdT w' v L := by
  obtain ⟨a, cap, rfl, h4⟩ := h
  refine ⟨a, cap, rfl, fun hl => ?_⟩
  obtain ⟨b, off, rfl, hlt, hc⟩ := h4 hl
  exact ⟨b, off, rfl, Nat.lt_of_lt_of_le hlt hb.size, fun j hj => (hb.cell (p := ⟨b, off + j, none⟩) hlt).trans (hc j hj)⟩
theorem ba_back (s : ByteArray) : (⟨s.data.toList.toArray⟩ : ByteArray) = s := by cases s; simp

theorem texts_trod {H : Type} {enc : TypeId × Value → H} {W : World} {fuel : Nat} {cs : List Value} {x : DataW H × List MemPlace} (h : DataW.trod enc Tryd.prog W 0 (fun _ => true) true fuel 56 cs = some x) :
    ∃ v L, cs = [v] ∧ RdT W v L := by
  rcases open_strings Tryd.underlying56 Tryd.underlying9 (by kernel_rfl) h with ⟨hcs, _⟩ | ⟨a, len, cap, ss, hcs, _, hl, hm, hz, hx, hcell, _⟩
  · exact ⟨_, [], hcs, ⟨none, 0, rfl, fun h => by simp at h⟩⟩
  · have hz' : ss.length = cap := by simpa using hz
    have hlen : ((ss.take len).map fun s => s.data.toList).length = len := by simp; omega
    refine ⟨_, (ss.take len).map fun s => s.data.toList, hcs, ⟨some a, cap, by rw [hlen], fun hp => ?_⟩⟩
    rw [hlen] at hp
    obtain ⟨b, off, spot⟩ := a
    have h0 := hcell 0 (by omega)
    have hspot : spot = none := by simpa [Addr.add] using World.cell?_spot h0
    subst hspot
    have h0' : W.cell? ⟨b, off, none⟩ = some (.string (ss.getD 0 ByteArray.empty)) := by simpa [Addr.add_lit] using h0
    refine ⟨b, off, rfl, World.block_lt_of_cell? _ _ h0', fun j hj => ?_⟩
    rw [hlen] at hj
    have hcj := hcell j (by omega)
    rw [Addr.add_lit] at hcj
    rw [hcj]
    rw [List.getElem_map, ba_back, List.getElem_take]
    simp [show j < ss.length from by omega]
set_option maxRecDepth 4000 in
theorem strs_arg {H : Type} {enc : TypeId × Value → H} {W : World} {r : Reach} {base : Nat} {v : Value} {d : DataW H} {p : List MemPlace} (hval : Value.okWide Tryd.prog W r base 56 v)
    (h : DataW.Trod enc Tryd.prog W 0 (fun _ => true) true 56 v d p) : ∃ L, RdT W v L := by
  obtain ⟨a, len, cap, rfl⟩ := okWide_slice Tryd.underlying56 hval
  obtain ⟨fuel, hf⟩ := h
  obtain ⟨v', L, hcs, hr⟩ := texts_trod hf
  simp [Value.cells] at hcs
  subst hcs
  exact ⟨L, hr⟩
theorem pad_le (t : List UInt8) : (pad t).length ≤ t.length + 44 := by
  have := pad_length t
  have := ru_lt (framed t).length
  have := framed_length t
  have := enc_length t.length
  omega
end Go.Proofs.YtgdhjgfoalianaaDoor
