/-
  Rows of bytes: what they read as, and a new list of them.
-/
import Derived.Test.YthniaoacanabdaaBase
namespace Go.Proofs.Ythniaoacanabdaa
open Go.RowKit
/-- The slice value v reads as the rows L. -/
def RdR (w : World) (v : Value) (L : List (List UInt8)) : Prop :=
  ∃ a cap, v = .slice a L.length cap ∧
    (0 < L.length → ∃ b off, a = some ⟨b, off, none⟩ ∧ b < w.heap.size ∧ ∀ j (hj : j < L.length), ∃ u, w.cell? ⟨b, off + j, none⟩ = some u ∧ Rd w u L[j])
theorem RdR_nil (w : World) : RdR w (.slice none 0 0) [] := ⟨none, 0, rfl, fun h => by simp at h⟩
theorem RdR.kept {w w' : World} {v : Value} {L : List (List UInt8)} (h : RdR w v L) (hb : Below w.heap.size w w') : RdR w' v L := by
  obtain ⟨a, cap, rfl, h1⟩ := h
  refine ⟨a, cap, rfl, fun hl => ?_⟩
  obtain ⟨b, off, rfl, hlt, hc⟩ := h1 hl
  refine ⟨b, off, rfl, Nat.lt_of_lt_of_le hlt hb.size, fun j hj => ?_⟩
  obtain ⟨u, hu, hr⟩ := hc j hj
  exact ⟨u, (hb.cell (p := ⟨b, off + j, none⟩) hlt).trans hu, hr.kept hb⟩
/-- Values that read as rows. -/
def Rds (w : World) : List Value → List (List UInt8) → Prop
  | [], [] => True
  | v :: vs, l :: ls => Rd w v l ∧ Rds w vs ls
  | _, _ => False
theorem Rds.length {w : World} : ∀ {vs : List Value} {ls : List (List UInt8)}, Rds w vs ls → vs.length = ls.length
  | [], [], _ => rfl
  | _ :: _, _ :: _, h => by simp [Rds.length h.2]
theorem Rds.get {w : World} : ∀ {vs : List Value} {ls : List (List UInt8)}, Rds w vs ls → ∀ j (h1 : j < vs.length) (h2 : j < ls.length), Rd w vs[j] ls[j]
  | _ :: _, _ :: _, h, 0, _, _ => h.1
  | _ :: _, _ :: _, h, j + 1, h1, h2 => Rds.get h.2 j (by simpa using h1) (by simpa using h2)
end Go.Proofs.Ythniaoacanabdaa
