/-
  Rows of bytes: what they read as, and a new list of them.
-/
import Derived.Test.YtmicmbjbclkbjaaBase
namespace Go.Proofs.Ytmicmbjbclkbjaa
open Go.RowKit
/-- The slice value v reads as the rows L. -/
def RdR (w : World) (v : Value) (L : List (List UInt8)) : Prop :=
  ∃ a cap, v = .slice a L.length cap ∧
    (0 < L.length → ∃ b off, a = some ⟨b, off, none⟩ ∧ b < w.heap.size ∧ ∀ j (hj : j < L.length), ∃ u, w.cell? ⟨b, off + j, none⟩ = some u ∧ Rd w u L[j])
theorem RdR_nil (w : World) : RdR w (.slice none 0 0) [] := ⟨none, 0, rfl, fun h => by simp at h⟩
theorem RdR.kept {w w' : World} {v : Value} {L : List (List UInt8)} (h : RdR w v L) (hb : Below w.heap.size w w') : RdR w' v L := by
  obtain ⟨a, cap, rfl, h1⟩ := h
  refine ⟨a, cap, rfl, fun hl => ?_⟩
  obtain ⟨b, off, rfl, hlt, hc⟩ := h1 hl
  refine ⟨b, off, rfl, Nat.lt_of_lt_of_le hlt hb.size, fun j hj => ?_⟩
  obtain ⟨u, hu, hr⟩ := hc j hj
  exact ⟨u, (hb.cell (p := ⟨b, off + j, none⟩) hlt).trans hu, hr.kept hb⟩
/-- A new list of rows. -/
theorem rows_new (w : World) (vs : List Value) (Ls : List (List UInt8)) (h : vs.length = Ls.length) (hr : ∀ j (h1 : j < vs.length) (h2 : j < Ls.length), Rd w vs[j] Ls[j]) :
    RdR (w.alloc (.cells vs.toArray 22 (0, 0))) (.slice (some ⟨w.heap.size, 0, none⟩) Ls.length Ls.length) Ls := by
  refine ⟨_, _, rfl, fun hp => ⟨w.heap.size, 0, rfl, by simp, fun j hj => ?_⟩⟩
  have hj' : j < vs.length := by omega
  refine ⟨vs[j], ?_, (hr j hj' hj).kept ((Below.refl _ _).alloc (Nat.le_refl _) _)⟩
  rw [Nat.zero_add]
  exact (Blk.new w 22 vs).cell (List.getElem?_eq_getElem hj')
theorem rows_one (w : World) (v : Value) (l : List UInt8) (h : Rd w v l) : RdR (w.alloc (.cells #[v] 22 (0, 0))) (.slice (some ⟨w.heap.size, 0, none⟩) 1 1) [l] :=
  rows_new w [v] [l] rfl (fun j h1 h2 => by
    simp only [List.length_singleton] at h1
    obtain rfl : j = 0 := by omega
    exact h)
/-- Values that read as rows. -/
def Rds (w : World) : List Value → List (List UInt8) → Prop
  | [], [] => True
  | v :: vs, l :: ls => Rd w v l ∧ Rds w vs ls
  | _, _ => False
theorem Rds.length {w : World} : ∀ {vs : List Value} {ls : List (List UInt8)}, Rds w vs ls → vs.length = ls.length
  | [], [], _ => rfl
  | _ :: _, _ :: _, h => by simp [Rds.length h.2]
theorem Rds.get {w : World} : ∀ {vs : List Value} {ls : List (List UInt8)}, Rds w vs ls → ∀ j (h1 : j < vs.length) (h2 : j < ls.length), Rd w vs[j] ls[j]
  | _ :: _, _ :: _, h, 0, _, _ => h.1
  | _ :: _, _ :: _, h, j + 1, h1, h2 => Rds.get h.2 j (by simpa using h1) (by simpa using h2)
theorem rows_list (w : World) (vs : List Value) (ls : List (List UInt8)) (h : Rds w vs ls) : RdR (w.alloc (.cells vs.toArray 22 (0, 0))) (.slice (some ⟨w.heap.size, 0, none⟩) ls.length ls.length) ls :=
  rows_new w vs ls h.length h.get
end Go.Proofs.Ytmicmbjbclkbjaa
