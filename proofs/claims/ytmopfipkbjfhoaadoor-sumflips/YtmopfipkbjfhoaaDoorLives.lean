/-
  indenturelaw02.lives: what the call does.
-/
import Derived.Test.YtmopfipkbjfhoaaDoorFrame
import Derived.Lib.SlBytesConst
namespace Go.Proofs.YtmopfipkbjfhoaaDoor
open Go.RowKit

theorem framed_nil : (framed []).length = 5 := by decide
theorem rd_new {W : World} {L : List UInt8} {fr : Nat × Nat} (hL : L.length ≤ 1000000) : Rd (W.alloc (.cells (By L).toArray 5 fr)) (.slice (some ⟨W.heap.size, 0, none⟩) L.length L.length) L := by
  refine ⟨_, _, rfl, Nat.le_refl _, by simp only [maxLen]; omega, fun h => by simp at h, fun _ => ⟨_, 0, rfl, by simp, fun j u hj => ?_⟩⟩
  rw [cell_of_row _ _ (0 + j) _ 5 _ (heap_alloc_new W _)]
  simpa using hj

set_option maxRecDepth 100000 in
theorem lives_any (w : World) (hT : Tab w) : Calls Tryd.prog 9 #[] w fun e w' => e = .returned (.bool true) ∧ Below w.heap.size w w' := by
  have hr : Rd (w.alloc (.cells (By [49, 50, 51, 52, 53, 54, 55, 56, 57]).toArray 5 (9, 10))) (.slice (some ⟨w.heap.size, 0, none⟩) 9 9) [49, 50, 51, 52, 53, 54, 55, 56, 57] := rd_new (by simp)
  have hb0 : Below w.heap.size w (w.alloc (.cells (By [49, 50, 51, 52, 53, 54, 55, 56, 57]).toArray 5 (9, 10))) := (Below.refl _ _).alloc (Nat.le_refl _) _
  have kc := fun (w : World) (C : Array Value) (n c : Nat) => Lib.run_convert_bytes_const (P := Tryd.prog) w 22 5 C n c Tryd.underlying22 Tryd.underlying5
  go_enter Tryd.func9, Tryd.ntmps9
  go_wp2_with fail
  refine (of_any _ [49, 50, 51, 52, 53, 54, 55, 56, 57] _ (hT.kept hb0) hr (by simp)).mono ?_
  rintro e w1 ⟨rfl, hw1⟩
  rw [crc_example]
  have hb1 : Below w.heap.size w w1 := by rw [hw1]; exact hb0
  clear hw1 hr
  go_wp2_with fail
  refine (of_any _ [] _ (hT.kept hb1) (Rd_nil _) (by simp)).mono ?_
  rintro e w2 ⟨rfl, hw2⟩
  subst hw2
  rw [crc_nil]
  go_wp2_with fail
  refine (frame_any _ [] _ (hT.kept hb1) (Rd_nil _) (by simp)).mono ?_
  rintro e w3 ⟨v3, rfl, ho3, hb3⟩
  obtain ⟨a3, c3, rfl, -⟩ := ho3.rd
  rw [framed_nil]
  go_wp2_with fail
  go_ret
  exact ⟨rfl, hb1.trans (hb3.mono hb1.size)⟩
#print axioms lives_any
end Go.Proofs.YtmopfipkbjfhoaaDoor
