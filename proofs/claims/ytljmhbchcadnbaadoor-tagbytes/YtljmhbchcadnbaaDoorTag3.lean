/-
  indenturelaw04.lives: what the call does. Loads of rows, places in an array of hashes.
-/
import Derived.Test.YtljmhbchcadnbaaDoorTag2
namespace Go.Proofs.YtljmhbchcadnbaaDoor
open Go.RowKit
theorem tg_leaf : tg 0 [[]] = sha [0] := rfl
set_option maxHeartbeats 1000000 in
set_option maxRecDepth 100000 in
theorem lives_any (w : World) (hT : Tabs w) : Calls Tryd.prog 8 #[] w fun e w' => e = .returned (.bool true) ∧ Below w.heap.size w w' := by
  have HT : Hid (Tabs w) := hT
  clear hT
  have H0 : Hid ((0 : Int) = (((0 : UInt8).toNat : Nat) : Int)) := rfl
  go_enter Tryd.func8, Tryd.ntmps8
  go_wp2_with fail
  refine (leaf_any _ [] w HT.out (Rd_nil w) (by simp)).mono ?_
  rintro e w1 ⟨rfl, hb1⟩
  have L1 : Hid (Below w.heap.size w w1) := hb1
  clear hb1
  rw [tg_leaf]
  obtain ⟨X, HX⟩ : ∃ X, Hid (sha [0] = X) := ⟨_, rfl⟩
  have hX : X.length = 32 := by rw [← HX.out]; exact sha_length _
  rw [HX.out]
  have e24 := eq24 X X hX hX
  simp only [beq_self_eq_true] at e24
  go_wp2_with fail
  refine (refSum_any _ [0] (by simp) _ (own_one' w1 _ (Nat.le_refl _) _ _ H0).rd).mono ?_
  rintro e w2 ⟨rfl, hb2⟩
  have L2 : Hid (Below w.heap.size w w2) := (L1.out.trans ((Below.refl _ _).alloc L1.out.size _)).trans (hb2.mono (by have := L1.out.size; simp; omega))
  clear hb2
  rw [HX.out]
  go_wp2
  go_ret
  exact ⟨rfl, L2.out⟩
end Go.Proofs.YtljmhbchcadnbaaDoor
