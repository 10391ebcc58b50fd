/-
  sha.newState: what the call does.
-/
import Derived.Test.YtooffljimdklfaaDoorTake
namespace Go.Proofs.YtooffljimdklfaaDoor
open Go.RowKit
theorem Tryd.size130 : (Tryd.prog.info? 130).map (·.size) = some 8 := by kernel_rfl
theorem Tryd.size137 : (Tryd.prog.info? 137).map (·.size) = some 74 := by kernel_rfl
/-- A new State's cells. -/
def S0c : List Value := SC true H0 (List.replicate 64 0) 0
theorem SC_one (m : Bool) (h : List W) (k : List UInt8) (n : Nat) : ∀ u ∈ SC m h k n, u.oneCell' = true := by
  intro u hu
  simp only [SC, List.mem_cons, List.mem_append] at hu
  rcases hu with rfl | hu | hu | rfl | hu
  · rfl
  · exact Ws_one _ u hu
  · exact By_one _ u hu
  · rfl
  · simp at hu
def Z137 : List Value := SC false (List.replicate 8 0#32) (List.replicate 64 0) 0
theorem zero137 (W : World) : (zeroValue 137).run Tryd.prog W = .ok (.agg Z137.toArray) W := by kernel_rfl
theorem build48 : List.foldl (fun (cs : Array Value) (x : Value × Nat) => cs.setIfInBounds (1 + x.snd) x.fst) (Z137.set 0 (Value.bool true)).toArray (Ws H0).zipIdx = S0c.toArray := by kernel_rfl
theorem begin_range {w : World} (h : Tabs w) : w.rangeAt 0 0 (Ws H0) := fun j v hj => by
  have hj' : j < 8 := by have := (List.getElem?_eq_some_iff.1 hj).1; rw [Ws_length] at this; exact this
  rw [Nat.zero_add, h.begin j hj', ← hj, Ws_get hj']

set_option maxHeartbeats 1000000 in
set_option maxRecDepth 100000 in
theorem newState_any (w : World) (hT : Tabs w) : Calls Tryd.prog 74 #[] w fun e w' => e = .returned (.agg S0c.toArray) ∧ Below w.heap.size w w' := by
  have HT : Hid (Tabs w) := hT
  clear hT
  obtain ⟨N, HN⟩ : ∃ N, Hid (w.heap.size = N) := ⟨_, rfl⟩
  obtain ⟨B, HB⟩ : ∃ B : List Value, Hid (Ws H0 = B) := ⟨_, rfl⟩
  have hbl : B.length = 8 := by rw [← HB.out]; rfl
  have hz := zero137
  obtain ⟨Z, HZ⟩ : ∃ Z, Hid (Z137 = Z) := ⟨_, rfl⟩
  rw [HZ.out] at hz
  have hzl : Z.length = 74 := by rw [← HZ.out]; rfl
  have hze : ¬ Z = [] := fun h => by rw [h] at hzl; simp at hzl
  have hs : S0c.length = 74 := rfl
  have hb := build48
  rw [HB.out, HZ.out] at hb
  have HO : Hid (∀ u ∈ S0c, u.oneCell' = true) := SC_one _ _ _ _
  generalize S0c = S at *
  go_enter Tryd.func74, Tryd.ntmps74
  go_wp2_with (first
    | (refine wpList_load_mid rfl 130 _ rfl 0 0 rfl B _ (by rw [← HB.out]; exact begin_range (HT.out.gr ((Below.refl _ _).alloc (Nat.le_refl _) _))) Tryd.underlying130 rfl (by rw [hbl]; exact Tryd.size130) ?_)
    | (refine wpList_store_new rfl 137 _ _ rfl w _ _ _ rfl rfl rfl (by simpa [hs] using Tryd.size137) (by simp [hzl, hs]) (all_one HO.out) ?_)
    | fail)
  refine bodyPost_ret (results_cell_row rfl _ _ w.heap.size 137 _ (0, 0) _ rfl (Blk.new w 137 S) Tryd.underlying137 rfl (by simpa [hs] using Tryd.size137)) rfl ⟨rfl, ?_⟩
  exact (Below.refl _ _).alloc (Nat.le_refl _) _
end Go.Proofs.YtooffljimdklfaaDoor
