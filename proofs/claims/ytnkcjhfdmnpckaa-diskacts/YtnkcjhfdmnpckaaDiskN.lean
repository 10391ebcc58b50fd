/-
  disk.New: what the call does.
-/
import Derived.Test.YtnkcjhfdmnpckaaDiskU
namespace Go.Proofs.Ytnkcjhfdmnpckaa
open Go.RowKit
open Pd (spl spl_length spl_get clip clip_le DM)
theorem madeZ (k : Nat) : madeCells (Value.agg (By Zs).toArray).cells k = (By (List.replicate k 0)).toArray := by
  have hz : (Value.agg (By Zs).toArray).cells = Array.replicate 32 (Value.int .u8 0) := by
    rfl
  rw [hz]
  apply Array.ext'
  unfold madeCells
  rw [Array.toList_map, Array.toList_range]
  apply List.ext_getElem
  · simp [By]
  · intro i h1 h2
    have hi : i % 32 < 32 := Nat.mod_lt _ (by omega)
    simp [By, hi]
theorem replicate_take (k n : Nat) (h : k ≤ n) : (By (List.replicate n 0)).take k = By (List.replicate k 0) := by
  simp [By, List.take_replicate, Nat.min_eq_left h]
theorem rel_new (n : Nat) : Rel n { on := true, safe := List.replicate (n * 32) 0, f := fun _ => none, order := [], ops := 0, keep := [], torn := 0 } (Pd.new n) :=
  ⟨rfl, by rw [Nat.mul_comm]; rfl, rfl, fun _ => by simp [Pd.new], rfl, fun e => absurd rfl e, Pd.ok_new n, fun e => (by cases e), by simp [Pd.new]⟩
set_option maxHeartbeats 1000000 in
set_option maxRecDepth 100000 in
theorem dNew_none (w : World) (k : Int) (hk : k < 1 ∨ 4096 < k) : Calls Try.prog 11 #[.int .i64 k] w fun e w' => e = .returned (.pointer none) ∧ w' = w := by
  go_enter Try.func11, Try.ntmps11
  by_cases h1 : k < 1
  · go_wp2
    go_ret
    exact ⟨rfl, rfl⟩
  · have h2 : 4096 < k := by omega
    go_wp2
    go_ret
    exact ⟨rfl, rfl⟩
set_option maxHeartbeats 1000000 in
set_option maxRecDepth 100000 in
theorem dNew_any (w : World) (c : Nat → Nat) (i : Nat) (hi : i ≠ 0) (n : Nat) (h1 : 0 < n) (h2 : n ≤ 4096) :
    Calls Try.prog 11 #[.int .i64 (n : Int)] w fun e w' => ∃ D, e = .returned (.pointer (some ⟨D, 0, none⟩)) ∧ ∃ c', IsD w' c' i D n (Pd.new n) ∧ Step c i w c' w' ∧ Below w.heap.size w w' ∧ w.heap.size ≤ D := by
  obtain ⟨i0, hi0, hz0, hz1, hz2⟩ := info_parts Try.info68
  have hmk : ∀ W, (Instr.makeSlice 51 (.int .i64 (n : Int)) (.int .i64 (n : Int))).run Try.prog W = .ok (.slice (some ⟨W.heap.size, 0, none⟩) n n) (W.alloc (.cells (By (List.replicate (n * 32) 0)).toArray 68)) := fun W => by
    have := run_make (P := Try.prog) W 51 68 i0 _ Try.underlying51 hi0 hz0 .i64 .i64 (n : Int) (n : Int) (by omega) (by omega) (by rw [hz2]; omega) (by omega)
    rw [hz1, madeZ] at this
    simpa using this
  obtain ⟨Z, HZ⟩ : ∃ Z, Hid (By (List.replicate (n * 32) 0) = Z) := ⟨_, rfl⟩
  rw [HZ.out] at hmk
  have hmm := @run_makeMap Try.prog
  have q1 : ¬ (n : Int) < 1 := by omega
  have q2 : ¬ 4096 < (n : Int) := by omega
  have q3 : (n : Int) ≤ 4096 := by omega
  clear hi0 hz0 hz1 hz2
  go_enter Try.func11, Try.ntmps11
  go_wp2
  go_ret
  obtain ⟨wa, hwa⟩ : ∃ x, x = w.alloc (.cells Z.toArray 68 (0, 0)) := ⟨_, rfl⟩
  rw [← hwa]
  obtain ⟨wb, hwb⟩ : ∃ x, x = wa.alloc (.map #[] 0) := ⟨_, rfl⟩
  rw [← hwb]
  obtain ⟨wd, hwd⟩ : ∃ x, x = wb.alloc (.cells (DB true w.heap.size n n (w.heap.size + 1) (.slice none 0 0) 0 (.slice none 0 0) 0).toArray 56 (0, 0)) := ⟨_, rfl⟩
  have hwd' : wb.alloc (.cells #[.bool true, .slice (some ⟨w.heap.size, 0, none⟩) n n, .map (some (w.heap.size + 1)), .slice none 0 0, .int .i64 0, .slice none 0 0, .int .i64 0] 56) = wd := hwd.symm
  rw [hwd']
  have sa : wa.heap.size = w.heap.size + 1 := by rw [hwa]; simp
  have sb : wb.heap.size = w.heap.size + 1 + 1 := by rw [hwb]; simp [sa]
  have sd : wd.heap.size = w.heap.size + 1 + 1 + 1 := by rw [hwd]; simp [sb]
  have bel : Below w.heap.size w wd := by
    rw [hwd, hwb, hwa]
    exact (((Below.refl _ _).alloc (Nat.le_refl _) _).alloc (by simp) _).alloc (by simp; omega) _
  have hB : Blk wd (w.heap.size + 1 + 1) 56 (DB true w.heap.size n n (w.heap.size + 1) (.slice none 0 0) ((0 : Nat) : Int) (.slice none 0 0) 0) := by
    rw [hwd, ← sb]
    exact Blk.new wb 56 _
  have hS : OwnS wd w.heap.size n n (List.replicate (n * 32) 0) := by
    have h0 : Blk wa w.heap.size 68 Z := by rw [hwa]; exact Blk.new w 68 Z
    have h1 : Blk wd w.heap.size 68 Z := by
      rw [hwd, hwb]
      exact (h0.alloc _).alloc _
    rw [← HZ.out] at h1
    refine OwnS.of_blk h1 ?_ (by simp) (by simp [By]) (Nat.le_refl _) (by unfold maxLen; omega)
    rw [List.take_of_length_le (by simp [By])]
  have hM : MapS wd (w.heap.size + 1) (fun _ => none) 0 := by
    have h0 : MapS wb wa.heap.size (fun _ => none) 0 := by rw [hwb]; exact MapS_made wa
    rw [sa] at h0
    rw [hwd]
    exact h0.chg (F := fun _ => False) (Chg.alloc _ _ _) id
  refine ⟨w.heap.size + 1 + 1, rfl, paint c w wd i, ⟨w.heap.size, w.heap.size + 1, n, 0, .slice none 0 0, .slice none 0 0, _, ⟨hB, hS, hM, OwnN_nil _, RdN_nil _, fun k hk => (by cases hk), h1, h2⟩, ⟨List.nodup_nil, fun k hk => (by cases hk), fun k hk => (by cases hk), rfl⟩, rel_new n, paint_new (by omega) (by omega), paint_new (by omega) (by omega), paint_new (by omega) (by omega), fun b hb => (by cases hb), fun b hb => absurd hb (InB_nil b), hi⟩, Step.of_paint (Chg.of_below bel), bel, by omega⟩
end Go.Proofs.Ytnkcjhfdmnpckaa
