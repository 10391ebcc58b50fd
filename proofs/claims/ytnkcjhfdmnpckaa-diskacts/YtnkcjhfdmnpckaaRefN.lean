/-
  The reference's disk: New.
-/
import Derived.Test.YtnkcjhfdmnpckaaRefA
namespace Go.Proofs.Ytnkcjhfdmnpckaa
open Go.RowKit
open Pd (DM)
set_option maxHeartbeats 2000000 in
set_option maxRecDepth 100000 in
theorem rNew_none {w : World} (s : Int) (h : s < 1 ∨ 4096 < s) : Calls Try.prog 12 #[.int .i64 s] w fun e w' => e = .returned (.pointer none) ∧ w' = w := by
  go_enter Try.func12, Try.ntmps12
  by_cases h1 : s < 1
  · have q1 : decide (s < 1) = true := by simpa using h1
    go_wp2
    go_ret
    exact ⟨rfl, rfl⟩
  · have q1 : decide (s < 1) = false := by simpa using h1
    have q2 : decide (4096 < s) = true := by simp; omega
    go_wp2
    go_ret
    exact ⟨rfl, rfl⟩
theorem make_n {i0 : TypeInfo} (hi0 : Try.prog.info? 5 = some i0) (hz0 : i0.zero = some (.int .u8 0)) (hz1 : i0.size = 1) (hz2 : i0.bytes = 1) (M : Nat) (hM : M ≤ 1000000) (W : World) :
    (Instr.makeSlice 29 (.int .i64 (M : Int)) (.int .i64 (M : Int))).run Try.prog W = .ok (.slice (some ⟨W.heap.size, 0, none⟩) M M) (W.alloc (.cells (Array.replicate M (Value.int .u8 0)) 5)) := by
  have hrun := run_make (P := Try.prog) W 29 5 i0 (.int .u8 0) Try.underlying29 hi0 hz0 .i64 .i64 M M (by omega) (by omega) (by rw [hz2]; omega) (by omega)
  have e : madeCells (Value.int .u8 0).cells ((M : Int).toNat * i0.size) = Array.replicate M (Value.int .u8 0) := by
    apply Array.ext'
    rw [hz1]
    show (madeCells #[Value.int .u8 0] _).toList = _
    rw [toList_madeCells_one]
    simp
  rw [e] at hrun
  simpa only [Int.toNat_natCast] using hrun
set_option maxHeartbeats 8000000 in
set_option maxRecDepth 100000 in
theorem rNew_go {w : World} (n : Nat) (h1 : 1 ≤ n) (h2 : n ≤ 4096) : Calls Try.prog 12 #[.int .i64 (n : Int)] w fun e w' => ∃ G1 G2, e = .returned (.pointer (some ⟨w.heap.size + 2, 0, none⟩)) ∧ G1 ≠ G2 ∧ w.heap.size ≤ G1 ∧ w.heap.size ≤ G2 ∧ G1 < w.heap.size + 2 ∧ G2 < w.heap.size + 2 ∧
    w' = ((w.drew.alloc (.cells (Array.replicate (32 * n) (Value.int .u8 0)) 5 (0, 0))).alloc (.cells (Array.replicate (32 * n) (Value.int .u8 0)) 5 (0, 0))).alloc (.cells (RC (.slice (some ⟨G1, 0, none⟩) (32 * n) (32 * n)) (.slice (some ⟨G2, 0, none⟩) (32 * n) (32 * n)) (.slice none 0 0) false 0 (.slice none 0 0) 0).toArray 60 (0, 0)) := by
  have q1 : decide ((n : Int) < 1) = false := by simp; omega
  have q2 : decide (4096 < (n : Int)) = false := by simp; omega
  obtain ⟨i0, hi0, hz0, hz1, hz2⟩ := info_parts Try.info5
  obtain ⟨M, HM⟩ : ∃ M, Hid (32 * n = M) := ⟨_, rfl⟩
  have hM : M ≤ 1000000 := by have := HM.out; omega
  have w5 : IntKind.i64.wrap ((n : Int) * 32) = (M : Int) := (wr64 (by omega) (by omega)).trans (by have := HM.out; omega)
  rw [HM.out]
  have hmk := make_n hi0 hz0 hz1 hz2 M hM
  clear hi0 hz0 hz1 hz2
  go_enter Try.func12, Try.ntmps12
  go_upto_region 3 with fail
  refine Code.wp_mono (Q := fun e a' w' => ∃ G1 G2, e = .normal ∧ a'.eval (.tmp 2) = .pointer (some ⟨w.heap.size + 2, 0, none⟩) ∧ a'.defers = [] ∧ a'.tmps.size = 17 ∧ G1 ≠ G2 ∧ w.heap.size ≤ G1 ∧ w.heap.size ≤ G2 ∧ G1 < w.heap.size + 2 ∧ G2 < w.heap.size + 2 ∧
    w' = ((w.drew.alloc (.cells (Array.replicate M (Value.int .u8 0)) 5 (0, 0))).alloc (.cells (Array.replicate M (Value.int .u8 0)) 5 (0, 0))).alloc (.cells (RC (.slice (some ⟨G1, 0, none⟩) M M) (.slice (some ⟨G2, 0, none⟩) M M) (.slice none 0 0) false 0 (.slice none 0 0) 0).toArray 60 (0, 0))) ?_ ?_
  · rintro e a' w1 ⟨G1, G2, rfl, he, hd, hs, hG⟩
    have HG : Hid _ := hG
    rw [act_lit a' 17 hs]
    simp only [List.range, List.range.loop, List.map_cons, List.map_nil, he, hd]
    clear hG hmk
    go_wp2
    go_ret
    obtain ⟨g1, g2, g3, g4, g5, g6⟩ := HG.out
    exact ⟨G1, G2, rfl, g1, g2, g3, g4, g5, g6⟩
  · go_region
    · exact ⟨w.heap.size, w.heap.size + 1, rfl, rfl, rfl, rfl, by omega, by omega, by omega, by omega, by omega, rfl⟩
    · exact ⟨w.heap.size + 1, w.heap.size, rfl, rfl, rfl, rfl, by omega, by omega, by omega, by omega, by omega, rfl⟩
theorem own_of_blk {w : World} {g : Nat} {l : List UInt8} (h : Blk w g 5 (By l)) (hl : l.length ≤ maxLen) : Own w 0 (.slice (some ⟨g, 0, none⟩) l.length l.length) l :=
  ⟨by rw [By_length]; omega, .inr ⟨g, l.length, (By l).toArray, rfl, Nat.zero_le _, h, Nat.le_refl _, hl, by simp [By_length], by rw [List.take_of_length_le (by simp [By_length])]⟩⟩
theorem rNew_any (w : World) (c : Nat → Nat) (i : Nat) (hi : i ≠ 0) (n : Nat) (h1 : 1 ≤ n) (h2 : n ≤ 4096) :
    Calls Try.prog 12 #[.int .i64 (n : Int)] w fun e w' => ∃ R, e = .returned (.pointer (some ⟨R, 0, none⟩)) ∧ ∃ c', IsR w' c' i R n (Pd.new n) ∧ Step c i w c' w' ∧ Below w.heap.size w w' ∧ w.heap.size ≤ R := by
  refine (rNew_go n h1 h2).mono ?_
  rintro e w' ⟨G1, G2, rfl, hG, g1, g2, g3, g4, hw⟩
  have hz : Array.replicate (32 * n) (Value.int .u8 0) = (By (List.replicate (32 * n) 0)).toArray := by simp [By]
  rw [hz] at hw
  obtain ⟨w1, hw1⟩ : ∃ x, x = w.drew.alloc (.cells (By (List.replicate (32 * n) 0)).toArray 5 (0, 0)) := ⟨_, rfl⟩
  obtain ⟨w2, hw2⟩ : ∃ x, x = w1.alloc (.cells (By (List.replicate (32 * n) 0)).toArray 5 (0, 0)) := ⟨_, rfl⟩
  rw [← hw1, ← hw2] at hw
  have s1 : w1.heap.size = w.heap.size + 1 := by rw [hw1]; simp
  have s2 : w2.heap.size = w.heap.size + 2 := by rw [hw2]; simp [s1]
  have bel : Below w.heap.size w w' := by
    rw [hw]
    refine Below.alloc ?_ (by omega) _
    rw [hw2]
    refine Below.alloc ?_ (by omega) _
    rw [hw1]
    exact (below_drewN w _ 1).alloc (Nat.le_refl _) _
  have b1 : Blk w2 w.heap.size 5 (By (List.replicate (32 * n) 0)) := by
    rw [hw2, hw1]
    exact (Blk.new w.drew 5 _).alloc _
  have b2 : Blk w2 (w.heap.size + 1) 5 (By (List.replicate (32 * n) 0)) := by
    rw [hw2, ← s1]
    exact Blk.new w1 5 _
  have bG : ∀ G, w.heap.size ≤ G → G < w.heap.size + 2 → Blk w' G 5 (By (List.replicate (32 * n) 0)) := fun G l1 l2 => by
    rw [hw]
    rcases (show G = w.heap.size ∨ G = w.heap.size + 1 by omega) with h | h <;> rw [h]
    · exact b1.alloc _
    · exact b2.alloc _
  have hB := Blk.new w2 60 (RC (.slice (some ⟨G1, 0, none⟩) (32 * n) (32 * n)) (.slice (some ⟨G2, 0, none⟩) (32 * n) (32 * n)) (.slice none 0 0) false 0 (.slice none 0 0) 0)
  rw [← hw, s2] at hB
  have hO : ∀ G, w.heap.size ≤ G → G < w.heap.size + 2 → Own w' 0 (.slice (some ⟨G, 0, none⟩) (32 * n) (32 * n)) (List.replicate (32 * n) 0) := fun G l1 l2 => by
    have := own_of_blk (bG G l1 l2) (by simp [maxLen]; omega)
    simpa using this
  have hA : RAt w' (w.heap.size + 2) (.slice (some ⟨G1, 0, none⟩) (32 * n) (32 * n)) (.slice (some ⟨G2, 0, none⟩) (32 * n) (32 * n)) (.slice none 0 0) (.slice none 0 0) (Pd.new n) :=
    ⟨hB, hO G1 g1 g3, hO G2 g2 g4, OwnN_nil w', OwnN_nil w', fun k hk => by simp [Pd.new] at hk, fun b e1 e2 => by cases e1; cases e2; exact hG rfl, fun b e1 => (by cases e1), Nat.zero_le _⟩
  obtain ⟨k1, k2⟩ := IsR.of_at (c := c) (Chg.of_below bel) hA (Pd.ok_new n) ⟨fun _ => rfl, h1, h2⟩ (fun h => absurd h (by omega)) (fun b e h => by cases e; exact absurd h (by show ¬ G1 < _; omega)) (fun b e h => by cases e; exact absurd h (by show ¬ G2 < _; omega)) (fun b e => by cases e) (fun b e => by cases e) hi
  exact ⟨w.heap.size + 2, rfl, _, k1, k2, bel, by omega⟩
end Go.Proofs.Ytnkcjhfdmnpckaa
