/-
  indenturelaw05.DiskNone: the walk: the call returns true and makes new memory alone.
-/
import Derived.Test.YtnkcjhfdmnpckaaDLight
namespace Go.Proofs.Ytnkcjhfdmnpckaa
open Go.RowKit
theorem Try.size25 : (Try.prog.info? 25).map (·.size) = some 1 := by kernel_rfl
theorem index_ptr {P : Program} {t e u : TypeId} {n : Nat} (hu : P.underlying t = some (.array n e)) (he : P.underlying e = some (.pointer u)) (hsz : (P.info? e).map (·.size) = some 1)
    (cs : Array Value) (i : Nat) (v : Value) (hi : i < n) (hv : cs.toList[i]? = some v) (W : World) : (Instr.index t (.agg cs) (.int .i64 (i : Int))).run P W = .ok v W := by
  rw [Array.getElem?_toList] at hv
  cases hq : P.info? e with
  | none => simp [hq] at hsz
  | some j =>
    have hj : j.size = 1 := by simpa [hq] using hsz
    simp [Instr.index, asIntOf, run_underlying hu, run_underlying he, part, isAgg, sizeOf, typeInfo, hq, hj, hv]
    omega
set_option maxHeartbeats 4000000 in
set_option maxRecDepth 100000 in
theorem diskNone_any {w : World} {v : Value} {a : ActP} (h : ∃ vb vk, v = .agg (AC a vb vk).toArray ∧ IsA w a vb vk) : Calls Try.prog 7 #[v] w fun e w' => e = .returned (.bool true) ∧ Below w.heap.size w w' := by
  obtain ⟨vb, vk, rfl, hA⟩ := h
  obtain ⟨ab, cb, hvb, -⟩ := hA.b
  obtain ⟨ak, ck, hvk, -⟩ := hA.k
  subst hvb hvk
  clear hA
  have hz := Z56
  obtain ⟨N, HN⟩ : ∃ N, Hid (w.heap.size = N) := ⟨_, rfl⟩
  go_enter Try.func7, Try.ntmps7
  go_wp2_with fail
  obtain ⟨w1, hw1⟩ : ∃ x, x = w.alloc (.cells (AC a (.slice ab a.B.length cb) (.slice ak a.keep.length ck)).toArray 32 (0, 0)) := ⟨_, rfl⟩
  rw [← hw1]
  obtain ⟨w2, hw2⟩ : ∃ x, x = w1.alloc (.cells #[.bool false, .slice none 0 0, .map none, .slice none 0 0, .int .i64 0, .slice none 0 0, .int .i64 0] 56 (0, 0)) := ⟨_, rfl⟩
  rw [← hw2]
  have s1 : w1.heap.size = w.heap.size + 1 := by rw [hw1]; simp
  have L2 : Hid (Below w.heap.size w w2) := (show Below _ _ _ by rw [hw2, hw1]; exact ((Below.refl _ _).alloc (Nat.le_refl _) _).alloc (by simp) _)
  have B2 : Hid (Blk w2 w.heap.size 32 (AC a (.slice ab a.B.length cb) (.slice ak a.keep.length ck))) := (show Blk _ _ _ _ by rw [hw2, hw1]; exact (Blk.new w 32 _).alloc _)
  have U2 : Hid (Unmade w2 (.pointer (some ⟨w.heap.size + 1, 0, none⟩))) := (show Unmade _ _ from unmade_zero (by rw [← s1, hw2]; exact Blk.new w1 56 Z7))
  clear hw1 hw2 s1
  obtain ⟨G, HG⟩ : ∃ G, Hid (w.heap.size + 1 = G) := ⟨_, rfl⟩
  rw [HG.out] at U2 ⊢
  rw [HN.out] at B2 L2 ⊢
  go_loopg [9] 3 (fun g x wr => ∃ i : Nat, i ≤ 2 ∧ g + i = 3 ∧ x = .int .i64 (i : Int) ∧ Hid (Blk wr N 32 (AC a (.slice ab a.B.length cb) (.slice ak a.keep.length ck))) ∧ Hid (Unmade wr (.pointer (some ⟨G, 0, none⟩))) ∧ Hid (Below N w wr))
  case atStart => exact ⟨0, by omega, rfl, rfl, B2, U2, L2⟩
  case round =>
    clear B2 U2 L2
    obtain ⟨i, hi, hgk, rfl, BR, UR, LR⟩ := hrel
    by_cases hlt : i < 2
    · obtain ⟨q, hq, HQ⟩ : ∃ q, (#[Value.pointer none, Value.pointer (some ⟨G, 0, none⟩)] : Array Value).toList[i]? = some q ∧ Hid (Unmade wr q) := by
        rcases (show i = 0 ∨ i = 1 by omega) with rfl | rfl
        · exact ⟨_, rfl, unmade_nil wr⟩
        · exact ⟨_, rfl, UR⟩
      have q1 : (i : Int) < 2 := by omega
      have hix : ∀ W, (Instr.index 57 (.agg #[Value.pointer none, Value.pointer (some ⟨G, 0, none⟩)]) (.int .i64 (i : Int))).run Try.prog W = .ok q W := fun W => index_ptr Try.underlying57 Try.underlying25 Try.size25 _ i q hlt hq W
      have c1 := BR.out.cell (j := 1) rfl
      have c2 := BR.out.cell (j := 2) rfl
      have c3 := BR.out.cell (j := 3) rfl
      have c4 := BR.out.cell (j := 4) rfl
      clear hq
      go_wp2_with fail
      refine (arm_un HQ.out _ _ _).mono ?_
      rintro e w3 ⟨rfl, hw⟩; subst hw
      go_wp2_with fail
      refine (read_un HQ.out _ _).mono ?_
      rintro e w3 ⟨rfl, hw⟩; subst hw
      go_wp2_with fail
      refine (write_un HQ.out _ _).mono ?_
      rintro e w3 ⟨rfl, hw⟩; subst hw
      go_wp2_with fail
      refine (sync_un HQ.out).mono ?_
      rintro e w3 ⟨rfl, hw⟩; subst hw
      go_wp2_with fail
      refine (crash_un HQ.out _ _).mono ?_
      rintro e w3 ⟨rfl, hw⟩; subst hw
      go_wp2_with fail
      refine (start_un HQ.out).mono ?_
      rintro e w3 ⟨rfl, hw⟩; subst hw
      go_wp2_with fail
      refine (on_un HQ.out).mono ?_
      rintro e w3 ⟨rfl, hw⟩; subst hw
      go_wp2_with fail
      refine (size_un HQ.out).mono ?_
      rintro e w3 ⟨rfl, hw⟩; subst hw
      go_wp2_with fail
      refine (dirty_un HQ.out).mono ?_
      rintro e w3 ⟨rfl, hw⟩; subst hw
      go_wp2_with fail
      refine (copy_un HQ.out).mono ?_
      rintro e w3 ⟨rfl, hw⟩; subst hw
      go_wp2_with fail
      go_roundg (gk - 1)
      case measure => omega
      case rel => exact ⟨i + 1, by omega, by omega, by go_num, BR, UR, LR⟩
    · obtain rfl : i = 2 := by omega
      go_wp2_with fail
      refine (lives_any wr).mono ?_
      rintro e w2 ⟨rfl, hb2⟩
      have L2 : Hid (Below N w w2) := LR.out.trans (hb2.mono (by have := LR.out.size; have := HN.out; omega))
      clear hb2
      go_wp2
      go_ret
      exact ⟨rfl, by rw [HN.out]; exact L2.out⟩
end Go.Proofs.Ytnkcjhfdmnpckaa
