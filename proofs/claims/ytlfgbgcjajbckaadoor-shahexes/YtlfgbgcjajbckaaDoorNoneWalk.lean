/-
  indenturelaw03.ShaNone: the walk: the call returns true and makes new memory alone.
-/
import Derived.Test.YtlfgbgcjajbckaaDoorCutsWalk
namespace Go.Proofs.YtlfgbgcjajbckaaDoor
open Go.RowKit
/-- p is no State that a call made, in whatever world behind w. -/
def Unmade (w : World) (p : Value) : Prop := ∀ w', Below w.heap.size w w' → Calls Tryd.prog 29 #[p] w' fun e w'' => e = .returned (.bool false) ∧ w'' = w'
theorem Unmade.kept {w w' : World} {p : Value} (h : Unmade w p) (hb : Below w.heap.size w w') : Unmade w' p := fun w'' hb' => h w'' (hb.trans (hb'.mono hb.size))
theorem unmade_nil (w : World) : Unmade w (.pointer none) := fun w' _ => isMade_nil w'
theorem unmade_zero {w : World} {b : Nat} (h : Blk w b 48 Z48) : Unmade w (.pointer (some ⟨b, 0, none⟩)) := fun w' hb => isMade_any w' b false _ _ _ (h.kept hb)

set_option maxRecDepth 100000 in
theorem write_un (p v : Value) (w : World) (hU : Unmade w p) : Calls Tryd.prog 17 #[p, v] w fun e w' => e = .returned (.bool false) ∧ w' = w := by
  have HU : Hid (Unmade w p) := hU
  clear hU
  go_enter Tryd.func17, Tryd.ntmps17
  go_wp2_with fail
  refine (HU.out w (Below.refl _ _)).mono ?_
  rintro e w1 ⟨rfl, hw⟩; subst hw
  go_wp2
  go_ret
  exact ⟨rfl, rfl⟩
set_option maxRecDepth 100000 in
theorem len_un (p : Value) (w : World) (hU : Unmade w p) : Calls Tryd.prog 19 #[p] w fun e w' => e = .returned (.int .i64 0) ∧ w' = w := by
  have HU : Hid (Unmade w p) := hU
  clear hU
  go_enter Tryd.func19, Tryd.ntmps19
  go_wp2_with fail
  refine (HU.out w (Below.refl _ _)).mono ?_
  rintro e w1 ⟨rfl, hw⟩; subst hw
  go_wp2
  go_ret
  exact ⟨rfl, rfl⟩
set_option maxRecDepth 100000 in
theorem copy_un (p : Value) (w : World) (hU : Unmade w p) : Calls Tryd.prog 20 #[p] w fun e w' => e = .returned (.pointer none) ∧ w' = w := by
  have HU : Hid (Unmade w p) := hU
  clear hU
  go_enter Tryd.func20, Tryd.ntmps20
  go_wp2_with fail
  refine (HU.out w (Below.refl _ _)).mono ?_
  rintro e w1 ⟨rfl, hw⟩; subst hw
  go_wp2
  go_ret
  exact ⟨rfl, rfl⟩
theorem Tryd.size37 : (Tryd.prog.info? 37).map (·.size) = some 1 := by kernel_rfl
theorem index_ptr {P : Program} {t e u : TypeId} {n : Nat} (hu : P.underlying t = some (.array n e)) (he : P.underlying e = some (.pointer u)) (hsz : (P.info? e).map (·.size) = some 1)
    (cs : Array Value) (i : Nat) (v : Value) (hi : i < n) (hv : cs.toList[i]? = some v) (W : World) : (Instr.index t (.agg cs) (.int .i64 (i : Int))).run P W = .ok v W := by
  rw [Array.getElem?_toList] at hv
  cases hq : P.info? e with
  | none => simp [hq] at hsz
  | some j =>
    have hj : j.size = 1 := by simpa [hq] using hsz
    simp [Instr.index, asIntOf, run_underlying hu, run_underlying he, part, isAgg, sizeOf, typeInfo, hq, hj, hv]
    omega
/-- A hash of noughts, as cells. -/
def Zh : List Value := By (List.replicate 32 0)
theorem build25 (W : World) : (Instr.build 25 #[]).run Tryd.prog W = .ok (.agg Zh.toArray) W := by kernel_rfl
set_option maxHeartbeats 1000000 in
set_option maxRecDepth 100000 in
theorem sum_un (p : Value) (w : World) (hU : Unmade w p) : Calls Tryd.prog 18 #[p] w fun e w' => e = .returned (.agg Zh.toArray) ∧ Below w.heap.size w w' := by
  have HU : Hid (Unmade w p) := hU
  clear hU
  have hb := build25
  have hzl : Zh.length = 32 := rfl
  have HZ1 : Hid (∀ u ∈ Zh, u.oneCell' = true) := By_one _
  go_enter Tryd.func18, Tryd.ntmps18
  go_wp2_with fail
  refine (HU.out _ ((Below.refl _ _).alloc (Nat.le_refl _) _)).mono ?_
  rintro e w1 ⟨rfl, hw⟩; subst hw
  go_wp2_with (first
    | (refine wpList_store_new rfl 25 _ _ rfl w _ _ _ rfl rfl rfl (by simpa [hzl] using Tryd.size25) (by simp [hzl]) (all_one HZ1.out) ?_)
    | fail)
  refine bodyPost_ret (results_cell_row rfl _ _ w.heap.size 25 _ (0, 0) _ rfl (Blk.new w 25 Zh) Tryd.underlying25 rfl (by simpa [hzl] using Tryd.size25)) rfl ⟨rfl, (Below.refl _ _).alloc (Nat.le_refl _) _⟩

theorem eqz (W : World) : (Op.equalIn 10000 25 (.agg Zh.toArray) (.agg #[.int .u8 0, .int .u8 0, .int .u8 0, .int .u8 0, .int .u8 0, .int .u8 0, .int .u8 0, .int .u8 0, .int .u8 0, .int .u8 0, .int .u8 0, .int .u8 0, .int .u8 0, .int .u8 0, .int .u8 0, .int .u8 0, .int .u8 0, .int .u8 0, .int .u8 0, .int .u8 0, .int .u8 0, .int .u8 0, .int .u8 0, .int .u8 0, .int .u8 0, .int .u8 0, .int .u8 0, .int .u8 0, .int .u8 0, .int .u8 0, .int .u8 0, .int .u8 0])).run Tryd.prog W = .ok true W :=
  eq25 (List.replicate 32 0) (List.replicate 32 0) rfl rfl W
set_option maxHeartbeats 1000000 in
set_option maxRecDepth 100000 in
theorem shaNone_any (v : Value) (w : World) (hT : Tabs w) : Calls Tryd.prog 6 #[v] w fun e w' => e = .returned (.bool true) ∧ Below w.heap.size w w' := by
  have HT : Hid (Tabs w) := hT
  clear hT
  obtain ⟨N, HN⟩ : ∃ N, Hid (w.heap.size = N) := ⟨_, rfl⟩
  have hz := zero48
  have hez := eqz
  obtain ⟨Z, HZ⟩ : ∃ Z, Hid (Z48 = Z) := ⟨_, rfl⟩
  rw [HZ.out] at hz
  go_enter Tryd.func6, Tryd.ntmps6
  go_wp2_with fail
  rw [HN.out]
  obtain ⟨w1, hw1⟩ : ∃ x, x = w.alloc (.cells Z.toArray 48 (0, 0)) := ⟨_, rfl⟩
  rw [← hw1]
  have L1 : Hid (Below N w w1) := (show Below _ _ _ by rw [hw1]; exact (Below.refl _ _).alloc (by rw [HN.out]; exact Nat.le_refl _) _)
  have U1 : Hid (Unmade w1 (.pointer (some ⟨N, 0, none⟩))) := (show Unmade _ _ by
    refine unmade_zero ?_
    rw [HZ.out, hw1, ← HN.out]
    exact Blk.new w 48 Z)
  clear hw1
  go_loopg [7] 3 (fun g x wr => Hid (Below N w wr) ∧ ∃ i : Nat, i ≤ 2 ∧ g + i = 3 ∧ x = .int .i64 i ∧ Hid (Unmade wr (.pointer (some ⟨N, 0, none⟩))))
  case atStart => exact ⟨L1, 0, by omega, rfl, rfl, U1⟩
  case round =>
    clear L1 U1
    obtain ⟨L1, i, hi, hgk, rfl, U1⟩ := hrel
    by_cases hlt : i < 2
    · obtain ⟨q, hq, HQ⟩ : ∃ q, (#[Value.pointer none, Value.pointer (some ⟨N, 0, none⟩)] : Array Value).toList[i]? = some q ∧ Hid (Unmade wr q) := by
        rcases (show i = 0 ∨ i = 1 by omega) with rfl | rfl
        · exact ⟨_, rfl, unmade_nil wr⟩
        · exact ⟨_, rfl, U1⟩
      have q1 : (i : Int) < 2 := by omega
      have hix : ∀ W, (Instr.index 49 (.agg #[Value.pointer none, Value.pointer (some ⟨N, 0, none⟩)]) (.int .i64 (i : Int))).run Tryd.prog W = .ok q W := fun W => index_ptr Tryd.underlying49 Tryd.underlying37 Tryd.size37 _ i q hlt hq W
      clear hq
      go_wp2_with fail
      refine (write_un q v wr HQ.out).mono ?_
      rintro e w2 ⟨rfl, hw⟩; subst hw
      go_wp2_with fail
      refine (len_un q w2 HQ.out).mono ?_
      rintro e w3 ⟨rfl, hw⟩; subst hw
      go_wp2_with fail
      refine (sum_un q w3 HQ.out).mono ?_
      rintro e w4 ⟨rfl, hb4⟩
      have Q4 : Hid (Unmade w4 q) := HQ.out.kept hb4
      have U4 : Hid (Unmade w4 (.pointer (some ⟨N, 0, none⟩))) := U1.out.kept hb4
      have L4 : Hid (Below N w w4) := L1.out.trans (hb4.mono (by have := L1.out.size; have := HN.out; omega))
      clear hb4
      go_wp2_with fail
      refine (copy_un q w4 Q4.out).mono ?_
      rintro e w5 ⟨rfl, hw⟩; subst hw
      go_wp2_with fail
      go_roundg (gk - 1)
      case measure => omega
      case rel => exact ⟨L4, i + 1, by omega, by omega, by go_num, U4⟩
    · obtain rfl : i = 2 := by omega
      go_wp2_with fail
      refine (lives_any wr (HT.out.kept (L1.out.mono (by rw [← HN.out]; exact HT.out.size)))).mono ?_
      rintro e w2 ⟨rfl, hb2⟩
      have L2 : Hid (Below N w w2) := L1.out.trans (hb2.mono (by have := L1.out.size; have := HN.out; omega))
      clear hb2
      go_wp2
      go_ret
      exact ⟨rfl, by rw [HN.out]; exact L2.out⟩
end Go.Proofs.YtlfgbgcjajbckaaDoor
