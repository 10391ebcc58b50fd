/-
  sha.digit, indentureref03.digit: what the calls do.
-/
import Derived.Test.YtlfgbgcjajbckaaDoorLives
import Derived.Deep.LoopGhost
namespace Go.Proofs.YtlfgbgcjajbckaaDoor
open Go.RowKit
/-- What a digit counts, or -1. -/
def dv (c : UInt8) : Int := if 48 ≤ c.toNat ∧ c.toNat ≤ 57 then (c.toNat : Int) - 48 else if 97 ≤ c.toNat ∧ c.toNat ≤ 102 then (c.toNat : Int) - 87 else -1
theorem dv_hd : ∀ i, i < 16 → dv (hd i) = (i : Int) := by decide
theorem dv_none (c : UInt8) (h : ∀ i, i < 16 → hd i ≠ c) : dv c = -1 := by
  unfold dv
  have hc := c.toNat_lt
  split
  · rename_i hh
    refine absurd (UInt8.toNat_inj.1 ?_) (h (c.toNat - 48) (by omega))
    have : ∀ i, i < 10 → (hd i).toNat = i + 48 := by decide
    rw [this _ (by omega)]; omega
  · split
    · rename_i hh
      refine absurd (UInt8.toNat_inj.1 ?_) (h (c.toNat - 87) (by omega))
      have : ∀ i, i < 16 → 10 ≤ i → (hd i).toNat = i + 87 := by decide
      rw [this _ (by omega) (by omega)]; omega
    · rfl
theorem dig_index_i (W : World) (n : Nat) (hn : n < 16) : (Instr.index 9 (.string ⟨#[48, 49, 50, 51, 52, 53, 54, 55, 56, 57, 97, 98, 99, 100, 101, 102]⟩) (.int .i64 (n : Int))).run Tryd.prog W = .ok (.int .u8 ((hd n).toNat : Int)) W := by
  have : ∀ n, n < 16 → (⟨#[48, 49, 50, 51, 52, 53, 54, 55, 56, 57, 97, 98, 99, 100, 101, 102]⟩ : ByteArray)[n]? = some (hd n) := by decide
  simp [Instr.index, asIntOf, run_underlying Tryd.underlying9, this n hn]

set_option maxRecDepth 100000 in
theorem refDigit_any (c : UInt8) (w : World) : Calls Tryd.prog 28 #[.int .u8 (c.toNat : Int)] w fun e w' => e = .returned (.int .i64 (dv c)) ∧ w' = w := by
  have hc := c.toNat_lt
  by_cases h1 : 48 ≤ c.toNat ∧ c.toNat ≤ 57
  · have q1 : (48 : Int) ≤ (c.toNat : Int) := by omega
    have q2 : (c.toNat : Int) ≤ 57 := by omega
    go_enter Tryd.func28, Tryd.ntmps28
    go_wp2
    go_ret
    refine ⟨?_, rfl⟩
    unfold dv
    rw [if_pos h1]
    rfl
  · by_cases h2 : 97 ≤ c.toNat ∧ c.toNat ≤ 102
    · have q0 : (48 : Int) ≤ (c.toNat : Int) := by omega
      have q1 : ¬ (c.toNat : Int) ≤ 57 := by omega
      have q2 : (97 : Int) ≤ (c.toNat : Int) := by omega
      have q3 : (c.toNat : Int) ≤ 102 := by omega
      go_enter Tryd.func28, Tryd.ntmps28
      go_wp2
      go_ret
      refine ⟨congrArg (fun x => Ending.returned (Value.int .i64 x)) ?_, rfl⟩
      unfold dv
      rw [if_neg h1, if_pos h2]
      omega
    · have HV : Hid (dv c = -1) := (show _ = _ by unfold dv; rw [if_neg h1, if_neg h2])
      rw [HV.out]
      by_cases h3 : 48 ≤ c.toNat
      · have q0 : (48 : Int) ≤ (c.toNat : Int) := by omega
        have q1 : ¬ (c.toNat : Int) ≤ 57 := by omega
        by_cases h4 : 97 ≤ c.toNat
        · have q2 : (97 : Int) ≤ (c.toNat : Int) := by omega
          have q3 : ¬ (c.toNat : Int) ≤ 102 := by omega
          go_enter Tryd.func28, Tryd.ntmps28
          go_wp2
          go_ret
          exact ⟨rfl, rfl⟩
        · have q2 : ¬ (97 : Int) ≤ (c.toNat : Int) := by omega
          go_enter Tryd.func28, Tryd.ntmps28
          go_wp2
          go_ret
          exact ⟨rfl, rfl⟩
      · have q0 : ¬ (48 : Int) ≤ (c.toNat : Int) := by omega
        have q2 : ¬ (97 : Int) ≤ (c.toNat : Int) := by omega
        go_enter Tryd.func28, Tryd.ntmps28
        go_wp2
        go_ret
        exact ⟨rfl, rfl⟩

set_option maxHeartbeats 1000000 in
set_option maxRecDepth 100000 in
theorem digit_any (c : UInt8) (w : World) : Calls Tryd.prog 27 #[.int .u8 (c.toNat : Int)] w fun e w' => e = .returned (.int .i64 (dv c)) ∧ w' = w := by
  have hc := c.toNat_lt
  go_enter Tryd.func27, Tryd.ntmps27
  go_wp2
  go_loopg [4] 17 (fun k z wr => wr = w ∧ ∃ i : Nat, i ≤ 16 ∧ k + i = 17 ∧ z = .int .i64 i ∧ Hid (∀ j, j < i → hd j ≠ c))
  case atStart => exact ⟨rfl, 0, by omega, rfl, rfl, fun j hj => by omega⟩
  case round =>
    obtain ⟨hw, i, hi, hk, rfl, HN⟩ := hrel
    subst hw
    by_cases hlt : i < 16
    · have q1 : (i : Int) < 16 := by omega
      have d1 := fun W => dig_index_i W i hlt
      by_cases he : hd i = c
      · have HV : Hid (dv c = (i : Int)) := (show _ = _ by rw [← he]; exact dv_hd i hlt)
        rw [he] at d1
        go_wp2
        try rw [Exit.noGoto_ret]
        go_ret
        exact ⟨by rw [HV.out]; rfl, rfl⟩
      · have q2 : ¬ ((hd i).toNat : Int) = (c.toNat : Int) := fun h => he (UInt8.toNat_inj.1 (by omega))
        have HN' : Hid (∀ j, j < i + 1 → hd j ≠ c) := (show ∀ j, _ → _ from fun j hj => by
          rcases Nat.lt_or_ge j i with h | h
          · exact HN.out j h
          · obtain rfl : j = i := by omega
            exact he)
        clear he
        go_wp2
        go_roundg (gk - 1)
        case measure => omega
        case rel => exact ⟨rfl, i + 1, by omega, by omega, by go_num, HN'⟩
    · obtain rfl : i = 16 := by omega
      have HV : Hid (dv c = -1) := dv_none c HN.out
      go_wp2
      go_ret
      exact ⟨by rw [HV.out]; rfl, rfl⟩
end Go.Proofs.YtlfgbgcjajbckaaDoor
