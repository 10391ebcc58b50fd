/-
  sum.Join and that of indentureref02: what the calls do.
-/
import Derived.Test.YtmopfipkbjfhoaaDoorAdd
namespace Go.Proofs.YtmopfipkbjfhoaaDoor
open Go.RowKit

theorem i64_and_one (m : Nat) : bits .and .i64 (m : Int) 1 = ((m % 2 : Nat) : Int) := by
  show IntKind.i64.wrap ((BitVec.ofInt 64 (m : Int) &&& BitVec.ofInt 64 1).toNat : Int) = _
  rw [BitVec.toNat_and, BitVec.ofInt_natCast, BitVec.toNat_ofNat, show (BitVec.ofInt 64 1).toNat = 1 from rfl, Nat.and_one_is_mod]
  rw [IntKind.wrap_i64]
  omega

theorem steps_half_odd (k m : Nat) (c : BitVec 32) (h : m % 2 = 1) : steps (k * m) c = steps (2 * k * (m / 2)) (steps k c) := by
  rw [← steps_add]
  congr 1
  rw [show 2 * k * (m / 2) = k * (2 * (m / 2)) from by rw [Nat.mul_comm 2 k, Nat.mul_assoc]]
  have : m = 1 + 2 * (m / 2) := by omega
  conv => lhs; rw [this, Nat.mul_add, Nat.mul_one]
theorem steps_half_even (k m : Nat) (c : BitVec 32) (h : m % 2 = 0) : steps (k * m) c = steps (2 * k * (m / 2)) c := by
  congr 1
  rw [show 2 * k * (m / 2) = k * (2 * (m / 2)) from by rw [Nat.mul_comm 2 k, Nat.mul_assoc]]
  congr 1
  omega
theorem square_power (k : Nat) : mul (steps k 2147483648#32) (steps k 2147483648#32) = steps (2 * k) 2147483648#32 := by
  rw [mul_power, ← steps_add]
  congr 1
  omega

set_option maxRecDepth 100000 in
set_option maxHeartbeats 400000 in
theorem join_nat (a b : BitVec 32) (N : Nat) (w : World) (hn : N ≤ 9223372036854775807) :
    Calls Tryd.prog 14 #[.int .u32 a.toNat, .int .u32 b.toNat, .int .i64 N] w fun e w' => e = .returned (.int .u32 (joined a b N).toNat) ∧ w' = w := by
  go_enter Tryd.func14, Tryd.ntmps14
  go_wp2
  go_loopg [0, 7, 8] (N + 1) (fun g x y z wr => wr = w ∧ ∃ (m : Nat) (c p : BitVec 32) (k : Nat), g = m + 1 ∧ m ≤ 9223372036854775807 ∧ x = .int .u32 c.toNat ∧ y = .int .u32 p.toNat ∧ z = .int .i64 m ∧ Hid (p = steps k 2147483648#32) ∧ Hid (steps (k * m) c = steps (8 * N) a))
  case atStart => exact ⟨rfl, N, a, 8388608#32, 8, rfl, hn, rfl, rfl, rfl, byByte_is, rfl⟩
  case round =>
    obtain ⟨hw, m, c, p, k, rfl, hm, rfl, rfl, rfl, HP, HS⟩ := hrel
    subst hw
    by_cases h0 : 0 < m
    · have h0' : (0 : Int) < m := by omega
      have e1 := i64_and_one m
      have HQ : Hid (mul p p = steps (2 * k) 2147483648#32) := (show _ = _ by rw [HP.out, square_power])
      by_cases hodd : m % 2 = 1
      · rw [hodd] at e1
        have HC : Hid (steps (2 * k * (m / 2)) (mul c p) = steps (8 * N) a) := (show _ = _ by rw [HP.out, mul_power, ← steps_half_odd k m c hodd, HS.out])
        go_wp2_with fail
        refine (times_any c p _).mono ?_
        rintro e w1 ⟨rfl, rfl⟩
        go_wp2_with fail
        refine (times_any p p _).mono ?_
        rintro e w1 ⟨rfl, rfl⟩
        go_wp2
        go_roundg (m / 2 + 1)
        case measure => omega
        case rel => exact ⟨rfl, m / 2, mul c p, mul p p, 2 * k, rfl, by omega, rfl, rfl, by go_num, HQ, HC⟩
      · have hev : m % 2 = 0 := by omega
        rw [hev] at e1
        have HC : Hid (steps (2 * k * (m / 2)) c = steps (8 * N) a) := (show _ = _ by rw [← steps_half_even k m c hev, HS.out])
        go_wp2_with fail
        refine (times_any p p _).mono ?_
        rintro e w1 ⟨rfl, rfl⟩
        go_wp2
        go_roundg (m / 2 + 1)
        case measure => omega
        case rel => exact ⟨rfl, m / 2, c, mul p p, 2 * k, rfl, by omega, rfl, rfl, by go_num, HQ, HC⟩
    · obtain rfl : m = 0 := by omega
      have HE : Hid (c = steps (8 * N) a) := HS
      go_wp2
      go_ret
      refine ⟨congrArg (fun x => Ending.returned (Value.int .u32 x)) ?_, rfl⟩
      show bits .xor .u32 (c.toNat : Int) (b.toNat : Int) = _
      rw [u32_xor_bv, HE.out]
      rfl
set_option maxRecDepth 100000 in
set_option maxHeartbeats 400000 in
theorem join_neg (a b : BitVec 32) (n : Int) (w : World) (hn : n < 0) :
    Calls Tryd.prog 14 #[.int .u32 a.toNat, .int .u32 b.toNat, .int .i64 n] w fun e w' => e = .returned (.int .u32 (joined a b 0).toNat) ∧ w' = w := by
  obtain ⟨N, hN0⟩ : ∃ N : Nat, N = 0 := ⟨0, rfl⟩
  have HN0 : Hid (N = 0) := hN0
  rw [← HN0.out]
  clear hN0
  go_enter Tryd.func14, Tryd.ntmps14
  go_wp2
  go_loopg [0, 7, 8] (N + 1) (fun g x y z wr => wr = w ∧ ∃ (m : Nat) (c p : BitVec 32) (k : Nat), g = m + 1 ∧ m ≤ 9223372036854775807 ∧ x = .int .u32 c.toNat ∧ y = .int .u32 p.toNat ∧ z = .int .i64 m ∧ Hid (p = steps k 2147483648#32) ∧ Hid (steps (k * m) c = steps (8 * N) a))
  case atStart => exact ⟨rfl, N, a, 8388608#32, 8, rfl, by have := HN0.out; omega, rfl, rfl, by rw [HN0.out]; rfl, byByte_is, rfl⟩
  case round =>
    obtain ⟨hw, m, c, p, k, rfl, hm, rfl, rfl, rfl, HP, HS⟩ := hrel
    subst hw
    by_cases h0 : 0 < m
    · have h0' : (0 : Int) < m := by omega
      have e1 := i64_and_one m
      have HQ : Hid (mul p p = steps (2 * k) 2147483648#32) := (show _ = _ by rw [HP.out, square_power])
      by_cases hodd : m % 2 = 1
      · rw [hodd] at e1
        have HC : Hid (steps (2 * k * (m / 2)) (mul c p) = steps (8 * N) a) := (show _ = _ by rw [HP.out, mul_power, ← steps_half_odd k m c hodd, HS.out])
        go_wp2_with fail
        refine (times_any c p _).mono ?_
        rintro e w1 ⟨rfl, rfl⟩
        go_wp2_with fail
        refine (times_any p p _).mono ?_
        rintro e w1 ⟨rfl, rfl⟩
        go_wp2
        go_roundg (m / 2 + 1)
        case measure => omega
        case rel => exact ⟨rfl, m / 2, mul c p, mul p p, 2 * k, rfl, by omega, rfl, rfl, by go_num, HQ, HC⟩
      · have hev : m % 2 = 0 := by omega
        rw [hev] at e1
        have HC : Hid (steps (2 * k * (m / 2)) c = steps (8 * N) a) := (show _ = _ by rw [← steps_half_even k m c hev, HS.out])
        go_wp2_with fail
        refine (times_any p p _).mono ?_
        rintro e w1 ⟨rfl, rfl⟩
        go_wp2
        go_roundg (m / 2 + 1)
        case measure => omega
        case rel => exact ⟨rfl, m / 2, c, mul p p, 2 * k, rfl, by omega, rfl, rfl, by go_num, HQ, HC⟩
    · obtain rfl : m = 0 := by omega
      have HE : Hid (c = steps (8 * N) a) := HS
      go_wp2
      go_ret
      refine ⟨congrArg (fun x => Ending.returned (Value.int .u32 x)) ?_, rfl⟩
      show bits .xor .u32 (c.toNat : Int) (b.toNat : Int) = _
      rw [u32_xor_bv, HE.out]
      rfl

/-- As a number below 0 counts. -/
theorem join_any (a b : BitVec 32) (n : Int) (w : World) (hn : n ≤ 9223372036854775807) :
    Calls Tryd.prog 14 #[.int .u32 a.toNat, .int .u32 b.toNat, .int .i64 n] w fun e w' => e = .returned (.int .u32 (joined a b n.toNat).toNat) ∧ w' = w := by
  by_cases h : 0 ≤ n
  · obtain ⟨N, rfl⟩ := Int.eq_ofNat_of_zero_le h
    exact join_nat a b N w (by omega)
  · rw [show n.toNat = 0 from by omega]
    exact join_neg a b n w (by omega)

theorem steps_split {c : BitVec 32} {i N : Nat} (h : i < N) : steps (8 * (N - i)) c = steps (8 * (N - (i + 1))) (steps 8 c) := by
  rw [← steps_add]
  congr 1
  omega

set_option maxRecDepth 100000 in
set_option maxHeartbeats 400000 in
theorem refJoin_any (a b : BitVec 32) (n : Int) (w : World) (hn : n ≤ 9223372036854775807) :
    Calls Tryd.prog 15 #[.int .u32 a.toNat, .int .u32 b.toNat, .int .i64 n] w fun e w' => e = .returned (.int .u32 (joined a b n.toNat).toNat) ∧ w' = w := by
  obtain ⟨N, hN⟩ : ∃ N : Nat, N = n.toNat := ⟨_, rfl⟩
  rw [← hN]
  have HN : Hid (N = n.toNat) := hN
  clear hN
  go_enter Tryd.func15, Tryd.ntmps15
  go_wp2
  go_loopg [0, 7] (N + 1) (fun g x z wr => wr = w ∧ ∃ (i : Nat) (c : BitVec 32), i ≤ N ∧ g + i = N + 1 ∧ x = .int .u32 c.toNat ∧ z = .int .i64 i ∧ Hid (steps (8 * (N - i)) c = steps (8 * N) a))
  case atStart => exact ⟨rfl, 0, a, Nat.zero_le _, rfl, rfl, rfl, rfl⟩
  case round =>
    obtain ⟨hw, i, c, hi, hg, rfl, rfl, HS⟩ := hrel
    subst hw
    by_cases h0 : i < N
    · have h0' : (i : Int) < n := by have := HN.out; omega
      have HS2 : Hid (steps (8 * (N - (i + 1))) (steps 8 c) = steps (8 * N) a) := (show _ = _ by rw [← HS.out, steps_split h0])
      go_wp2
      go_loopg [0, 8] 9 (fun k y z wt => wt = wr ∧ ∃ j : Nat, j ≤ 8 ∧ k + j = 9 ∧ z = .int .i64 j ∧ ∃ d : BitVec 32, y = .int .u32 d.toNat ∧ Hid (steps 8 c = steps (8 - j) d))
      case atStart => exact ⟨rfl, 0, by omega, rfl, rfl, c, rfl, rfl⟩
      case round =>
        obtain ⟨hw, j, hj, hk2, rfl, d, rfl, HC⟩ := hrel
        subst hw
        by_cases hj8 : j < 8
        · have hj8' : (j : Int) < 8 := by omega
          have HC2 : Hid (steps 8 c = steps (8 - (j + 1)) (step d)) := (show _ = _ by
            rw [HC.out, show 8 - j = (8 - (j + 1)) + 1 from by omega]; rfl)
          go_wp2_with fail
          refine (step_any d _).mono ?_
          rintro e w1 ⟨rfl, rfl⟩
          go_wp2
          go_roundg (gk - 1)
          case measure => omega
          case rel => exact ⟨rfl, j + 1, by omega, by omega, by go_num, step d, rfl, HC2⟩
        · obtain rfl : j = 8 := by omega
          have HB2 : Hid (steps (8 * (N - (i + 1))) d = steps (8 * N) a) := (show _ = _ by rw [← HS2.out, HC.out]; rfl)
          go_wp2
          go_roundg (N - i)
          case measure => omega
          case rel => exact ⟨rfl, i + 1, d, by omega, by omega, rfl, by go_num, HB2⟩
    · have h0' : ¬ (i : Int) < n := by have := HN.out; omega
      have HE : Hid (c = steps (8 * N) a) := (show _ = _ by rw [← HS.out, show N - i = 0 from by omega]; rfl)
      go_wp2
      go_ret
      refine ⟨congrArg (fun x => Ending.returned (Value.int .u32 x)) ?_, rfl⟩
      show bits .xor .u32 (c.toNat : Int) (b.toNat : Int) = _
      rw [u32_xor_bv, HE.out]
      rfl
#print axioms refJoin_any
#print axioms join_nat
#print axioms join_neg
end Go.Proofs.YtmopfipkbjfhoaaDoor
