/-
  Words of 32 bits: from the machine's numbers to BitVec 32; bits.RotateLeft32, sha.at, sha.spread, indentureref03.turn: what the calls do.
-/
import Derived.Test.YtooffljimdklfaaDoorMixed
import Derived.Test.YtooffljimdklfaaDoorKit
import Derived.Test.YtooffljimdklfaaDoorSha
import Derived.Laws.BitsAllLaws
namespace Go.Proofs.YtooffljimdklfaaDoor
open Go.RowKit

/-- A word as a value. -/
abbrev wv (x : W) : Value := .int .u32 (x.toNat : Int)

theorem u32_xor_bv (a b : W) : bits .xor .u32 (a.toNat : Int) (b.toNat : Int) = ((a ^^^ b).toNat : Int) := by
  rw [u32_xor_nat _ _ a.isLt b.isLt, BitVec.toNat_xor]
theorem u32_and_bv (a b : W) : bits .and .u32 (a.toNat : Int) (b.toNat : Int) = ((a &&& b).toNat : Int) := by
  rw [u32_and_nat _ _ a.isLt b.isLt, BitVec.toNat_and]
theorem u32_or_bv (a b : W) : bits .or .u32 (a.toNat : Int) (b.toNat : Int) = ((a ||| b).toNat : Int) := by
  rw [u32_or_nat _ _ a.isLt b.isLt, BitVec.toNat_or]
theorem u32_not_bv (r : W) : bits .xor .u32 4294967295 (r.toNat : Int) = ((~~~ r).toNat : Int) := by
  have h := u32_xor_bv 4294967295#32 r
  rw [show ((4294967295#32).toNat : Int) = 4294967295 from rfl] at h
  rw [h, BitVec.not_def]
  rfl
theorem shr_bv (a : W) (k : Nat) : ((a.toNat : Int) / ((2 ^ k : Nat) : Int)) = ((a >>> k).toNat : Int) := by
  rw [BitVec.toNat_ushiftRight, Nat.shiftRight_eq_div_pow]; rfl
theorem shl_bv (a : W) (k : Nat) : ((a.toNat : Int) * ((2 ^ k : Nat) : Int)) % (4294967296 : Int) = ((a <<< k).toNat : Int) := by
  rw [BitVec.toNat_shiftLeft, Nat.shiftLeft_eq, ← Int.natCast_mul]
  exact (Int.natCast_emod _ _).symm
theorem add_bv (a b : W) : ((a.toNat : Int) + (b.toNat : Int)) % (4294967296 : Int) = ((a + b).toNat : Int) := by
  rw [BitVec.toNat_add, ← Int.natCast_add]
  exact (Int.natCast_emod _ _).symm

set_option maxRecDepth 100000 in
theorem rot_2 (x : W) (w : World) : Calls Tryd.prog 99 #[wv x, .int .i64 (-2)] w fun e w' => e = .returned (wv (rr x 2)) ∧ w' = w := by
  have hx := x.isLt
  have hb : bits .and .u64 (IntKind.u64.wrap (-2)) 31 = 30 := by decide
  go_enter Tryd.func99, Tryd.ntmps99
  go_wp2
  go_ret
  have h1 : (x.toNat : Int) * (1073741824 : Int) % (4294967296 : Int) = ((x <<< 30).toNat : Int) := shl_bv x 30
  have h2 : (x.toNat : Int) / (4 : Int) = ((x >>> 2).toNat : Int) := shr_bv x 2
  rw [h1, h2, u32_or_bv, BitVec.or_comm]
  exact ⟨rfl, rfl⟩
set_option maxRecDepth 100000 in
theorem rot_6 (x : W) (w : World) : Calls Tryd.prog 99 #[wv x, .int .i64 (-6)] w fun e w' => e = .returned (wv (rr x 6)) ∧ w' = w := by
  have hx := x.isLt
  have hb : bits .and .u64 (IntKind.u64.wrap (-6)) 31 = 26 := by decide
  go_enter Tryd.func99, Tryd.ntmps99
  go_wp2
  go_ret
  have h1 : (x.toNat : Int) * (67108864 : Int) % (4294967296 : Int) = ((x <<< 26).toNat : Int) := shl_bv x 26
  have h2 : (x.toNat : Int) / (64 : Int) = ((x >>> 6).toNat : Int) := shr_bv x 6
  rw [h1, h2, u32_or_bv, BitVec.or_comm]
  exact ⟨rfl, rfl⟩
set_option maxRecDepth 100000 in
theorem rot_7 (x : W) (w : World) : Calls Tryd.prog 99 #[wv x, .int .i64 (-7)] w fun e w' => e = .returned (wv (rr x 7)) ∧ w' = w := by
  have hx := x.isLt
  have hb : bits .and .u64 (IntKind.u64.wrap (-7)) 31 = 25 := by decide
  go_enter Tryd.func99, Tryd.ntmps99
  go_wp2
  go_ret
  have h1 : (x.toNat : Int) * (33554432 : Int) % (4294967296 : Int) = ((x <<< 25).toNat : Int) := shl_bv x 25
  have h2 : (x.toNat : Int) / (128 : Int) = ((x >>> 7).toNat : Int) := shr_bv x 7
  rw [h1, h2, u32_or_bv, BitVec.or_comm]
  exact ⟨rfl, rfl⟩
set_option maxRecDepth 100000 in
theorem rot_11 (x : W) (w : World) : Calls Tryd.prog 99 #[wv x, .int .i64 (-11)] w fun e w' => e = .returned (wv (rr x 11)) ∧ w' = w := by
  have hx := x.isLt
  have hb : bits .and .u64 (IntKind.u64.wrap (-11)) 31 = 21 := by decide
  go_enter Tryd.func99, Tryd.ntmps99
  go_wp2
  go_ret
  have h1 : (x.toNat : Int) * (2097152 : Int) % (4294967296 : Int) = ((x <<< 21).toNat : Int) := shl_bv x 21
  have h2 : (x.toNat : Int) / (2048 : Int) = ((x >>> 11).toNat : Int) := shr_bv x 11
  rw [h1, h2, u32_or_bv, BitVec.or_comm]
  exact ⟨rfl, rfl⟩
set_option maxRecDepth 100000 in
theorem rot_13 (x : W) (w : World) : Calls Tryd.prog 99 #[wv x, .int .i64 (-13)] w fun e w' => e = .returned (wv (rr x 13)) ∧ w' = w := by
  have hx := x.isLt
  have hb : bits .and .u64 (IntKind.u64.wrap (-13)) 31 = 19 := by decide
  go_enter Tryd.func99, Tryd.ntmps99
  go_wp2
  go_ret
  have h1 : (x.toNat : Int) * (524288 : Int) % (4294967296 : Int) = ((x <<< 19).toNat : Int) := shl_bv x 19
  have h2 : (x.toNat : Int) / (8192 : Int) = ((x >>> 13).toNat : Int) := shr_bv x 13
  rw [h1, h2, u32_or_bv, BitVec.or_comm]
  exact ⟨rfl, rfl⟩
set_option maxRecDepth 100000 in
theorem rot_17 (x : W) (w : World) : Calls Tryd.prog 99 #[wv x, .int .i64 (-17)] w fun e w' => e = .returned (wv (rr x 17)) ∧ w' = w := by
  have hx := x.isLt
  have hb : bits .and .u64 (IntKind.u64.wrap (-17)) 31 = 15 := by decide
  go_enter Tryd.func99, Tryd.ntmps99
  go_wp2
  go_ret
  have h1 : (x.toNat : Int) * (32768 : Int) % (4294967296 : Int) = ((x <<< 15).toNat : Int) := shl_bv x 15
  have h2 : (x.toNat : Int) / (131072 : Int) = ((x >>> 17).toNat : Int) := shr_bv x 17
  rw [h1, h2, u32_or_bv, BitVec.or_comm]
  exact ⟨rfl, rfl⟩
set_option maxRecDepth 100000 in
theorem rot_18 (x : W) (w : World) : Calls Tryd.prog 99 #[wv x, .int .i64 (-18)] w fun e w' => e = .returned (wv (rr x 18)) ∧ w' = w := by
  have hx := x.isLt
  have hb : bits .and .u64 (IntKind.u64.wrap (-18)) 31 = 14 := by decide
  go_enter Tryd.func99, Tryd.ntmps99
  go_wp2
  go_ret
  have h1 : (x.toNat : Int) * (16384 : Int) % (4294967296 : Int) = ((x <<< 14).toNat : Int) := shl_bv x 14
  have h2 : (x.toNat : Int) / (262144 : Int) = ((x >>> 18).toNat : Int) := shr_bv x 18
  rw [h1, h2, u32_or_bv, BitVec.or_comm]
  exact ⟨rfl, rfl⟩
set_option maxRecDepth 100000 in
theorem rot_19 (x : W) (w : World) : Calls Tryd.prog 99 #[wv x, .int .i64 (-19)] w fun e w' => e = .returned (wv (rr x 19)) ∧ w' = w := by
  have hx := x.isLt
  have hb : bits .and .u64 (IntKind.u64.wrap (-19)) 31 = 13 := by decide
  go_enter Tryd.func99, Tryd.ntmps99
  go_wp2
  go_ret
  have h1 : (x.toNat : Int) * (8192 : Int) % (4294967296 : Int) = ((x <<< 13).toNat : Int) := shl_bv x 13
  have h2 : (x.toNat : Int) / (524288 : Int) = ((x >>> 19).toNat : Int) := shr_bv x 19
  rw [h1, h2, u32_or_bv, BitVec.or_comm]
  exact ⟨rfl, rfl⟩
set_option maxRecDepth 100000 in
theorem rot_22 (x : W) (w : World) : Calls Tryd.prog 99 #[wv x, .int .i64 (-22)] w fun e w' => e = .returned (wv (rr x 22)) ∧ w' = w := by
  have hx := x.isLt
  have hb : bits .and .u64 (IntKind.u64.wrap (-22)) 31 = 10 := by decide
  go_enter Tryd.func99, Tryd.ntmps99
  go_wp2
  go_ret
  have h1 : (x.toNat : Int) * (1024 : Int) % (4294967296 : Int) = ((x <<< 10).toNat : Int) := shl_bv x 10
  have h2 : (x.toNat : Int) / (4194304 : Int) = ((x >>> 22).toNat : Int) := shr_bv x 22
  rw [h1, h2, u32_or_bv, BitVec.or_comm]
  exact ⟨rfl, rfl⟩
set_option maxRecDepth 100000 in
theorem rot_25 (x : W) (w : World) : Calls Tryd.prog 99 #[wv x, .int .i64 (-25)] w fun e w' => e = .returned (wv (rr x 25)) ∧ w' = w := by
  have hx := x.isLt
  have hb : bits .and .u64 (IntKind.u64.wrap (-25)) 31 = 7 := by decide
  go_enter Tryd.func99, Tryd.ntmps99
  go_wp2
  go_ret
  have h1 : (x.toNat : Int) * (128 : Int) % (4294967296 : Int) = ((x <<< 7).toNat : Int) := shl_bv x 7
  have h2 : (x.toNat : Int) / (33554432 : Int) = ((x >>> 25).toNat : Int) := shr_bv x 25
  rw [h1, h2, u32_or_bv, BitVec.or_comm]
  exact ⟨rfl, rfl⟩
set_option maxRecDepth 100000 in
theorem turn_2 (x : W) (w : World) : Calls Tryd.prog 82 #[wv x, .int .u64 2] w fun e w' => e = .returned (wv (rr x 2)) ∧ w' = w := by
  have hx := x.isLt
  go_enter Tryd.func82, Tryd.ntmps82
  go_wp2
  go_ret
  have h1 : (x.toNat : Int) * (1073741824 : Int) % (4294967296 : Int) = ((x <<< 30).toNat : Int) := shl_bv x 30
  have h2 : (x.toNat : Int) / (4 : Int) = ((x >>> 2).toNat : Int) := shr_bv x 2
  rw [h1, h2, u32_or_bv]
  exact ⟨rfl, rfl⟩
set_option maxRecDepth 100000 in
theorem turn_6 (x : W) (w : World) : Calls Tryd.prog 82 #[wv x, .int .u64 6] w fun e w' => e = .returned (wv (rr x 6)) ∧ w' = w := by
  have hx := x.isLt
  go_enter Tryd.func82, Tryd.ntmps82
  go_wp2
  go_ret
  have h1 : (x.toNat : Int) * (67108864 : Int) % (4294967296 : Int) = ((x <<< 26).toNat : Int) := shl_bv x 26
  have h2 : (x.toNat : Int) / (64 : Int) = ((x >>> 6).toNat : Int) := shr_bv x 6
  rw [h1, h2, u32_or_bv]
  exact ⟨rfl, rfl⟩
set_option maxRecDepth 100000 in
theorem turn_7 (x : W) (w : World) : Calls Tryd.prog 82 #[wv x, .int .u64 7] w fun e w' => e = .returned (wv (rr x 7)) ∧ w' = w := by
  have hx := x.isLt
  go_enter Tryd.func82, Tryd.ntmps82
  go_wp2
  go_ret
  have h1 : (x.toNat : Int) * (33554432 : Int) % (4294967296 : Int) = ((x <<< 25).toNat : Int) := shl_bv x 25
  have h2 : (x.toNat : Int) / (128 : Int) = ((x >>> 7).toNat : Int) := shr_bv x 7
  rw [h1, h2, u32_or_bv]
  exact ⟨rfl, rfl⟩
set_option maxRecDepth 100000 in
theorem turn_11 (x : W) (w : World) : Calls Tryd.prog 82 #[wv x, .int .u64 11] w fun e w' => e = .returned (wv (rr x 11)) ∧ w' = w := by
  have hx := x.isLt
  go_enter Tryd.func82, Tryd.ntmps82
  go_wp2
  go_ret
  have h1 : (x.toNat : Int) * (2097152 : Int) % (4294967296 : Int) = ((x <<< 21).toNat : Int) := shl_bv x 21
  have h2 : (x.toNat : Int) / (2048 : Int) = ((x >>> 11).toNat : Int) := shr_bv x 11
  rw [h1, h2, u32_or_bv]
  exact ⟨rfl, rfl⟩
set_option maxRecDepth 100000 in
theorem turn_13 (x : W) (w : World) : Calls Tryd.prog 82 #[wv x, .int .u64 13] w fun e w' => e = .returned (wv (rr x 13)) ∧ w' = w := by
  have hx := x.isLt
  go_enter Tryd.func82, Tryd.ntmps82
  go_wp2
  go_ret
  have h1 : (x.toNat : Int) * (524288 : Int) % (4294967296 : Int) = ((x <<< 19).toNat : Int) := shl_bv x 19
  have h2 : (x.toNat : Int) / (8192 : Int) = ((x >>> 13).toNat : Int) := shr_bv x 13
  rw [h1, h2, u32_or_bv]
  exact ⟨rfl, rfl⟩
set_option maxRecDepth 100000 in
theorem turn_17 (x : W) (w : World) : Calls Tryd.prog 82 #[wv x, .int .u64 17] w fun e w' => e = .returned (wv (rr x 17)) ∧ w' = w := by
  have hx := x.isLt
  go_enter Tryd.func82, Tryd.ntmps82
  go_wp2
  go_ret
  have h1 : (x.toNat : Int) * (32768 : Int) % (4294967296 : Int) = ((x <<< 15).toNat : Int) := shl_bv x 15
  have h2 : (x.toNat : Int) / (131072 : Int) = ((x >>> 17).toNat : Int) := shr_bv x 17
  rw [h1, h2, u32_or_bv]
  exact ⟨rfl, rfl⟩
set_option maxRecDepth 100000 in
theorem turn_18 (x : W) (w : World) : Calls Tryd.prog 82 #[wv x, .int .u64 18] w fun e w' => e = .returned (wv (rr x 18)) ∧ w' = w := by
  have hx := x.isLt
  go_enter Tryd.func82, Tryd.ntmps82
  go_wp2
  go_ret
  have h1 : (x.toNat : Int) * (16384 : Int) % (4294967296 : Int) = ((x <<< 14).toNat : Int) := shl_bv x 14
  have h2 : (x.toNat : Int) / (262144 : Int) = ((x >>> 18).toNat : Int) := shr_bv x 18
  rw [h1, h2, u32_or_bv]
  exact ⟨rfl, rfl⟩
set_option maxRecDepth 100000 in
theorem turn_19 (x : W) (w : World) : Calls Tryd.prog 82 #[wv x, .int .u64 19] w fun e w' => e = .returned (wv (rr x 19)) ∧ w' = w := by
  have hx := x.isLt
  go_enter Tryd.func82, Tryd.ntmps82
  go_wp2
  go_ret
  have h1 : (x.toNat : Int) * (8192 : Int) % (4294967296 : Int) = ((x <<< 13).toNat : Int) := shl_bv x 13
  have h2 : (x.toNat : Int) / (524288 : Int) = ((x >>> 19).toNat : Int) := shr_bv x 19
  rw [h1, h2, u32_or_bv]
  exact ⟨rfl, rfl⟩
set_option maxRecDepth 100000 in
theorem turn_22 (x : W) (w : World) : Calls Tryd.prog 82 #[wv x, .int .u64 22] w fun e w' => e = .returned (wv (rr x 22)) ∧ w' = w := by
  have hx := x.isLt
  go_enter Tryd.func82, Tryd.ntmps82
  go_wp2
  go_ret
  have h1 : (x.toNat : Int) * (1024 : Int) % (4294967296 : Int) = ((x <<< 10).toNat : Int) := shl_bv x 10
  have h2 : (x.toNat : Int) / (4194304 : Int) = ((x >>> 22).toNat : Int) := shr_bv x 22
  rw [h1, h2, u32_or_bv]
  exact ⟨rfl, rfl⟩
set_option maxRecDepth 100000 in
theorem turn_25 (x : W) (w : World) : Calls Tryd.prog 82 #[wv x, .int .u64 25] w fun e w' => e = .returned (wv (rr x 25)) ∧ w' = w := by
  have hx := x.isLt
  go_enter Tryd.func82, Tryd.ntmps82
  go_wp2
  go_ret
  have h1 : (x.toNat : Int) * (128 : Int) % (4294967296 : Int) = ((x <<< 7).toNat : Int) := shl_bv x 7
  have h2 : (x.toNat : Int) / (33554432 : Int) = ((x >>> 25).toNat : Int) := shr_bv x 25
  rw [h1, h2, u32_or_bv]
  exact ⟨rfl, rfl⟩
set_option maxRecDepth 100000 in
theorem spread_S1 (x : W) (w : World) : Calls Tryd.prog 101 #[wv x, .int .i64 6, .int .i64 11, .int .i64 25] w fun e w' => e = .returned (wv (S1 x)) ∧ w' = w := by
  have hx := x.isLt
  go_enter Tryd.func101, Tryd.ntmps101
  go_wp2_with fail
  refine (rot_6 x w).mono ?_
  rintro e w1 ⟨rfl, hw⟩; subst hw
  go_wp2_with fail
  refine (rot_11 x w1).mono ?_
  rintro e w2 ⟨rfl, hw⟩; subst hw
  go_wp2_with fail
  refine (rot_25 x w2).mono ?_
  rintro e w3 ⟨rfl, hw⟩; subst hw
  go_wp2
  go_ret
  rw [u32_xor_bv, u32_xor_bv]
  exact ⟨rfl, rfl⟩
set_option maxRecDepth 100000 in
theorem spread_S0 (x : W) (w : World) : Calls Tryd.prog 101 #[wv x, .int .i64 2, .int .i64 13, .int .i64 22] w fun e w' => e = .returned (wv (S0 x)) ∧ w' = w := by
  have hx := x.isLt
  go_enter Tryd.func101, Tryd.ntmps101
  go_wp2_with fail
  refine (rot_2 x w).mono ?_
  rintro e w1 ⟨rfl, hw⟩; subst hw
  go_wp2_with fail
  refine (rot_13 x w1).mono ?_
  rintro e w2 ⟨rfl, hw⟩; subst hw
  go_wp2_with fail
  refine (rot_22 x w2).mono ?_
  rintro e w3 ⟨rfl, hw⟩; subst hw
  go_wp2
  go_ret
  rw [u32_xor_bv, u32_xor_bv]
  exact ⟨rfl, rfl⟩

/-- Where a word stands in a round. -/
def pl (j t : Nat) : Nat := (j + 7 * t) % 8
theorem pl_lt (j t : Nat) : pl j t < 8 := Nat.mod_lt _ (by decide)
theorem at_bits (j t : Nat) (hj : j < 8) (ht : t < 64) : bits .and .i64 ((j : Int) - (t : Int)) 7 = ((pl j t : Nat) : Int) := by
  have : ∀ j < 8, ∀ t < 64, bits .and .i64 (((j : Nat) : Int) - ((t : Nat) : Int)) 7 = ((pl j t : Nat) : Int) := by decide +kernel
  exact this j hj t ht
set_option maxRecDepth 100000 in
theorem at_any (j t : Nat) (hj : j < 8) (ht : t < 64) (w : World) : Calls Tryd.prog 100 #[.int .i64 (j : Int), .int .i64 (t : Int)] w fun e w' => e = .returned (.int .i64 (pl j t : Int)) ∧ w' = w := by
  have hb := at_bits j t hj ht
  go_enter Tryd.func100, Tryd.ntmps100
  go_wp2
  go_ret
  exact ⟨rfl, rfl⟩
end Go.Proofs.YtooffljimdklfaaDoor
