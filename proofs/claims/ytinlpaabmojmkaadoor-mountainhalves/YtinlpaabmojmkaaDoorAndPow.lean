/-
  A power of two, and one less: no bit is in both.
-/
import Derived.Test.YtinlpaabmojmkaaDoorMtL
namespace Go.Proofs.YtinlpaabmojmkaaDoor
open Go.RowKit
/-- Of a power of two and one less no bit is there in both. -/
theorem and_pow {j : Nat} (h : j < 63) : bits .and .i64 ((2 ^ j : Nat) : Int) (((2 ^ j : Nat) : Int) - 1) = 0 := by
  have hp := pow_fits h
  have e1 : (((2 ^ j : Nat) : Int) % ((2 ^ 64 : Nat) : Int)).toNat = 2 ^ j := by
    generalize 2 ^ j = p at *
    omega
  have e2 : ((((2 ^ j : Nat) : Int) - 1) % ((2 ^ 64 : Nat) : Int)).toNat = 2 ^ j - 1 := by
    generalize 2 ^ j = p at *
    omega
  have e : (BitVec.ofInt 64 ((2 ^ j : Nat) : Int) &&& BitVec.ofInt 64 (((2 ^ j : Nat) : Int) - 1)).toNat = 0 := by
    rw [BitVec.toNat_and, BitVec.toNat_ofInt, BitVec.toNat_ofInt, e1, e2, Nat.and_two_pow_sub_one_eq_mod, Nat.mod_self]
  show IntKind.i64.wrap (((BitVec.ofInt 64 ((2 ^ j : Nat) : Int) &&& BitVec.ofInt 64 (((2 ^ j : Nat) : Int) - 1)).toNat : Nat) : Int) = 0
  rw [e]
  rfl
end Go.Proofs.YtinlpaabmojmkaaDoor
