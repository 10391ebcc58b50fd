/-
  Texts that ride together: Sha Words Cells PlanOf Turn.
-/
import Derived.WalkKit
import Derived.ProofKit
import Derived.Test.YtmicmbjbclkbjaaDoorGK
import Derived.Laws.BitsAllLaws
import Derived.Deep.LoopGhost
import Derived.BigRegion
import Derived.BigQuiet
import Derived.Deep.QuietTactic
import Derived.StillTailTactics
/-
  SHA-256 as a plain function over lists of bytes.
-/
namespace Go.Proofs.YtmicmbjbclkbjaaDoor

abbrev W := BitVec 32

def rr (x : W) (n : Nat) : W := x >>> n ||| x <<< (32 - n)
def bw (b : UInt8) : W := BitVec.ofNat 32 b.toNat
def word (b : List UInt8) (i : Nat) : W := bw (gB b (4 * i)) <<< 24 ||| bw (gB b (4 * i + 1)) <<< 16 ||| bw (gB b (4 * i + 2)) <<< 8 ||| bw (gB b (4 * i + 3))
def s0 (x : W) : W := rr x 7 ^^^ rr x 18 ^^^ x >>> 3
def s1 (x : W) : W := rr x 17 ^^^ rr x 19 ^^^ x >>> 10
def S0 (x : W) : W := rr x 2 ^^^ rr x 13 ^^^ rr x 22
def S1 (x : W) : W := rr x 6 ^^^ rr x 11 ^^^ rr x 25
def ch (e f g : W) : W := e &&& f ^^^ ~~~e &&& g
def mj (a b c : W) : W := a &&& b ^^^ a &&& c ^^^ b &&& c
def gW (l : List W) (i : Nat) : W := l.getD i 0#32
def shnxt (l : List W) (t : Nat) : W := gW l (t - 16) + s0 (gW l (t - 15)) + gW l (t - 7) + s1 (gW l (t - 2))
def plan (b : List UInt8) : Nat → List W
  | 0 => []
  | t + 1 => plan b t ++ [if t < 16 then word b t else shnxt (plan b t) t]
def K : List W := [
  0x428a2f98#32, 0x71374491#32, 0xb5c0fbcf#32, 0xe9b5dba5#32, 0x3956c25b#32, 0x59f111f1#32, 0x923f82a4#32, 0xab1c5ed5#32,
  0xd807aa98#32, 0x12835b01#32, 0x243185be#32, 0x550c7dc3#32, 0x72be5d74#32, 0x80deb1fe#32, 0x9bdc06a7#32, 0xc19bf174#32,
  0xe49b69c1#32, 0xefbe4786#32, 0x0fc19dc6#32, 0x240ca1cc#32, 0x2de92c6f#32, 0x4a7484aa#32, 0x5cb0a9dc#32, 0x76f988da#32,
  0x983e5152#32, 0xa831c66d#32, 0xb00327c8#32, 0xbf597fc7#32, 0xc6e00bf3#32, 0xd5a79147#32, 0x06ca6351#32, 0x14292967#32,
  0x27b70a85#32, 0x2e1b2138#32, 0x4d2c6dfc#32, 0x53380d13#32, 0x650a7354#32, 0x766a0abb#32, 0x81c2c92e#32, 0x92722c85#32,
  0xa2bfe8a1#32, 0xa81a664b#32, 0xc24b8b70#32, 0xc76c51a3#32, 0xd192e819#32, 0xd6990624#32, 0xf40e3585#32, 0x106aa070#32,
  0x19a4c116#32, 0x1e376c08#32, 0x2748774c#32, 0x34b0bcb5#32, 0x391c0cb3#32, 0x4ed8aa4a#32, 0x5b9cca4f#32, 0x682e6ff3#32,
  0x748f82ee#32, 0x78a5636f#32, 0x84c87814#32, 0x8cc70208#32, 0x90befffa#32, 0xa4506ceb#32, 0xbef9a3f7#32, 0xc67178f2#32]
def H0 : List W := [0x6a09e667#32, 0xbb67ae85#32, 0x3c6ef372#32, 0xa54ff53a#32, 0x510e527f#32, 0x9b05688c#32, 0x1f83d9ab#32, 0x5be0cd19#32]

/-- One round: x is what the round adds (its key and the plan's word). -/
def rnd (v : List W) (x : W) : List W :=
  let o := gW v 7 + S1 (gW v 4) + ch (gW v 4) (gW v 5) (gW v 6) + x
  [o + (S0 (gW v 0) + mj (gW v 0) (gW v 1) (gW v 2)), gW v 0, gW v 1, gW v 2, gW v 3 + o, gW v 4, gW v 5, gW v 6]
def rnds (p h : List W) : Nat → List W
  | 0 => h
  | t + 1 => rnd (rnds p h t) (gW K t + gW p t)
def blk (h : List W) (b : List UInt8) : List W := List.zipWith (· + ·) h (rnds (plan b 64) h 64)
def blks (m : List UInt8) : Nat → List W
  | 0 => H0
  | k + 1 => blk (blks m k) ((m.drop (64 * k)).take 64)
def be8 (n : Nat) : List UInt8 := (List.range 8).map fun i => UInt8.ofNat (n / 2 ^ (8 * (7 - i)))
def padb (n : Nat) : List UInt8 := 0x80 :: (List.replicate ((119 - n % 64) % 64) 0 ++ be8 (8 * n))
def by4 (x : W) : List UInt8 := [UInt8.ofNat (x.toNat / 2 ^ 24), UInt8.ofNat (x.toNat / 2 ^ 16), UInt8.ofNat (x.toNat / 2 ^ 8), UInt8.ofNat x.toNat]
def dig (l : List W) : List UInt8 := (l.map by4).flatten
def sha (m : List UInt8) : List UInt8 := dig (blks (m ++ padb m.length) ((m ++ padb m.length).length / 64))

def shaAbc : List UInt8 := [0xba, 0x78, 0x16, 0xbf, 0x8f, 0x01, 0xcf, 0xea, 0x41, 0x41, 0x40, 0xde, 0x5d, 0xae, 0x22, 0x23, 0xb0, 0x03, 0x61, 0xa3, 0x96, 0x17, 0x7a, 0x9c, 0xb4, 0x10, 0xff, 0x61, 0xf2, 0x00, 0x15, 0xad]

theorem sha_abc : sha [97, 98, 99] = shaAbc := by decide +kernel
end Go.Proofs.YtmicmbjbclkbjaaDoor

/-
  Words of 32 bits: from the machine's numbers to BitVec 32; bits.RotateLeft32, sha.at, sha.spread, indentureref03.turn: what the calls do.
-/
namespace Go.Proofs.YtmicmbjbclkbjaaDoor
open Go.RowKit

/-- A word as a value. -/
abbrev shwv (x : W) : Value := .int .u32 (x.toNat : Int)

theorem u32_xor_bv (a b : W) : bits .xor .u32 (a.toNat : Int) (b.toNat : Int) = ((a ^^^ b).toNat : Int) := by
  rw [u32_xor_nat _ _ a.isLt b.isLt, BitVec.toNat_xor]
theorem u32_and_bv (a b : W) : bits .and .u32 (a.toNat : Int) (b.toNat : Int) = ((a &&& b).toNat : Int) := by
  rw [u32_and_nat _ _ a.isLt b.isLt, BitVec.toNat_and]
theorem u32_or_bv (a b : W) : bits .or .u32 (a.toNat : Int) (b.toNat : Int) = ((a ||| b).toNat : Int) := by
  rw [u32_or_nat _ _ a.isLt b.isLt, BitVec.toNat_or]
theorem u32_not_bv (r : W) : bits .xor .u32 4294967295 (r.toNat : Int) = ((~~~ r).toNat : Int) := by
  have h := u32_xor_bv 4294967295#32 r
  rw [show ((4294967295#32).toNat : Int) = 4294967295 from rfl] at h
  rw [h, BitVec.not_def]
  rfl
theorem shr_bv (a : W) (k : Nat) : ((a.toNat : Int) / ((2 ^ k : Nat) : Int)) = ((a >>> k).toNat : Int) := by
  rw [BitVec.toNat_ushiftRight, Nat.shiftRight_eq_div_pow]; rfl
theorem shl_bv (a : W) (k : Nat) : ((a.toNat : Int) * ((2 ^ k : Nat) : Int)) % (4294967296 : Int) = ((a <<< k).toNat : Int) := by
  rw [BitVec.toNat_shiftLeft, Nat.shiftLeft_eq, ← Int.natCast_mul]
  exact (Int.natCast_emod _ _).symm
theorem add_bv (a b : W) : ((a.toNat : Int) + (b.toNat : Int)) % (4294967296 : Int) = ((a + b).toNat : Int) := by
  rw [BitVec.toNat_add, ← Int.natCast_add]
  exact (Int.natCast_emod _ _).symm

set_option maxRecDepth 100000 in
theorem rot_2 (x : W) (w : World) : Calls Tryd.prog 96 #[shwv x, .int .i64 (-2)] w fun e w' => e = .returned (shwv (rr x 2)) ∧ w' = w := by
  have hx := x.isLt
  have hb : bits .and .u64 (IntKind.u64.wrap (-2)) 31 = 30 := by decide
  go_enter Tryd.func96, Tryd.ntmps96
  go_wp2
  go_ret
  have h1 : (x.toNat : Int) * (1073741824 : Int) % (4294967296 : Int) = ((x <<< 30).toNat : Int) := shl_bv x 30
  have h2 : (x.toNat : Int) / (4 : Int) = ((x >>> 2).toNat : Int) := shr_bv x 2
  rw [h1, h2, u32_or_bv, BitVec.or_comm]
  exact ⟨rfl, rfl⟩
set_option maxRecDepth 100000 in
theorem rot_6 (x : W) (w : World) : Calls Tryd.prog 96 #[shwv x, .int .i64 (-6)] w fun e w' => e = .returned (shwv (rr x 6)) ∧ w' = w := by
  have hx := x.isLt
  have hb : bits .and .u64 (IntKind.u64.wrap (-6)) 31 = 26 := by decide
  go_enter Tryd.func96, Tryd.ntmps96
  go_wp2
  go_ret
  have h1 : (x.toNat : Int) * (67108864 : Int) % (4294967296 : Int) = ((x <<< 26).toNat : Int) := shl_bv x 26
  have h2 : (x.toNat : Int) / (64 : Int) = ((x >>> 6).toNat : Int) := shr_bv x 6
  rw [h1, h2, u32_or_bv, BitVec.or_comm]
  exact ⟨rfl, rfl⟩
set_option maxRecDepth 100000 in
theorem rot_7 (x : W) (w : World) : Calls Tryd.prog 96 #[shwv x, .int .i64 (-7)] w fun e w' => e = .returned (shwv (rr x 7)) ∧ w' = w := by
  have hx := x.isLt
  have hb : bits .and .u64 (IntKind.u64.wrap (-7)) 31 = 25 := by decide
  go_enter Tryd.func96, Tryd.ntmps96
  go_wp2
  go_ret
  have h1 : (x.toNat : Int) * (33554432 : Int) % (4294967296 : Int) = ((x <<< 25).toNat : Int) := shl_bv x 25
  have h2 : (x.toNat : Int) / (128 : Int) = ((x >>> 7).toNat : Int) := shr_bv x 7
  rw [h1, h2, u32_or_bv, BitVec.or_comm]
  exact ⟨rfl, rfl⟩
set_option maxRecDepth 100000 in
theorem rot_11 (x : W) (w : World) : Calls Tryd.prog 96 #[shwv x, .int .i64 (-11)] w fun e w' => e = .returned (shwv (rr x 11)) ∧ w' = w := by
  have hx := x.isLt
  have hb : bits .and .u64 (IntKind.u64.wrap (-11)) 31 = 21 := by decide
  go_enter Tryd.func96, Tryd.ntmps96
  go_wp2
  go_ret
  have h1 : (x.toNat : Int) * (2097152 : Int) % (4294967296 : Int) = ((x <<< 21).toNat : Int) := shl_bv x 21
  have h2 : (x.toNat : Int) / (2048 : Int) = ((x >>> 11).toNat : Int) := shr_bv x 11
  rw [h1, h2, u32_or_bv, BitVec.or_comm]
  exact ⟨rfl, rfl⟩
set_option maxRecDepth 100000 in
theorem rot_13 (x : W) (w : World) : Calls Tryd.prog 96 #[shwv x, .int .i64 (-13)] w fun e w' => e = .returned (shwv (rr x 13)) ∧ w' = w := by
  have hx := x.isLt
  have hb : bits .and .u64 (IntKind.u64.wrap (-13)) 31 = 19 := by decide
  go_enter Tryd.func96, Tryd.ntmps96
  go_wp2
  go_ret
  have h1 : (x.toNat : Int) * (524288 : Int) % (4294967296 : Int) = ((x <<< 19).toNat : Int) := shl_bv x 19
  have h2 : (x.toNat : Int) / (8192 : Int) = ((x >>> 13).toNat : Int) := shr_bv x 13
  rw [h1, h2, u32_or_bv, BitVec.or_comm]
  exact ⟨rfl, rfl⟩
set_option maxRecDepth 100000 in
theorem rot_17 (x : W) (w : World) : Calls Tryd.prog 96 #[shwv x, .int .i64 (-17)] w fun e w' => e = .returned (shwv (rr x 17)) ∧ w' = w := by
  have hx := x.isLt
  have hb : bits .and .u64 (IntKind.u64.wrap (-17)) 31 = 15 := by decide
  go_enter Tryd.func96, Tryd.ntmps96
  go_wp2
  go_ret
  have h1 : (x.toNat : Int) * (32768 : Int) % (4294967296 : Int) = ((x <<< 15).toNat : Int) := shl_bv x 15
  have h2 : (x.toNat : Int) / (131072 : Int) = ((x >>> 17).toNat : Int) := shr_bv x 17
  rw [h1, h2, u32_or_bv, BitVec.or_comm]
  exact ⟨rfl, rfl⟩
set_option maxRecDepth 100000 in
theorem rot_18 (x : W) (w : World) : Calls Tryd.prog 96 #[shwv x, .int .i64 (-18)] w fun e w' => e = .returned (shwv (rr x 18)) ∧ w' = w := by
  have hx := x.isLt
  have hb : bits .and .u64 (IntKind.u64.wrap (-18)) 31 = 14 := by decide
  go_enter Tryd.func96, Tryd.ntmps96
  go_wp2
  go_ret
  have h1 : (x.toNat : Int) * (16384 : Int) % (4294967296 : Int) = ((x <<< 14).toNat : Int) := shl_bv x 14
  have h2 : (x.toNat : Int) / (262144 : Int) = ((x >>> 18).toNat : Int) := shr_bv x 18
  rw [h1, h2, u32_or_bv, BitVec.or_comm]
  exact ⟨rfl, rfl⟩
set_option maxRecDepth 100000 in
theorem rot_19 (x : W) (w : World) : Calls Tryd.prog 96 #[shwv x, .int .i64 (-19)] w fun e w' => e = .returned (shwv (rr x 19)) ∧ w' = w := by
  have hx := x.isLt
  have hb : bits .and .u64 (IntKind.u64.wrap (-19)) 31 = 13 := by decide
  go_enter Tryd.func96, Tryd.ntmps96
  go_wp2
  go_ret
  have h1 : (x.toNat : Int) * (8192 : Int) % (4294967296 : Int) = ((x <<< 13).toNat : Int) := shl_bv x 13
  have h2 : (x.toNat : Int) / (524288 : Int) = ((x >>> 19).toNat : Int) := shr_bv x 19
  rw [h1, h2, u32_or_bv, BitVec.or_comm]
  exact ⟨rfl, rfl⟩
set_option maxRecDepth 100000 in
theorem rot_22 (x : W) (w : World) : Calls Tryd.prog 96 #[shwv x, .int .i64 (-22)] w fun e w' => e = .returned (shwv (rr x 22)) ∧ w' = w := by
  have hx := x.isLt
  have hb : bits .and .u64 (IntKind.u64.wrap (-22)) 31 = 10 := by decide
  go_enter Tryd.func96, Tryd.ntmps96
  go_wp2
  go_ret
  have h1 : (x.toNat : Int) * (1024 : Int) % (4294967296 : Int) = ((x <<< 10).toNat : Int) := shl_bv x 10
  have h2 : (x.toNat : Int) / (4194304 : Int) = ((x >>> 22).toNat : Int) := shr_bv x 22
  rw [h1, h2, u32_or_bv, BitVec.or_comm]
  exact ⟨rfl, rfl⟩
set_option maxRecDepth 100000 in
theorem rot_25 (x : W) (w : World) : Calls Tryd.prog 96 #[shwv x, .int .i64 (-25)] w fun e w' => e = .returned (shwv (rr x 25)) ∧ w' = w := by
  have hx := x.isLt
  have hb : bits .and .u64 (IntKind.u64.wrap (-25)) 31 = 7 := by decide
  go_enter Tryd.func96, Tryd.ntmps96
  go_wp2
  go_ret
  have h1 : (x.toNat : Int) * (128 : Int) % (4294967296 : Int) = ((x <<< 7).toNat : Int) := shl_bv x 7
  have h2 : (x.toNat : Int) / (33554432 : Int) = ((x >>> 25).toNat : Int) := shr_bv x 25
  rw [h1, h2, u32_or_bv, BitVec.or_comm]
  exact ⟨rfl, rfl⟩
set_option maxRecDepth 100000 in
theorem turn_2 (x : W) (w : World) : Calls Tryd.prog 87 #[shwv x, .int .u64 2] w fun e w' => e = .returned (shwv (rr x 2)) ∧ w' = w := by
  have hx := x.isLt
  go_enter Tryd.func87, Tryd.ntmps87
  go_wp2
  go_ret
  have h1 : (x.toNat : Int) * (1073741824 : Int) % (4294967296 : Int) = ((x <<< 30).toNat : Int) := shl_bv x 30
  have h2 : (x.toNat : Int) / (4 : Int) = ((x >>> 2).toNat : Int) := shr_bv x 2
  rw [h1, h2, u32_or_bv]
  exact ⟨rfl, rfl⟩
set_option maxRecDepth 100000 in
theorem turn_6 (x : W) (w : World) : Calls Tryd.prog 87 #[shwv x, .int .u64 6] w fun e w' => e = .returned (shwv (rr x 6)) ∧ w' = w := by
  have hx := x.isLt
  go_enter Tryd.func87, Tryd.ntmps87
  go_wp2
  go_ret
  have h1 : (x.toNat : Int) * (67108864 : Int) % (4294967296 : Int) = ((x <<< 26).toNat : Int) := shl_bv x 26
  have h2 : (x.toNat : Int) / (64 : Int) = ((x >>> 6).toNat : Int) := shr_bv x 6
  rw [h1, h2, u32_or_bv]
  exact ⟨rfl, rfl⟩
set_option maxRecDepth 100000 in
theorem turn_7 (x : W) (w : World) : Calls Tryd.prog 87 #[shwv x, .int .u64 7] w fun e w' => e = .returned (shwv (rr x 7)) ∧ w' = w := by
  have hx := x.isLt
  go_enter Tryd.func87, Tryd.ntmps87
  go_wp2
  go_ret
  have h1 : (x.toNat : Int) * (33554432 : Int) % (4294967296 : Int) = ((x <<< 25).toNat : Int) := shl_bv x 25
  have h2 : (x.toNat : Int) / (128 : Int) = ((x >>> 7).toNat : Int) := shr_bv x 7
  rw [h1, h2, u32_or_bv]
  exact ⟨rfl, rfl⟩
set_option maxRecDepth 100000 in
theorem turn_11 (x : W) (w : World) : Calls Tryd.prog 87 #[shwv x, .int .u64 11] w fun e w' => e = .returned (shwv (rr x 11)) ∧ w' = w := by
  have hx := x.isLt
  go_enter Tryd.func87, Tryd.ntmps87
  go_wp2
  go_ret
  have h1 : (x.toNat : Int) * (2097152 : Int) % (4294967296 : Int) = ((x <<< 21).toNat : Int) := shl_bv x 21
  have h2 : (x.toNat : Int) / (2048 : Int) = ((x >>> 11).toNat : Int) := shr_bv x 11
  rw [h1, h2, u32_or_bv]
  exact ⟨rfl, rfl⟩
set_option maxRecDepth 100000 in
theorem turn_13 (x : W) (w : World) : Calls Tryd.prog 87 #[shwv x, .int .u64 13] w fun e w' => e = .returned (shwv (rr x 13)) ∧ w' = w := by
  have hx := x.isLt
  go_enter Tryd.func87, Tryd.ntmps87
  go_wp2
  go_ret
  have h1 : (x.toNat : Int) * (524288 : Int) % (4294967296 : Int) = ((x <<< 19).toNat : Int) := shl_bv x 19
  have h2 : (x.toNat : Int) / (8192 : Int) = ((x >>> 13).toNat : Int) := shr_bv x 13
  rw [h1, h2, u32_or_bv]
  exact ⟨rfl, rfl⟩
set_option maxRecDepth 100000 in
theorem turn_17 (x : W) (w : World) : Calls Tryd.prog 87 #[shwv x, .int .u64 17] w fun e w' => e = .returned (shwv (rr x 17)) ∧ w' = w := by
  have hx := x.isLt
  go_enter Tryd.func87, Tryd.ntmps87
  go_wp2
  go_ret
  have h1 : (x.toNat : Int) * (32768 : Int) % (4294967296 : Int) = ((x <<< 15).toNat : Int) := shl_bv x 15
  have h2 : (x.toNat : Int) / (131072 : Int) = ((x >>> 17).toNat : Int) := shr_bv x 17
  rw [h1, h2, u32_or_bv]
  exact ⟨rfl, rfl⟩
set_option maxRecDepth 100000 in
theorem turn_18 (x : W) (w : World) : Calls Tryd.prog 87 #[shwv x, .int .u64 18] w fun e w' => e = .returned (shwv (rr x 18)) ∧ w' = w := by
  have hx := x.isLt
  go_enter Tryd.func87, Tryd.ntmps87
  go_wp2
  go_ret
  have h1 : (x.toNat : Int) * (16384 : Int) % (4294967296 : Int) = ((x <<< 14).toNat : Int) := shl_bv x 14
  have h2 : (x.toNat : Int) / (262144 : Int) = ((x >>> 18).toNat : Int) := shr_bv x 18
  rw [h1, h2, u32_or_bv]
  exact ⟨rfl, rfl⟩
set_option maxRecDepth 100000 in
theorem turn_19 (x : W) (w : World) : Calls Tryd.prog 87 #[shwv x, .int .u64 19] w fun e w' => e = .returned (shwv (rr x 19)) ∧ w' = w := by
  have hx := x.isLt
  go_enter Tryd.func87, Tryd.ntmps87
  go_wp2
  go_ret
  have h1 : (x.toNat : Int) * (8192 : Int) % (4294967296 : Int) = ((x <<< 13).toNat : Int) := shl_bv x 13
  have h2 : (x.toNat : Int) / (524288 : Int) = ((x >>> 19).toNat : Int) := shr_bv x 19
  rw [h1, h2, u32_or_bv]
  exact ⟨rfl, rfl⟩
set_option maxRecDepth 100000 in
theorem turn_22 (x : W) (w : World) : Calls Tryd.prog 87 #[shwv x, .int .u64 22] w fun e w' => e = .returned (shwv (rr x 22)) ∧ w' = w := by
  have hx := x.isLt
  go_enter Tryd.func87, Tryd.ntmps87
  go_wp2
  go_ret
  have h1 : (x.toNat : Int) * (1024 : Int) % (4294967296 : Int) = ((x <<< 10).toNat : Int) := shl_bv x 10
  have h2 : (x.toNat : Int) / (4194304 : Int) = ((x >>> 22).toNat : Int) := shr_bv x 22
  rw [h1, h2, u32_or_bv]
  exact ⟨rfl, rfl⟩
set_option maxRecDepth 100000 in
theorem turn_25 (x : W) (w : World) : Calls Tryd.prog 87 #[shwv x, .int .u64 25] w fun e w' => e = .returned (shwv (rr x 25)) ∧ w' = w := by
  have hx := x.isLt
  go_enter Tryd.func87, Tryd.ntmps87
  go_wp2
  go_ret
  have h1 : (x.toNat : Int) * (128 : Int) % (4294967296 : Int) = ((x <<< 7).toNat : Int) := shl_bv x 7
  have h2 : (x.toNat : Int) / (33554432 : Int) = ((x >>> 25).toNat : Int) := shr_bv x 25
  rw [h1, h2, u32_or_bv]
  exact ⟨rfl, rfl⟩
set_option maxRecDepth 100000 in
theorem spread_S1 (x : W) (w : World) : Calls Tryd.prog 98 #[shwv x, .int .i64 6, .int .i64 11, .int .i64 25] w fun e w' => e = .returned (shwv (S1 x)) ∧ w' = w := by
  have hx := x.isLt
  go_enter Tryd.func98, Tryd.ntmps98
  go_wp2_with fail
  refine (rot_6 x w).mono ?_
  rintro e w1 ⟨rfl, hw⟩; subst hw
  go_wp2_with fail
  refine (rot_11 x w1).mono ?_
  rintro e w2 ⟨rfl, hw⟩; subst hw
  go_wp2_with fail
  refine (rot_25 x w2).mono ?_
  rintro e w3 ⟨rfl, hw⟩; subst hw
  go_wp2
  go_ret
  rw [u32_xor_bv, u32_xor_bv]
  exact ⟨rfl, rfl⟩
set_option maxRecDepth 100000 in
theorem spread_S0 (x : W) (w : World) : Calls Tryd.prog 98 #[shwv x, .int .i64 2, .int .i64 13, .int .i64 22] w fun e w' => e = .returned (shwv (S0 x)) ∧ w' = w := by
  have hx := x.isLt
  go_enter Tryd.func98, Tryd.ntmps98
  go_wp2_with fail
  refine (rot_2 x w).mono ?_
  rintro e w1 ⟨rfl, hw⟩; subst hw
  go_wp2_with fail
  refine (rot_13 x w1).mono ?_
  rintro e w2 ⟨rfl, hw⟩; subst hw
  go_wp2_with fail
  refine (rot_22 x w2).mono ?_
  rintro e w3 ⟨rfl, hw⟩; subst hw
  go_wp2
  go_ret
  rw [u32_xor_bv, u32_xor_bv]
  exact ⟨rfl, rfl⟩

/-- Where a word stands in a round. -/
def pl (j t : Nat) : Nat := (j + 7 * t) % 8
theorem pl_lt (j t : Nat) : pl j t < 8 := Nat.mod_lt _ (by decide)
theorem at_bits (j t : Nat) (hj : j < 8) (ht : t < 64) : bits .and .i64 ((j : Int) - (t : Int)) 7 = ((pl j t : Nat) : Int) := by
  have : ∀ j < 8, ∀ t < 64, bits .and .i64 (((j : Nat) : Int) - ((t : Nat) : Int)) 7 = ((pl j t : Nat) : Int) := by decide +kernel
  exact this j hj t ht
set_option maxRecDepth 100000 in
theorem at_any (j t : Nat) (hj : j < 8) (ht : t < 64) (w : World) : Calls Tryd.prog 97 #[.int .i64 (j : Int), .int .i64 (t : Int)] w fun e w' => e = .returned (.int .i64 (pl j t : Int)) ∧ w' = w := by
  have hb := at_bits j t hj ht
  go_enter Tryd.func97, Tryd.ntmps97
  go_wp2
  go_ret
  exact ⟨rfl, rfl⟩
end Go.Proofs.YtmicmbjbclkbjaaDoor

/-
  A block of cells: what it reads as, a cell of it set; a world that is as another but for one block; words as cells.
-/
namespace Go.Proofs.YtmicmbjbclkbjaaDoor
open Go.RowKit

/-- Words as cells. -/
def Ws (l : List W) : List Value := l.map shwv
theorem Ws_length (l : List W) : (Ws l).length = l.length := by simp [Ws]
theorem Ws_append (l m : List W) : Ws (l ++ m) = Ws l ++ Ws m := by simp [Ws]
theorem Ws_one (l : List W) : ∀ u ∈ Ws l, u.oneCell' = true := by
  intro u hu
  obtain ⟨_, _, rfl⟩ := List.mem_map.1 hu
  rfl
theorem Ws_get {l : List W} {j : Nat} (h : j < l.length) : (Ws l)[j]? = some (shwv (gW l j)) := by
  simp [Ws, h, gW, List.getD]
theorem Ws_set (l : List W) (j : Nat) (x : W) : (Ws l).set j (shwv x) = Ws (l.set j x) := by simp [Ws, List.map_set]

end Go.Proofs.YtmicmbjbclkbjaaDoor

/-
  sha.planOf: what the call does.
-/
namespace Go.Proofs.YtmicmbjbclkbjaaDoor
open Go.RowKit
theorem plan_length (b : List UInt8) : ∀ t, (plan b t).length = t
  | 0 => rfl
  | t + 1 => by rw [plan, List.length_append, plan_length b t]; rfl
theorem Tryd.size117 : (Tryd.prog.info? 117).map (·.size) = some 64 := by kernel_rfl
/-- The plan so far, and noughts behind it. -/
def pz (b : List UInt8) (t : Nat) : List W := plan b t ++ List.replicate (64 - t) 0#32
theorem pz_length (b : List UInt8) (t : Nat) (h : t ≤ 64) : (pz b t).length = 64 := by simp [pz, plan_length]; omega
theorem pz_set (b : List UInt8) (t : Nat) (h : t < 64) : (pz b t).set t (if t < 16 then word b t else shnxt (plan b t) t) = pz b (t + 1) := by
  unfold pz
  rw [List.set_append_right _ _ (by rw [plan_length]; omega), plan_length, Nat.sub_self]
  obtain ⟨m, hm⟩ : ∃ m, 64 - t = m + 1 := ⟨63 - t, by omega⟩
  rw [hm, List.replicate_succ, List.set_cons_zero, plan, show 64 - (t + 1) = m by omega]
  simp
theorem pz_get (b : List UInt8) (t j : Nat) (h : j < t) : gW (pz b t) j = gW (plan b t) j := by
  unfold gW pz
  simp [List.getD, List.getElem?_append, plan_length, h]
theorem wrap_bw (x : UInt8) : IntKind.u32.wrap (x.toNat : Int) = ((bw x).toNat : Int) := by
  have := x.toNat_lt
  rw [IntKind.wrap_u32', bw, BitVec.toNat_ofNat]
  exact (Int.natCast_emod _ _).symm
theorem add_wrap (a b : W) : IntKind.u32.wrap ((a.toNat : Int) + (b.toNat : Int)) = ((a + b).toNat : Int) := by
  rw [IntKind.wrap_u32']; exact add_bv a b
theorem shl_wrap (a : W) (k : Nat) : IntKind.u32.wrap ((a.toNat : Int) * ((2 ^ k : Nat) : Int)) = ((a <<< k).toNat : Int) := by
  rw [IntKind.wrap_u32']; exact shl_bv a k

set_option maxHeartbeats 1000000 in
set_option maxRecDepth 100000 in
theorem planOf_any (v : Value) (b : List UInt8) (hb : b.length = 64) (w : World) (h : Rd w v b) :
    Calls Tryd.prog 94 #[v] w fun e w' => e = .returned (.agg (Ws (plan b 64)).toArray) ∧ Below w.heap.size w w' := by
  obtain ⟨a, cap, rfl, h1, h2, h3, h4⟩ := h
  obtain ⟨c, off, rfl, hlt, hc⟩ := h4 (by omega)
  clear h3 h4
  obtain ⟨N, hN⟩ : ∃ N, w.heap.size = N := ⟨_, rfl⟩
  have HC : Hid (∀ wr, Below N w wr → ∀ j, j < 64 → wr.cell? ⟨c, off + j, none⟩ = some (.int .u8 ((gB b j).toNat : Int))) := (show _ from fun wr hwr j hj => by
    rw [hwr.cell (p := ⟨c, off + j, none⟩) (show c < N from hN ▸ hlt), hc j _ (By_get (by omega))]
    simp [gB, List.getD, hb, hj])
  clear hc
  rw [hb] at *
  go_enter Tryd.func94, Tryd.ntmps94
  go_wp2
  go_loopg [9] 17 (fun k z wr => Below N w wr ∧ ∃ i : Nat, i ≤ 16 ∧ k + i = 17 ∧ z = .int .i64 i ∧ Hid (Blk wr N 117 (Ws (pz b 0))) ∧ Hid (Blk wr (N + 1) 117 (Ws (pz b i))))
  case atStart =>
    refine ⟨(Below.refl _ _).alloc (by omega) _ |>.alloc (by simp; omega) _, 0, by omega, rfl, rfl, ?_, ?_⟩
    · show Blk _ _ _ _
      rw [← hN]
      exact (Blk.new w 117 (Ws (pz b 0))).alloc _
    · show Blk _ _ _ _
      have := Blk.new (w.alloc (.cells (Ws (pz b 0)).toArray 117 (0, 0))) 117 (Ws (pz b 0))
      rw [show (w.alloc (.cells (Ws (pz b 0)).toArray 117 (0, 0))).heap.size = N + 1 by simp [hN]] at this
      exact this
  case round =>
    obtain ⟨hbl, i, hi, hk, rfl, HB0, HB1⟩ := hrel
    have HBL : Hid (Below N w wr) := hbl
    have HBS : Hid (N ≤ wr.heap.size) := (show N ≤ _ from HB0.out.lt |> Nat.le_of_lt)
    clear hbl
    by_cases hlt : i < 16
    · have q1 : (i : Int) < 16 := by omega
      have q3 : (i : Int) < 64 := by omega
      have q2 : (4 : Int) * i + 4 ≤ cap := by omega
      have c0 := HC.out wr HBL.out (4 * i) (by omega)
      have c1 := HC.out wr HBL.out (4 * i + 1) (by omega)
      rw [← Nat.add_assoc] at c1
      have c2 := HC.out wr HBL.out (4 * i + 2) (by omega)
      rw [← Nat.add_assoc] at c2
      have c3 := HC.out wr HBL.out (4 * i + 3) (by omega)
      rw [← Nat.add_assoc] at c3
      have HX : Hid (word b i = bw (gB b (4 * i)) <<< 24 ||| bw (gB b (4 * i + 1)) <<< 16 ||| bw (gB b (4 * i + 2)) <<< 8 ||| bw (gB b (4 * i + 3))) := rfl
      generalize gB b (4 * i) = x0 at *
      generalize gB b (4 * i + 1) = x1 at *
      generalize gB b (4 * i + 2) = x2 at *
      generalize gB b (4 * i + 3) = x3 at *
      have e0 := wrap_bw x0
      have e1 := wrap_bw x1
      have e2 := wrap_bw x2
      have e3 := wrap_bw x3
      generalize bw x0 = y0 at *
      generalize bw x1 = y1 at *
      generalize bw x2 = y2 at *
      generalize bw x3 = y3 at *
      have f0 : IntKind.u32.wrap ((y0.toNat : Int) * (16777216 : Int)) = ((y0 <<< 24).toNat : Int) := shl_wrap y0 24
      have f1 : IntKind.u32.wrap ((y1.toNat : Int) * (65536 : Int)) = ((y1 <<< 16).toNat : Int) := shl_wrap y1 16
      have f2 : IntKind.u32.wrap ((y2.toNat : Int) * (256 : Int)) = ((y2 <<< 8).toNat : Int) := shl_wrap y2 8
      generalize y0 <<< 24 = z0 at *
      generalize y1 <<< 16 = z1 at *
      generalize y2 <<< 8 = z2 at *
      have g0 := u32_or_bv z0 z1
      generalize z0 ||| z1 = z3 at *
      have g1 := u32_or_bv z3 z2
      generalize z3 ||| z2 = z4 at *
      have g2 := u32_or_bv z4 y3
      generalize z4 ||| y3 = z5 at *
      have k1 := HB1.out.cell (Ws_get (l := pz b i) (j := i) (by rw [pz_length]; omega; omega))
      have k2 := HB1.out.frozen i
      go_wp2
      go_still_tail 24, Tryd.mixed
      go_wp2
      go_roundg (gk - 1)
      case measure => omega
      case rel => exact ⟨(But.setCell _ _ _ _).below (by omega) HBS.out |> HBL.out.trans |> Below.drew, i + 1, by omega, by omega, by go_num, HB0.out.set_other (by omega) _ _, by
        show Blk _ _ _ _
        have e := pz_set b i (by omega)
        rw [if_pos hlt, HX.out] at e
        have := HB1.out.set i (shwv z5)
        rw [Ws_set, e] at this
        exact this⟩
    · obtain rfl : i = 16 := by omega
      go_wp2
      go_loopg [6] 49 (fun k z wr => Below N w wr ∧ ∃ i : Nat, 16 ≤ i ∧ i ≤ 64 ∧ k + i = 65 ∧ z = .int .i64 i ∧ Hid (Blk wr N 117 (Ws (pz b 0))) ∧ Hid (Blk wr (N + 1) 117 (Ws (pz b i))))
      case atStart => exact ⟨HBL.out, 16, by omega, by omega, by omega, rfl, HB0, HB1⟩
      case round =>
        clear HB0 HB1 HBL HBS
        obtain ⟨hbl, i, hi0, hi, hk, rfl, HB0, HB1⟩ := hrel
        have HBL : Hid (Below N w wr) := hbl
        have HBS : Hid (N ≤ wr.heap.size) := (show N ≤ _ from HB0.out.lt |> Nat.le_of_lt)
        clear hbl
        by_cases hlt : i < 64
        · have q1 : (i : Int) < 64 := by omega
          have k1 := HB1.out.cell (Ws_get (l := pz b i) (j := i) (by rw [pz_length]; omega; omega))
          have k2 := HB1.out.frozen i
          obtain ⟨p15, hp15⟩ : ∃ p, p = i - 15 := ⟨_, rfl⟩
          have w15 : IntKind.i64.wrap ((i : Int) - 15) = (p15 : Int) := (IntWalk.i64_in ((i : Int) - 15) (by omega)).trans (by omega)
          have b15 : (p15 : Int) < 64 := by omega
          have c15 := HB1.out.cell (Ws_get (l := pz b i) (j := p15) (by rw [pz_length]; omega; omega))
          obtain ⟨p2, hp2⟩ : ∃ p, p = i - 2 := ⟨_, rfl⟩
          have w2 : IntKind.i64.wrap ((i : Int) - 2) = (p2 : Int) := (IntWalk.i64_in ((i : Int) - 2) (by omega)).trans (by omega)
          have b2 : (p2 : Int) < 64 := by omega
          have c2 := HB1.out.cell (Ws_get (l := pz b i) (j := p2) (by rw [pz_length]; omega; omega))
          obtain ⟨p16, hp16⟩ : ∃ p, p = i - 16 := ⟨_, rfl⟩
          have w16 : IntKind.i64.wrap ((i : Int) - 16) = (p16 : Int) := (IntWalk.i64_in ((i : Int) - 16) (by omega)).trans (by omega)
          have b16 : (p16 : Int) < 64 := by omega
          have c16 := HB1.out.cell (Ws_get (l := pz b i) (j := p16) (by rw [pz_length]; omega; omega))
          obtain ⟨p7, hp7⟩ : ∃ p, p = i - 7 := ⟨_, rfl⟩
          have w7 : IntKind.i64.wrap ((i : Int) - 7) = (p7 : Int) := (IntWalk.i64_in ((i : Int) - 7) (by omega)).trans (by omega)
          have b7 : (p7 : Int) < 64 := by omega
          have c7 := HB1.out.cell (Ws_get (l := pz b i) (j := p7) (by rw [pz_length]; omega; omega))
          have HX : Hid (shnxt (plan b i) i = gW (pz b i) p16 + s0 (gW (pz b i) p15) + gW (pz b i) p7 + s1 (gW (pz b i) p2)) := (show _ = _ by
            rw [pz_get _ _ _ (by omega), pz_get _ _ _ (by omega), pz_get _ _ _ (by omega), pz_get _ _ _ (by omega), shnxt, hp16, hp15, hp7, hp2])
          clear hp16 hp15 hp7 hp2
          generalize gW (pz b i) p15 = x at *
          generalize gW (pz b i) p2 = y at *
          generalize gW (pz b i) p16 = z at *
          generalize gW (pz b i) p7 = u at *
          have f1 := u32_xor_bv (rr x 7) (rr x 18)
          have f2 : (x.toNat : Int) / (8 : Int) = ((x >>> 3).toNat : Int) := shr_bv x 3
          have f3 := u32_xor_bv (rr x 7 ^^^ rr x 18) (x >>> 3)
          have f4 := u32_xor_bv (rr y 17) (rr y 19)
          have f5 : (y.toNat : Int) / (1024 : Int) = ((y >>> 10).toNat : Int) := shr_bv y 10
          have f6 := u32_xor_bv (rr y 17 ^^^ rr y 19) (y >>> 10)
          have r7 := rot_7 x
          have r18 := rot_18 x
          have r17 := rot_17 y
          have r19 := rot_19 y
          unfold s0 s1 at HX
          generalize rr x 7 = x7 at *
          generalize rr x 18 = x18 at *
          generalize rr y 17 = y17 at *
          generalize rr y 19 = y19 at *
          generalize x >>> 3 = x3 at *
          generalize y >>> 10 = y10 at *
          generalize x7 ^^^ x18 = xa at *
          generalize xa ^^^ x3 = xb at *
          generalize y17 ^^^ y19 = ya at *
          generalize ya ^^^ y10 = yb at *
          have R7 : Hid _ := r7
          have R18 : Hid _ := r18
          have R17 : Hid _ := r17
          have R19 : Hid _ := r19
          clear r7 r18 r17 r19
          have g1 : IntKind.u32.wrap ((z.toNat : Int) + (xb.toNat : Int)) = ((z + xb).toNat : Int) := add_wrap z xb
          generalize z + xb = t1 at *
          have g2 : IntKind.u32.wrap ((t1.toNat : Int) + (u.toNat : Int)) = ((t1 + u).toNat : Int) := add_wrap t1 u
          generalize t1 + u = t2 at *
          have g3 : IntKind.u32.wrap ((t2.toNat : Int) + (yb.toNat : Int)) = ((t2 + yb).toNat : Int) := add_wrap t2 yb
          generalize t2 + yb = t3 at *
          go_wp2
          go_still Tryd.mixed
          generalize hq : ({ wr with drawn := wr.drawn + 1 } : World) = wq
          have e1 : wq.cell? ⟨N + 1, i, none⟩ = some (shwv (gW (pz b i) i)) := by rw [← hq]; exact k1
          have e2 : wq.frozen? ⟨N + 1, i, none⟩ = false := by rw [← hq]; exact k2
          have e3 : wq.cell? ⟨N + 1, p16, none⟩ = some (shwv z) := by rw [← hq]; exact c16
          have e4 : wq.cell? ⟨N + 1, p7, none⟩ = some (shwv u) := by rw [← hq]; exact c7
          have B0 : Hid (Blk wq N 117 (Ws (pz b 0))) := by rw [← hq]; exact HB0.out
          have B1 : Hid (Blk wq (N + 1) 117 (Ws (pz b i))) := by rw [← hq]; exact HB1.out
          have BL : Hid (Below N w wq) := by rw [← hq]; exact HBL.out.drew
          have BS : Hid (N ≤ wq.heap.size) := by rw [← hq]; exact HBS.out
          clear hq k1 k2 c15 c2 c16 c7 HB0 HB1 HBL HBS
          go_wp2_with fail
          refine (R7.out _).mono ?_
          rintro e w1 ⟨rfl, hw⟩; subst hw
          go_wp2_with fail
          refine (R18.out _).mono ?_
          rintro e w2 ⟨rfl, hw⟩; subst hw
          go_wp2_with fail
          refine (R17.out _).mono ?_
          rintro e w3 ⟨rfl, hw⟩; subst hw
          go_wp2_with fail
          refine (R19.out _).mono ?_
          rintro e w4 ⟨rfl, hw⟩; subst hw
          go_wp2_with fail
          go_still_tail 15, Tryd.mixed
          go_wp2
          go_roundg (gk - 1)
          case measure => omega
          case rel => exact ⟨(But.setCell _ _ _ _).below (by omega) BS.out |> BL.out.trans |> Below.drew, i + 1, by omega, by omega, by omega, by go_num, B0.out.set_other (by omega) _ _, by
            show Blk _ _ _ _
            have e := pz_set b i (by omega)
            rw [if_neg (by omega), HX.out] at e
            have := B1.out.set i (shwv t3)
            rw [Ws_set, e] at this
            exact this⟩
        · obtain rfl : i = 64 := by omega
          have r0 := HB1.out.range0
          have t0 := HB0.out.there 0 64 (by rw [Ws_length, pz_length _ _ (by omega)]; omega)
          go_wp2_with (first
            | (refine wpList_load_mid rfl 117 _ rfl (N + 1) 0 rfl _ _ r0 Tryd.underlying117 rfl (by rw [Ws_length, pz_length _ _ (by omega)]; exact Tryd.size117) ?_)
            | (refine wpList_store_mid rfl 117 _ _ rfl N 0 _ rfl rfl (by simpa [Ws_length, pz_length] using t0) (by simpa [Ws_length, pz_length] using Tryd.size117) (by simpa using Ws_one _) ?_)
            | fail)
          have hl : (pz b 0).length = 64 := pz_length b 0 (by omega)
          have hl2 : (pz b 64).length = 64 := pz_length b 64 (by omega)
          have hB := Blk.over (Ws (pz b 64)) HB0.out 0 (by rw [Ws_length, Ws_length, hl, hl2]; omega)
          rw [over_all _ _ (by rw [Ws_length, Ws_length, hl, hl2])] at hB
          refine bodyPost_ret (results_cell_row rfl _ _ N 117 _ (0, 0) _ rfl hB Tryd.underlying117 rfl (by simpa [Ws_length, pz_length] using Tryd.size117)) rfl ⟨?_, ?_⟩
          · simp [pz]
          · rw [hN]
            exact HBL.out.trans ((But.setCells N _ 0 wr).below (Nat.le_refl _) HBS.out)
end Go.Proofs.YtmicmbjbclkbjaaDoor

/-
  (*sha.words).turn: what the call does; the words where they stand.
-/
namespace Go.Proofs.YtmicmbjbclkbjaaDoor
open Go.RowKit

/-- One round, the words where they stand. -/
def tl (l : List W) (t : Nat) (x : W) : List W :=
  let y := x + (gW l (pl 7 t) + ch (gW l (pl 4 t)) (gW l (pl 5 t)) (gW l (pl 6 t)) + S1 (gW l (pl 4 t)))
  (l.set (pl 3 t) (gW l (pl 3 t) + y)).set (pl 7 t) (y + mj (gW l (pl 0 t)) (gW l (pl 1 t)) (gW l (pl 2 t)) + S0 (gW l (pl 0 t)))
theorem tl_length (l : List W) (t : Nat) (x : W) : (tl l t x).length = l.length := by simp [tl]

theorem gW_set_same (l : List W) (p : Nat) (x : W) (h : p < l.length) : gW (l.set p x) p = x := by simp [gW, List.getD, h]
theorem gW_set_other (l : List W) (p q : Nat) (x : W) (h : p ≠ q) : gW (l.set p x) q = gW l q := by simp [gW, List.getD, h]
theorem pl_ne (i j t : Nat) (hi : i < 8) (hj : j < 8) (h : i ≠ j) : pl i t ≠ pl j t := by unfold pl; omega
theorem pl_zero (t : Nat) : pl 0 (t + 1) = pl 7 t := by unfold pl; omega
theorem pl_next (j t : Nat) : pl (j + 1) (t + 1) = pl j t := by unfold pl; omega
/-- The words where they stand are the words by their letters. -/
def Stands (l v : List W) (t : Nat) : Prop := ∀ j, j < 8 → gW l (pl j t) = gW v j
theorem stands_next (l v : List W) (t : Nat) (k p : W) (hl : l.length = 8) (h : Stands l v t) : Stands (tl l t (p + k)) (rnd v (k + p)) (t + 1) := by
  have h0 := h 0 (by omega)
  have h1 := h 1 (by omega)
  have h2 := h 2 (by omega)
  have h3 := h 3 (by omega)
  have h4 := h 4 (by omega)
  have h5 := h 5 (by omega)
  have h6 := h 6 (by omega)
  have h7 := h 7 (by omega)
  have hp : ∀ j, pl j t < l.length := fun j => by rw [hl]; exact pl_lt j t
  intro j hj
  unfold tl
  simp only [h0, h1, h2, h3, h4, h5, h6, h7]
  match j, hj with
  | 0, _ =>
    rw [pl_zero, gW_set_same _ _ _ (by rw [List.length_set]; exact hp 7)]
    show _ = gW v 7 + S1 (gW v 4) + ch (gW v 4) (gW v 5) (gW v 6) + (k + p) + (S0 (gW v 0) + mj (gW v 0) (gW v 1) (gW v 2))
    ac_rfl
  | 1, _ => rw [pl_next, gW_set_other _ _ _ _ (pl_ne _ _ _ (by omega) (by omega) (by omega)), gW_set_other _ _ _ _ (pl_ne _ _ _ (by omega) (by omega) (by omega)), h0]; rfl
  | 2, _ => rw [pl_next, gW_set_other _ _ _ _ (pl_ne _ _ _ (by omega) (by omega) (by omega)), gW_set_other _ _ _ _ (pl_ne _ _ _ (by omega) (by omega) (by omega)), h1]; rfl
  | 3, _ => rw [pl_next, gW_set_other _ _ _ _ (pl_ne _ _ _ (by omega) (by omega) (by omega)), gW_set_other _ _ _ _ (pl_ne _ _ _ (by omega) (by omega) (by omega)), h2]; rfl
  | 4, _ =>
    rw [pl_next, gW_set_other _ _ _ _ (pl_ne _ _ _ (by omega) (by omega) (by omega)), gW_set_same _ _ _ (hp 3)]
    show _ = gW v 3 + (gW v 7 + S1 (gW v 4) + ch (gW v 4) (gW v 5) (gW v 6) + (k + p))
    ac_rfl
  | 5, _ => rw [pl_next, gW_set_other _ _ _ _ (pl_ne _ _ _ (by omega) (by omega) (by omega)), gW_set_other _ _ _ _ (pl_ne _ _ _ (by omega) (by omega) (by omega)), h4]; rfl
  | 6, _ => rw [pl_next, gW_set_other _ _ _ _ (pl_ne _ _ _ (by omega) (by omega) (by omega)), gW_set_other _ _ _ _ (pl_ne _ _ _ (by omega) (by omega) (by omega)), h5]; rfl
  | 7, _ => rw [pl_next, gW_set_other _ _ _ _ (pl_ne _ _ _ (by omega) (by omega) (by omega)), gW_set_other _ _ _ _ (pl_ne _ _ _ (by omega) (by omega) (by omega)), h6]; rfl
  | j + 8, h => omega

set_option maxHeartbeats 1000000 in
set_option maxRecDepth 100000 in
theorem turnW_any (l : List W) (t : Nat) (x : W) (bt : Nat) (hl : l.length = 8) (ht : t < 64) (w : World) (hB : Blk w bt 110 (Ws l)) :
    Calls Tryd.prog 95 #[.pointer (some ⟨bt, 0, none⟩), .int .i64 (t : Int), shwv x] w fun e w' => e = .returned (.tuple #[]) ∧ But bt w w' ∧ Blk w' bt 110 (Ws (tl l t x)) := by
  have HB : Hid (Blk w bt 110 (Ws l)) := hB
  clear hB
  have HT : Hid (tl l t x = (l.set (pl 3 t) (gW l (pl 3 t) + (x + (gW l (pl 7 t) + ch (gW l (pl 4 t)) (gW l (pl 5 t)) (gW l (pl 6 t)) + S1 (gW l (pl 4 t)))))).set (pl 7 t) ((x + (gW l (pl 7 t) + ch (gW l (pl 4 t)) (gW l (pl 5 t)) (gW l (pl 6 t)) + S1 (gW l (pl 4 t)))) + mj (gW l (pl 0 t)) (gW l (pl 1 t)) (gW l (pl 2 t)) + S0 (gW l (pl 0 t)))) := rfl
  have A0 : Hid (∀ w, Calls Tryd.prog 97 #[.int .i64 0, .int .i64 (t : Int)] w fun e w' => e = .returned (.int .i64 (pl 0 t : Int)) ∧ w' = w) := (show ∀ w, _ from at_any 0 t (by omega) ht)
  have b0 : ((pl 0 t : Nat) : Int) < 8 := by have := pl_lt 0 t; omega
  have C0 : Hid (∀ w' : World, w'.heap = w.heap → w'.cell? ⟨bt, pl 0 t, none⟩ = some (shwv (gW l (pl 0 t)))) := (show ∀ w' : World, _ → _ from fun w' h => by
    have := HB.out.cell (Ws_get (l := l) (j := pl 0 t) (by have := pl_lt 0 t; omega))
    rw [← this]; simp only [World.cell?, h])
  generalize pl 0 t = p0 at *
  generalize gW l p0 = x0 at *
  have A1 : Hid (∀ w, Calls Tryd.prog 97 #[.int .i64 1, .int .i64 (t : Int)] w fun e w' => e = .returned (.int .i64 (pl 1 t : Int)) ∧ w' = w) := (show ∀ w, _ from at_any 1 t (by omega) ht)
  have b1 : ((pl 1 t : Nat) : Int) < 8 := by have := pl_lt 1 t; omega
  have C1 : Hid (∀ w' : World, w'.heap = w.heap → w'.cell? ⟨bt, pl 1 t, none⟩ = some (shwv (gW l (pl 1 t)))) := (show ∀ w' : World, _ → _ from fun w' h => by
    have := HB.out.cell (Ws_get (l := l) (j := pl 1 t) (by have := pl_lt 1 t; omega))
    rw [← this]; simp only [World.cell?, h])
  generalize pl 1 t = p1 at *
  generalize gW l p1 = x1 at *
  have A2 : Hid (∀ w, Calls Tryd.prog 97 #[.int .i64 2, .int .i64 (t : Int)] w fun e w' => e = .returned (.int .i64 (pl 2 t : Int)) ∧ w' = w) := (show ∀ w, _ from at_any 2 t (by omega) ht)
  have b2 : ((pl 2 t : Nat) : Int) < 8 := by have := pl_lt 2 t; omega
  have C2 : Hid (∀ w' : World, w'.heap = w.heap → w'.cell? ⟨bt, pl 2 t, none⟩ = some (shwv (gW l (pl 2 t)))) := (show ∀ w' : World, _ → _ from fun w' h => by
    have := HB.out.cell (Ws_get (l := l) (j := pl 2 t) (by have := pl_lt 2 t; omega))
    rw [← this]; simp only [World.cell?, h])
  generalize pl 2 t = p2 at *
  generalize gW l p2 = x2 at *
  have A3 : Hid (∀ w, Calls Tryd.prog 97 #[.int .i64 3, .int .i64 (t : Int)] w fun e w' => e = .returned (.int .i64 (pl 3 t : Int)) ∧ w' = w) := (show ∀ w, _ from at_any 3 t (by omega) ht)
  have b3 : ((pl 3 t : Nat) : Int) < 8 := by have := pl_lt 3 t; omega
  have C3 : Hid (∀ w' : World, w'.heap = w.heap → w'.cell? ⟨bt, pl 3 t, none⟩ = some (shwv (gW l (pl 3 t)))) := (show ∀ w' : World, _ → _ from fun w' h => by
    have := HB.out.cell (Ws_get (l := l) (j := pl 3 t) (by have := pl_lt 3 t; omega))
    rw [← this]; simp only [World.cell?, h])
  generalize pl 3 t = p3 at *
  generalize gW l p3 = x3 at *
  have A4 : Hid (∀ w, Calls Tryd.prog 97 #[.int .i64 4, .int .i64 (t : Int)] w fun e w' => e = .returned (.int .i64 (pl 4 t : Int)) ∧ w' = w) := (show ∀ w, _ from at_any 4 t (by omega) ht)
  have b4 : ((pl 4 t : Nat) : Int) < 8 := by have := pl_lt 4 t; omega
  have C4 : Hid (∀ w' : World, w'.heap = w.heap → w'.cell? ⟨bt, pl 4 t, none⟩ = some (shwv (gW l (pl 4 t)))) := (show ∀ w' : World, _ → _ from fun w' h => by
    have := HB.out.cell (Ws_get (l := l) (j := pl 4 t) (by have := pl_lt 4 t; omega))
    rw [← this]; simp only [World.cell?, h])
  generalize pl 4 t = p4 at *
  generalize gW l p4 = x4 at *
  have A5 : Hid (∀ w, Calls Tryd.prog 97 #[.int .i64 5, .int .i64 (t : Int)] w fun e w' => e = .returned (.int .i64 (pl 5 t : Int)) ∧ w' = w) := (show ∀ w, _ from at_any 5 t (by omega) ht)
  have b5 : ((pl 5 t : Nat) : Int) < 8 := by have := pl_lt 5 t; omega
  have C5 : Hid (∀ w' : World, w'.heap = w.heap → w'.cell? ⟨bt, pl 5 t, none⟩ = some (shwv (gW l (pl 5 t)))) := (show ∀ w' : World, _ → _ from fun w' h => by
    have := HB.out.cell (Ws_get (l := l) (j := pl 5 t) (by have := pl_lt 5 t; omega))
    rw [← this]; simp only [World.cell?, h])
  generalize pl 5 t = p5 at *
  generalize gW l p5 = x5 at *
  have A6 : Hid (∀ w, Calls Tryd.prog 97 #[.int .i64 6, .int .i64 (t : Int)] w fun e w' => e = .returned (.int .i64 (pl 6 t : Int)) ∧ w' = w) := (show ∀ w, _ from at_any 6 t (by omega) ht)
  have b6 : ((pl 6 t : Nat) : Int) < 8 := by have := pl_lt 6 t; omega
  have C6 : Hid (∀ w' : World, w'.heap = w.heap → w'.cell? ⟨bt, pl 6 t, none⟩ = some (shwv (gW l (pl 6 t)))) := (show ∀ w' : World, _ → _ from fun w' h => by
    have := HB.out.cell (Ws_get (l := l) (j := pl 6 t) (by have := pl_lt 6 t; omega))
    rw [← this]; simp only [World.cell?, h])
  generalize pl 6 t = p6 at *
  generalize gW l p6 = x6 at *
  have A7 : Hid (∀ w, Calls Tryd.prog 97 #[.int .i64 7, .int .i64 (t : Int)] w fun e w' => e = .returned (.int .i64 (pl 7 t : Int)) ∧ w' = w) := (show ∀ w, _ from at_any 7 t (by omega) ht)
  have b7 : ((pl 7 t : Nat) : Int) < 8 := by have := pl_lt 7 t; omega
  have C7 : Hid (∀ w' : World, w'.heap = w.heap → w'.cell? ⟨bt, pl 7 t, none⟩ = some (shwv (gW l (pl 7 t)))) := (show ∀ w' : World, _ → _ from fun w' h => by
    have := HB.out.cell (Ws_get (l := l) (j := pl 7 t) (by have := pl_lt 7 t; omega))
    rw [← this]; simp only [World.cell?, h])
  generalize pl 7 t = p7 at *
  generalize gW l p7 = x7 at *
  unfold ch mj at HT
  have f1 := u32_and_bv x4 x5
  have f2 : bits .xor .u32 IntKind.u32.max (x4.toNat : Int) = ((~~~ x4).toNat : Int) := u32_not_bv x4
  have f3 := u32_and_bv (~~~ x4) x6
  generalize ~~~ x4 = n4 at *
  generalize x4 &&& x5 = g1 at *
  generalize n4 &&& x6 = g2 at *
  have f4 := u32_xor_bv g1 g2
  generalize g1 ^^^ g2 = g3 at *
  have f5 := add_wrap x7 g3
  generalize x7 + g3 = g4 at *
  have E1 : Hid _ := spread_S1 x4
  generalize S1 x4 = g5 at *
  have f6 := add_wrap g4 g5
  generalize g4 + g5 = g6 at *
  have f7 := add_wrap x g6
  generalize x + g6 = y at *
  have f8 := add_wrap x3 y
  generalize x3 + y = z at *
  have m1 := u32_and_bv x0 x1
  have m2 := u32_and_bv x0 x2
  have m3 := u32_and_bv x1 x2
  generalize x0 &&& x1 = h1 at *
  generalize x0 &&& x2 = h2 at *
  generalize x1 &&& x2 = h3 at *
  have m4 := u32_xor_bv h1 h2
  generalize h1 ^^^ h2 = h4 at *
  have m5 := u32_xor_bv h4 h3
  generalize h4 ^^^ h3 = h5 at *
  have m6 := add_wrap y h5
  generalize y + h5 = h6 at *
  have E0 : Hid _ := spread_S0 x0
  generalize S0 x0 = h7 at *
  have m7 := add_wrap h6 h7
  generalize h6 + h7 = u at *
  have c0 := C0.out w rfl
  have c1 := C1.out w rfl
  have c2 := C2.out w rfl
  go_enter Tryd.func95, Tryd.ntmps95
  go_wp2_with fail
  refine wp_region_still_lit Tryd.mixed (by kernel_rfl) ?_
  repeat still_step
  still_call (A0.out _)
  repeat still_step
  still_call (A1.out _)
  repeat still_step
  still_call (A2.out _)
  repeat still_step
  refine wpStill_nil ?_
  generalize hq : ({ w with drawn := w.drawn + 1 } : World) = w1
  have H1 : Hid (w1.heap = w.heap) := by rw [← hq]; exact rfl
  have U1 : Hid (But bt w w1) := by rw [← hq]; exact But.drew bt w
  clear hq c0 c1 c2
  have c4 := C4.out w1 H1.out
  have c5 := C5.out w1 H1.out
  have c6 := C6.out w1 H1.out
  go_wp2_with fail
  refine wp_region_still_lit Tryd.mixed (by kernel_rfl) ?_
  repeat still_step
  still_call (A4.out _)
  repeat still_step
  still_call (A5.out _)
  repeat still_step
  still_call (A6.out _)
  repeat still_step
  refine wpStill_nil ?_
  generalize hq : ({ w1 with drawn := w1.drawn + 1 } : World) = w2
  have H2 : Hid (w2.heap = w.heap) := by rw [← hq]; exact H1.out
  have U2 : Hid (But bt w w2) := by rw [← hq]; exact U1.out.trans (But.drew bt w1)
  clear hq c4 c5 c6 H1 U1
  have c7 := C7.out w2 H2.out
  go_wp2_with fail
  refine wp_region_still_lit Tryd.mixed (by kernel_rfl) ?_
  repeat still_step
  still_call (A7.out _)
  repeat still_step
  still_call (E1.out _)
  repeat still_step
  refine wpStill_nil ?_
  generalize hq : ({ w2 with drawn := w2.drawn + 1 } : World) = w3
  have H3 : Hid (w3.heap = w.heap) := by rw [← hq]; exact H2.out
  have U3 : Hid (But bt w w3) := by rw [← hq]; exact U2.out.trans (But.drew bt w2)
  clear hq c7 H2 U2
  have B3 : Hid (Blk w3 bt 110 (Ws l)) := (show _ = _ by rw [H3.out]; exact HB.out)
  have c3 := C3.out w3 H3.out
  have z3 := B3.out.frozen p3
  go_wp2_with fail
  refine wp_region_still_tail 10 Tryd.mixed (by kernel_rfl) ?_
  simp only [List.take_succ_cons, List.take_zero, List.drop_succ_cons, List.drop_zero]
  repeat still_step
  still_call (A3.out _)
  repeat still_step
  refine wpStill_nil ?_
  go_wp2_with fail
  generalize hq : World.drew _ = w4
  have B4 : Hid (Blk w4 bt 110 (Ws (l.set p3 z))) := (show _ = _ by
    rw [← hq]
    have := B3.out.set p3 (shwv z)
    rw [Ws_set] at this
    exact this)
  have U4 : Hid (But bt w w4) := by rw [← hq]; exact (U3.out.trans (But.setCell bt _ _ _)).trans (But.drew bt _)
  clear hq c3 z3 H3 U3 B3
  have c7 := B4.out.cell (Ws_get (l := l.set p3 z) (j := p7) (by rw [List.length_set]; omega))
  have z7 := B4.out.frozen p7
  generalize gW (l.set p3 z) p7 = old at *
  refine wp_region_still_tail 21 Tryd.mixed (by kernel_rfl) ?_
  simp only [List.take_succ_cons, List.take_zero, List.drop_succ_cons, List.drop_zero]
  repeat still_step
  still_call (A7.out _)
  repeat still_step
  still_call (E0.out _)
  repeat still_step
  refine wpStill_nil ?_
  go_wp2_with fail
  go_end0
  refine ⟨rfl, (U4.out.trans (But.setCell bt _ _ _)).trans (But.drew bt _), ?_⟩
  have := B4.out.set p7 (shwv u)
  rw [Ws_set] at this
  rw [HT.out]
  exact this
end Go.Proofs.YtmicmbjbclkbjaaDoor
