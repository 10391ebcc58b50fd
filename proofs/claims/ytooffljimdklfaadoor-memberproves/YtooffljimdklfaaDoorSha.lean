/-
  SHA-256 as a plain function over lists of bytes.
-/
import Derived.WalkKit
import Derived.ProofKit
import Derived.Test.YtooffljimdklfaaDoorBase
namespace Go.Proofs.YtooffljimdklfaaDoor

abbrev W := BitVec 32

def rr (x : W) (n : Nat) : W := x >>> n ||| x <<< (32 - n)
def bw (b : UInt8) : W := BitVec.ofNat 32 b.toNat
def word (b : List UInt8) (i : Nat) : W := bw (gB b (4 * i)) <<< 24 ||| bw (gB b (4 * i + 1)) <<< 16 ||| bw (gB b (4 * i + 2)) <<< 8 ||| bw (gB b (4 * i + 3))
def s0 (x : W) : W := rr x 7 ^^^ rr x 18 ^^^ x >>> 3
def s1 (x : W) : W := rr x 17 ^^^ rr x 19 ^^^ x >>> 10
def S0 (x : W) : W := rr x 2 ^^^ rr x 13 ^^^ rr x 22
def S1 (x : W) : W := rr x 6 ^^^ rr x 11 ^^^ rr x 25
def ch (e f g : W) : W := e &&& f ^^^ ~~~e &&& g
def mj (a b c : W) : W := a &&& b ^^^ a &&& c ^^^ b &&& c
def gW (l : List W) (i : Nat) : W := l.getD i 0#32
def nxt (l : List W) (t : Nat) : W := gW l (t - 16) + s0 (gW l (t - 15)) + gW l (t - 7) + s1 (gW l (t - 2))
def plan (b : List UInt8) : Nat → List W
  | 0 => []
  | t + 1 => plan b t ++ [if t < 16 then word b t else nxt (plan b t) t]
def K : List W := [
  0x428a2f98#32, 0x71374491#32, 0xb5c0fbcf#32, 0xe9b5dba5#32, 0x3956c25b#32, 0x59f111f1#32, 0x923f82a4#32, 0xab1c5ed5#32,
  0xd807aa98#32, 0x12835b01#32, 0x243185be#32, 0x550c7dc3#32, 0x72be5d74#32, 0x80deb1fe#32, 0x9bdc06a7#32, 0xc19bf174#32,
  0xe49b69c1#32, 0xefbe4786#32, 0x0fc19dc6#32, 0x240ca1cc#32, 0x2de92c6f#32, 0x4a7484aa#32, 0x5cb0a9dc#32, 0x76f988da#32,
  0x983e5152#32, 0xa831c66d#32, 0xb00327c8#32, 0xbf597fc7#32, 0xc6e00bf3#32, 0xd5a79147#32, 0x06ca6351#32, 0x14292967#32,
  0x27b70a85#32, 0x2e1b2138#32, 0x4d2c6dfc#32, 0x53380d13#32, 0x650a7354#32, 0x766a0abb#32, 0x81c2c92e#32, 0x92722c85#32,
  0xa2bfe8a1#32, 0xa81a664b#32, 0xc24b8b70#32, 0xc76c51a3#32, 0xd192e819#32, 0xd6990624#32, 0xf40e3585#32, 0x106aa070#32,
  0x19a4c116#32, 0x1e376c08#32, 0x2748774c#32, 0x34b0bcb5#32, 0x391c0cb3#32, 0x4ed8aa4a#32, 0x5b9cca4f#32, 0x682e6ff3#32,
  0x748f82ee#32, 0x78a5636f#32, 0x84c87814#32, 0x8cc70208#32, 0x90befffa#32, 0xa4506ceb#32, 0xbef9a3f7#32, 0xc67178f2#32]
def H0 : List W := [0x6a09e667#32, 0xbb67ae85#32, 0x3c6ef372#32, 0xa54ff53a#32, 0x510e527f#32, 0x9b05688c#32, 0x1f83d9ab#32, 0x5be0cd19#32]

/-- One round: x is what the round adds (its key and the plan's word). -/
def rnd (v : List W) (x : W) : List W :=
  let o := gW v 7 + S1 (gW v 4) + ch (gW v 4) (gW v 5) (gW v 6) + x
  [o + (S0 (gW v 0) + mj (gW v 0) (gW v 1) (gW v 2)), gW v 0, gW v 1, gW v 2, gW v 3 + o, gW v 4, gW v 5, gW v 6]
def rnds (p h : List W) : Nat → List W
  | 0 => h
  | t + 1 => rnd (rnds p h t) (gW K t + gW p t)
def blk (h : List W) (b : List UInt8) : List W := List.zipWith (· + ·) h (rnds (plan b 64) h 64)
def blks (m : List UInt8) : Nat → List W
  | 0 => H0
  | k + 1 => blk (blks m k) ((m.drop (64 * k)).take 64)
def be8 (n : Nat) : List UInt8 := (List.range 8).map fun i => UInt8.ofNat (n / 2 ^ (8 * (7 - i)))
def padb (n : Nat) : List UInt8 := 0x80 :: (List.replicate ((119 - n % 64) % 64) 0 ++ be8 (8 * n))
def by4 (x : W) : List UInt8 := [UInt8.ofNat (x.toNat / 2 ^ 24), UInt8.ofNat (x.toNat / 2 ^ 16), UInt8.ofNat (x.toNat / 2 ^ 8), UInt8.ofNat x.toNat]
def dig (l : List W) : List UInt8 := (l.map by4).flatten
def sha (m : List UInt8) : List UInt8 := dig (blks (m ++ padb m.length) ((m ++ padb m.length).length / 64))

def shaAbc : List UInt8 := [0xba, 0x78, 0x16, 0xbf, 0x8f, 0x01, 0xcf, 0xea, 0x41, 0x41, 0x40, 0xde, 0x5d, 0xae, 0x22, 0x23, 0xb0, 0x03, 0x61, 0xa3, 0x96, 0x17, 0x7a, 0x9c, 0xb4, 0x10, 0xff, 0x61, 0xf2, 0x00, 0x15, 0xad]

theorem sha_abc : sha [97, 98, 99] = shaAbc := by decide +kernel
end Go.Proofs.YtooffljimdklfaaDoor
