/-
  SHA-256 by its definition, on numbers: words are Nat below 2^32, bytes are Int. Program apart.
-/
import Derived.Test.YtcmaclaiholpfaaDoorMgA
namespace Go.Proofs.YtcmaclaiholpfaaDoor
set_option linter.unusedVariables false

def rotr (x n : Nat) : Nat := x / 2 ^ n ||| (x * 2 ^ (32 - n)) % 4294967296
def sig0 (x : Nat) : Nat := rotr x 7 ^^^ rotr x 18 ^^^ x / 8
def sig1 (x : Nat) : Nat := rotr x 17 ^^^ rotr x 19 ^^^ x / 1024
def big1 (e : Nat) : Nat := rotr e 6 ^^^ rotr e 11 ^^^ rotr e 25
def big0 (a : Nat) : Nat := rotr a 2 ^^^ rotr a 13 ^^^ rotr a 22
def cho (e f g : Nat) : Nat := (e &&& f) ^^^ ((e ^^^ 4294967295) &&& g)
def maj (a b c : Nat) : Nat := (a &&& b) ^^^ (a &&& c) ^^^ (b &&& c)
def Ks : List Nat := [
  0x428a2f98, 0x71374491, 0xb5c0fbcf, 0xe9b5dba5, 0x3956c25b, 0x59f111f1, 0x923f82a4, 0xab1c5ed5,
  0xd807aa98, 0x12835b01, 0x243185be, 0x550c7dc3, 0x72be5d74, 0x80deb1fe, 0x9bdc06a7, 0xc19bf174,
  0xe49b69c1, 0xefbe4786, 0x0fc19dc6, 0x240ca1cc, 0x2de92c6f, 0x4a7484aa, 0x5cb0a9dc, 0x76f988da,
  0x983e5152, 0xa831c66d, 0xb00327c8, 0xbf597fc7, 0xc6e00bf3, 0xd5a79147, 0x06ca6351, 0x14292967,
  0x27b70a85, 0x2e1b2138, 0x4d2c6dfc, 0x53380d13, 0x650a7354, 0x766a0abb, 0x81c2c92e, 0x92722c85,
  0xa2bfe8a1, 0xa81a664b, 0xc24b8b70, 0xc76c51a3, 0xd192e819, 0xd6990624, 0xf40e3585, 0x106aa070,
  0x19a4c116, 0x1e376c08, 0x2748774c, 0x34b0bcb5, 0x391c0cb3, 0x4ed8aa4a, 0x5b9cca4f, 0x682e6ff3,
  0x748f82ee, 0x78a5636f, 0x84c87814, 0x8cc70208, 0x90befffa, 0xa4506ceb, 0xbef9a3f7, 0xc67178f2]
def H0s : List Nat := [0x6a09e667, 0xbb67ae85, 0x3c6ef372, 0xa54ff53a, 0x510e527f, 0x9b05688c, 0x1f83d9ab, 0x5be0cd19]

/-- The word at place t of a block. -/
def be32 (blk : List Int) (t : Nat) : Nat :=
  (blk[4 * t]?.getD 0).toNat * 16777216 + (blk[4 * t + 1]?.getD 0).toNat * 65536 + (blk[4 * t + 2]?.getD 0).toNat * 256 + (blk[4 * t + 3]?.getD 0).toNat
/-- The word behind these. -/
def wnext (blk : List Int) (ws : List Nat) (t : Nat) : Nat :=
  if t < 16 then be32 blk t else (ws[t - 16]?.getD 0 + ws[t - 7]?.getD 0 + sig0 (ws[t - 15]?.getD 0) + sig1 (ws[t - 2]?.getD 0)) % 4294967296
def wlist (blk : List Int) : Nat → List Nat
  | 0 => []
  | t + 1 => wlist blk t ++ [wnext blk (wlist blk t) t]
/-- A step. -/
def stepL (k w : Nat) : List Nat → List Nat
  | [a, b, c, d, e, f, g, h] => [((h + big1 e + cho e f g + k + w) + (big0 a + maj a b c)) % 4294967296, a, b, c, (d + (h + big1 e + cho e f g + k + w)) % 4294967296, e, f, g]
  | l => l
def rounds (ws : List Nat) (v : List Nat) : Nat → List Nat
  | 0 => v
  | t + 1 => stepL (Ks[t]?.getD 0) (ws[t]?.getD 0) (rounds ws v t)
def addL (h v : List Nat) : List Nat := List.zipWith (fun x y => (x + y) % 4294967296) h v
def oneBlock (h : List Nat) (blk : List Int) : List Nat := addL h (rounds (wlist blk 64) h 64)
def absorb (h : List Nat) (zs : List Int) : Nat → List Nat
  | 0 => h
  | n + 1 => oneBlock (absorb h zs n) ((zs.drop (64 * n)).take 64)
/-- How many noughts: as few as make the length 56 modulo 64. -/
def noughts (n : Nat) : Nat := (119 - n % 64) % 64
theorem noughts_lt (n : Nat) : noughts n < 64 := Nat.mod_lt _ (by omega)
theorem noughts_not (n k : Nat) (h : k < noughts n) : ((n : Int) + 1 + (k : Int)) % 64 ≠ 56 := by unfold noughts at h; omega
theorem noughts_at (n : Nat) : ((n : Int) + 1 + (noughts n : Int)) % 64 = 56 := by unfold noughts; omega
def lenBytes (n : Nat) : List Int := (List.range 8).map fun i => ((8 * n / 2 ^ (8 * (7 - i)) % 256 : Nat) : Int)
def padded (zs : List Int) : List Int := zs ++ (128 :: List.replicate (noughts zs.length) 0) ++ lenBytes zs.length
def digest (h : List Nat) : List Int := (List.range 32).map fun i => ((h[i / 4]?.getD 0 / 2 ^ (24 - 8 * (i % 4)) % 256 : Nat) : Int)
def sha (zs : List Int) : List Int := digest (absorb H0s (padded zs) ((padded zs).length / 64))

set_option maxRecDepth 100000 in
theorem sha_abc : (sha [97, 98, 99])[0]? = some 186 := by decide +kernel
end Go.Proofs.YtcmaclaiholpfaaDoor
