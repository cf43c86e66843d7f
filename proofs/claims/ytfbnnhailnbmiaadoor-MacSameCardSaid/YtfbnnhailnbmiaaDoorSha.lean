/- A digest over plain numbers: words, schedule, rounds, blocks, the filling; the example's. -/
import Derived.Test.YtfbnnhailnbmiaaDoorBase
namespace Go.Proofs.YtfbnnhailnbmiaaDoor
open Go.RowKit

def rotr (x k : Nat) : Nat := (x / 2 ^ k) ||| (x * 2 ^ (32 - k) % 4294967296)
def sig0 (x : Nat) : Nat := rotr x 7 ^^^ rotr x 18 ^^^ (x / 8)
def sig1 (x : Nat) : Nat := rotr x 17 ^^^ rotr x 19 ^^^ (x / 1024)
def big0 (a : Nat) : Nat := rotr a 2 ^^^ rotr a 13 ^^^ rotr a 22
def big1 (e : Nat) : Nat := rotr e 6 ^^^ rotr e 11 ^^^ rotr e 25
def chF (e f g : Nat) : Nat := (e &&& f) ^^^ ((4294967295 - e) &&& g)
def majF (a b c : Nat) : Nat := (a &&& b) ^^^ (a &&& c) ^^^ (b &&& c)
def be32 (blk : List Nat) (t : Nat) : Nat := blk.getD (4 * t) 0 * 16777216 + blk.getD (4 * t + 1) 0 * 65536 + blk.getD (4 * t + 2) 0 * 256 + blk.getD (4 * t + 3) 0
def moreW (ws : List Nat) (t : Nat) : Nat := (sig1 (ws.getD (t - 2) 0) + ws.getD (t - 7) 0 + sig0 (ws.getD (t - 15) 0) + ws.getD (t - 16) 0) % 4294967296
def nextW (blk ws : List Nat) (t : Nat) : Nat := if t < 16 then be32 blk t else moreW ws t
def sched (blk : List Nat) : Nat → List Nat
  | 0 => []
  | t + 1 => sched blk t ++ [nextW blk (sched blk t) t]
structure Hs where
  a : Nat
  b : Nat
  c : Nat
  d : Nat
  e : Nat
  f : Nat
  g : Nat
  h : Nat
deriving DecidableEq, Inhabited
def Hs.words (s : Hs) : List Nat := [s.a, s.b, s.c, s.d, s.e, s.f, s.g, s.h]
def keysL : List Nat := [
  0x428a2f98, 0x71374491, 0xb5c0fbcf, 0xe9b5dba5, 0x3956c25b, 0x59f111f1, 0x923f82a4, 0xab1c5ed5,
  0xd807aa98, 0x12835b01, 0x243185be, 0x550c7dc3, 0x72be5d74, 0x80deb1fe, 0x9bdc06a7, 0xc19bf174,
  0xe49b69c1, 0xefbe4786, 0x0fc19dc6, 0x240ca1cc, 0x2de92c6f, 0x4a7484aa, 0x5cb0a9dc, 0x76f988da,
  0x983e5152, 0xa831c66d, 0xb00327c8, 0xbf597fc7, 0xc6e00bf3, 0xd5a79147, 0x06ca6351, 0x14292967,
  0x27b70a85, 0x2e1b2138, 0x4d2c6dfc, 0x53380d13, 0x650a7354, 0x766a0abb, 0x81c2c92e, 0x92722c85,
  0xa2bfe8a1, 0xa81a664b, 0xc24b8b70, 0xc76c51a3, 0xd192e819, 0xd6990624, 0xf40e3585, 0x106aa070,
  0x19a4c116, 0x1e376c08, 0x2748774c, 0x34b0bcb5, 0x391c0cb3, 0x4ed8aa4a, 0x5b9cca4f, 0x682e6ff3,
  0x748f82ee, 0x78a5636f, 0x84c87814, 0x8cc70208, 0x90befffa, 0xa4506ceb, 0xbef9a3f7, 0xc67178f2]
def startH : Hs := ⟨0x6a09e667, 0xbb67ae85, 0x3c6ef372, 0xa54ff53a, 0x510e527f, 0x9b05688c, 0x1f83d9ab, 0x5be0cd19⟩
def t1F (s : Hs) (k w : Nat) : Nat := (s.h + big1 s.e + chF s.e s.f s.g + k + w) % 4294967296
def t2F (s : Hs) : Nat := (big0 s.a + majF s.a s.b s.c) % 4294967296
def round1 (s : Hs) (k w : Nat) : Hs := ⟨(t1F s k w + t2F s) % 4294967296, s.a, s.b, s.c, (s.d + t1F s k w) % 4294967296, s.e, s.f, s.g⟩
def rounds (ws : List Nat) (s : Hs) : Nat → Hs
  | 0 => s
  | n + 1 => round1 (rounds ws s n) (keysL.getD n 0) (ws.getD n 0)
def sumH (s r : Hs) : Hs := ⟨(s.a + r.a) % 4294967296, (s.b + r.b) % 4294967296, (s.c + r.c) % 4294967296, (s.d + r.d) % 4294967296, (s.e + r.e) % 4294967296, (s.f + r.f) % 4294967296, (s.g + r.g) % 4294967296, (s.h + r.h) % 4294967296⟩
def comp (s : Hs) (blk : List Nat) : Hs := sumH s (rounds (sched blk 64) s 64)
def foldB : Nat → Hs → List Nat → Hs
  | 0, s, _ => s
  | n + 1, s, l => foldB n (comp s (l.take 64)) (l.drop 64)
def padZ (n : Nat) : Nat := (119 - n % 64) % 64
def len8 (n : Nat) : List Nat := (List.range 8).map fun i => n / 2 ^ (8 * (7 - i)) % 256
def fillB (n : Nat) : List Nat := 128 :: (List.replicate (padZ n) 0 ++ len8 (8 * n))
def padded (bs : List Nat) : List Nat := bs ++ fillB bs.length
def tellB (s : Hs) : List Nat := (List.range 32).map fun i => s.words.getD (i / 4) 0 / 2 ^ (24 - 8 * (i % 4)) % 256
def digest (bs : List Nat) : List Nat := tellB (foldB ((padded bs).length / 64) startH (padded bs))

set_option maxRecDepth 100000 in
theorem digest_abc : digest [97, 98, 99] = [186, 120, 22, 191, 143, 1, 207, 234, 65, 65, 64, 222, 93, 174, 34, 35, 176, 3, 97, 163, 150, 23, 122, 156, 180, 16, 255, 97, 242, 0, 21, 173] := by decide +kernel
end Go.Proofs.YtfbnnhailnbmiaaDoor
