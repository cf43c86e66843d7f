/- Cube and Square: as loops over plain numbers, and what they come to at the primes. -/
import Derived.Test.YtfbnnhailnbmiaaDoorRefK
namespace Go.Proofs.YtfbnnhailnbmiaaDoor
open Go.RowKit

def triX (whole k bit : Nat) : Nat := ((whole * 4294967296 % 18446744073709551616 + k) % 18446744073709551616 + 2 ^ bit % 18446744073709551616) % 18446744073709551616
def cubeHit (n x : Nat) : Bool :=
  let h := highF x x
  let l := x * x % 18446744073709551616
  let a := highF l x
  let b := (h * x % 18446744073709551616 + a) % 18446744073709551616
  decide (b / 4294967296 < n) || (b / 4294967296 == n && b % 4294967296 == 0 && l * x % 18446744073709551616 == 0)
def squareHit (n x : Nat) : Bool := decide (highF x x < n)
def rootK (hit : Nat → Nat → Bool) (n whole : Nat) : Nat → Nat
  | 0 => 0
  | j + 1 => if hit n (triX whole (rootK hit n whole j) (31 - j)) then (rootK hit n whole j + 2 ^ (31 - j) % 18446744073709551616) % 18446744073709551616 else rootK hit n whole j
def cubeF (n whole : Nat) : Nat := rootK cubeHit n whole 32 % 4294967296
def squareF (n whole : Nat) : Nat := rootK squareHit n whole 32 % 4294967296
def primesL : List Nat := (List.range 312).filter isP
theorem primes_len : primesL.length = 64 := by decide +kernel
set_option maxRecDepth 100000 in
theorem cube_keys : ∀ i, i < 64 → ∀ whole, whole < 8 → whole * whole * whole ≤ primesL.getD i 0 → primesL.getD i 0 < (whole + 1) * (whole + 1) * (whole + 1) → cubeF (primesL.getD i 0) whole = keysL.getD i 0 := by decide +kernel
theorem square_keys : ∀ i, i < 8 → ∀ whole, whole < 21 → whole * whole ≤ primesL.getD i 0 → primesL.getD i 0 < (whole + 1) * (whole + 1) → squareF (primesL.getD i 0) whole = startH.words.getD i 0 := by decide +kernel
end Go.Proofs.YtfbnnhailnbmiaaDoor
