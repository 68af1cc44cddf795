/- Sevens: numbers as zig lays and reads them, and folded whole numbers. Plain arithmetic; conditions: none. -/
import Derived.Test.YtaahaehgdamkdaaBits
namespace Go.Proofs.Ytaahaehgdamkdaa
open Go

/-- how many sevens -/
def zs (u : Nat) : Nat := if u < 128 then 1 else zs (u / 128) + 1
  termination_by u
  decreasing_by omega

/-- the k lowest sevens, each told to have one behind it -/
def hi : Nat → Nat → List UInt8
  | 0, _ => []
  | k + 1, u => hi k u ++ [UInt8.ofNat (u / 128 ^ k % 128 + 128)]

/-- a number's bytes -/
def zb (u : Nat) : List UInt8 := hi (zs u - 1) u ++ [UInt8.ofNat (u / 128 ^ (zs u - 1))]

end Go.Proofs.Ytaahaehgdamkdaa
