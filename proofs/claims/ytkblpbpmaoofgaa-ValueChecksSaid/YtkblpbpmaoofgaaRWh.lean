/- Doubles that are whole, and whole numbers held against doubles. Plain; conditions: none. -/
import Derived.Test.YtkblpbpmaoofgaaRRnd
namespace Go.Proofs.Ytkblpbpmaoofgaa
open Go

/-- how two stand -/
def cmpI (x y : Int) : Int := if x < y then -1 else if x = y then 0 else 1
end Go.Proofs.Ytkblpbpmaoofgaa
