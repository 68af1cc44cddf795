/- Doubles that are whole, and whole numbers held against doubles. Plain; conditions: none. -/
import Derived.Test.YtkblpbpmaoofgaaRRnd
namespace Go.Proofs.Ytkblpbpmaoofgaa
open Go

/-- how two stand -/
def cmpI (x y : Int) : Int := if x < y then -1 else if x = y then 0 else 1
theorem cmp_eq {x y : Int} (h : x = y) : cmpI x y = 0 := by unfold cmpI; rw [if_neg (by omega), if_pos h]
theorem cmp_bound (x y : Int) : -1 ≤ cmpI x y ∧ cmpI x y ≤ 1 := by unfold cmpI; (repeat' split) <;> omega

end Go.Proofs.Ytkblpbpmaoofgaa
