/- Rounding with three bits behind and one that stands for all below. Plain arithmetic; conditions: none. -/
import Derived.Test.YtkblpbpmaoofgaaROrd
namespace Go.Proofs.Ytkblpbpmaoofgaa
open Go

/-- one step down -/
def d1 (m : Nat) : Nat := m / 2 + m % 2 - m / 2 % 2 * (m % 2)
/-! ### a double's parts -/
/-! ### the sum, as the document reckons it -/
end Go.Proofs.Ytkblpbpmaoofgaa
