/- telltalelaw04.awake answers true, and changes nothing that was there; values that are compared. Conditions: none. -/
import Derived.Test.YtaahaehgdamkdaaVR1
import Derived.Test.YtaahaehgdamkdaaBase
import Derived.Test.YtaahaehgdamkdaaOct4
import Derived.Test.YtaahaehgdamkdaaVR5
import Derived.Test.YtaahaehgdamkdaaVV1
import Derived.Test.YtaahaehgdamkdaaVV2
import Derived.Test.YtaahaehgdamkdaaVV3
import Derived.Test.YtaahaehgdamkdaaVV4
import Derived.Test.YtaahaehgdamkdaaVV5
import Derived.BigQuiet
import Derived.Lib.AppendZeros
namespace Go.Proofs.Ytaahaehgdamkdaa
open Go Go.RowKit

/-- two values are the same -/
def eqV (k : Nat) (n : Int) (b : Nat) (t : ByteArray) (l : Nat) (m : Int) (c : Nat) (u : ByteArray) : Bool := decide (k = l ∧ n = m ∧ b = c ∧ t = u)
theorem run_eq_val (k : Nat) (n : Int) (b : Nat) (t : ByteArray) (l : Nat) (m : Int) (c : Nat) (u : ByteArray) (w : World) :
    (binOp .eql 28 (vv k n b t) (vv l m c u)).run Try.prog w = .ok (.bool (eqV k n b t l m c u)) w := by
  unfold eqV vv
  simp [go_sem]
  by_cases h1 : k = l
  · by_cases h2 : n = m
    · by_cases h3 : b = c
      · by_cases h4 : t = u
        · have h4' := (list_ba t u).2 h4
          simp [h1, h2, h3, h4]
        · have h4' : ¬ t.toList = u.toList := fun h => h4 ((list_ba t u).1 h)
          simp [h1, h2, h3, h4, h4']
      · have h3' : ¬ (b : Int) = (c : Int) := by omega
        simp [h1, h2, h3, h3']
    · simp [h1, h2]
  · have h1' : ¬ (k : Int) = (l : Int) := by omega
    simp [h1, h1']
end Go.Proofs.Ytaahaehgdamkdaa
