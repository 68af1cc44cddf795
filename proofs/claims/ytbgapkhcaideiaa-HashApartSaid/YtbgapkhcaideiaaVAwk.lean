/- telltalelaw04.awake answers true, and changes nothing that was there; values that are compared. Conditions: none. -/
import Derived.Test.YtbgapkhcaideiaaVR1
import Derived.Test.YtbgapkhcaideiaaBase
import Derived.Test.YtbgapkhcaideiaaVR5
import Derived.Test.YtbgapkhcaideiaaVV1
import Derived.Test.YtbgapkhcaideiaaVV2
import Derived.Test.YtbgapkhcaideiaaGVV3
import Derived.Test.YtbgapkhcaideiaaGVV7
import Derived.BigQuiet
import Derived.Lib.UnsafeStr
namespace Go.Proofs.Ytbgapkhcaideiaa
open Go Go.RowKit

/-- two values are the same -/
def eqV (k : Nat) (n : Int) (b : Nat) (t : ByteArray) (l : Nat) (m : Int) (c : Nat) (u : ByteArray) : Bool := decide (k = l ∧ n = m ∧ b = c ∧ t = u)
theorem run_eq_ref (k : Nat) (n : Int) (b : Nat) (t : ByteArray) (l : Nat) (m : Int) (c : Nat) (u : ByteArray) (w : World) :
    (binOp .eql 30 (vv k n b t) (vv l m c u)).run Try.prog w = .ok (.bool (eqV k n b t l m c u)) w := by
  unfold eqV vv
  simp [go_sem]
  by_cases h1 : k = l
  · by_cases h2 : n = m
    · by_cases h3 : b = c
      · by_cases h4 : t = u
        · have h4' := (list_ba t u).2 h4
          simp [h1, h2, h3, h4]
        · have h4' : ¬ t.toList = u.toList := fun h => h4 ((list_ba t u).1 h)
          simp [h1, h2, h3, h4, h4']
      · have h3' : ¬ (b : Int) = (c : Int) := by omega
        simp [h1, h2, h3, h3']
    · simp [h1, h2]
  · have h1' : ¬ (k : Int) = (l : Int) := by omega
    simp [h1, h1']
theorem run_guard_ref (op : BinOp) (x y : Operand) (k : Nat) (n : Int) (b : Nat) (t : ByteArray) (l : Nat) (m : Int) (c : Nat) (u : ByteArray) (w : World) :
    (eqGuard op 30 x y (vv k n b t) (vv l m c u)).run Try.prog w = .ok () w := run_eqGuard_agg w op _ x y _ _ (by kernel_rfl)
end Go.Proofs.Ytbgapkhcaideiaa
