/- The document's Plus of values, by its contract. Conditions: numbers within their kinds. -/
import Derived.Test.YtaahaehgdamkdaaCR5
import Derived.Test.YtaahaehgdamkdaaBase
import Derived.Test.YtaahaehgdamkdaaVR1
import Derived.Test.YtaahaehgdamkdaaVR5
import Derived.Test.YtaahaehgdamkdaaCBackM
import Derived.BigQuiet
namespace Go.Proofs.Ytaahaehgdamkdaa
open Go Go.RowKit

theorem SaysVB.mk {w w' : World} {t : VZ × Bool} {k : Nat} {n : Int} {b : Nat} {s : ByteArray} {e : Bool} {v : Value} (h : t = (⟨k, n, b, s⟩, e)) (hv : v = vv k n b s) (hx : Ext w w') : SaysVB w t (.returned (.tuple #[v, .bool e])) w' := by
  subst h; subst hv
  exact ⟨rfl, hx⟩

theorem bits_lt (k : Nat) (n : Int) (b : Nat) (hb : b ≤ 18446744073709551615) : bitsV k n b ≤ 18446744073709551615 := by
  unfold bitsV
  split
  · have := (rung_rd (decide (n < 0)) (n.natAbs * 2 ^ q74)).2.2
    show rdZ _ _ ≤ _
    omega
  · exact hb

end Go.Proofs.Ytaahaehgdamkdaa
