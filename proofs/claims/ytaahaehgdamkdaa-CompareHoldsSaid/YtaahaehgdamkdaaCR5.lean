/- The document's Holds, Plus and Minus, by their contracts. Conditions: numbers within their kinds. -/
import Derived.Test.YtaahaehgdamkdaaCR4
import Derived.Test.YtaahaehgdamkdaaVR1
import Derived.BigQuiet
namespace Go.Proofs.Ytaahaehgdamkdaa
open Go Go.RowKit

theorem rholds_any (o : Nat) (k : Nat) (n : Int) (b : Nat) (t : ByteArray) (l : Nat) (m : Int) (c : Nat) (u : ByteArray) (w : World) (hn0 : -9223372036854775808 ≤ n) (hn1 : n ≤ 9223372036854775807) (hm0 : -9223372036854775808 ≤ m) (hm1 : m ≤ 9223372036854775807) (hb : b ≤ 18446744073709551615) (hc : c ≤ 18446744073709551615) :
    Calls Try.prog 12 #[.int .u8 (o : Int), vv k n b t, vv l m c u] w (Says w (.bool (holdsV o k n b t l m c u))) := by
  by_cases ho : o < 1 ∨ 6 < o
  · exact rholds_op o k n b t l m c u w ho
  · by_cases hk : checkV k n b t = 0
    · by_cases hl : checkV l m c u = 0
      · exact rholds_good o k n b t l m c u w hn0 hn1 hm0 hm1 hb hc (by omega) (by omega) hk hl
      · exact rholds_bad o k n b t l m c u w hb hc (by omega) (by omega) (Or.inr hl)
    · exact rholds_bad o k n b t l m c u w hb hc (by omega) (by omega) (Or.inl hk)

/-- a value and whether there is one -/
def SaysVB (w : World) (t : VZ × Bool) (e : Ending) (w' : World) : Prop := e = .returned (.tuple #[t.1.v, .bool t.2]) ∧ Ext w w'

end Go.Proofs.Ytaahaehgdamkdaa
