/- The document's Holds, Plus and Minus, by their contracts. Conditions: numbers within their kinds. -/
import Derived.Test.YtaahaehgdamkdaaCR1
import Derived.Test.YtaahaehgdamkdaaCR3
import Derived.Test.YtaahaehgdamkdaaVR1
import Derived.BigQuiet
namespace Go.Proofs.Ytaahaehgdamkdaa
open Go Go.RowKit

/-- a value and whether there is one -/
def SaysVB (w : World) (t : VZ × Bool) (e : Ending) (w' : World) : Prop := e = .returned (.tuple #[t.1.v, .bool t.2]) ∧ Ext w w'

end Go.Proofs.Ytaahaehgdamkdaa
