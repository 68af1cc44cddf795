/- The document's place and Value of events, by their contracts. Conditions: numbers within their kinds. (Written by tools/mker3.py.) -/
import Derived.Test.YtnldgmpfinlikaaER2
import Derived.Test.YtnldgmpfinlikaaVR5
namespace Go.Proofs.Ytnldgmpfinlikaa
open Go Go.RowKit

/-- a value is told, and whether -/
def SaysVal (w : World) (t : VZ × Bool) (e : Ending) (w' : World) : Prop := e = .returned (.tuple #[t.1.v, .bool t.2]) ∧ Ext w w'
end Go.Proofs.Ytnldgmpfinlikaa
