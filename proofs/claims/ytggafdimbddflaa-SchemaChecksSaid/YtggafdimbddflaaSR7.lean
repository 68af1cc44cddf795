/- The document's line, by its contract. Conditions: texts of up to 2^20 bytes. -/
import Derived.Test.YtggafdimbddflaaSMem3
import Derived.Test.YtggafdimbddflaaSPl
import Derived.BigQuiet
import Derived.Deep.RegionLaw
namespace Go.Proofs.Ytggafdimbddflaa
open Go Go.RowKit

def strLen : Value → Nat
  | .string s => s.size
  | _ => 0
def boolN : Value → Nat
  | .bool true => 1
  | _ => 0
end Go.Proofs.Ytggafdimbddflaa
