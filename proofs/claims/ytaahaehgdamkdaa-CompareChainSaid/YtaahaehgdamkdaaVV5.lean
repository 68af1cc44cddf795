/- The landed program's takeText, takeOf and Take, by their contracts. Conditions: the reach of a string. -/
import Derived.Test.YtaahaehgdamkdaaVV2
import Derived.Test.YtaahaehgdamkdaaVV3
import Derived.Test.YtaahaehgdamkdaaVV4
import Derived.Test.YtaahaehgdamkdaaOct4
import Derived.BigQuiet
namespace Go.Proofs.Ytaahaehgdamkdaa
open Go Go.RowKit

theorem gen_wp {P : Program} {c : Code} {Q : Exit → Act → World → Prop} {a : Act} {X : World} (F : World → Prop) (hF : F X) (h : ∀ W, F W → c.wp P Q a W) : c.wp P Q a X := h X hF

end Go.Proofs.Ytaahaehgdamkdaa
