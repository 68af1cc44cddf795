/- The document's Whole, against and Versus, by their contracts. Conditions: none. -/
import Derived.Test.YtggafdimbddflaaBase
import Derived.Laws.BitsAllLaws
import Derived.Laws.Bits128
import Derived.Deep.CutRange
namespace Go.Proofs.Ytggafdimbddflaa
open Go Go.RowKit

/-- a number and a yes or no are told, and the world is as it was -/
def JustB (w : World) (t : Int × Bool) (e : Ending) (w' : World) : Prop := e = .returned (.tuple #[.int .i64 t.1, .bool t.2]) ∧ w' = w
theorem JustB.mk {w : World} {t : Int × Bool} {x n : Int} {b : Bool} (h : t = (n, b)) (hx : x = n) : JustB w t (.returned (.tuple #[.int .i64 x, .bool b])) w := by
  subst h; subst hx
  exact ⟨rfl, rfl⟩

end Go.Proofs.Ytggafdimbddflaa
