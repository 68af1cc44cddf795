/- The document's Take of a value, by its contract. Conditions: the reach of a string. -/
import Derived.Test.YtbgapkhcaideiaaVR1
import Derived.Test.YtbgapkhcaideiaaBase
import Derived.BigQuiet
namespace Go.Proofs.Ytbgapkhcaideiaa
open Go Go.RowKit

/-- a value, a place and an error are told -/
def SaysV (w : World) (t : VZ × Int × Int) (e : Ending) (w' : World) : Prop := e = .returned (.tuple #[t.1.v, .int .i64 t.2.1, .int .i64 t.2.2]) ∧ Ext w w'
theorem SaysV.mk {w w' : World} {t : VZ × Int × Int} {k : Nat} {n : Int} {b : Nat} {s : ByteArray} {m e : Int} {v : Value} (h : t = (⟨k, n, b, s⟩, m, e)) (hv : v = vv k n b s) (hx : Ext w w') : SaysV w t (.returned (.tuple #[v, .int .i64 m, .int .i64 e])) w' := by
  subst h; subst hv
  exact ⟨rfl, hx⟩

end Go.Proofs.Ytbgapkhcaideiaa
